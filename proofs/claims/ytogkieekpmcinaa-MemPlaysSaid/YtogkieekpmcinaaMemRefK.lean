/- The reference's new memories, made. -/
import Derived.Test.YtogkieekpmcinaaMemRefJ
namespace Go.Proofs.Ytogkieekpmcinaa
open Go.RowKit

def mostOf (mx : Int) : Int := if mx = -1 then 16 else mx
theorem made_all (n : Nat) : (madeCells #[Value.int .u8 0] n) = ((List.replicate n 0).map (Value.int .u8)).toArray := by
  have := made_drop n 0
  rw [List.drop_zero, Nat.sub_zero] at this
  rw [← this]
theorem rmem_made (w : World) (N : Nat) (mx bd : Int) (hN : N ≤ 1048576) : RMem w.heap.size (w.heap.size + 1) (List.replicate N 0) mx bd
    ((w.alloc (.cells #[.slice (some ⟨w.heap.size + 1, 0, none⟩) N N, .int .i64 mx, .int .i64 bd] 41)).alloc (.cells (madeCells #[.int .u8 0] N) 5)) := by
  refine ⟨by omega, ?_, ?_, fun z hz => by rw [(List.mem_replicate.1 hz).2]; decide, by rw [List.length_replicate]; exact hN⟩
  · rw [Below.heap_alloc _ _ _ (by simp), List.length_replicate]
    show (w.heap.push _)[w.heap.size]? = _
    simp
  · rw [made_all]
    show ((w.heap.push _).push _)[w.heap.size + 1]? = _
    rw [Array.getElem?_push, if_pos (by simp)]
set_option maxRecDepth 100000 in
theorem refNew_no (mn mx : Int) (hm : mayB mn mx = false) (w : World) :
    Calls Try.prog 10 #[.agg #[.int .i64 mn, .int .i64 mx]] w fun e w' => e = .returned (.tuple #[.pointer none, .int .i64 8]) ∧ Below w.heap.size w w' := by
  have HM := Lib.hid (refMay_any mn mx)
  rw [hm] at HM
  have HB := Lib.hid ((Below.refl w.heap.size w).alloc (Nat.le_refl _) (.cells #[.int .i64 mn, .int .i64 mx] 23))
  clear hm
  go_enter Try.func10, Try.ntmps10
  go_wp2_with (go_at_call 30; refine (HM.out _).mono ?_; rintro e w2 ⟨rfl, hb2⟩)
  go_ret2
  exact ⟨rfl, HB.out.trans (hb2.mono (by simp))⟩
set_option maxRecDepth 100000 in
set_option maxHeartbeats 1000000 in
theorem refNew_yes (mn : Nat) (mx : Int) (hm : mayB mn mx = true) (w : World) :
    Calls Try.prog 10 #[.agg #[.int .i64 mn, .int .i64 mx]] w fun e w' => ∃ a g, e = .returned (.tuple #[.pointer (some ⟨a, 0, none⟩), .int .i64 0]) ∧ RMem a g (List.replicate (mn * 65536) 0) (mostOf mx) mx w' ∧ Below w.heap.size w w' ∧ w.heap.size ≤ a ∧ w.heap.size ≤ g := by
  obtain ⟨m1, m2, m3, m4, m5⟩ : 0 ≤ (mn : Int) ∧ (mn : Int) ≤ 16 ∧ -1 ≤ mx ∧ mx ≤ 16 ∧ (mx = -1 ∨ (mn : Int) ≤ mx) := of_decide_eq_true hm
  have HM := Lib.hid (refMay_any mn mx)
  rw [hm] at HM
  obtain ⟨N, hN⟩ : ∃ N, N = mn * 65536 := ⟨_, rfl⟩
  rw [← hN]
  have hmk := run_make_row' (P := Try.prog) 39 5 (.int .u8 0) 1 Try.underlying39 info_u8' rfl .i64 .i64 N (by omega) (by omega)
  have e2 : (mn : Int) * 65536 = (N : Int) := by omega
  have hb1 : Below w.heap.size w (w.alloc (.cells #[.int .i64 mn, .int .i64 mx] 23)) := (Below.refl _ _).alloc (Nat.le_refl _) _
  have c0 : (w.alloc (.cells #[.int .i64 mn, .int .i64 mx] 23)).cell? ⟨w.heap.size, 0, none⟩ = some (.int .i64 mn) := World.cell?_alloc_mark w _ _ _ 0
  have c1 : (w.alloc (.cells #[.int .i64 mn, .int .i64 mx] 23)).cell? ⟨w.heap.size, 1, none⟩ = some (.int .i64 mx) := World.cell?_alloc_mark w _ _ _ 1
  have C0 := Lib.hid c0
  have C1 := Lib.hid c1
  have HB1 := Lib.hid hb1
  have hN2 : N ≤ 1048576 := by omega
  clear c0 c1 hb1 hN hm m1 m3 m5
  by_cases hx : mx = -1
  · subst hx
    go_enter Try.func10, Try.ntmps10
    go_wp2_with (go_at_call 30; refine (HM.out _).mono ?_; rintro e w2 ⟨rfl, hb2⟩; have hz2 : w.heap.size + 1 ≤ w2.heap.size := (by have := hb2.size; simpa using this); have hz3 : w.heap.size < w2.heap.size := hz2; have hz4 : ¬ w2.heap.size = w.heap.size := (by omega); have hz5 : ¬ w.heap.size = w2.heap.size := (by omega); have d0 := (hb2.cell (p := ⟨w.heap.size, 0, none⟩) (by simp)).trans C0.out; have d1 := (hb2.cell (p := ⟨w.heap.size, 1, none⟩) (by simp)).trans C1.out)
    go_ret2
    exact ⟨w2.heap.size, w2.heap.size + 1, rfl, (rmem_made w2 N 16 (-1) hN2), ((HB1.out.trans (hb2.mono (by simp))).alloc (by omega) _).alloc (by simp; omega) _, by omega, by omega⟩
  · have hmo : mostOf mx = mx := if_neg hx
    have hx' : (mx == -1) = false := by simpa using hx
    rw [hmo]
    clear hmo hx
    go_enter Try.func10, Try.ntmps10
    go_wp2_with (go_at_call 30; refine (HM.out _).mono ?_; rintro e w2 ⟨rfl, hb2⟩; have hz2 : w.heap.size + 1 ≤ w2.heap.size := (by have := hb2.size; simpa using this); have hz3 : w.heap.size < w2.heap.size := hz2; have hz4 : ¬ w2.heap.size = w.heap.size := (by omega); have hz5 : ¬ w.heap.size = w2.heap.size := (by omega); have d0 := (hb2.cell (p := ⟨w.heap.size, 0, none⟩) (by simp)).trans C0.out; have d1 := (hb2.cell (p := ⟨w.heap.size, 1, none⟩) (by simp)).trans C1.out)
    go_ret2
    exact ⟨w2.heap.size, w2.heap.size + 1, rfl, (rmem_made w2 N mx mx hN2), ((HB1.out.trans (hb2.mono (by simp))).alloc (by omega) _).alloc (by simp; omega) _, by omega, by omega⟩
end Go.Proofs.Ytogkieekpmcinaa
