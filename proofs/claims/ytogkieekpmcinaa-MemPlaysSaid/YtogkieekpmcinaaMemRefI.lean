/- The reference's growing. -/
import Derived.Test.YtogkieekpmcinaaMemRefH
namespace Go.Proofs.Ytogkieekpmcinaa
open Go.RowKit

def growS (S : List Int) (q : Nat) : List Int := S ++ List.replicate (q * 65536) 0
theorem growS_byte {S : List Int} (h : ∀ z ∈ S, 0 ≤ z ∧ z ≤ 255) (q : Nat) : ∀ z ∈ growS S q, 0 ≤ z ∧ z ≤ 255 := by
  intro z hz
  unfold growS at hz
  rcases List.mem_append.1 hz with hz | hz
  · exact h z hz
  · rw [(List.mem_replicate.1 hz).2]
    decide
theorem made_drop (n k : Nat) : (madeCells #[Value.int .u8 0] n).toList.drop k = (List.replicate (n - k) 0).map (Value.int .u8) := by
  simp [madeCells]
  refine List.eq_replicate_iff.2 ⟨by simp, fun b hb => ?_⟩
  obtain ⟨x, _, rfl⟩ := List.mem_map.1 (List.mem_of_mem_drop hb)
  simp [Nat.mod_one]
set_option maxRecDepth 100000 in
theorem refGrow_no (a g : Nat) (S : List Int) (mx bd n : Int) (P : Nat) (w : World) (h : RMem a g S mx bd w) (hP : S.length = P * 65536) (hm : 0 ≤ mx ∧ mx ≤ 16) (hn : n < 0 ∨ mx - P < n) :
    Calls Try.prog 33 #[.pointer (some ⟨a, 0, none⟩), .int .i64 n] w fun e w' => e = .returned (.int .i64 (-1)) ∧ w = w' := by
  have hlen := h.len
  have hs0 := h.slot
  have hs1 := h.max
  have e1 : ((S.length : Nat) : Int).tdiv 65536 = P := by rw [Int.tdiv_eq_ediv_of_nonneg (by omega)]; omega
  have hP16 : P ≤ 16 := by omega
  clear hP h
  rcases hn with hn | hn
  · go_enter Try.func33, Try.ntmps33
    go_wp2_with fail
    go_ret
    exact ⟨rfl, rfl⟩
  · by_cases h0 : n < 0
    · go_enter Try.func33, Try.ntmps33
      go_wp2_with fail
      go_ret
      exact ⟨rfl, rfl⟩
    · have h0' : 0 ≤ n := by omega
      go_enter Try.func33, Try.ntmps33
      go_wp2_with fail
      go_ret
      exact ⟨rfl, rfl⟩
set_option maxRecDepth 100000 in
set_option maxHeartbeats 1000000 in
theorem refGrow_yes (a g : Nat) (S : List Int) (mx bd : Int) (q P : Nat) (w : World) (h : RMem a g S mx bd w) (hP : S.length = P * 65536) (hm : 0 ≤ mx ∧ mx ≤ 16) (hn : (q : Int) ≤ mx - P) :
    Calls Try.prog 33 #[.pointer (some ⟨a, 0, none⟩), .int .i64 q] w fun e w' => e = .returned (.int .i64 P) ∧ RMem a w.heap.size (growS S q) mx bd w' ∧ Kept (· = a) w w' := by
  have hlt := h.lt
  have hlen := h.len
  obtain ⟨N, hN⟩ : ∃ N, N = (P + q) * 65536 := ⟨_, rfl⟩
  have hgl : (growS S q).length = N := by unfold growS; rw [List.length_append, List.length_replicate]; omega
  have hmk := run_make_row' (P := Try.prog) 39 5 (.int .u8 0) 1 Try.underlying39 info_u8' rfl .i64 .i64 N (by omega) (by omega)
  have hcp := copied_row w S g N (by omega) (fun i hi => h.cell hi) hlt.2
  rw [made_drop, show N - S.length = q * 65536 by omega, ← List.map_append] at hcp
  have hb1 : Below w.heap.size w (w.alloc (.cells (madeCells #[.int .u8 0] N) 5)) := (Below.refl _ _).alloc (Nat.le_refl _) _
  have hb2 : Below w.heap.size w ((w.alloc (.cells (madeCells #[.int .u8 0] N) 5)).setRow w.heap.size ((growS S q).map (Value.int .u8)).toArray) := below_setRow hb1 (Nat.le_refl _) _
  have hrow : ((w.alloc (.cells (madeCells #[.int .u8 0] N) 5)).setRow w.heap.size ((growS S q).map (Value.int .u8)).toArray).heap[w.heap.size]? = some (.cells ((growS S q).map (Value.int .u8)).toArray 5 (0, 0)) := by
    have hb : (w.alloc (.cells (madeCells #[.int .u8 0] N) 5)).heap[w.heap.size]? = some (.cells (madeCells #[.int .u8 0] N) 5 (0, 0)) := by
      show (w.heap.push _)[w.heap.size]? = _
      simp
    simp only [World.setRow, Array.getElem?_modify, if_pos, hb, Option.map_some]
  change ∀ ty, _ = Result.ok _ ((w.alloc (.cells (madeCells #[.int .u8 0] N) 5)).setRow w.heap.size ((growS S q).map (Value.int .u8)).toArray) at hcp
  have H := Lib.hid h
  have s0 := h.slot
  have s1 := h.max
  have t0 := (hb1.cell (p := ⟨a, 0, none⟩) hlt.1).trans h.slot
  have u0 := (hb2.cell (p := ⟨a, 0, none⟩) hlt.1).trans h.slot
  have ufr : ((w.alloc (.cells (madeCells #[.int .u8 0] N) 5)).setRow w.heap.size ((growS S q).map (Value.int .u8)).toArray).frozen? ⟨a, 0, none⟩ = false := by
    rw [hb2.frozen (p := ⟨a, 0, none⟩) hlt.1]
    unfold World.frozen?
    rw [h.head]
    simp
  have hhead := (hb2.block a hlt.1).trans h.head
  revert hcp hb2 hrow u0 ufr hhead
  generalize ((w.alloc (.cells (madeCells #[.int .u8 0] N) 5)).setRow w.heap.size ((growS S q).map (Value.int .u8)).toArray) = W
  intro hb2 hrow hcp u0 ufr hhead
  have e1 : ((S.length : Nat) : Int).tdiv 65536 = P := by rw [Int.tdiv_eq_ediv_of_nonneg (by omega)]; omega
  have e2 : ((P : Int) + q) * 65536 = (N : Int) := by omega
  have hP16 : P ≤ 16 := by omega
  have hNEW : RMem a w.heap.size (growS S q) mx bd (W.setCell ⟨a, 0, none⟩ (.slice (some ⟨w.heap.size, 0, none⟩) N N)) := by
    refine ⟨by omega, ?_, ?_, growS_byte h.byte q, by omega⟩
    · simp only [World.setCell, Array.getElem?_modify, if_pos, hhead, Option.map_some, hgl]
      simp
    · rw [Below.heap_setCell _ _ _ _ (show w.heap.size ≠ (⟨a, 0, none⟩ : Addr).block by simp; omega), hrow]
  have HNEW := Lib.hid hNEW
  have HK : Hid (Kept (· = a) w (W.setCell ⟨a, 0, none⟩ (.slice (some ⟨w.heap.size, 0, none⟩) N N))) := Lib.hid (Kept.set (F := (· = a)) (p := ⟨a, 0, none⟩) (Kept.of_below hb2) rfl _)
  clear hNEW hb1 hb2 hrow hhead h hlt hP hN hgl
  go_enter Try.func33, Try.ntmps33
  go_wp2_with fail
  go_ret
  exact ⟨rfl, HNEW.out, HK.out⟩
end Go.Proofs.Ytogkieekpmcinaa
