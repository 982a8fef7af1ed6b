/- The project's new memories, growing, clones. -/
import Derived.Test.YtogkieekpmcinaaMemH
namespace Go.Proofs.Ytogkieekpmcinaa
open Go.RowKit

theorem below_set {B : Nat} {w w' : World} (h : Below B w w') {p : Addr} (hp : B ≤ p.block) (u : Value) : Below B w (w'.setCell p u) :=
  ⟨h.os, h.tape, h.output, by have := h.size; simpa [World.setCell] using this, fun k hk => (Below.heap_setCell _ _ _ _ (by omega)).trans (h.block k hk)⟩
theorem pmem_made (w : World) (N : Nat) (mo : Int) (hN : N ≤ 1048576) : PMem (w.heap.size + 1) w.heap.size N (List.replicate N 0) mo
    ((w.alloc (.cells (madeCells #[.int .u8 0] N) 5)).alloc (.cells #[.slice (some ⟨w.heap.size, 0, none⟩) N N, .int .i64 mo] 65)) := by
  have hsz : (madeCells #[Value.int .u8 0] N).size = N := by simp [madeCells]
  refine ⟨by omega, ?_, ⟨by rw [List.length_map, Nat.mul_one], .inr ⟨w.heap.size, N, _, by rw [List.length_replicate], Nat.zero_le _, (Below.heap_alloc _ _ _ (by simp)).trans (heap_alloc_new w _), by rw [List.length_replicate]; omega, by unfold maxLen; omega, by rw [hsz, Nat.mul_one], ?_⟩⟩, fun z hz => by rw [(List.mem_replicate.1 hz).2]; decide, by rw [List.length_replicate]; exact hN⟩
  · rw [List.length_replicate]
    show ((w.heap.push _).push _)[w.heap.size + 1]? = _
    rw [Array.getElem?_push, if_pos (by simp)]
  · rw [made_all, Nat.mul_one, List.length_replicate]
    exact List.take_of_length_le (by simp)
set_option maxRecDepth 100000 in
theorem new_no (mn mx : Int) (hm : mayB mn mx = false) (w : World) :
    Calls Try.prog 9 #[.agg #[.int .i64 mn, .int .i64 mx]] w fun e w' => e = .returned (.tuple #[.pointer none, .int .i64 8]) ∧ Below w.heap.size w w' := by
  have HC := Lib.hid (check_any mn mx)
  unfold checkE at HC
  rw [hm, if_neg (by decide)] at HC
  have HB := Lib.hid ((Below.refl w.heap.size w).alloc (Nat.le_refl _) (.cells #[.int .i64 mn, .int .i64 mx] 23))
  clear hm
  go_enter Try.func9, Try.ntmps9
  go_wp2_with (go_at_call 11; refine (HC.out _).mono ?_; rintro e w2 ⟨rfl, hb2⟩)
  go_ret2
  exact ⟨rfl, HB.out.trans (hb2.mono (by simp))⟩
set_option maxRecDepth 100000 in
set_option maxHeartbeats 1000000 in
theorem new_yes (mn : Nat) (mx : Int) (hm : mayB mn mx = true) (w : World) :
    Calls Try.prog 9 #[.agg #[.int .i64 mn, .int .i64 mx]] w fun e w' => ∃ a g cap, e = .returned (.tuple #[.pointer (some ⟨a, 0, none⟩), .int .i64 0]) ∧ PMem a g cap (List.replicate (mn * 65536) 0) mx w' ∧ Below w.heap.size w w' ∧ w.heap.size ≤ a ∧ w.heap.size ≤ g := by
  obtain ⟨m1, m2, m3, m4, m5⟩ : 0 ≤ (mn : Int) ∧ (mn : Int) ≤ 16 ∧ -1 ≤ mx ∧ mx ≤ 16 ∧ (mx = -1 ∨ (mn : Int) ≤ mx) := of_decide_eq_true hm
  have HC := Lib.hid (check_any mn mx)
  unfold checkE at HC
  rw [hm, if_pos rfl] at HC
  obtain ⟨N, hN⟩ : ∃ N, N = mn * 65536 := ⟨_, rfl⟩
  rw [← hN]
  have hmk := run_make_row' (P := Try.prog) 39 5 (.int .u8 0) 1 Try.underlying39 info_u8' rfl .i64 .i64 N (by omega) (by omega)
  have e2 : (mn : Int) * 65536 = (N : Int) := by omega
  have e3 : IntKind.i64.wrap (N : Int) = N := by rw [IntKind.wrap_i64]; omega
  have hb1 : Below w.heap.size w (w.alloc (.cells #[.int .i64 mn, .int .i64 mx] 23)) := (Below.refl _ _).alloc (Nat.le_refl _) _
  have c0 : (w.alloc (.cells #[.int .i64 mn, .int .i64 mx] 23)).cell? ⟨w.heap.size, 0, none⟩ = some (.int .i64 mn) := World.cell?_alloc_mark w _ _ _ 0
  have c1 : (w.alloc (.cells #[.int .i64 mn, .int .i64 mx] 23)).cell? ⟨w.heap.size, 1, none⟩ = some (.int .i64 mx) := World.cell?_alloc_mark w _ _ _ 1
  have C0 := Lib.hid c0
  have C1 := Lib.hid c1
  have HB1 := Lib.hid hb1
  have hN2 : N ≤ 1048576 := by omega
  clear c0 c1 hb1 hN hm m1 m3 m4 m5
  go_enter Try.func9, Try.ntmps9
  go_wp2_with (go_at_call 11; refine (HC.out _).mono ?_; rintro e w2 ⟨rfl, hb2⟩; have hz2 : w.heap.size + 1 ≤ w2.heap.size := (by have := hb2.size; simpa using this); have hz3 : w.heap.size < w2.heap.size := hz2; have hz4 : ¬ w2.heap.size = w.heap.size := (by omega); have hz5 : ¬ w.heap.size = w2.heap.size := (by omega); have d0 := (hb2.cell (p := ⟨w.heap.size, 0, none⟩) (by simp)).trans C0.out; have d1 := (hb2.cell (p := ⟨w.heap.size, 1, none⟩) (by simp)).trans C1.out)
  have HM := Lib.hid (pmem_made w2.drew N mx hN2)
  go_region_law (fail)
  all_goals
    go_wp2_with fail
    go_ret2
    exact ⟨_, _, _, rfl, HM.out, ((HB1.out.trans (hb2.mono (by simp))).drew.alloc (show w.heap.size ≤ w2.heap.size by omega) _).alloc (le_alloc (show w.heap.size ≤ w2.heap.size by omega)) _, (show w.heap.size ≤ w2.heap.size + 1 by omega), (show w.heap.size ≤ w2.heap.size by omega)⟩
theorem grown_mem {a g g2 cap cap2 L : Nat} {S S' : List Int} {mo : Int} {w2 : World} (ha2 : w2.heap[a]? = some (.cells #[.slice (some ⟨g, 0, none⟩) S.length cap, .int .i64 mo] 65)) (hne : a ≠ g2) (hl : S'.length = L)
    (hown : (w2.setCell ⟨a, 0, none⟩ (.slice (some ⟨g2, 0, none⟩) L cap2)).ownsRow 0 5 1 (.slice (some ⟨g2, 0, none⟩) L cap2) L (S'.map (Value.int .u8))) (hb : ∀ z ∈ S', 0 ≤ z ∧ z ≤ 255) (hlen : L ≤ 1048576) :
    PMem a g2 cap2 S' mo (w2.setCell ⟨a, 0, none⟩ (.slice (some ⟨g2, 0, none⟩) L cap2)) := by
  subst hl
  refine ⟨hne, ?_, hown, hb, hlen⟩
  simp only [World.setCell, Array.getElem?_modify, if_pos, ha2, Option.map_some]
  simp
set_option maxRecDepth 100000 in
set_option maxHeartbeats 1000000 in
theorem grow_no (a g cap : Nat) (S : List Int) (mo n : Int) (P : Nat) (w : World) (h : PMem a g cap S mo w) (hP : S.length = P * 65536) (hm : 0 ≤ mostOf mo ∧ mostOf mo ≤ 16) (hn : n < 0 ∨ mostOf mo - P < n) :
    Calls Try.prog 27 #[.pointer (some ⟨a, 0, none⟩), .int .i64 n] w fun e w' => e = .returned (.int .i64 (-1)) ∧ Below w.heap.size w w' := by
  have HR := Lib.hid (room_any a g cap S mo P w h hP hm)
  have hlen := h.len
  have hP16 : P ≤ 16 := by omega
  clear hP h
  obtain ⟨M, hM⟩ : ∃ M, M = mostOf mo := ⟨_, rfl⟩
  rw [← hM] at HR hm hn
  clear hM
  by_cases h0 : n < 0
  · clear hn
    go_enter Try.func27, Try.ntmps27
    go_wp2_with fail
    go_ret
    exact ⟨rfl, Below.refl _ _⟩
  · have hn' : M - P < n := by omega
    clear hn
    go_enter Try.func27, Try.ntmps27
    go_wp2_with (go_at_call 43; refine HR.out.mono ?_; rintro e w1 ⟨rfl, hb⟩)
    go_ret
    exact ⟨rfl, hb⟩
set_option maxRecDepth 100000 in
set_option maxHeartbeats 1000000 in
theorem grow_yes (a g cap : Nat) (S : List Int) (mo : Int) (q P : Nat) (w : World) (h : PMem a g cap S mo w) (hP : S.length = P * 65536) (hm : 0 ≤ mostOf mo ∧ mostOf mo ≤ 16) (hn : (q : Int) ≤ mostOf mo - P) :
    Calls Try.prog 27 #[.pointer (some ⟨a, 0, none⟩), .int .i64 q] w fun e w' => e = .returned (.int .i64 P) ∧ ∃ g2 cap2, PMem a g2 cap2 (growS S q) mo w' ∧ Kept (fun k => k = a ∨ k = g) w w' ∧ (g2 = g ∨ w.heap.size ≤ g2) := by
  have HR := Lib.hid (room_any a g cap S mo P w h hP hm)
  have hlen := h.len
  have hP16 : P ≤ 16 := by omega
  have H := Lib.hid h
  have hbyte := growS_byte h.byte q
  obtain ⟨M, hM⟩ : ∃ M, M = mostOf mo := ⟨_, rfl⟩
  rw [← hM] at HR hm hn
  have hq16 : q ≤ 16 := by omega
  have hgl := growS_length S q
  have HG : Hid (∀ w', Below w.heap.size w w' → Calls Try.prog 25 #[.pointer (some ⟨a, 0, none⟩)] w' fun e w2 => e = .returned (.int .i64 P) ∧ w' = w2) := Lib.hid fun w' hb => by
    have := pages_any a g cap S mo w' (H.out.kept (Kept.of_below (F := fun _ => False) hb) id id)
    rwa [show S.length / 65536 = P by omega] at this
  have HGL : Hid ((growS S q).length = S.length + q * 65536) := Lib.hid hgl
  have HL : Hid (S.length + q * 65536 ≤ 1048576) := Lib.hid (by omega)
  clear hP h hM hgl
  have HN := Lib.hid hn
  go_enter Try.func27, Try.ntmps27
  go_wp2_with (first
    | (go_at_call 43; refine HR.out.mono ?_; rintro e w1 ⟨rfl, hb⟩)
    | (go_at_call 25; refine (HG.out _ hb).mono ?_; rintro e w2 ⟨rfl, rfl⟩
       obtain ⟨N, hN⟩ : ∃ N, N = q * 65536 := ⟨_, rfl⟩
       have e2 : (q : Int) * 65536 = (N : Int) := by omega
       have h1 := H.out.kept (Kept.of_below (F := fun _ => False) hb) id id
       have hs0 := h1.slot
       obtain ⟨g2, cap2, w2, hrun, hown, hk, hg2⟩ := h1.zeros q hq16
       rw [← hN] at hrun hown
       have hN2 : N ≤ 1048576 := (by omega)
       have hgn := hN ▸ HGL.out
       have ha2 := (hk.block a h1.alt h1.ne).trans h1.head
       have u0 : w2.cell? ⟨a, 0, none⟩ = some (.slice (some ⟨g, 0, none⟩) S.length cap) := (by unfold World.cell?; rw [ha2]; rfl)
       have ufr : w2.frozen? ⟨a, 0, none⟩ = false := (by unfold World.frozen?; rw [ha2]; simp)
       have hne : a ≠ g2 := (by have := h1.alt; have := h1.ne; rcases hg2 with h | h <;> omega)
       have hown2 := ownsRow_setCell_other (a := ⟨a, 0, none⟩) hown (fun e => hne (Option.some.inj e).symm) (.slice (some ⟨g2, 0, none⟩) (S.length + N) cap2)
       have HNEW : Hid (PMem a g2 cap2 (growS S q) mo (w2.setCell ⟨a, 0, none⟩ (.slice (some ⟨g2, 0, none⟩) (S.length + N) cap2))) := Lib.hid (grown_mem ha2 hne hgn hown2 hbyte (by have := HL.out; omega))
       have HKK : Hid (Kept (fun k => k = a ∨ k = g) w (w2.setCell ⟨a, 0, none⟩ (.slice (some ⟨g2, 0, none⟩) (S.length + N) cap2))) := Lib.hid (((Kept.of_below hb).trans (hk.mono fun k h => .inr h)).set (p := ⟨a, 0, none⟩) (.inl rfl) _)
       have HG2 : Hid (g2 = g ∨ w.heap.size ≤ g2) := Lib.hid (hg2.imp id fun h => Nat.le_trans hb.size h)
       have HRUN := Lib.hid hrun
       clear hN hown hown2 hk hg2 h1 HGL HL hn hrun ha2 hne hgn)
    | (at_builtin; refine wpList_append_run rfl _ _ _ _ rfl _ w2 (HRUN.out _) ?_))
  go_ret
  exact ⟨rfl, g2, cap2, HNEW.out, HKK.out, HG2.out⟩
end Go.Proofs.Ytogkieekpmcinaa
