/- The project's clones; memories that are none. -/
import Derived.Test.YtogkieekpmcinaaMemI
import Derived.Laws.IdiomCopy
namespace Go.Proofs.Ytogkieekpmcinaa
open Go.RowKit

set_option maxRecDepth 100000 in
set_option maxHeartbeats 1000000 in
theorem clone_any (a g cap : Nat) (S : List Int) (mo : Int) (w : World) (h : PMem a g cap S mo w) :
    Calls Try.prog 17 #[.pointer (some ⟨a, 0, none⟩)] w fun e w' => ∃ a2 g2 cap2, e = .returned (.pointer (some ⟨a2, 0, none⟩)) ∧ PMem a2 g2 cap2 S mo w' ∧ Below w.heap.size w w' ∧ w.heap.size ≤ a2 ∧ w.heap.size ≤ g2 := by
  have hlen := h.len
  have hmk := run_make_row' (P := Try.prog) 39 5 (.int .u8 0) 1 Try.underlying39 info_u8' rfl .i64 .i64 S.length (by omega) (by omega)
  have hsz : (madeCells #[Value.int .u8 0] S.length).size = S.length := by simp [madeCells]
  have hb : (w.alloc (.cells (madeCells #[.int .u8 0] S.length) 5)).heap[w.heap.size]? = some (.cells (madeCells #[.int .u8 0] S.length) 5 (0, 0)) := heap_alloc_new w _
  have hcp := fun ty => run_copy_row (P := Try.prog) (w.alloc (.cells (madeCells #[.int .u8 0] S.length) 5)) 39 39 ty 5 w.heap.size 0 S.length S.length ⟨g, 0, none⟩ S.length cap (madeCells #[.int .u8 0] S.length) 5 (S.map (Value.int .u8)) Try.underlying39 size_u8 hb (by rw [List.length_map]; exact (Nat.min_self _).symm) (fun j v hj => by
    rw [World.cell?_of_block (w := w) (by rw [show ((⟨g, 0, none⟩ : Addr).add j).block = g from by rw [add_at]]; exact Below.heap_alloc w _ g h.glt)]
    exact World.ownsRow.cells h.own (g := g) rfl j v hj) (by rw [List.length_map, hsz]; omega) (by
    intro v hv
    obtain ⟨z, _, rfl⟩ := List.mem_map.1 hv
    rfl)
  rw [List.take_zero, List.nil_append, List.drop_of_length_le (by rw [List.length_map, Array.length_toList, hsz]; omega), List.append_nil, List.length_map] at hcp
  have hs0 := h.slot
  have hs1 := h.most
  have hb1 : Below w.heap.size w (w.alloc (.cells (madeCells #[.int .u8 0] S.length) 5)) := (Below.refl _ _).alloc (Nat.le_refl _) _
  have hb2 : Below w.heap.size w ((w.alloc (.cells (madeCells #[.int .u8 0] S.length) 5)).setRow w.heap.size (S.map (Value.int .u8)).toArray) := below_setRow hb1 (Nat.le_refl _) _
  have hrow : ((w.alloc (.cells (madeCells #[.int .u8 0] S.length) 5)).setRow w.heap.size (S.map (Value.int .u8)).toArray).heap[w.heap.size]? = some (.cells (S.map (Value.int .u8)).toArray 5 (0, 0)) := by
    simp only [World.setRow, Array.getElem?_modify, if_pos, hb, Option.map_some]
  have hsz2 : ((w.alloc (.cells (madeCells #[.int .u8 0] S.length) 5)).setRow w.heap.size (S.map (Value.int .u8)).toArray).heap.size = w.heap.size + 1 := by simp [World.setRow]
  have hlt := h.alt
  have t0 := (hb1.cell (p := ⟨a, 0, none⟩) hlt).trans hs0
  have u1 := (hb2.cell (p := ⟨a, 1, none⟩) hlt).trans hs1
  have hby := h.byte
  revert hcp hb2 hrow hsz2 u1
  generalize ((w.alloc (.cells (madeCells #[.int .u8 0] S.length) 5)).setRow w.heap.size (S.map (Value.int .u8)).toArray) = W
  intro hcp hb2 hrow hsz2 u1
  have HB := Lib.hid hb2
  have HSZ := Lib.hid hsz2
  have HNEW : Hid (PMem W.heap.size w.heap.size S.length S mo (W.alloc (.cells #[.slice (some ⟨w.heap.size, 0, none⟩) S.length S.length, .int .i64 mo] 65))) :=
    Lib.hid ⟨by omega, heap_alloc_new W _, ⟨by rw [List.length_map, Nat.mul_one], .inr ⟨w.heap.size, S.length, _, rfl, Nat.zero_le _, (Below.heap_alloc W _ _ (by omega)).trans hrow, Nat.le_refl _, by unfold maxLen; omega, by simp, by rw [Nat.mul_one]; exact List.take_of_length_le (by simp)⟩⟩, hby, hlen⟩
  clear hb1 hb2 hrow hsz2 h hlt hby hb hsz
  go_enter Try.func17, Try.ntmps17
  go_wp2_with fail
  go_ret
  exact ⟨W.heap.size, w.heap.size, _, rfl, HNEW.out, HB.out.alloc (by rw [HSZ.out]; omega) _, by rw [HSZ.out]; omega, Nat.le_refl _⟩
theorem clone_nil (w : World) :
    Calls Try.prog 17 #[.pointer none] w fun e w' => e = .returned (.pointer none) ∧ w = w' := by
  go_enter Try.func17, Try.ntmps17
  go_wp2_with fail
  go_ret
  exact ⟨rfl, rfl⟩
theorem grow_nil (n : Int) (w : World) :
    Calls Try.prog 27 #[.pointer none, .int .i64 n] w fun e w' => e = .returned (.int .i64 (-1)) ∧ w = w' := by
  go_enter Try.func27, Try.ntmps27
  go_wp2_with fail
  go_ret
  exact ⟨rfl, rfl⟩
theorem part_nil (at' k : Int) (w : World) (hat : at' ≤ 9223372036854775807) :
    Calls Try.prog 39 #[.pointer none, .int .i64 at', .int .i64 k] w fun e w' => e = .returned (partV none 0 at' k) ∧ w = w' :=
  part_of _ _ _ _ _ _ (Nat.le_refl _) (by omega) w hat (all_nil w)
theorem partV_no {x : Option Addr} {at' k : Int} (h : 0 < k) : partV x 0 at' k = .tuple #[.slice none 0 0, .bool false] := by
  unfold partV
  have hi : inB 0 at' k = false := decide_eq_false (by omega)
  rw [hi, if_neg (by decide)]
set_option maxRecDepth 100000 in
theorem load_nil (op at' : Int) (w : World) (hat : at' ≤ 9223372036854775807) :
    Calls Try.prog 23 #[.pointer none, .int .i64 op, .int .i64 at'] w fun e w' => e = .returned (.tuple #[.int .i64 0, .int .i64 4]) ∧ w = w' := by
  have HW := Lib.hid (width_any op w)
  unfold Mem.widthTup at HW
  have hwl := width_le op
  revert HW hwl
  generalize (Mem.width op).1 = n
  generalize (Mem.width op).2.1 = ty
  generalize (Mem.width op).2.2 = st
  intro HW hwl
  by_cases hn : n = 0
  · subst hn
    clear hwl
    go_enter Try.func23, Try.ntmps23
    go_wp2_with (go_at_call 18; refine HW.out.mono ?_; rintro e w1 ⟨rfl, rfl⟩)
    go_ret2
    exact ⟨rfl, rfl⟩
  have hn' : (n == 0) = false := by simpa using hn
  have HP := Lib.hid (part_nil at' n w hat)
  rw [partV_no (by omega)] at HP
  clear hn hwl
  cases st
  all_goals
    go_enter Try.func23, Try.ntmps23
    go_wp2_with (first
      | (go_at_call 18; refine HW.out.mono ?_; rintro e w1 ⟨rfl, rfl⟩)
      | (go_at_call 39; refine HP.out.mono ?_; rintro e w1 ⟨rfl, rfl⟩))
    go_ret2
    exact ⟨rfl, rfl⟩
set_option maxRecDepth 100000 in
theorem store_nil (op at' v : Int) (w : World) (hat : at' ≤ 9223372036854775807) :
    Calls Try.prog 22 #[.pointer none, .int .i64 op, .int .i64 at', .int .i64 v] w fun e w' => e = .returned (.int .i64 4) ∧ w = w' := by
  have HW := Lib.hid (width_any op w)
  unfold Mem.widthTup at HW
  have hw1 : (Mem.width op).2.2 = true → 0 < (Mem.width op).1 := by
    unfold Mem.width
    split
    · have key : ∀ i, i < 19 → 0 < Mem.wBytes.getD i 0 := by decide
      rename_i h
      exact fun _ => key _ (List.idxOf_lt_length_of_mem h)
    · exact fun h => absurd h (by decide)
  revert HW hw1
  generalize (Mem.width op).1 = n
  generalize (Mem.width op).2.1 = ty
  generalize (Mem.width op).2.2 = st
  intro HW hw1
  cases st
  · clear hw1
    go_enter Try.func22, Try.ntmps22
    go_wp2_with (go_at_call 18; refine HW.out.mono ?_; rintro e w1 ⟨rfl, rfl⟩)
    go_ret
    exact ⟨rfl, rfl⟩
  · have HP := Lib.hid (part_nil at' n w hat)
    rw [partV_no (hw1 rfl)] at HP
    clear hw1
    go_enter Try.func22, Try.ntmps22
    go_wp2_with (first
      | (go_at_call 18; refine HW.out.mono ?_; rintro e w1 ⟨rfl, rfl⟩)
      | (go_at_call 39; refine HP.out.mono ?_; rintro e w1 ⟨rfl, rfl⟩))
    go_ret
    exact ⟨rfl, rfl⟩
theorem read_nil_one (at' : Int) (w : World) (hat : at' ≤ 9223372036854775807) :
    Calls Try.prog 21 #[.pointer none, .int .i64 at', .int .i64 1] w fun e w' => e = .returned (.tuple #[.string ⟨#[]⟩, .int .i64 4]) ∧ w = w' := by
  have HP := Lib.hid (part_nil at' 1 w hat)
  rw [partV_no (by decide)] at HP
  go_enter Try.func21, Try.ntmps21
  go_wp2_with (go_at_call 39; refine HP.out.mono ?_; rintro e w2 ⟨rfl, rfl⟩)
  go_ret2
  exact ⟨rfl, rfl⟩
theorem read_nil_none (w : World) :
    Calls Try.prog 21 #[.pointer none, .int .i64 0, .int .i64 0] w fun e w' => e = .returned (.tuple #[.string ⟨#[]⟩, .int .i64 0]) ∧ w = w' := by
  have HP := Lib.hid (part_nil 0 0 w (by decide))
  rw [show partV none 0 0 0 = .tuple #[.slice none 0 0, .bool true] from rfl] at HP
  have hcv := run_convert_bytes_nil w 39 5 Try.underlying39 Try.underlying5 0 0 9 Try.underlying9
  go_enter Try.func21, Try.ntmps21
  go_wp2_with (go_at_call 39; refine HP.out.mono ?_; rintro e w2 ⟨rfl, rfl⟩)
  go_ret2
  exact ⟨rfl, rfl⟩
theorem write_nil (at' : Int) (s : ByteArray) (hs : 0 < s.size) (w : World) (hat : at' ≤ 9223372036854775807) :
    Calls Try.prog 28 #[.pointer none, .int .i64 at', .string s] w fun e w' => e = .returned (.int .i64 4) ∧ w = w' := by
  have HP := Lib.hid (part_nil at' s.size w hat)
  rw [partV_no (by omega)] at HP
  clear hs
  go_enter Try.func28, Try.ntmps28
  go_wp2_with (go_at_call 39; refine HP.out.mono ?_; rintro e w2 ⟨rfl, rfl⟩)
  go_ret
  exact ⟨rfl, rfl⟩
theorem fill_nil (at' v : Int) (w : World) (hat : at' ≤ 9223372036854775807) :
    Calls Try.prog 29 #[.pointer none, .int .i64 at', .int .i64 v, .int .i64 1] w fun e w' => e = .returned (.int .i64 4) ∧ w = w' := by
  have HP := Lib.hid (part_nil at' 1 w hat)
  rw [partV_no (by decide)] at HP
  go_enter Try.func29, Try.ntmps29
  go_wp2_with (go_at_call 39; refine HP.out.mono ?_; rintro e w2 ⟨rfl, rfl⟩)
  go_ret
  exact ⟨rfl, rfl⟩
theorem copy_nil (w : World) :
    Calls Try.prog 24 #[.pointer none, .int .i64 0, .pointer none, .int .i64 0, .int .i64 0] w fun e w' => e = .returned (.int .i64 0) ∧ w = w' := by
  have HP := Lib.hid (part_nil 0 0 w (by decide))
  rw [show partV none 0 0 0 = .tuple #[.slice none 0 0, .bool true] from rfl] at HP
  have hrun := fun ty => run_copy_none (P := Try.prog) w 39 39 ty 5 none none 0 0 0 0 Try.underlying39 size_u8 rfl
  go_enter Try.func24, Try.ntmps24
  go_wp2_with (go_at_call 39; refine HP.out.mono ?_; rintro e w2 ⟨rfl, rfl⟩)
  go_ret
  exact ⟨rfl, rfl⟩
end Go.Proofs.Ytogkieekpmcinaa
