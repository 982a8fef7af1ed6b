/- The reference's loads. -/
import Derived.Test.YtogkieekpmcinaaMemRefC
import Derived.LoopN
namespace Go.Proofs.Ytogkieekpmcinaa
open Go.RowKit

/-- What bytes come to, the lowest first. -/
def valB : List Int → Int
  | [] => 0
  | b :: l => b + 256 * valB l
theorem valB_range {l : List Int} (h : ∀ z ∈ l, 0 ≤ z ∧ z ≤ 255) : 0 ≤ valB l ∧ valB l < 256 ^ l.length := by
  induction l with
  | nil => simp [valB]
  | cons b l ih =>
    have hb := h b List.mem_cons_self
    have := ih fun c hc => h c (List.mem_cons_of_mem _ hc)
    rw [valB, List.length_cons, Int.pow_succ]
    omega
theorem valB_step {l : List Int} {j : Nat} (h : j < l.length) : wrap64 (wrap64 (wrap64 (valB (l.drop (j + 1))) * 256) + l.getD j 0) = wrap64 (valB (l.drop j)) := by
  rw [List.drop_eq_getElem_cons h, valB, List.getD_eq_getElem?_getD, List.getElem?_eq_getElem h]
  generalize valB (l.drop (j + 1)) = x
  show wrap64 (wrap64 (wrap64 x * 256) + l[j]) = _
  generalize l[j] = b
  unfold wrap64
  omega
/-- What a load tells of its bytes. -/
def loadV (n : Nat) (ty : Int) (sg : Bool) (bs : List Int) : Int :=
  if sg && decide (128 ≤ bs.getD (n - 1) 0) then (if ty = 127 then valB bs - 256 ^ n + 4294967296 else valB bs - 256 ^ n) else wrap64 (valB bs)
theorem top_bytes {l : List Int} {n : Nat} (hl : l.length = n) (hn : 0 < n) (h : ∀ z ∈ l, 0 ≤ z ∧ z ≤ 255) : valB l = valB (l.take (n - 1)) + 256 ^ (n - 1) * l.getD (n - 1) 0 ∧ 0 ≤ valB (l.take (n - 1)) := by
  have key : ∀ (l m : List Int), valB (l ++ m) = valB l + 256 ^ l.length * valB m := by
    intro l m
    induction l with
    | nil => simp [valB]
    | cons b l ih =>
      rw [List.cons_append, valB, valB, ih, List.length_cons, Int.pow_succ, Int.mul_add, Int.mul_assoc, Int.mul_left_comm]
      omega
  have e : l = l.take (n - 1) ++ [l.getD (n - 1) 0] := by
    rw [List.getD_eq_getElem?_getD, List.getElem?_eq_getElem (by omega)]
    have := List.take_succ_eq_append_getElem (l := l) (i := n - 1) (by omega)
    rw [show n - 1 + 1 = n by omega, List.take_of_length_le (by omega)] at this
    exact this
  refine ⟨?_, (valB_range fun z hz => h z (List.mem_of_mem_take hz)).1⟩
  have h2 := key (l.take (n - 1)) [l.getD (n - 1) 0]
  rw [← e, List.length_take, Nat.min_eq_left (by omega)] at h2
  rw [h2]
  simp [valB]
theorem part_byte {S : List Int} (h : ∀ z ∈ S, 0 ≤ z ∧ z ≤ 255) (p n : Nat) : ∀ z ∈ part S p n, 0 ≤ z ∧ z ≤ 255 := fun z hz => h z (List.mem_of_mem_drop (List.mem_of_mem_take hz))
set_option maxRecDepth 100000 in
set_option maxHeartbeats 1000000 in
theorem refLoad_40 (a g : Nat) (S : List Int) (mx bd : Int) (p : Nat) (w : World) (h : RMem a g S mx bd w) (hp : p + 4 ≤ S.length) :
    Calls Try.prog 32 #[.pointer (some ⟨a, 0, none⟩), .int .i64 40, .int .i64 p] w fun e w' => e = .returned (.tuple #[.int .i64 (loadV 4 127 false (part S p 4)), .int .i64 0]) ∧ Below w.heap.size w w' := by
  have hval : loadV 4 127 false (part S p 4) = wrap64 (valB (part S p 4)) := by
    simp only [loadV, Bool.false_and, Nat.reduceSub, Int.reducePow]
    rfl
  rw [hval]
  have hlen := h.len
  have hbs := part_byte h.byte p 4
  have hpl : (part S p 4).length = 4 := part_length hp
  have hvr := valB_range hbs
  rw [hpl] at hvr
  simp only [Int.reducePow] at hvr
  obtain ⟨X, hX⟩ : ∃ X, X = valB (part S p 4) := ⟨_, rfl⟩
  have hx : wrap64 X = X := by rw [← hX] at hvr; unfold wrap64; omega
  rw [← hX] at hvr ⊢
  rw [hx]
  have HX : Hid (wrap64 (valB (part S p 4)) = X) := Lib.hid (by rw [← hX]; exact hx)
  have HI : Hid (∀ w', RMem a g S mx bd w' → Calls Try.prog 44 #[.pointer (some ⟨a, 0, none⟩), .int .i64 p, .int .i64 4] w' fun e w2 => e = .returned (.bool true) ∧ w' = w2) := Lib.hid fun w' h' => by
    have hi : inB S.length p 4 = true := decide_eq_true (by omega)
    exact hi ▸ refIn_any a _ _ _ p 4 (by omega) w' h'.slot
  have HWD : Hid (∀ w, Calls Try.prog 19 #[.int .i64 40] w fun e w' => e = .returned (.tuple #[.int .i64 4, .int .i64 127, .bool false]) ∧ Below w.heap.size w w') := Lib.hid fun w => refWidth_any 40 w
  have H := Lib.hid h
  have VS := Lib.hid (fun j (hj : j < 4) => valB_step (l := part S p 4) (j := j) (by omega))
  have VP := Lib.hid (fun i (hi : i < 4) => part_get (S := S) (at' := p) (k := 4) (i := i) hi)
  have BY := Lib.hid h.byte
  clear h hval hpl hbs hX hx 
  go_enter Try.func32, Try.ntmps32
  go_wp2_with (first
    | (go_at_call 19; refine (HWD.out _).mono ?_; rintro e w1 ⟨rfl, hb1⟩)
    | (go_at_call 44; refine (HI.out _ (H.out.kept (Kept.of_below (F := fun _ => False) hb1) id id)).mono ?_; rintro e w2 ⟨rfl, rfl⟩))
  have h1 := H.out.kept (Kept.of_below (F := fun _ => False) hb1) id id
  have hslot := h1.slot
  have HC : Hid (∀ i, i < S.length → w1.cell? ⟨g, i, none⟩ = some (.int .u8 (S.getD i 0))) := Lib.hid fun i hi => h1.cell hi
  have HB1 := Lib.hid hb1
  clear h1 hb1
  go_loop [11, 12] (fun vv iv => ∃ m : Nat, m ≤ 4 ∧ iv = .int .i64 ((m : Int) - 1) ∧ vv = .int .i64 (wrap64 (valB ((part S p 4).drop m)))) (fun _ iv => (intOf iv + 1).toNat)
  case atStart => exact ⟨4, by decide, rfl, congrArg (Value.int .i64) (by rw [List.drop_of_length_le (by rw [part_length hp]; exact Nat.le_refl _)]; simp [valB, wrap64])⟩
  case round =>
    obtain ⟨m, hm, rfl, rfl⟩ := hrel
    cases m with
    | succ j =>
      rw [show (((j + 1 : Nat) : Int) - 1) = (j : Int) by omega]
      have hst := VS.out j (by omega)
      have hg := VP.out j (by omega)
      have hcell := HC.out (p + j) (by omega)
      rw [← hg] at hcell
      obtain ⟨z, hz⟩ : ∃ z, z = (part S p 4).getD j 0 := ⟨_, rfl⟩
      obtain ⟨T, hT⟩ : ∃ T, T = wrap64 (valB ((part S p 4).drop j)) := ⟨_, rfl⟩
      have hz2 : 0 ≤ z ∧ z ≤ 255 := by
        rw [hz, hg]
        refine BY.out _ ?_
        rw [List.getD_eq_getElem?_getD, List.getElem?_eq_getElem (by omega)]
        exact List.getElem_mem _
      rw [← hz] at hst hcell
      rw [← hT] at hst
      have HT := Lib.hid hT
      obtain ⟨x, hx0⟩ : ∃ x, x = wrap64 (valB ((part S p 4).drop (j + 1))) := ⟨_, rfl⟩
      rw [← hx0] at hst ⊢
      obtain ⟨y, hy⟩ : ∃ y, wrap64 (x * 256) = y := ⟨_, rfl⟩
      rw [hy] at hst
      obtain ⟨z1, z2⟩ := hz2
      have e0 : ((p : Int) + j).toNat = p + j := by omega
      clear hz hT hx0 hg hvr 
      go_wp2_with fail
      exact ⟨⟨j, by omega, rfl, congrArg (Value.int .i64) (by first | exact hst.trans HT.out | exact HT.out)⟩, by simp [intOf]⟩
    | zero =>
      rw [List.drop_zero, HX.out]
      go_wp2_with fail
      go_ret2
      exact ⟨rfl, HB1.out⟩
set_option maxRecDepth 100000 in
set_option maxHeartbeats 1000000 in
theorem refLoad_41 (a g : Nat) (S : List Int) (mx bd : Int) (p : Nat) (w : World) (h : RMem a g S mx bd w) (hp : p + 8 ≤ S.length) :
    Calls Try.prog 32 #[.pointer (some ⟨a, 0, none⟩), .int .i64 41, .int .i64 p] w fun e w' => e = .returned (.tuple #[.int .i64 (loadV 8 126 false (part S p 8)), .int .i64 0]) ∧ Below w.heap.size w w' := by
  have hval : loadV 8 126 false (part S p 8) = wrap64 (valB (part S p 8)) := by
    simp only [loadV, Bool.false_and, Nat.reduceSub, Int.reducePow]
    rfl
  rw [hval]
  have hlen := h.len
  have hbs := part_byte h.byte p 8
  have hpl : (part S p 8).length = 8 := part_length hp
  have hvr := valB_range hbs
  rw [hpl] at hvr
  simp only [Int.reducePow] at hvr
  obtain ⟨X, hX⟩ : ∃ X, X = wrap64 (valB (part S p 8)) := ⟨_, rfl⟩
  rw [← hX]
  have HX : Hid (wrap64 (valB (part S p 8)) = X) := Lib.hid hX.symm
  have hx := trivial
  have HI : Hid (∀ w', RMem a g S mx bd w' → Calls Try.prog 44 #[.pointer (some ⟨a, 0, none⟩), .int .i64 p, .int .i64 8] w' fun e w2 => e = .returned (.bool true) ∧ w' = w2) := Lib.hid fun w' h' => by
    have hi : inB S.length p 8 = true := decide_eq_true (by omega)
    exact hi ▸ refIn_any a _ _ _ p 8 (by omega) w' h'.slot
  have HWD : Hid (∀ w, Calls Try.prog 19 #[.int .i64 41] w fun e w' => e = .returned (.tuple #[.int .i64 8, .int .i64 126, .bool false]) ∧ Below w.heap.size w w') := Lib.hid fun w => refWidth_any 41 w
  have H := Lib.hid h
  have VS := Lib.hid (fun j (hj : j < 8) => valB_step (l := part S p 8) (j := j) (by omega))
  have VP := Lib.hid (fun i (hi : i < 8) => part_get (S := S) (at' := p) (k := 8) (i := i) hi)
  have BY := Lib.hid h.byte
  clear h hval hpl hbs hX hx 
  go_enter Try.func32, Try.ntmps32
  go_wp2_with (first
    | (go_at_call 19; refine (HWD.out _).mono ?_; rintro e w1 ⟨rfl, hb1⟩)
    | (go_at_call 44; refine (HI.out _ (H.out.kept (Kept.of_below (F := fun _ => False) hb1) id id)).mono ?_; rintro e w2 ⟨rfl, rfl⟩))
  have h1 := H.out.kept (Kept.of_below (F := fun _ => False) hb1) id id
  have hslot := h1.slot
  have HC : Hid (∀ i, i < S.length → w1.cell? ⟨g, i, none⟩ = some (.int .u8 (S.getD i 0))) := Lib.hid fun i hi => h1.cell hi
  have HB1 := Lib.hid hb1
  clear h1 hb1
  go_loop [11, 12] (fun vv iv => ∃ m : Nat, m ≤ 8 ∧ iv = .int .i64 ((m : Int) - 1) ∧ vv = .int .i64 (wrap64 (valB ((part S p 8).drop m)))) (fun _ iv => (intOf iv + 1).toNat)
  case atStart => exact ⟨8, by decide, rfl, congrArg (Value.int .i64) (by rw [List.drop_of_length_le (by rw [part_length hp]; exact Nat.le_refl _)]; simp [valB, wrap64])⟩
  case round =>
    obtain ⟨m, hm, rfl, rfl⟩ := hrel
    cases m with
    | succ j =>
      rw [show (((j + 1 : Nat) : Int) - 1) = (j : Int) by omega]
      have hst := VS.out j (by omega)
      have hg := VP.out j (by omega)
      have hcell := HC.out (p + j) (by omega)
      rw [← hg] at hcell
      obtain ⟨z, hz⟩ : ∃ z, z = (part S p 8).getD j 0 := ⟨_, rfl⟩
      obtain ⟨T, hT⟩ : ∃ T, T = wrap64 (valB ((part S p 8).drop j)) := ⟨_, rfl⟩
      have hz2 : 0 ≤ z ∧ z ≤ 255 := by
        rw [hz, hg]
        refine BY.out _ ?_
        rw [List.getD_eq_getElem?_getD, List.getElem?_eq_getElem (by omega)]
        exact List.getElem_mem _
      rw [← hz] at hst hcell
      rw [← hT] at hst
      have HT := Lib.hid hT
      obtain ⟨x, hx0⟩ : ∃ x, x = wrap64 (valB ((part S p 8).drop (j + 1))) := ⟨_, rfl⟩
      rw [← hx0] at hst ⊢
      obtain ⟨y, hy⟩ : ∃ y, wrap64 (x * 256) = y := ⟨_, rfl⟩
      rw [hy] at hst
      obtain ⟨z1, z2⟩ := hz2
      have e0 : ((p : Int) + j).toNat = p + j := by omega
      clear hz hT hx0 hg hvr 
      go_wp2_with fail
      exact ⟨⟨j, by omega, rfl, congrArg (Value.int .i64) (by first | exact hst.trans HT.out | exact HT.out)⟩, by simp [intOf]⟩
    | zero =>
      rw [List.drop_zero, HX.out]
      go_wp2_with fail
      go_ret2
      exact ⟨rfl, HB1.out⟩
set_option maxRecDepth 100000 in
set_option maxHeartbeats 1000000 in
theorem refLoad_44_0 (a g : Nat) (S : List Int) (mx bd : Int) (p : Nat) (w : World) (h : RMem a g S mx bd w) (hp : p + 1 ≤ S.length) (ht : (part S p 1).getD 0 0 < 128) :
    Calls Try.prog 32 #[.pointer (some ⟨a, 0, none⟩), .int .i64 44, .int .i64 p] w fun e w' => e = .returned (.tuple #[.int .i64 (loadV 1 127 true (part S p 1)), .int .i64 0]) ∧ Below w.heap.size w w' := by
  have hval : loadV 1 127 true (part S p 1) = wrap64 (valB (part S p 1)) := by
    simp only [loadV, Bool.true_and, decide_eq_true_eq, Nat.reduceSub, Int.reducePow]
    rw [if_neg (by omega)]
  rw [hval]
  have hlen := h.len
  have hbs := part_byte h.byte p 1
  have hpl : (part S p 1).length = 1 := part_length hp
  have hvr := valB_range hbs
  rw [hpl] at hvr
  simp only [Int.reducePow] at hvr
  obtain ⟨tb1, tb2⟩ := top_bytes hpl (by decide) hbs
  simp only [Nat.reduceSub, Int.reducePow] at tb1 tb2
  obtain ⟨t, ht0⟩ : ∃ t, t = (part S p 1).getD 0 0 := ⟨_, rfl⟩
  rw [← ht0] at tb1 ht
  obtain ⟨Y, hY⟩ : ∃ Y, Y = valB ((part S p 1).take 0) := ⟨_, rfl⟩
  rw [← hY] at tb1 tb2
  have HT0 := Lib.hid ht0
  obtain ⟨X, hX⟩ : ∃ X, X = valB (part S p 1) := ⟨_, rfl⟩
  have hx : wrap64 X = X := by rw [← hX] at hvr; unfold wrap64; omega
  rw [← hX] at hvr tb1 ⊢
  rw [hx]
  have HX : Hid (wrap64 (valB (part S p 1)) = X) := Lib.hid (by rw [← hX]; exact hx)
  have HI : Hid (∀ w', RMem a g S mx bd w' → Calls Try.prog 44 #[.pointer (some ⟨a, 0, none⟩), .int .i64 p, .int .i64 1] w' fun e w2 => e = .returned (.bool true) ∧ w' = w2) := Lib.hid fun w' h' => by
    have hi : inB S.length p 1 = true := decide_eq_true (by omega)
    exact hi ▸ refIn_any a _ _ _ p 1 (by omega) w' h'.slot
  have HWD : Hid (∀ w, Calls Try.prog 19 #[.int .i64 44] w fun e w' => e = .returned (.tuple #[.int .i64 1, .int .i64 127, .bool false]) ∧ Below w.heap.size w w') := Lib.hid fun w => refWidth_any 44 w
  have H := Lib.hid h
  have VS := Lib.hid (fun j (hj : j < 1) => valB_step (l := part S p 1) (j := j) (by omega))
  have VP := Lib.hid (fun i (hi : i < 1) => part_get (S := S) (at' := p) (k := 1) (i := i) hi)
  have BY := Lib.hid h.byte
  clear h hval hpl hbs hX hx hY ht0 tb1 tb2
  go_enter Try.func32, Try.ntmps32
  go_wp2_with (first
    | (go_at_call 19; refine (HWD.out _).mono ?_; rintro e w1 ⟨rfl, hb1⟩)
    | (go_at_call 44; refine (HI.out _ (H.out.kept (Kept.of_below (F := fun _ => False) hb1) id id)).mono ?_; rintro e w2 ⟨rfl, rfl⟩))
  have h1 := H.out.kept (Kept.of_below (F := fun _ => False) hb1) id id
  have hslot := h1.slot
  have HC : Hid (∀ i, i < S.length → w1.cell? ⟨g, i, none⟩ = some (.int .u8 (S.getD i 0))) := Lib.hid fun i hi => h1.cell hi
  have HB1 := Lib.hid hb1
  clear h1 hb1
  go_loop [11, 12] (fun vv iv => ∃ m : Nat, m ≤ 1 ∧ iv = .int .i64 ((m : Int) - 1) ∧ vv = .int .i64 (wrap64 (valB ((part S p 1).drop m)))) (fun _ iv => (intOf iv + 1).toNat)
  case atStart => exact ⟨1, by decide, rfl, congrArg (Value.int .i64) (by rw [List.drop_of_length_le (by rw [part_length hp]; exact Nat.le_refl _)]; simp [valB, wrap64])⟩
  case round =>
    obtain ⟨m, hm, rfl, rfl⟩ := hrel
    cases m with
    | succ j =>
      rw [show (((j + 1 : Nat) : Int) - 1) = (j : Int) by omega]
      have hst := VS.out j (by omega)
      have hg := VP.out j (by omega)
      have hcell := HC.out (p + j) (by omega)
      rw [← hg] at hcell
      obtain ⟨z, hz⟩ : ∃ z, z = (part S p 1).getD j 0 := ⟨_, rfl⟩
      obtain ⟨T, hT⟩ : ∃ T, T = wrap64 (valB ((part S p 1).drop j)) := ⟨_, rfl⟩
      have hz2 : 0 ≤ z ∧ z ≤ 255 := by
        rw [hz, hg]
        refine BY.out _ ?_
        rw [List.getD_eq_getElem?_getD, List.getElem?_eq_getElem (by omega)]
        exact List.getElem_mem _
      rw [← hz] at hst hcell
      rw [← hT] at hst
      have HT := Lib.hid hT
      obtain ⟨x, hx0⟩ : ∃ x, x = wrap64 (valB ((part S p 1).drop (j + 1))) := ⟨_, rfl⟩
      rw [← hx0] at hst ⊢
      obtain ⟨y, hy⟩ : ∃ y, wrap64 (x * 256) = y := ⟨_, rfl⟩
      rw [hy] at hst
      obtain ⟨z1, z2⟩ := hz2
      have e0 : ((p : Int) + j).toNat = p + j := by omega
      clear hz hT hx0 hg hvr ht 
      go_wp2_with fail
      exact ⟨⟨j, by omega, rfl, congrArg (Value.int .i64) (by first | exact hst.trans HT.out | exact HT.out)⟩, by simp [intOf]⟩
    | zero =>
      rw [List.drop_zero, HX.out]
      have hcell := HC.out (p + 0) (by omega)
      have hg := VP.out 0 (by decide)
      rw [← hg, ← HT0.out, Nat.add_zero] at hcell
      have e0 : ((p : Int) + 1 - 1).toNat = p + 0 := by omega
      clear hg
      go_wp2_with fail
      go_ret2
      exact ⟨rfl, HB1.out⟩
set_option maxRecDepth 100000 in
set_option maxHeartbeats 1000000 in
theorem refLoad_44_1 (a g : Nat) (S : List Int) (mx bd : Int) (p : Nat) (w : World) (h : RMem a g S mx bd w) (hp : p + 1 ≤ S.length) (ht : 128 ≤ (part S p 1).getD 0 0) :
    Calls Try.prog 32 #[.pointer (some ⟨a, 0, none⟩), .int .i64 44, .int .i64 p] w fun e w' => e = .returned (.tuple #[.int .i64 (loadV 1 127 true (part S p 1)), .int .i64 0]) ∧ Below w.heap.size w w' := by
  have hval : loadV 1 127 true (part S p 1) = valB (part S p 1) - 256 + 4294967296 := by
    simp only [loadV, Bool.true_and, decide_eq_true_eq, Nat.reduceSub, Int.reducePow]
    rw [if_pos ht]
    rfl
  rw [hval]
  have hlen := h.len
  have hbs := part_byte h.byte p 1
  have hpl : (part S p 1).length = 1 := part_length hp
  have hvr := valB_range hbs
  rw [hpl] at hvr
  simp only [Int.reducePow] at hvr
  obtain ⟨tb1, tb2⟩ := top_bytes hpl (by decide) hbs
  simp only [Nat.reduceSub, Int.reducePow] at tb1 tb2
  obtain ⟨t, ht0⟩ : ∃ t, t = (part S p 1).getD 0 0 := ⟨_, rfl⟩
  rw [← ht0] at tb1 ht
  obtain ⟨Y, hY⟩ : ∃ Y, Y = valB ((part S p 1).take 0) := ⟨_, rfl⟩
  rw [← hY] at tb1 tb2
  have HT0 := Lib.hid ht0
  obtain ⟨X, hX⟩ : ∃ X, X = valB (part S p 1) := ⟨_, rfl⟩
  have hx : wrap64 X = X := by rw [← hX] at hvr; unfold wrap64; omega
  rw [← hX] at hvr tb1 ⊢
  have HX : Hid (wrap64 (valB (part S p 1)) = X) := Lib.hid (by rw [← hX]; exact hx)
  have HI : Hid (∀ w', RMem a g S mx bd w' → Calls Try.prog 44 #[.pointer (some ⟨a, 0, none⟩), .int .i64 p, .int .i64 1] w' fun e w2 => e = .returned (.bool true) ∧ w' = w2) := Lib.hid fun w' h' => by
    have hi : inB S.length p 1 = true := decide_eq_true (by omega)
    exact hi ▸ refIn_any a _ _ _ p 1 (by omega) w' h'.slot
  have HWD : Hid (∀ w, Calls Try.prog 19 #[.int .i64 44] w fun e w' => e = .returned (.tuple #[.int .i64 1, .int .i64 127, .bool false]) ∧ Below w.heap.size w w') := Lib.hid fun w => refWidth_any 44 w
  have H := Lib.hid h
  have VS := Lib.hid (fun j (hj : j < 1) => valB_step (l := part S p 1) (j := j) (by omega))
  have VP := Lib.hid (fun i (hi : i < 1) => part_get (S := S) (at' := p) (k := 1) (i := i) hi)
  have BY := Lib.hid h.byte
  have tb3 : 128 ≤ X := by omega
  clear h hval hpl hbs hX hx hY ht0 tb1 tb2
  go_enter Try.func32, Try.ntmps32
  go_wp2_with (first
    | (go_at_call 19; refine (HWD.out _).mono ?_; rintro e w1 ⟨rfl, hb1⟩)
    | (go_at_call 44; refine (HI.out _ (H.out.kept (Kept.of_below (F := fun _ => False) hb1) id id)).mono ?_; rintro e w2 ⟨rfl, rfl⟩))
  have h1 := H.out.kept (Kept.of_below (F := fun _ => False) hb1) id id
  have hslot := h1.slot
  have HC : Hid (∀ i, i < S.length → w1.cell? ⟨g, i, none⟩ = some (.int .u8 (S.getD i 0))) := Lib.hid fun i hi => h1.cell hi
  have HB1 := Lib.hid hb1
  clear h1 hb1
  go_loop [11, 12] (fun vv iv => ∃ m : Nat, m ≤ 1 ∧ iv = .int .i64 ((m : Int) - 1) ∧ vv = .int .i64 (wrap64 (valB ((part S p 1).drop m)))) (fun _ iv => (intOf iv + 1).toNat)
  case atStart => exact ⟨1, by decide, rfl, congrArg (Value.int .i64) (by rw [List.drop_of_length_le (by rw [part_length hp]; exact Nat.le_refl _)]; simp [valB, wrap64])⟩
  case round =>
    obtain ⟨m, hm, rfl, rfl⟩ := hrel
    cases m with
    | succ j =>
      rw [show (((j + 1 : Nat) : Int) - 1) = (j : Int) by omega]
      have hst := VS.out j (by omega)
      have hg := VP.out j (by omega)
      have hcell := HC.out (p + j) (by omega)
      rw [← hg] at hcell
      obtain ⟨z, hz⟩ : ∃ z, z = (part S p 1).getD j 0 := ⟨_, rfl⟩
      obtain ⟨T, hT⟩ : ∃ T, T = wrap64 (valB ((part S p 1).drop j)) := ⟨_, rfl⟩
      have hz2 : 0 ≤ z ∧ z ≤ 255 := by
        rw [hz, hg]
        refine BY.out _ ?_
        rw [List.getD_eq_getElem?_getD, List.getElem?_eq_getElem (by omega)]
        exact List.getElem_mem _
      rw [← hz] at hst hcell
      rw [← hT] at hst
      have HT := Lib.hid hT
      obtain ⟨x, hx0⟩ : ∃ x, x = wrap64 (valB ((part S p 1).drop (j + 1))) := ⟨_, rfl⟩
      rw [← hx0] at hst ⊢
      obtain ⟨y, hy⟩ : ∃ y, wrap64 (x * 256) = y := ⟨_, rfl⟩
      rw [hy] at hst
      obtain ⟨z1, z2⟩ := hz2
      have e0 : ((p : Int) + j).toNat = p + j := by omega
      clear hz hT hx0 hg hvr ht tb3 
      go_wp2_with fail
      exact ⟨⟨j, by omega, rfl, congrArg (Value.int .i64) (by first | exact hst.trans HT.out | exact HT.out)⟩, by simp [intOf]⟩
    | zero =>
      rw [List.drop_zero, HX.out]
      have hcell := HC.out (p + 0) (by omega)
      have hg := VP.out 0 (by decide)
      rw [← hg, ← HT0.out, Nat.add_zero] at hcell
      have e0 : ((p : Int) + 1 - 1).toNat = p + 0 := by omega
      clear hg
      go_wp2_with fail
      refine wp_loop_rounds 2 ?_
      rw [rounds_succ]
      go_wp2_with fail
      rw [rounds_succ]
      go_wp2_with fail
      go_ret2
      exact ⟨rfl, HB1.out⟩
set_option maxRecDepth 100000 in
set_option maxHeartbeats 1000000 in
theorem refLoad_45 (a g : Nat) (S : List Int) (mx bd : Int) (p : Nat) (w : World) (h : RMem a g S mx bd w) (hp : p + 1 ≤ S.length) :
    Calls Try.prog 32 #[.pointer (some ⟨a, 0, none⟩), .int .i64 45, .int .i64 p] w fun e w' => e = .returned (.tuple #[.int .i64 (loadV 1 127 false (part S p 1)), .int .i64 0]) ∧ Below w.heap.size w w' := by
  have hval : loadV 1 127 false (part S p 1) = wrap64 (valB (part S p 1)) := by
    simp only [loadV, Bool.false_and, Nat.reduceSub, Int.reducePow]
    rfl
  rw [hval]
  have hlen := h.len
  have hbs := part_byte h.byte p 1
  have hpl : (part S p 1).length = 1 := part_length hp
  have hvr := valB_range hbs
  rw [hpl] at hvr
  simp only [Int.reducePow] at hvr
  obtain ⟨X, hX⟩ : ∃ X, X = valB (part S p 1) := ⟨_, rfl⟩
  have hx : wrap64 X = X := by rw [← hX] at hvr; unfold wrap64; omega
  rw [← hX] at hvr ⊢
  rw [hx]
  have HX : Hid (wrap64 (valB (part S p 1)) = X) := Lib.hid (by rw [← hX]; exact hx)
  have HI : Hid (∀ w', RMem a g S mx bd w' → Calls Try.prog 44 #[.pointer (some ⟨a, 0, none⟩), .int .i64 p, .int .i64 1] w' fun e w2 => e = .returned (.bool true) ∧ w' = w2) := Lib.hid fun w' h' => by
    have hi : inB S.length p 1 = true := decide_eq_true (by omega)
    exact hi ▸ refIn_any a _ _ _ p 1 (by omega) w' h'.slot
  have HWD : Hid (∀ w, Calls Try.prog 19 #[.int .i64 45] w fun e w' => e = .returned (.tuple #[.int .i64 1, .int .i64 127, .bool false]) ∧ Below w.heap.size w w') := Lib.hid fun w => refWidth_any 45 w
  have H := Lib.hid h
  have VS := Lib.hid (fun j (hj : j < 1) => valB_step (l := part S p 1) (j := j) (by omega))
  have VP := Lib.hid (fun i (hi : i < 1) => part_get (S := S) (at' := p) (k := 1) (i := i) hi)
  have BY := Lib.hid h.byte
  clear h hval hpl hbs hX hx 
  go_enter Try.func32, Try.ntmps32
  go_wp2_with (first
    | (go_at_call 19; refine (HWD.out _).mono ?_; rintro e w1 ⟨rfl, hb1⟩)
    | (go_at_call 44; refine (HI.out _ (H.out.kept (Kept.of_below (F := fun _ => False) hb1) id id)).mono ?_; rintro e w2 ⟨rfl, rfl⟩))
  have h1 := H.out.kept (Kept.of_below (F := fun _ => False) hb1) id id
  have hslot := h1.slot
  have HC : Hid (∀ i, i < S.length → w1.cell? ⟨g, i, none⟩ = some (.int .u8 (S.getD i 0))) := Lib.hid fun i hi => h1.cell hi
  have HB1 := Lib.hid hb1
  clear h1 hb1
  go_loop [11, 12] (fun vv iv => ∃ m : Nat, m ≤ 1 ∧ iv = .int .i64 ((m : Int) - 1) ∧ vv = .int .i64 (wrap64 (valB ((part S p 1).drop m)))) (fun _ iv => (intOf iv + 1).toNat)
  case atStart => exact ⟨1, by decide, rfl, congrArg (Value.int .i64) (by rw [List.drop_of_length_le (by rw [part_length hp]; exact Nat.le_refl _)]; simp [valB, wrap64])⟩
  case round =>
    obtain ⟨m, hm, rfl, rfl⟩ := hrel
    cases m with
    | succ j =>
      rw [show (((j + 1 : Nat) : Int) - 1) = (j : Int) by omega]
      have hst := VS.out j (by omega)
      have hg := VP.out j (by omega)
      have hcell := HC.out (p + j) (by omega)
      rw [← hg] at hcell
      obtain ⟨z, hz⟩ : ∃ z, z = (part S p 1).getD j 0 := ⟨_, rfl⟩
      obtain ⟨T, hT⟩ : ∃ T, T = wrap64 (valB ((part S p 1).drop j)) := ⟨_, rfl⟩
      have hz2 : 0 ≤ z ∧ z ≤ 255 := by
        rw [hz, hg]
        refine BY.out _ ?_
        rw [List.getD_eq_getElem?_getD, List.getElem?_eq_getElem (by omega)]
        exact List.getElem_mem _
      rw [← hz] at hst hcell
      rw [← hT] at hst
      have HT := Lib.hid hT
      obtain ⟨x, hx0⟩ : ∃ x, x = wrap64 (valB ((part S p 1).drop (j + 1))) := ⟨_, rfl⟩
      rw [← hx0] at hst ⊢
      obtain ⟨y, hy⟩ : ∃ y, wrap64 (x * 256) = y := ⟨_, rfl⟩
      rw [hy] at hst
      obtain ⟨z1, z2⟩ := hz2
      have e0 : ((p : Int) + j).toNat = p + j := by omega
      clear hz hT hx0 hg hvr 
      go_wp2_with fail
      exact ⟨⟨j, by omega, rfl, congrArg (Value.int .i64) (by first | exact hst.trans HT.out | exact HT.out)⟩, by simp [intOf]⟩
    | zero =>
      rw [List.drop_zero, HX.out]
      go_wp2_with fail
      go_ret2
      exact ⟨rfl, HB1.out⟩
set_option maxRecDepth 100000 in
set_option maxHeartbeats 1000000 in
theorem refLoad_46_0 (a g : Nat) (S : List Int) (mx bd : Int) (p : Nat) (w : World) (h : RMem a g S mx bd w) (hp : p + 2 ≤ S.length) (ht : (part S p 2).getD 1 0 < 128) :
    Calls Try.prog 32 #[.pointer (some ⟨a, 0, none⟩), .int .i64 46, .int .i64 p] w fun e w' => e = .returned (.tuple #[.int .i64 (loadV 2 127 true (part S p 2)), .int .i64 0]) ∧ Below w.heap.size w w' := by
  have hval : loadV 2 127 true (part S p 2) = wrap64 (valB (part S p 2)) := by
    simp only [loadV, Bool.true_and, decide_eq_true_eq, Nat.reduceSub, Int.reducePow]
    rw [if_neg (by omega)]
  rw [hval]
  have hlen := h.len
  have hbs := part_byte h.byte p 2
  have hpl : (part S p 2).length = 2 := part_length hp
  have hvr := valB_range hbs
  rw [hpl] at hvr
  simp only [Int.reducePow] at hvr
  obtain ⟨tb1, tb2⟩ := top_bytes hpl (by decide) hbs
  simp only [Nat.reduceSub, Int.reducePow] at tb1 tb2
  obtain ⟨t, ht0⟩ : ∃ t, t = (part S p 2).getD 1 0 := ⟨_, rfl⟩
  rw [← ht0] at tb1 ht
  obtain ⟨Y, hY⟩ : ∃ Y, Y = valB ((part S p 2).take 1) := ⟨_, rfl⟩
  rw [← hY] at tb1 tb2
  have HT0 := Lib.hid ht0
  obtain ⟨X, hX⟩ : ∃ X, X = valB (part S p 2) := ⟨_, rfl⟩
  have hx : wrap64 X = X := by rw [← hX] at hvr; unfold wrap64; omega
  rw [← hX] at hvr tb1 ⊢
  rw [hx]
  have HX : Hid (wrap64 (valB (part S p 2)) = X) := Lib.hid (by rw [← hX]; exact hx)
  have HI : Hid (∀ w', RMem a g S mx bd w' → Calls Try.prog 44 #[.pointer (some ⟨a, 0, none⟩), .int .i64 p, .int .i64 2] w' fun e w2 => e = .returned (.bool true) ∧ w' = w2) := Lib.hid fun w' h' => by
    have hi : inB S.length p 2 = true := decide_eq_true (by omega)
    exact hi ▸ refIn_any a _ _ _ p 2 (by omega) w' h'.slot
  have HWD : Hid (∀ w, Calls Try.prog 19 #[.int .i64 46] w fun e w' => e = .returned (.tuple #[.int .i64 2, .int .i64 127, .bool false]) ∧ Below w.heap.size w w') := Lib.hid fun w => refWidth_any 46 w
  have H := Lib.hid h
  have VS := Lib.hid (fun j (hj : j < 2) => valB_step (l := part S p 2) (j := j) (by omega))
  have VP := Lib.hid (fun i (hi : i < 2) => part_get (S := S) (at' := p) (k := 2) (i := i) hi)
  have BY := Lib.hid h.byte
  clear h hval hpl hbs hX hx hY ht0 tb1 tb2
  go_enter Try.func32, Try.ntmps32
  go_wp2_with (first
    | (go_at_call 19; refine (HWD.out _).mono ?_; rintro e w1 ⟨rfl, hb1⟩)
    | (go_at_call 44; refine (HI.out _ (H.out.kept (Kept.of_below (F := fun _ => False) hb1) id id)).mono ?_; rintro e w2 ⟨rfl, rfl⟩))
  have h1 := H.out.kept (Kept.of_below (F := fun _ => False) hb1) id id
  have hslot := h1.slot
  have HC : Hid (∀ i, i < S.length → w1.cell? ⟨g, i, none⟩ = some (.int .u8 (S.getD i 0))) := Lib.hid fun i hi => h1.cell hi
  have HB1 := Lib.hid hb1
  clear h1 hb1
  go_loop [11, 12] (fun vv iv => ∃ m : Nat, m ≤ 2 ∧ iv = .int .i64 ((m : Int) - 1) ∧ vv = .int .i64 (wrap64 (valB ((part S p 2).drop m)))) (fun _ iv => (intOf iv + 1).toNat)
  case atStart => exact ⟨2, by decide, rfl, congrArg (Value.int .i64) (by rw [List.drop_of_length_le (by rw [part_length hp]; exact Nat.le_refl _)]; simp [valB, wrap64])⟩
  case round =>
    obtain ⟨m, hm, rfl, rfl⟩ := hrel
    cases m with
    | succ j =>
      rw [show (((j + 1 : Nat) : Int) - 1) = (j : Int) by omega]
      have hst := VS.out j (by omega)
      have hg := VP.out j (by omega)
      have hcell := HC.out (p + j) (by omega)
      rw [← hg] at hcell
      obtain ⟨z, hz⟩ : ∃ z, z = (part S p 2).getD j 0 := ⟨_, rfl⟩
      obtain ⟨T, hT⟩ : ∃ T, T = wrap64 (valB ((part S p 2).drop j)) := ⟨_, rfl⟩
      have hz2 : 0 ≤ z ∧ z ≤ 255 := by
        rw [hz, hg]
        refine BY.out _ ?_
        rw [List.getD_eq_getElem?_getD, List.getElem?_eq_getElem (by omega)]
        exact List.getElem_mem _
      rw [← hz] at hst hcell
      rw [← hT] at hst
      have HT := Lib.hid hT
      obtain ⟨x, hx0⟩ : ∃ x, x = wrap64 (valB ((part S p 2).drop (j + 1))) := ⟨_, rfl⟩
      rw [← hx0] at hst ⊢
      obtain ⟨y, hy⟩ : ∃ y, wrap64 (x * 256) = y := ⟨_, rfl⟩
      rw [hy] at hst
      obtain ⟨z1, z2⟩ := hz2
      have e0 : ((p : Int) + j).toNat = p + j := by omega
      clear hz hT hx0 hg hvr ht 
      go_wp2_with fail
      exact ⟨⟨j, by omega, rfl, congrArg (Value.int .i64) (by first | exact hst.trans HT.out | exact HT.out)⟩, by simp [intOf]⟩
    | zero =>
      rw [List.drop_zero, HX.out]
      have hcell := HC.out (p + 1) (by omega)
      have hg := VP.out 1 (by decide)
      rw [← hg, ← HT0.out] at hcell
      have e0 : ((p : Int) + 2 - 1).toNat = p + 1 := by omega
      clear hg
      go_wp2_with fail
      go_ret2
      exact ⟨rfl, HB1.out⟩
set_option maxRecDepth 100000 in
set_option maxHeartbeats 1000000 in
theorem refLoad_46_1 (a g : Nat) (S : List Int) (mx bd : Int) (p : Nat) (w : World) (h : RMem a g S mx bd w) (hp : p + 2 ≤ S.length) (ht : 128 ≤ (part S p 2).getD 1 0) :
    Calls Try.prog 32 #[.pointer (some ⟨a, 0, none⟩), .int .i64 46, .int .i64 p] w fun e w' => e = .returned (.tuple #[.int .i64 (loadV 2 127 true (part S p 2)), .int .i64 0]) ∧ Below w.heap.size w w' := by
  have hval : loadV 2 127 true (part S p 2) = valB (part S p 2) - 65536 + 4294967296 := by
    simp only [loadV, Bool.true_and, decide_eq_true_eq, Nat.reduceSub, Int.reducePow]
    rw [if_pos ht]
    rfl
  rw [hval]
  have hlen := h.len
  have hbs := part_byte h.byte p 2
  have hpl : (part S p 2).length = 2 := part_length hp
  have hvr := valB_range hbs
  rw [hpl] at hvr
  simp only [Int.reducePow] at hvr
  obtain ⟨tb1, tb2⟩ := top_bytes hpl (by decide) hbs
  simp only [Nat.reduceSub, Int.reducePow] at tb1 tb2
  obtain ⟨t, ht0⟩ : ∃ t, t = (part S p 2).getD 1 0 := ⟨_, rfl⟩
  rw [← ht0] at tb1 ht
  obtain ⟨Y, hY⟩ : ∃ Y, Y = valB ((part S p 2).take 1) := ⟨_, rfl⟩
  rw [← hY] at tb1 tb2
  have HT0 := Lib.hid ht0
  obtain ⟨X, hX⟩ : ∃ X, X = valB (part S p 2) := ⟨_, rfl⟩
  have hx : wrap64 X = X := by rw [← hX] at hvr; unfold wrap64; omega
  rw [← hX] at hvr tb1 ⊢
  have HX : Hid (wrap64 (valB (part S p 2)) = X) := Lib.hid (by rw [← hX]; exact hx)
  have HI : Hid (∀ w', RMem a g S mx bd w' → Calls Try.prog 44 #[.pointer (some ⟨a, 0, none⟩), .int .i64 p, .int .i64 2] w' fun e w2 => e = .returned (.bool true) ∧ w' = w2) := Lib.hid fun w' h' => by
    have hi : inB S.length p 2 = true := decide_eq_true (by omega)
    exact hi ▸ refIn_any a _ _ _ p 2 (by omega) w' h'.slot
  have HWD : Hid (∀ w, Calls Try.prog 19 #[.int .i64 46] w fun e w' => e = .returned (.tuple #[.int .i64 2, .int .i64 127, .bool false]) ∧ Below w.heap.size w w') := Lib.hid fun w => refWidth_any 46 w
  have H := Lib.hid h
  have VS := Lib.hid (fun j (hj : j < 2) => valB_step (l := part S p 2) (j := j) (by omega))
  have VP := Lib.hid (fun i (hi : i < 2) => part_get (S := S) (at' := p) (k := 2) (i := i) hi)
  have BY := Lib.hid h.byte
  have tb3 : 32768 ≤ X := by omega
  clear h hval hpl hbs hX hx hY ht0 tb1 tb2
  go_enter Try.func32, Try.ntmps32
  go_wp2_with (first
    | (go_at_call 19; refine (HWD.out _).mono ?_; rintro e w1 ⟨rfl, hb1⟩)
    | (go_at_call 44; refine (HI.out _ (H.out.kept (Kept.of_below (F := fun _ => False) hb1) id id)).mono ?_; rintro e w2 ⟨rfl, rfl⟩))
  have h1 := H.out.kept (Kept.of_below (F := fun _ => False) hb1) id id
  have hslot := h1.slot
  have HC : Hid (∀ i, i < S.length → w1.cell? ⟨g, i, none⟩ = some (.int .u8 (S.getD i 0))) := Lib.hid fun i hi => h1.cell hi
  have HB1 := Lib.hid hb1
  clear h1 hb1
  go_loop [11, 12] (fun vv iv => ∃ m : Nat, m ≤ 2 ∧ iv = .int .i64 ((m : Int) - 1) ∧ vv = .int .i64 (wrap64 (valB ((part S p 2).drop m)))) (fun _ iv => (intOf iv + 1).toNat)
  case atStart => exact ⟨2, by decide, rfl, congrArg (Value.int .i64) (by rw [List.drop_of_length_le (by rw [part_length hp]; exact Nat.le_refl _)]; simp [valB, wrap64])⟩
  case round =>
    obtain ⟨m, hm, rfl, rfl⟩ := hrel
    cases m with
    | succ j =>
      rw [show (((j + 1 : Nat) : Int) - 1) = (j : Int) by omega]
      have hst := VS.out j (by omega)
      have hg := VP.out j (by omega)
      have hcell := HC.out (p + j) (by omega)
      rw [← hg] at hcell
      obtain ⟨z, hz⟩ : ∃ z, z = (part S p 2).getD j 0 := ⟨_, rfl⟩
      obtain ⟨T, hT⟩ : ∃ T, T = wrap64 (valB ((part S p 2).drop j)) := ⟨_, rfl⟩
      have hz2 : 0 ≤ z ∧ z ≤ 255 := by
        rw [hz, hg]
        refine BY.out _ ?_
        rw [List.getD_eq_getElem?_getD, List.getElem?_eq_getElem (by omega)]
        exact List.getElem_mem _
      rw [← hz] at hst hcell
      rw [← hT] at hst
      have HT := Lib.hid hT
      obtain ⟨x, hx0⟩ : ∃ x, x = wrap64 (valB ((part S p 2).drop (j + 1))) := ⟨_, rfl⟩
      rw [← hx0] at hst ⊢
      obtain ⟨y, hy⟩ : ∃ y, wrap64 (x * 256) = y := ⟨_, rfl⟩
      rw [hy] at hst
      obtain ⟨z1, z2⟩ := hz2
      have e0 : ((p : Int) + j).toNat = p + j := by omega
      clear hz hT hx0 hg hvr ht tb3 
      go_wp2_with fail
      exact ⟨⟨j, by omega, rfl, congrArg (Value.int .i64) (by first | exact hst.trans HT.out | exact HT.out)⟩, by simp [intOf]⟩
    | zero =>
      rw [List.drop_zero, HX.out]
      have hcell := HC.out (p + 1) (by omega)
      have hg := VP.out 1 (by decide)
      rw [← hg, ← HT0.out] at hcell
      have e0 : ((p : Int) + 2 - 1).toNat = p + 1 := by omega
      clear hg
      go_wp2_with fail
      refine wp_loop_rounds 3 ?_
      rw [rounds_succ]
      go_wp2_with fail
      rw [rounds_succ]
      go_wp2_with fail
      rw [rounds_succ]
      go_wp2_with fail
      go_ret2
      exact ⟨rfl, HB1.out⟩
set_option maxRecDepth 100000 in
set_option maxHeartbeats 1000000 in
theorem refLoad_47 (a g : Nat) (S : List Int) (mx bd : Int) (p : Nat) (w : World) (h : RMem a g S mx bd w) (hp : p + 2 ≤ S.length) :
    Calls Try.prog 32 #[.pointer (some ⟨a, 0, none⟩), .int .i64 47, .int .i64 p] w fun e w' => e = .returned (.tuple #[.int .i64 (loadV 2 127 false (part S p 2)), .int .i64 0]) ∧ Below w.heap.size w w' := by
  have hval : loadV 2 127 false (part S p 2) = wrap64 (valB (part S p 2)) := by
    simp only [loadV, Bool.false_and, Nat.reduceSub, Int.reducePow]
    rfl
  rw [hval]
  have hlen := h.len
  have hbs := part_byte h.byte p 2
  have hpl : (part S p 2).length = 2 := part_length hp
  have hvr := valB_range hbs
  rw [hpl] at hvr
  simp only [Int.reducePow] at hvr
  obtain ⟨X, hX⟩ : ∃ X, X = valB (part S p 2) := ⟨_, rfl⟩
  have hx : wrap64 X = X := by rw [← hX] at hvr; unfold wrap64; omega
  rw [← hX] at hvr ⊢
  rw [hx]
  have HX : Hid (wrap64 (valB (part S p 2)) = X) := Lib.hid (by rw [← hX]; exact hx)
  have HI : Hid (∀ w', RMem a g S mx bd w' → Calls Try.prog 44 #[.pointer (some ⟨a, 0, none⟩), .int .i64 p, .int .i64 2] w' fun e w2 => e = .returned (.bool true) ∧ w' = w2) := Lib.hid fun w' h' => by
    have hi : inB S.length p 2 = true := decide_eq_true (by omega)
    exact hi ▸ refIn_any a _ _ _ p 2 (by omega) w' h'.slot
  have HWD : Hid (∀ w, Calls Try.prog 19 #[.int .i64 47] w fun e w' => e = .returned (.tuple #[.int .i64 2, .int .i64 127, .bool false]) ∧ Below w.heap.size w w') := Lib.hid fun w => refWidth_any 47 w
  have H := Lib.hid h
  have VS := Lib.hid (fun j (hj : j < 2) => valB_step (l := part S p 2) (j := j) (by omega))
  have VP := Lib.hid (fun i (hi : i < 2) => part_get (S := S) (at' := p) (k := 2) (i := i) hi)
  have BY := Lib.hid h.byte
  clear h hval hpl hbs hX hx 
  go_enter Try.func32, Try.ntmps32
  go_wp2_with (first
    | (go_at_call 19; refine (HWD.out _).mono ?_; rintro e w1 ⟨rfl, hb1⟩)
    | (go_at_call 44; refine (HI.out _ (H.out.kept (Kept.of_below (F := fun _ => False) hb1) id id)).mono ?_; rintro e w2 ⟨rfl, rfl⟩))
  have h1 := H.out.kept (Kept.of_below (F := fun _ => False) hb1) id id
  have hslot := h1.slot
  have HC : Hid (∀ i, i < S.length → w1.cell? ⟨g, i, none⟩ = some (.int .u8 (S.getD i 0))) := Lib.hid fun i hi => h1.cell hi
  have HB1 := Lib.hid hb1
  clear h1 hb1
  go_loop [11, 12] (fun vv iv => ∃ m : Nat, m ≤ 2 ∧ iv = .int .i64 ((m : Int) - 1) ∧ vv = .int .i64 (wrap64 (valB ((part S p 2).drop m)))) (fun _ iv => (intOf iv + 1).toNat)
  case atStart => exact ⟨2, by decide, rfl, congrArg (Value.int .i64) (by rw [List.drop_of_length_le (by rw [part_length hp]; exact Nat.le_refl _)]; simp [valB, wrap64])⟩
  case round =>
    obtain ⟨m, hm, rfl, rfl⟩ := hrel
    cases m with
    | succ j =>
      rw [show (((j + 1 : Nat) : Int) - 1) = (j : Int) by omega]
      have hst := VS.out j (by omega)
      have hg := VP.out j (by omega)
      have hcell := HC.out (p + j) (by omega)
      rw [← hg] at hcell
      obtain ⟨z, hz⟩ : ∃ z, z = (part S p 2).getD j 0 := ⟨_, rfl⟩
      obtain ⟨T, hT⟩ : ∃ T, T = wrap64 (valB ((part S p 2).drop j)) := ⟨_, rfl⟩
      have hz2 : 0 ≤ z ∧ z ≤ 255 := by
        rw [hz, hg]
        refine BY.out _ ?_
        rw [List.getD_eq_getElem?_getD, List.getElem?_eq_getElem (by omega)]
        exact List.getElem_mem _
      rw [← hz] at hst hcell
      rw [← hT] at hst
      have HT := Lib.hid hT
      obtain ⟨x, hx0⟩ : ∃ x, x = wrap64 (valB ((part S p 2).drop (j + 1))) := ⟨_, rfl⟩
      rw [← hx0] at hst ⊢
      obtain ⟨y, hy⟩ : ∃ y, wrap64 (x * 256) = y := ⟨_, rfl⟩
      rw [hy] at hst
      obtain ⟨z1, z2⟩ := hz2
      have e0 : ((p : Int) + j).toNat = p + j := by omega
      clear hz hT hx0 hg hvr 
      go_wp2_with fail
      exact ⟨⟨j, by omega, rfl, congrArg (Value.int .i64) (by first | exact hst.trans HT.out | exact HT.out)⟩, by simp [intOf]⟩
    | zero =>
      rw [List.drop_zero, HX.out]
      go_wp2_with fail
      go_ret2
      exact ⟨rfl, HB1.out⟩
set_option maxRecDepth 100000 in
set_option maxHeartbeats 1000000 in
theorem refLoad_48_0 (a g : Nat) (S : List Int) (mx bd : Int) (p : Nat) (w : World) (h : RMem a g S mx bd w) (hp : p + 1 ≤ S.length) (ht : (part S p 1).getD 0 0 < 128) :
    Calls Try.prog 32 #[.pointer (some ⟨a, 0, none⟩), .int .i64 48, .int .i64 p] w fun e w' => e = .returned (.tuple #[.int .i64 (loadV 1 126 true (part S p 1)), .int .i64 0]) ∧ Below w.heap.size w w' := by
  have hval : loadV 1 126 true (part S p 1) = wrap64 (valB (part S p 1)) := by
    simp only [loadV, Bool.true_and, decide_eq_true_eq, Nat.reduceSub, Int.reducePow]
    rw [if_neg (by omega)]
  rw [hval]
  have hlen := h.len
  have hbs := part_byte h.byte p 1
  have hpl : (part S p 1).length = 1 := part_length hp
  have hvr := valB_range hbs
  rw [hpl] at hvr
  simp only [Int.reducePow] at hvr
  obtain ⟨tb1, tb2⟩ := top_bytes hpl (by decide) hbs
  simp only [Nat.reduceSub, Int.reducePow] at tb1 tb2
  obtain ⟨t, ht0⟩ : ∃ t, t = (part S p 1).getD 0 0 := ⟨_, rfl⟩
  rw [← ht0] at tb1 ht
  obtain ⟨Y, hY⟩ : ∃ Y, Y = valB ((part S p 1).take 0) := ⟨_, rfl⟩
  rw [← hY] at tb1 tb2
  have HT0 := Lib.hid ht0
  obtain ⟨X, hX⟩ : ∃ X, X = valB (part S p 1) := ⟨_, rfl⟩
  have hx : wrap64 X = X := by rw [← hX] at hvr; unfold wrap64; omega
  rw [← hX] at hvr tb1 ⊢
  rw [hx]
  have HX : Hid (wrap64 (valB (part S p 1)) = X) := Lib.hid (by rw [← hX]; exact hx)
  have HI : Hid (∀ w', RMem a g S mx bd w' → Calls Try.prog 44 #[.pointer (some ⟨a, 0, none⟩), .int .i64 p, .int .i64 1] w' fun e w2 => e = .returned (.bool true) ∧ w' = w2) := Lib.hid fun w' h' => by
    have hi : inB S.length p 1 = true := decide_eq_true (by omega)
    exact hi ▸ refIn_any a _ _ _ p 1 (by omega) w' h'.slot
  have HWD : Hid (∀ w, Calls Try.prog 19 #[.int .i64 48] w fun e w' => e = .returned (.tuple #[.int .i64 1, .int .i64 126, .bool false]) ∧ Below w.heap.size w w') := Lib.hid fun w => refWidth_any 48 w
  have H := Lib.hid h
  have VS := Lib.hid (fun j (hj : j < 1) => valB_step (l := part S p 1) (j := j) (by omega))
  have VP := Lib.hid (fun i (hi : i < 1) => part_get (S := S) (at' := p) (k := 1) (i := i) hi)
  have BY := Lib.hid h.byte
  clear h hval hpl hbs hX hx hY ht0 tb1 tb2
  go_enter Try.func32, Try.ntmps32
  go_wp2_with (first
    | (go_at_call 19; refine (HWD.out _).mono ?_; rintro e w1 ⟨rfl, hb1⟩)
    | (go_at_call 44; refine (HI.out _ (H.out.kept (Kept.of_below (F := fun _ => False) hb1) id id)).mono ?_; rintro e w2 ⟨rfl, rfl⟩))
  have h1 := H.out.kept (Kept.of_below (F := fun _ => False) hb1) id id
  have hslot := h1.slot
  have HC : Hid (∀ i, i < S.length → w1.cell? ⟨g, i, none⟩ = some (.int .u8 (S.getD i 0))) := Lib.hid fun i hi => h1.cell hi
  have HB1 := Lib.hid hb1
  clear h1 hb1
  go_loop [11, 12] (fun vv iv => ∃ m : Nat, m ≤ 1 ∧ iv = .int .i64 ((m : Int) - 1) ∧ vv = .int .i64 (wrap64 (valB ((part S p 1).drop m)))) (fun _ iv => (intOf iv + 1).toNat)
  case atStart => exact ⟨1, by decide, rfl, congrArg (Value.int .i64) (by rw [List.drop_of_length_le (by rw [part_length hp]; exact Nat.le_refl _)]; simp [valB, wrap64])⟩
  case round =>
    obtain ⟨m, hm, rfl, rfl⟩ := hrel
    cases m with
    | succ j =>
      rw [show (((j + 1 : Nat) : Int) - 1) = (j : Int) by omega]
      have hst := VS.out j (by omega)
      have hg := VP.out j (by omega)
      have hcell := HC.out (p + j) (by omega)
      rw [← hg] at hcell
      obtain ⟨z, hz⟩ : ∃ z, z = (part S p 1).getD j 0 := ⟨_, rfl⟩
      obtain ⟨T, hT⟩ : ∃ T, T = wrap64 (valB ((part S p 1).drop j)) := ⟨_, rfl⟩
      have hz2 : 0 ≤ z ∧ z ≤ 255 := by
        rw [hz, hg]
        refine BY.out _ ?_
        rw [List.getD_eq_getElem?_getD, List.getElem?_eq_getElem (by omega)]
        exact List.getElem_mem _
      rw [← hz] at hst hcell
      rw [← hT] at hst
      have HT := Lib.hid hT
      obtain ⟨x, hx0⟩ : ∃ x, x = wrap64 (valB ((part S p 1).drop (j + 1))) := ⟨_, rfl⟩
      rw [← hx0] at hst ⊢
      obtain ⟨y, hy⟩ : ∃ y, wrap64 (x * 256) = y := ⟨_, rfl⟩
      rw [hy] at hst
      obtain ⟨z1, z2⟩ := hz2
      have e0 : ((p : Int) + j).toNat = p + j := by omega
      clear hz hT hx0 hg hvr ht 
      go_wp2_with fail
      exact ⟨⟨j, by omega, rfl, congrArg (Value.int .i64) (by first | exact hst.trans HT.out | exact HT.out)⟩, by simp [intOf]⟩
    | zero =>
      rw [List.drop_zero, HX.out]
      have hcell := HC.out (p + 0) (by omega)
      have hg := VP.out 0 (by decide)
      rw [← hg, ← HT0.out, Nat.add_zero] at hcell
      have e0 : ((p : Int) + 1 - 1).toNat = p + 0 := by omega
      clear hg
      go_wp2_with fail
      go_ret2
      exact ⟨rfl, HB1.out⟩
set_option maxRecDepth 100000 in
set_option maxHeartbeats 1000000 in
theorem refLoad_48_1 (a g : Nat) (S : List Int) (mx bd : Int) (p : Nat) (w : World) (h : RMem a g S mx bd w) (hp : p + 1 ≤ S.length) (ht : 128 ≤ (part S p 1).getD 0 0) :
    Calls Try.prog 32 #[.pointer (some ⟨a, 0, none⟩), .int .i64 48, .int .i64 p] w fun e w' => e = .returned (.tuple #[.int .i64 (loadV 1 126 true (part S p 1)), .int .i64 0]) ∧ Below w.heap.size w w' := by
  have hval : loadV 1 126 true (part S p 1) = valB (part S p 1) - 256 := by
    simp only [loadV, Bool.true_and, decide_eq_true_eq, Nat.reduceSub, Int.reducePow]
    rw [if_pos ht]
    rfl
  rw [hval]
  have hlen := h.len
  have hbs := part_byte h.byte p 1
  have hpl : (part S p 1).length = 1 := part_length hp
  have hvr := valB_range hbs
  rw [hpl] at hvr
  simp only [Int.reducePow] at hvr
  obtain ⟨tb1, tb2⟩ := top_bytes hpl (by decide) hbs
  simp only [Nat.reduceSub, Int.reducePow] at tb1 tb2
  obtain ⟨t, ht0⟩ : ∃ t, t = (part S p 1).getD 0 0 := ⟨_, rfl⟩
  rw [← ht0] at tb1 ht
  obtain ⟨Y, hY⟩ : ∃ Y, Y = valB ((part S p 1).take 0) := ⟨_, rfl⟩
  rw [← hY] at tb1 tb2
  have HT0 := Lib.hid ht0
  obtain ⟨X, hX⟩ : ∃ X, X = valB (part S p 1) := ⟨_, rfl⟩
  have hx : wrap64 X = X := by rw [← hX] at hvr; unfold wrap64; omega
  rw [← hX] at hvr tb1 ⊢
  have HX : Hid (wrap64 (valB (part S p 1)) = X) := Lib.hid (by rw [← hX]; exact hx)
  have HI : Hid (∀ w', RMem a g S mx bd w' → Calls Try.prog 44 #[.pointer (some ⟨a, 0, none⟩), .int .i64 p, .int .i64 1] w' fun e w2 => e = .returned (.bool true) ∧ w' = w2) := Lib.hid fun w' h' => by
    have hi : inB S.length p 1 = true := decide_eq_true (by omega)
    exact hi ▸ refIn_any a _ _ _ p 1 (by omega) w' h'.slot
  have HWD : Hid (∀ w, Calls Try.prog 19 #[.int .i64 48] w fun e w' => e = .returned (.tuple #[.int .i64 1, .int .i64 126, .bool false]) ∧ Below w.heap.size w w') := Lib.hid fun w => refWidth_any 48 w
  have H := Lib.hid h
  have VS := Lib.hid (fun j (hj : j < 1) => valB_step (l := part S p 1) (j := j) (by omega))
  have VP := Lib.hid (fun i (hi : i < 1) => part_get (S := S) (at' := p) (k := 1) (i := i) hi)
  have BY := Lib.hid h.byte
  have tb3 : 128 ≤ X := by omega
  clear h hval hpl hbs hX hx hY ht0 tb1 tb2
  go_enter Try.func32, Try.ntmps32
  go_wp2_with (first
    | (go_at_call 19; refine (HWD.out _).mono ?_; rintro e w1 ⟨rfl, hb1⟩)
    | (go_at_call 44; refine (HI.out _ (H.out.kept (Kept.of_below (F := fun _ => False) hb1) id id)).mono ?_; rintro e w2 ⟨rfl, rfl⟩))
  have h1 := H.out.kept (Kept.of_below (F := fun _ => False) hb1) id id
  have hslot := h1.slot
  have HC : Hid (∀ i, i < S.length → w1.cell? ⟨g, i, none⟩ = some (.int .u8 (S.getD i 0))) := Lib.hid fun i hi => h1.cell hi
  have HB1 := Lib.hid hb1
  clear h1 hb1
  go_loop [11, 12] (fun vv iv => ∃ m : Nat, m ≤ 1 ∧ iv = .int .i64 ((m : Int) - 1) ∧ vv = .int .i64 (wrap64 (valB ((part S p 1).drop m)))) (fun _ iv => (intOf iv + 1).toNat)
  case atStart => exact ⟨1, by decide, rfl, congrArg (Value.int .i64) (by rw [List.drop_of_length_le (by rw [part_length hp]; exact Nat.le_refl _)]; simp [valB, wrap64])⟩
  case round =>
    obtain ⟨m, hm, rfl, rfl⟩ := hrel
    cases m with
    | succ j =>
      rw [show (((j + 1 : Nat) : Int) - 1) = (j : Int) by omega]
      have hst := VS.out j (by omega)
      have hg := VP.out j (by omega)
      have hcell := HC.out (p + j) (by omega)
      rw [← hg] at hcell
      obtain ⟨z, hz⟩ : ∃ z, z = (part S p 1).getD j 0 := ⟨_, rfl⟩
      obtain ⟨T, hT⟩ : ∃ T, T = wrap64 (valB ((part S p 1).drop j)) := ⟨_, rfl⟩
      have hz2 : 0 ≤ z ∧ z ≤ 255 := by
        rw [hz, hg]
        refine BY.out _ ?_
        rw [List.getD_eq_getElem?_getD, List.getElem?_eq_getElem (by omega)]
        exact List.getElem_mem _
      rw [← hz] at hst hcell
      rw [← hT] at hst
      have HT := Lib.hid hT
      obtain ⟨x, hx0⟩ : ∃ x, x = wrap64 (valB ((part S p 1).drop (j + 1))) := ⟨_, rfl⟩
      rw [← hx0] at hst ⊢
      obtain ⟨y, hy⟩ : ∃ y, wrap64 (x * 256) = y := ⟨_, rfl⟩
      rw [hy] at hst
      obtain ⟨z1, z2⟩ := hz2
      have e0 : ((p : Int) + j).toNat = p + j := by omega
      clear hz hT hx0 hg hvr ht tb3 
      go_wp2_with fail
      exact ⟨⟨j, by omega, rfl, congrArg (Value.int .i64) (by first | exact hst.trans HT.out | exact HT.out)⟩, by simp [intOf]⟩
    | zero =>
      rw [List.drop_zero, HX.out]
      have hcell := HC.out (p + 0) (by omega)
      have hg := VP.out 0 (by decide)
      rw [← hg, ← HT0.out, Nat.add_zero] at hcell
      have e0 : ((p : Int) + 1 - 1).toNat = p + 0 := by omega
      clear hg
      go_wp2_with fail
      refine wp_loop_rounds 2 ?_
      rw [rounds_succ]
      go_wp2_with fail
      rw [rounds_succ]
      go_wp2_with fail
      go_ret2
      exact ⟨rfl, HB1.out⟩
set_option maxRecDepth 100000 in
set_option maxHeartbeats 1000000 in
theorem refLoad_49 (a g : Nat) (S : List Int) (mx bd : Int) (p : Nat) (w : World) (h : RMem a g S mx bd w) (hp : p + 1 ≤ S.length) :
    Calls Try.prog 32 #[.pointer (some ⟨a, 0, none⟩), .int .i64 49, .int .i64 p] w fun e w' => e = .returned (.tuple #[.int .i64 (loadV 1 126 false (part S p 1)), .int .i64 0]) ∧ Below w.heap.size w w' := by
  have hval : loadV 1 126 false (part S p 1) = wrap64 (valB (part S p 1)) := by
    simp only [loadV, Bool.false_and, Nat.reduceSub, Int.reducePow]
    rfl
  rw [hval]
  have hlen := h.len
  have hbs := part_byte h.byte p 1
  have hpl : (part S p 1).length = 1 := part_length hp
  have hvr := valB_range hbs
  rw [hpl] at hvr
  simp only [Int.reducePow] at hvr
  obtain ⟨X, hX⟩ : ∃ X, X = valB (part S p 1) := ⟨_, rfl⟩
  have hx : wrap64 X = X := by rw [← hX] at hvr; unfold wrap64; omega
  rw [← hX] at hvr ⊢
  rw [hx]
  have HX : Hid (wrap64 (valB (part S p 1)) = X) := Lib.hid (by rw [← hX]; exact hx)
  have HI : Hid (∀ w', RMem a g S mx bd w' → Calls Try.prog 44 #[.pointer (some ⟨a, 0, none⟩), .int .i64 p, .int .i64 1] w' fun e w2 => e = .returned (.bool true) ∧ w' = w2) := Lib.hid fun w' h' => by
    have hi : inB S.length p 1 = true := decide_eq_true (by omega)
    exact hi ▸ refIn_any a _ _ _ p 1 (by omega) w' h'.slot
  have HWD : Hid (∀ w, Calls Try.prog 19 #[.int .i64 49] w fun e w' => e = .returned (.tuple #[.int .i64 1, .int .i64 126, .bool false]) ∧ Below w.heap.size w w') := Lib.hid fun w => refWidth_any 49 w
  have H := Lib.hid h
  have VS := Lib.hid (fun j (hj : j < 1) => valB_step (l := part S p 1) (j := j) (by omega))
  have VP := Lib.hid (fun i (hi : i < 1) => part_get (S := S) (at' := p) (k := 1) (i := i) hi)
  have BY := Lib.hid h.byte
  clear h hval hpl hbs hX hx 
  go_enter Try.func32, Try.ntmps32
  go_wp2_with (first
    | (go_at_call 19; refine (HWD.out _).mono ?_; rintro e w1 ⟨rfl, hb1⟩)
    | (go_at_call 44; refine (HI.out _ (H.out.kept (Kept.of_below (F := fun _ => False) hb1) id id)).mono ?_; rintro e w2 ⟨rfl, rfl⟩))
  have h1 := H.out.kept (Kept.of_below (F := fun _ => False) hb1) id id
  have hslot := h1.slot
  have HC : Hid (∀ i, i < S.length → w1.cell? ⟨g, i, none⟩ = some (.int .u8 (S.getD i 0))) := Lib.hid fun i hi => h1.cell hi
  have HB1 := Lib.hid hb1
  clear h1 hb1
  go_loop [11, 12] (fun vv iv => ∃ m : Nat, m ≤ 1 ∧ iv = .int .i64 ((m : Int) - 1) ∧ vv = .int .i64 (wrap64 (valB ((part S p 1).drop m)))) (fun _ iv => (intOf iv + 1).toNat)
  case atStart => exact ⟨1, by decide, rfl, congrArg (Value.int .i64) (by rw [List.drop_of_length_le (by rw [part_length hp]; exact Nat.le_refl _)]; simp [valB, wrap64])⟩
  case round =>
    obtain ⟨m, hm, rfl, rfl⟩ := hrel
    cases m with
    | succ j =>
      rw [show (((j + 1 : Nat) : Int) - 1) = (j : Int) by omega]
      have hst := VS.out j (by omega)
      have hg := VP.out j (by omega)
      have hcell := HC.out (p + j) (by omega)
      rw [← hg] at hcell
      obtain ⟨z, hz⟩ : ∃ z, z = (part S p 1).getD j 0 := ⟨_, rfl⟩
      obtain ⟨T, hT⟩ : ∃ T, T = wrap64 (valB ((part S p 1).drop j)) := ⟨_, rfl⟩
      have hz2 : 0 ≤ z ∧ z ≤ 255 := by
        rw [hz, hg]
        refine BY.out _ ?_
        rw [List.getD_eq_getElem?_getD, List.getElem?_eq_getElem (by omega)]
        exact List.getElem_mem _
      rw [← hz] at hst hcell
      rw [← hT] at hst
      have HT := Lib.hid hT
      obtain ⟨x, hx0⟩ : ∃ x, x = wrap64 (valB ((part S p 1).drop (j + 1))) := ⟨_, rfl⟩
      rw [← hx0] at hst ⊢
      obtain ⟨y, hy⟩ : ∃ y, wrap64 (x * 256) = y := ⟨_, rfl⟩
      rw [hy] at hst
      obtain ⟨z1, z2⟩ := hz2
      have e0 : ((p : Int) + j).toNat = p + j := by omega
      clear hz hT hx0 hg hvr 
      go_wp2_with fail
      exact ⟨⟨j, by omega, rfl, congrArg (Value.int .i64) (by first | exact hst.trans HT.out | exact HT.out)⟩, by simp [intOf]⟩
    | zero =>
      rw [List.drop_zero, HX.out]
      go_wp2_with fail
      go_ret2
      exact ⟨rfl, HB1.out⟩
set_option maxRecDepth 100000 in
set_option maxHeartbeats 1000000 in
theorem refLoad_50_0 (a g : Nat) (S : List Int) (mx bd : Int) (p : Nat) (w : World) (h : RMem a g S mx bd w) (hp : p + 2 ≤ S.length) (ht : (part S p 2).getD 1 0 < 128) :
    Calls Try.prog 32 #[.pointer (some ⟨a, 0, none⟩), .int .i64 50, .int .i64 p] w fun e w' => e = .returned (.tuple #[.int .i64 (loadV 2 126 true (part S p 2)), .int .i64 0]) ∧ Below w.heap.size w w' := by
  have hval : loadV 2 126 true (part S p 2) = wrap64 (valB (part S p 2)) := by
    simp only [loadV, Bool.true_and, decide_eq_true_eq, Nat.reduceSub, Int.reducePow]
    rw [if_neg (by omega)]
  rw [hval]
  have hlen := h.len
  have hbs := part_byte h.byte p 2
  have hpl : (part S p 2).length = 2 := part_length hp
  have hvr := valB_range hbs
  rw [hpl] at hvr
  simp only [Int.reducePow] at hvr
  obtain ⟨tb1, tb2⟩ := top_bytes hpl (by decide) hbs
  simp only [Nat.reduceSub, Int.reducePow] at tb1 tb2
  obtain ⟨t, ht0⟩ : ∃ t, t = (part S p 2).getD 1 0 := ⟨_, rfl⟩
  rw [← ht0] at tb1 ht
  obtain ⟨Y, hY⟩ : ∃ Y, Y = valB ((part S p 2).take 1) := ⟨_, rfl⟩
  rw [← hY] at tb1 tb2
  have HT0 := Lib.hid ht0
  obtain ⟨X, hX⟩ : ∃ X, X = valB (part S p 2) := ⟨_, rfl⟩
  have hx : wrap64 X = X := by rw [← hX] at hvr; unfold wrap64; omega
  rw [← hX] at hvr tb1 ⊢
  rw [hx]
  have HX : Hid (wrap64 (valB (part S p 2)) = X) := Lib.hid (by rw [← hX]; exact hx)
  have HI : Hid (∀ w', RMem a g S mx bd w' → Calls Try.prog 44 #[.pointer (some ⟨a, 0, none⟩), .int .i64 p, .int .i64 2] w' fun e w2 => e = .returned (.bool true) ∧ w' = w2) := Lib.hid fun w' h' => by
    have hi : inB S.length p 2 = true := decide_eq_true (by omega)
    exact hi ▸ refIn_any a _ _ _ p 2 (by omega) w' h'.slot
  have HWD : Hid (∀ w, Calls Try.prog 19 #[.int .i64 50] w fun e w' => e = .returned (.tuple #[.int .i64 2, .int .i64 126, .bool false]) ∧ Below w.heap.size w w') := Lib.hid fun w => refWidth_any 50 w
  have H := Lib.hid h
  have VS := Lib.hid (fun j (hj : j < 2) => valB_step (l := part S p 2) (j := j) (by omega))
  have VP := Lib.hid (fun i (hi : i < 2) => part_get (S := S) (at' := p) (k := 2) (i := i) hi)
  have BY := Lib.hid h.byte
  clear h hval hpl hbs hX hx hY ht0 tb1 tb2
  go_enter Try.func32, Try.ntmps32
  go_wp2_with (first
    | (go_at_call 19; refine (HWD.out _).mono ?_; rintro e w1 ⟨rfl, hb1⟩)
    | (go_at_call 44; refine (HI.out _ (H.out.kept (Kept.of_below (F := fun _ => False) hb1) id id)).mono ?_; rintro e w2 ⟨rfl, rfl⟩))
  have h1 := H.out.kept (Kept.of_below (F := fun _ => False) hb1) id id
  have hslot := h1.slot
  have HC : Hid (∀ i, i < S.length → w1.cell? ⟨g, i, none⟩ = some (.int .u8 (S.getD i 0))) := Lib.hid fun i hi => h1.cell hi
  have HB1 := Lib.hid hb1
  clear h1 hb1
  go_loop [11, 12] (fun vv iv => ∃ m : Nat, m ≤ 2 ∧ iv = .int .i64 ((m : Int) - 1) ∧ vv = .int .i64 (wrap64 (valB ((part S p 2).drop m)))) (fun _ iv => (intOf iv + 1).toNat)
  case atStart => exact ⟨2, by decide, rfl, congrArg (Value.int .i64) (by rw [List.drop_of_length_le (by rw [part_length hp]; exact Nat.le_refl _)]; simp [valB, wrap64])⟩
  case round =>
    obtain ⟨m, hm, rfl, rfl⟩ := hrel
    cases m with
    | succ j =>
      rw [show (((j + 1 : Nat) : Int) - 1) = (j : Int) by omega]
      have hst := VS.out j (by omega)
      have hg := VP.out j (by omega)
      have hcell := HC.out (p + j) (by omega)
      rw [← hg] at hcell
      obtain ⟨z, hz⟩ : ∃ z, z = (part S p 2).getD j 0 := ⟨_, rfl⟩
      obtain ⟨T, hT⟩ : ∃ T, T = wrap64 (valB ((part S p 2).drop j)) := ⟨_, rfl⟩
      have hz2 : 0 ≤ z ∧ z ≤ 255 := by
        rw [hz, hg]
        refine BY.out _ ?_
        rw [List.getD_eq_getElem?_getD, List.getElem?_eq_getElem (by omega)]
        exact List.getElem_mem _
      rw [← hz] at hst hcell
      rw [← hT] at hst
      have HT := Lib.hid hT
      obtain ⟨x, hx0⟩ : ∃ x, x = wrap64 (valB ((part S p 2).drop (j + 1))) := ⟨_, rfl⟩
      rw [← hx0] at hst ⊢
      obtain ⟨y, hy⟩ : ∃ y, wrap64 (x * 256) = y := ⟨_, rfl⟩
      rw [hy] at hst
      obtain ⟨z1, z2⟩ := hz2
      have e0 : ((p : Int) + j).toNat = p + j := by omega
      clear hz hT hx0 hg hvr ht 
      go_wp2_with fail
      exact ⟨⟨j, by omega, rfl, congrArg (Value.int .i64) (by first | exact hst.trans HT.out | exact HT.out)⟩, by simp [intOf]⟩
    | zero =>
      rw [List.drop_zero, HX.out]
      have hcell := HC.out (p + 1) (by omega)
      have hg := VP.out 1 (by decide)
      rw [← hg, ← HT0.out] at hcell
      have e0 : ((p : Int) + 2 - 1).toNat = p + 1 := by omega
      clear hg
      go_wp2_with fail
      go_ret2
      exact ⟨rfl, HB1.out⟩
set_option maxRecDepth 100000 in
set_option maxHeartbeats 1000000 in
theorem refLoad_50_1 (a g : Nat) (S : List Int) (mx bd : Int) (p : Nat) (w : World) (h : RMem a g S mx bd w) (hp : p + 2 ≤ S.length) (ht : 128 ≤ (part S p 2).getD 1 0) :
    Calls Try.prog 32 #[.pointer (some ⟨a, 0, none⟩), .int .i64 50, .int .i64 p] w fun e w' => e = .returned (.tuple #[.int .i64 (loadV 2 126 true (part S p 2)), .int .i64 0]) ∧ Below w.heap.size w w' := by
  have hval : loadV 2 126 true (part S p 2) = valB (part S p 2) - 65536 := by
    simp only [loadV, Bool.true_and, decide_eq_true_eq, Nat.reduceSub, Int.reducePow]
    rw [if_pos ht]
    rfl
  rw [hval]
  have hlen := h.len
  have hbs := part_byte h.byte p 2
  have hpl : (part S p 2).length = 2 := part_length hp
  have hvr := valB_range hbs
  rw [hpl] at hvr
  simp only [Int.reducePow] at hvr
  obtain ⟨tb1, tb2⟩ := top_bytes hpl (by decide) hbs
  simp only [Nat.reduceSub, Int.reducePow] at tb1 tb2
  obtain ⟨t, ht0⟩ : ∃ t, t = (part S p 2).getD 1 0 := ⟨_, rfl⟩
  rw [← ht0] at tb1 ht
  obtain ⟨Y, hY⟩ : ∃ Y, Y = valB ((part S p 2).take 1) := ⟨_, rfl⟩
  rw [← hY] at tb1 tb2
  have HT0 := Lib.hid ht0
  obtain ⟨X, hX⟩ : ∃ X, X = valB (part S p 2) := ⟨_, rfl⟩
  have hx : wrap64 X = X := by rw [← hX] at hvr; unfold wrap64; omega
  rw [← hX] at hvr tb1 ⊢
  have HX : Hid (wrap64 (valB (part S p 2)) = X) := Lib.hid (by rw [← hX]; exact hx)
  have HI : Hid (∀ w', RMem a g S mx bd w' → Calls Try.prog 44 #[.pointer (some ⟨a, 0, none⟩), .int .i64 p, .int .i64 2] w' fun e w2 => e = .returned (.bool true) ∧ w' = w2) := Lib.hid fun w' h' => by
    have hi : inB S.length p 2 = true := decide_eq_true (by omega)
    exact hi ▸ refIn_any a _ _ _ p 2 (by omega) w' h'.slot
  have HWD : Hid (∀ w, Calls Try.prog 19 #[.int .i64 50] w fun e w' => e = .returned (.tuple #[.int .i64 2, .int .i64 126, .bool false]) ∧ Below w.heap.size w w') := Lib.hid fun w => refWidth_any 50 w
  have H := Lib.hid h
  have VS := Lib.hid (fun j (hj : j < 2) => valB_step (l := part S p 2) (j := j) (by omega))
  have VP := Lib.hid (fun i (hi : i < 2) => part_get (S := S) (at' := p) (k := 2) (i := i) hi)
  have BY := Lib.hid h.byte
  have tb3 : 32768 ≤ X := by omega
  clear h hval hpl hbs hX hx hY ht0 tb1 tb2
  go_enter Try.func32, Try.ntmps32
  go_wp2_with (first
    | (go_at_call 19; refine (HWD.out _).mono ?_; rintro e w1 ⟨rfl, hb1⟩)
    | (go_at_call 44; refine (HI.out _ (H.out.kept (Kept.of_below (F := fun _ => False) hb1) id id)).mono ?_; rintro e w2 ⟨rfl, rfl⟩))
  have h1 := H.out.kept (Kept.of_below (F := fun _ => False) hb1) id id
  have hslot := h1.slot
  have HC : Hid (∀ i, i < S.length → w1.cell? ⟨g, i, none⟩ = some (.int .u8 (S.getD i 0))) := Lib.hid fun i hi => h1.cell hi
  have HB1 := Lib.hid hb1
  clear h1 hb1
  go_loop [11, 12] (fun vv iv => ∃ m : Nat, m ≤ 2 ∧ iv = .int .i64 ((m : Int) - 1) ∧ vv = .int .i64 (wrap64 (valB ((part S p 2).drop m)))) (fun _ iv => (intOf iv + 1).toNat)
  case atStart => exact ⟨2, by decide, rfl, congrArg (Value.int .i64) (by rw [List.drop_of_length_le (by rw [part_length hp]; exact Nat.le_refl _)]; simp [valB, wrap64])⟩
  case round =>
    obtain ⟨m, hm, rfl, rfl⟩ := hrel
    cases m with
    | succ j =>
      rw [show (((j + 1 : Nat) : Int) - 1) = (j : Int) by omega]
      have hst := VS.out j (by omega)
      have hg := VP.out j (by omega)
      have hcell := HC.out (p + j) (by omega)
      rw [← hg] at hcell
      obtain ⟨z, hz⟩ : ∃ z, z = (part S p 2).getD j 0 := ⟨_, rfl⟩
      obtain ⟨T, hT⟩ : ∃ T, T = wrap64 (valB ((part S p 2).drop j)) := ⟨_, rfl⟩
      have hz2 : 0 ≤ z ∧ z ≤ 255 := by
        rw [hz, hg]
        refine BY.out _ ?_
        rw [List.getD_eq_getElem?_getD, List.getElem?_eq_getElem (by omega)]
        exact List.getElem_mem _
      rw [← hz] at hst hcell
      rw [← hT] at hst
      have HT := Lib.hid hT
      obtain ⟨x, hx0⟩ : ∃ x, x = wrap64 (valB ((part S p 2).drop (j + 1))) := ⟨_, rfl⟩
      rw [← hx0] at hst ⊢
      obtain ⟨y, hy⟩ : ∃ y, wrap64 (x * 256) = y := ⟨_, rfl⟩
      rw [hy] at hst
      obtain ⟨z1, z2⟩ := hz2
      have e0 : ((p : Int) + j).toNat = p + j := by omega
      clear hz hT hx0 hg hvr ht tb3 
      go_wp2_with fail
      exact ⟨⟨j, by omega, rfl, congrArg (Value.int .i64) (by first | exact hst.trans HT.out | exact HT.out)⟩, by simp [intOf]⟩
    | zero =>
      rw [List.drop_zero, HX.out]
      have hcell := HC.out (p + 1) (by omega)
      have hg := VP.out 1 (by decide)
      rw [← hg, ← HT0.out] at hcell
      have e0 : ((p : Int) + 2 - 1).toNat = p + 1 := by omega
      clear hg
      go_wp2_with fail
      refine wp_loop_rounds 3 ?_
      rw [rounds_succ]
      go_wp2_with fail
      rw [rounds_succ]
      go_wp2_with fail
      rw [rounds_succ]
      go_wp2_with fail
      go_ret2
      exact ⟨rfl, HB1.out⟩
set_option maxRecDepth 100000 in
set_option maxHeartbeats 1000000 in
theorem refLoad_51 (a g : Nat) (S : List Int) (mx bd : Int) (p : Nat) (w : World) (h : RMem a g S mx bd w) (hp : p + 2 ≤ S.length) :
    Calls Try.prog 32 #[.pointer (some ⟨a, 0, none⟩), .int .i64 51, .int .i64 p] w fun e w' => e = .returned (.tuple #[.int .i64 (loadV 2 126 false (part S p 2)), .int .i64 0]) ∧ Below w.heap.size w w' := by
  have hval : loadV 2 126 false (part S p 2) = wrap64 (valB (part S p 2)) := by
    simp only [loadV, Bool.false_and, Nat.reduceSub, Int.reducePow]
    rfl
  rw [hval]
  have hlen := h.len
  have hbs := part_byte h.byte p 2
  have hpl : (part S p 2).length = 2 := part_length hp
  have hvr := valB_range hbs
  rw [hpl] at hvr
  simp only [Int.reducePow] at hvr
  obtain ⟨X, hX⟩ : ∃ X, X = valB (part S p 2) := ⟨_, rfl⟩
  have hx : wrap64 X = X := by rw [← hX] at hvr; unfold wrap64; omega
  rw [← hX] at hvr ⊢
  rw [hx]
  have HX : Hid (wrap64 (valB (part S p 2)) = X) := Lib.hid (by rw [← hX]; exact hx)
  have HI : Hid (∀ w', RMem a g S mx bd w' → Calls Try.prog 44 #[.pointer (some ⟨a, 0, none⟩), .int .i64 p, .int .i64 2] w' fun e w2 => e = .returned (.bool true) ∧ w' = w2) := Lib.hid fun w' h' => by
    have hi : inB S.length p 2 = true := decide_eq_true (by omega)
    exact hi ▸ refIn_any a _ _ _ p 2 (by omega) w' h'.slot
  have HWD : Hid (∀ w, Calls Try.prog 19 #[.int .i64 51] w fun e w' => e = .returned (.tuple #[.int .i64 2, .int .i64 126, .bool false]) ∧ Below w.heap.size w w') := Lib.hid fun w => refWidth_any 51 w
  have H := Lib.hid h
  have VS := Lib.hid (fun j (hj : j < 2) => valB_step (l := part S p 2) (j := j) (by omega))
  have VP := Lib.hid (fun i (hi : i < 2) => part_get (S := S) (at' := p) (k := 2) (i := i) hi)
  have BY := Lib.hid h.byte
  clear h hval hpl hbs hX hx 
  go_enter Try.func32, Try.ntmps32
  go_wp2_with (first
    | (go_at_call 19; refine (HWD.out _).mono ?_; rintro e w1 ⟨rfl, hb1⟩)
    | (go_at_call 44; refine (HI.out _ (H.out.kept (Kept.of_below (F := fun _ => False) hb1) id id)).mono ?_; rintro e w2 ⟨rfl, rfl⟩))
  have h1 := H.out.kept (Kept.of_below (F := fun _ => False) hb1) id id
  have hslot := h1.slot
  have HC : Hid (∀ i, i < S.length → w1.cell? ⟨g, i, none⟩ = some (.int .u8 (S.getD i 0))) := Lib.hid fun i hi => h1.cell hi
  have HB1 := Lib.hid hb1
  clear h1 hb1
  go_loop [11, 12] (fun vv iv => ∃ m : Nat, m ≤ 2 ∧ iv = .int .i64 ((m : Int) - 1) ∧ vv = .int .i64 (wrap64 (valB ((part S p 2).drop m)))) (fun _ iv => (intOf iv + 1).toNat)
  case atStart => exact ⟨2, by decide, rfl, congrArg (Value.int .i64) (by rw [List.drop_of_length_le (by rw [part_length hp]; exact Nat.le_refl _)]; simp [valB, wrap64])⟩
  case round =>
    obtain ⟨m, hm, rfl, rfl⟩ := hrel
    cases m with
    | succ j =>
      rw [show (((j + 1 : Nat) : Int) - 1) = (j : Int) by omega]
      have hst := VS.out j (by omega)
      have hg := VP.out j (by omega)
      have hcell := HC.out (p + j) (by omega)
      rw [← hg] at hcell
      obtain ⟨z, hz⟩ : ∃ z, z = (part S p 2).getD j 0 := ⟨_, rfl⟩
      obtain ⟨T, hT⟩ : ∃ T, T = wrap64 (valB ((part S p 2).drop j)) := ⟨_, rfl⟩
      have hz2 : 0 ≤ z ∧ z ≤ 255 := by
        rw [hz, hg]
        refine BY.out _ ?_
        rw [List.getD_eq_getElem?_getD, List.getElem?_eq_getElem (by omega)]
        exact List.getElem_mem _
      rw [← hz] at hst hcell
      rw [← hT] at hst
      have HT := Lib.hid hT
      obtain ⟨x, hx0⟩ : ∃ x, x = wrap64 (valB ((part S p 2).drop (j + 1))) := ⟨_, rfl⟩
      rw [← hx0] at hst ⊢
      obtain ⟨y, hy⟩ : ∃ y, wrap64 (x * 256) = y := ⟨_, rfl⟩
      rw [hy] at hst
      obtain ⟨z1, z2⟩ := hz2
      have e0 : ((p : Int) + j).toNat = p + j := by omega
      clear hz hT hx0 hg hvr 
      go_wp2_with fail
      exact ⟨⟨j, by omega, rfl, congrArg (Value.int .i64) (by first | exact hst.trans HT.out | exact HT.out)⟩, by simp [intOf]⟩
    | zero =>
      rw [List.drop_zero, HX.out]
      go_wp2_with fail
      go_ret2
      exact ⟨rfl, HB1.out⟩
set_option maxRecDepth 100000 in
set_option maxHeartbeats 1000000 in
theorem refLoad_52_0 (a g : Nat) (S : List Int) (mx bd : Int) (p : Nat) (w : World) (h : RMem a g S mx bd w) (hp : p + 4 ≤ S.length) (ht : (part S p 4).getD 3 0 < 128) :
    Calls Try.prog 32 #[.pointer (some ⟨a, 0, none⟩), .int .i64 52, .int .i64 p] w fun e w' => e = .returned (.tuple #[.int .i64 (loadV 4 126 true (part S p 4)), .int .i64 0]) ∧ Below w.heap.size w w' := by
  have hval : loadV 4 126 true (part S p 4) = wrap64 (valB (part S p 4)) := by
    simp only [loadV, Bool.true_and, decide_eq_true_eq, Nat.reduceSub, Int.reducePow]
    rw [if_neg (by omega)]
  rw [hval]
  have hlen := h.len
  have hbs := part_byte h.byte p 4
  have hpl : (part S p 4).length = 4 := part_length hp
  have hvr := valB_range hbs
  rw [hpl] at hvr
  simp only [Int.reducePow] at hvr
  obtain ⟨tb1, tb2⟩ := top_bytes hpl (by decide) hbs
  simp only [Nat.reduceSub, Int.reducePow] at tb1 tb2
  obtain ⟨t, ht0⟩ : ∃ t, t = (part S p 4).getD 3 0 := ⟨_, rfl⟩
  rw [← ht0] at tb1 ht
  obtain ⟨Y, hY⟩ : ∃ Y, Y = valB ((part S p 4).take 3) := ⟨_, rfl⟩
  rw [← hY] at tb1 tb2
  have HT0 := Lib.hid ht0
  obtain ⟨X, hX⟩ : ∃ X, X = valB (part S p 4) := ⟨_, rfl⟩
  have hx : wrap64 X = X := by rw [← hX] at hvr; unfold wrap64; omega
  rw [← hX] at hvr tb1 ⊢
  rw [hx]
  have HX : Hid (wrap64 (valB (part S p 4)) = X) := Lib.hid (by rw [← hX]; exact hx)
  have HI : Hid (∀ w', RMem a g S mx bd w' → Calls Try.prog 44 #[.pointer (some ⟨a, 0, none⟩), .int .i64 p, .int .i64 4] w' fun e w2 => e = .returned (.bool true) ∧ w' = w2) := Lib.hid fun w' h' => by
    have hi : inB S.length p 4 = true := decide_eq_true (by omega)
    exact hi ▸ refIn_any a _ _ _ p 4 (by omega) w' h'.slot
  have HWD : Hid (∀ w, Calls Try.prog 19 #[.int .i64 52] w fun e w' => e = .returned (.tuple #[.int .i64 4, .int .i64 126, .bool false]) ∧ Below w.heap.size w w') := Lib.hid fun w => refWidth_any 52 w
  have H := Lib.hid h
  have VS := Lib.hid (fun j (hj : j < 4) => valB_step (l := part S p 4) (j := j) (by omega))
  have VP := Lib.hid (fun i (hi : i < 4) => part_get (S := S) (at' := p) (k := 4) (i := i) hi)
  have BY := Lib.hid h.byte
  clear h hval hpl hbs hX hx hY ht0 tb1 tb2
  go_enter Try.func32, Try.ntmps32
  go_wp2_with (first
    | (go_at_call 19; refine (HWD.out _).mono ?_; rintro e w1 ⟨rfl, hb1⟩)
    | (go_at_call 44; refine (HI.out _ (H.out.kept (Kept.of_below (F := fun _ => False) hb1) id id)).mono ?_; rintro e w2 ⟨rfl, rfl⟩))
  have h1 := H.out.kept (Kept.of_below (F := fun _ => False) hb1) id id
  have hslot := h1.slot
  have HC : Hid (∀ i, i < S.length → w1.cell? ⟨g, i, none⟩ = some (.int .u8 (S.getD i 0))) := Lib.hid fun i hi => h1.cell hi
  have HB1 := Lib.hid hb1
  clear h1 hb1
  go_loop [11, 12] (fun vv iv => ∃ m : Nat, m ≤ 4 ∧ iv = .int .i64 ((m : Int) - 1) ∧ vv = .int .i64 (wrap64 (valB ((part S p 4).drop m)))) (fun _ iv => (intOf iv + 1).toNat)
  case atStart => exact ⟨4, by decide, rfl, congrArg (Value.int .i64) (by rw [List.drop_of_length_le (by rw [part_length hp]; exact Nat.le_refl _)]; simp [valB, wrap64])⟩
  case round =>
    obtain ⟨m, hm, rfl, rfl⟩ := hrel
    cases m with
    | succ j =>
      rw [show (((j + 1 : Nat) : Int) - 1) = (j : Int) by omega]
      have hst := VS.out j (by omega)
      have hg := VP.out j (by omega)
      have hcell := HC.out (p + j) (by omega)
      rw [← hg] at hcell
      obtain ⟨z, hz⟩ : ∃ z, z = (part S p 4).getD j 0 := ⟨_, rfl⟩
      obtain ⟨T, hT⟩ : ∃ T, T = wrap64 (valB ((part S p 4).drop j)) := ⟨_, rfl⟩
      have hz2 : 0 ≤ z ∧ z ≤ 255 := by
        rw [hz, hg]
        refine BY.out _ ?_
        rw [List.getD_eq_getElem?_getD, List.getElem?_eq_getElem (by omega)]
        exact List.getElem_mem _
      rw [← hz] at hst hcell
      rw [← hT] at hst
      have HT := Lib.hid hT
      obtain ⟨x, hx0⟩ : ∃ x, x = wrap64 (valB ((part S p 4).drop (j + 1))) := ⟨_, rfl⟩
      rw [← hx0] at hst ⊢
      obtain ⟨y, hy⟩ : ∃ y, wrap64 (x * 256) = y := ⟨_, rfl⟩
      rw [hy] at hst
      obtain ⟨z1, z2⟩ := hz2
      have e0 : ((p : Int) + j).toNat = p + j := by omega
      clear hz hT hx0 hg hvr ht 
      go_wp2_with fail
      exact ⟨⟨j, by omega, rfl, congrArg (Value.int .i64) (by first | exact hst.trans HT.out | exact HT.out)⟩, by simp [intOf]⟩
    | zero =>
      rw [List.drop_zero, HX.out]
      have hcell := HC.out (p + 3) (by omega)
      have hg := VP.out 3 (by decide)
      rw [← hg, ← HT0.out] at hcell
      have e0 : ((p : Int) + 4 - 1).toNat = p + 3 := by omega
      clear hg
      go_wp2_with fail
      go_ret2
      exact ⟨rfl, HB1.out⟩
set_option maxRecDepth 100000 in
set_option maxHeartbeats 1000000 in
theorem refLoad_52_1 (a g : Nat) (S : List Int) (mx bd : Int) (p : Nat) (w : World) (h : RMem a g S mx bd w) (hp : p + 4 ≤ S.length) (ht : 128 ≤ (part S p 4).getD 3 0) :
    Calls Try.prog 32 #[.pointer (some ⟨a, 0, none⟩), .int .i64 52, .int .i64 p] w fun e w' => e = .returned (.tuple #[.int .i64 (loadV 4 126 true (part S p 4)), .int .i64 0]) ∧ Below w.heap.size w w' := by
  have hval : loadV 4 126 true (part S p 4) = valB (part S p 4) - 4294967296 := by
    simp only [loadV, Bool.true_and, decide_eq_true_eq, Nat.reduceSub, Int.reducePow]
    rw [if_pos ht]
    rfl
  rw [hval]
  have hlen := h.len
  have hbs := part_byte h.byte p 4
  have hpl : (part S p 4).length = 4 := part_length hp
  have hvr := valB_range hbs
  rw [hpl] at hvr
  simp only [Int.reducePow] at hvr
  obtain ⟨tb1, tb2⟩ := top_bytes hpl (by decide) hbs
  simp only [Nat.reduceSub, Int.reducePow] at tb1 tb2
  obtain ⟨t, ht0⟩ : ∃ t, t = (part S p 4).getD 3 0 := ⟨_, rfl⟩
  rw [← ht0] at tb1 ht
  obtain ⟨Y, hY⟩ : ∃ Y, Y = valB ((part S p 4).take 3) := ⟨_, rfl⟩
  rw [← hY] at tb1 tb2
  have HT0 := Lib.hid ht0
  obtain ⟨X, hX⟩ : ∃ X, X = valB (part S p 4) := ⟨_, rfl⟩
  have hx : wrap64 X = X := by rw [← hX] at hvr; unfold wrap64; omega
  rw [← hX] at hvr tb1 ⊢
  have HX : Hid (wrap64 (valB (part S p 4)) = X) := Lib.hid (by rw [← hX]; exact hx)
  have HI : Hid (∀ w', RMem a g S mx bd w' → Calls Try.prog 44 #[.pointer (some ⟨a, 0, none⟩), .int .i64 p, .int .i64 4] w' fun e w2 => e = .returned (.bool true) ∧ w' = w2) := Lib.hid fun w' h' => by
    have hi : inB S.length p 4 = true := decide_eq_true (by omega)
    exact hi ▸ refIn_any a _ _ _ p 4 (by omega) w' h'.slot
  have HWD : Hid (∀ w, Calls Try.prog 19 #[.int .i64 52] w fun e w' => e = .returned (.tuple #[.int .i64 4, .int .i64 126, .bool false]) ∧ Below w.heap.size w w') := Lib.hid fun w => refWidth_any 52 w
  have H := Lib.hid h
  have VS := Lib.hid (fun j (hj : j < 4) => valB_step (l := part S p 4) (j := j) (by omega))
  have VP := Lib.hid (fun i (hi : i < 4) => part_get (S := S) (at' := p) (k := 4) (i := i) hi)
  have BY := Lib.hid h.byte
  have tb3 : 2147483648 ≤ X := by omega
  clear h hval hpl hbs hX hx hY ht0 tb1 tb2
  go_enter Try.func32, Try.ntmps32
  go_wp2_with (first
    | (go_at_call 19; refine (HWD.out _).mono ?_; rintro e w1 ⟨rfl, hb1⟩)
    | (go_at_call 44; refine (HI.out _ (H.out.kept (Kept.of_below (F := fun _ => False) hb1) id id)).mono ?_; rintro e w2 ⟨rfl, rfl⟩))
  have h1 := H.out.kept (Kept.of_below (F := fun _ => False) hb1) id id
  have hslot := h1.slot
  have HC : Hid (∀ i, i < S.length → w1.cell? ⟨g, i, none⟩ = some (.int .u8 (S.getD i 0))) := Lib.hid fun i hi => h1.cell hi
  have HB1 := Lib.hid hb1
  clear h1 hb1
  go_loop [11, 12] (fun vv iv => ∃ m : Nat, m ≤ 4 ∧ iv = .int .i64 ((m : Int) - 1) ∧ vv = .int .i64 (wrap64 (valB ((part S p 4).drop m)))) (fun _ iv => (intOf iv + 1).toNat)
  case atStart => exact ⟨4, by decide, rfl, congrArg (Value.int .i64) (by rw [List.drop_of_length_le (by rw [part_length hp]; exact Nat.le_refl _)]; simp [valB, wrap64])⟩
  case round =>
    obtain ⟨m, hm, rfl, rfl⟩ := hrel
    cases m with
    | succ j =>
      rw [show (((j + 1 : Nat) : Int) - 1) = (j : Int) by omega]
      have hst := VS.out j (by omega)
      have hg := VP.out j (by omega)
      have hcell := HC.out (p + j) (by omega)
      rw [← hg] at hcell
      obtain ⟨z, hz⟩ : ∃ z, z = (part S p 4).getD j 0 := ⟨_, rfl⟩
      obtain ⟨T, hT⟩ : ∃ T, T = wrap64 (valB ((part S p 4).drop j)) := ⟨_, rfl⟩
      have hz2 : 0 ≤ z ∧ z ≤ 255 := by
        rw [hz, hg]
        refine BY.out _ ?_
        rw [List.getD_eq_getElem?_getD, List.getElem?_eq_getElem (by omega)]
        exact List.getElem_mem _
      rw [← hz] at hst hcell
      rw [← hT] at hst
      have HT := Lib.hid hT
      obtain ⟨x, hx0⟩ : ∃ x, x = wrap64 (valB ((part S p 4).drop (j + 1))) := ⟨_, rfl⟩
      rw [← hx0] at hst ⊢
      obtain ⟨y, hy⟩ : ∃ y, wrap64 (x * 256) = y := ⟨_, rfl⟩
      rw [hy] at hst
      obtain ⟨z1, z2⟩ := hz2
      have e0 : ((p : Int) + j).toNat = p + j := by omega
      clear hz hT hx0 hg hvr ht tb3 
      go_wp2_with fail
      exact ⟨⟨j, by omega, rfl, congrArg (Value.int .i64) (by first | exact hst.trans HT.out | exact HT.out)⟩, by simp [intOf]⟩
    | zero =>
      rw [List.drop_zero, HX.out]
      have hcell := HC.out (p + 3) (by omega)
      have hg := VP.out 3 (by decide)
      rw [← hg, ← HT0.out] at hcell
      have e0 : ((p : Int) + 4 - 1).toNat = p + 3 := by omega
      clear hg
      go_wp2_with fail
      refine wp_loop_rounds 5 ?_
      rw [rounds_succ]
      go_wp2_with fail
      rw [rounds_succ]
      go_wp2_with fail
      rw [rounds_succ]
      go_wp2_with fail
      rw [rounds_succ]
      go_wp2_with fail
      rw [rounds_succ]
      go_wp2_with fail
      go_ret2
      exact ⟨rfl, HB1.out⟩
set_option maxRecDepth 100000 in
set_option maxHeartbeats 1000000 in
theorem refLoad_53 (a g : Nat) (S : List Int) (mx bd : Int) (p : Nat) (w : World) (h : RMem a g S mx bd w) (hp : p + 4 ≤ S.length) :
    Calls Try.prog 32 #[.pointer (some ⟨a, 0, none⟩), .int .i64 53, .int .i64 p] w fun e w' => e = .returned (.tuple #[.int .i64 (loadV 4 126 false (part S p 4)), .int .i64 0]) ∧ Below w.heap.size w w' := by
  have hval : loadV 4 126 false (part S p 4) = wrap64 (valB (part S p 4)) := by
    simp only [loadV, Bool.false_and, Nat.reduceSub, Int.reducePow]
    rfl
  rw [hval]
  have hlen := h.len
  have hbs := part_byte h.byte p 4
  have hpl : (part S p 4).length = 4 := part_length hp
  have hvr := valB_range hbs
  rw [hpl] at hvr
  simp only [Int.reducePow] at hvr
  obtain ⟨X, hX⟩ : ∃ X, X = valB (part S p 4) := ⟨_, rfl⟩
  have hx : wrap64 X = X := by rw [← hX] at hvr; unfold wrap64; omega
  rw [← hX] at hvr ⊢
  rw [hx]
  have HX : Hid (wrap64 (valB (part S p 4)) = X) := Lib.hid (by rw [← hX]; exact hx)
  have HI : Hid (∀ w', RMem a g S mx bd w' → Calls Try.prog 44 #[.pointer (some ⟨a, 0, none⟩), .int .i64 p, .int .i64 4] w' fun e w2 => e = .returned (.bool true) ∧ w' = w2) := Lib.hid fun w' h' => by
    have hi : inB S.length p 4 = true := decide_eq_true (by omega)
    exact hi ▸ refIn_any a _ _ _ p 4 (by omega) w' h'.slot
  have HWD : Hid (∀ w, Calls Try.prog 19 #[.int .i64 53] w fun e w' => e = .returned (.tuple #[.int .i64 4, .int .i64 126, .bool false]) ∧ Below w.heap.size w w') := Lib.hid fun w => refWidth_any 53 w
  have H := Lib.hid h
  have VS := Lib.hid (fun j (hj : j < 4) => valB_step (l := part S p 4) (j := j) (by omega))
  have VP := Lib.hid (fun i (hi : i < 4) => part_get (S := S) (at' := p) (k := 4) (i := i) hi)
  have BY := Lib.hid h.byte
  clear h hval hpl hbs hX hx 
  go_enter Try.func32, Try.ntmps32
  go_wp2_with (first
    | (go_at_call 19; refine (HWD.out _).mono ?_; rintro e w1 ⟨rfl, hb1⟩)
    | (go_at_call 44; refine (HI.out _ (H.out.kept (Kept.of_below (F := fun _ => False) hb1) id id)).mono ?_; rintro e w2 ⟨rfl, rfl⟩))
  have h1 := H.out.kept (Kept.of_below (F := fun _ => False) hb1) id id
  have hslot := h1.slot
  have HC : Hid (∀ i, i < S.length → w1.cell? ⟨g, i, none⟩ = some (.int .u8 (S.getD i 0))) := Lib.hid fun i hi => h1.cell hi
  have HB1 := Lib.hid hb1
  clear h1 hb1
  go_loop [11, 12] (fun vv iv => ∃ m : Nat, m ≤ 4 ∧ iv = .int .i64 ((m : Int) - 1) ∧ vv = .int .i64 (wrap64 (valB ((part S p 4).drop m)))) (fun _ iv => (intOf iv + 1).toNat)
  case atStart => exact ⟨4, by decide, rfl, congrArg (Value.int .i64) (by rw [List.drop_of_length_le (by rw [part_length hp]; exact Nat.le_refl _)]; simp [valB, wrap64])⟩
  case round =>
    obtain ⟨m, hm, rfl, rfl⟩ := hrel
    cases m with
    | succ j =>
      rw [show (((j + 1 : Nat) : Int) - 1) = (j : Int) by omega]
      have hst := VS.out j (by omega)
      have hg := VP.out j (by omega)
      have hcell := HC.out (p + j) (by omega)
      rw [← hg] at hcell
      obtain ⟨z, hz⟩ : ∃ z, z = (part S p 4).getD j 0 := ⟨_, rfl⟩
      obtain ⟨T, hT⟩ : ∃ T, T = wrap64 (valB ((part S p 4).drop j)) := ⟨_, rfl⟩
      have hz2 : 0 ≤ z ∧ z ≤ 255 := by
        rw [hz, hg]
        refine BY.out _ ?_
        rw [List.getD_eq_getElem?_getD, List.getElem?_eq_getElem (by omega)]
        exact List.getElem_mem _
      rw [← hz] at hst hcell
      rw [← hT] at hst
      have HT := Lib.hid hT
      obtain ⟨x, hx0⟩ : ∃ x, x = wrap64 (valB ((part S p 4).drop (j + 1))) := ⟨_, rfl⟩
      rw [← hx0] at hst ⊢
      obtain ⟨y, hy⟩ : ∃ y, wrap64 (x * 256) = y := ⟨_, rfl⟩
      rw [hy] at hst
      obtain ⟨z1, z2⟩ := hz2
      have e0 : ((p : Int) + j).toNat = p + j := by omega
      clear hz hT hx0 hg hvr 
      go_wp2_with fail
      exact ⟨⟨j, by omega, rfl, congrArg (Value.int .i64) (by first | exact hst.trans HT.out | exact HT.out)⟩, by simp [intOf]⟩
    | zero =>
      rw [List.drop_zero, HX.out]
      go_wp2_with fail
      go_ret2
      exact ⟨rfl, HB1.out⟩
end Go.Proofs.Ytogkieekpmcinaa
