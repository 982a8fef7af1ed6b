/- Texts of the proof of ModulePutsUptoProof, part 2. -/
import Derived.Test.YtekonefnniaheaaGreatModulePutsUptoProofQ1
namespace Go.Proofs.YtekonefnniaheaaGreat
open Go.RowKit

/-- A question after a row that is laid for it. -/
theorem refOneLit (n : Int) (l : List Int) (hl : l.length ≤ 1000000) (b : Bool) (hb : decide (n ∈ l) = b) (w : World) :
    Calls Tryz.prog 128 #[.int .i64 n, .slice (some ⟨w.heap.size, 0, none⟩) l.length l.length] (w.alloc (.cells (l.map (Value.int .i64)).toArray 3)) fun e w' => e = .returned (.bool b) ∧ Below w.heap.size w w' := by
  refine (refOneOf_any n l _ l.length l.length _ (view_laid l 3 w) rfl hl).mono ?_
  rintro e w' ⟨rfl, rfl⟩
  exact ⟨by rw [hb], (Below.refl _ _).alloc (Nat.le_refl _) _⟩
theorem eq_no {n c : Int} (h : ¬ n = c) : (n == c) = false := by simpa using h
set_option maxRecDepth 100000 in
theorem refType_any (c : Int) (w : World) :
    Calls Tryz.prog 110 #[.int .i64 c] w fun e w' => e = .returned (.tuple #[.int .i64 (typeV c).1, .int .i64 (typeV c).2]) ∧ Below w.heap.size w w' := by
  unfold typeV
  by_cases h1 : c ∈ [127, 126, 112]
  · have HO := Lib.hid (refOneLit c [127, 126, 112] (by decide) true (decide_eq_true h1) w)
    rw [if_pos h1]
    clear h1
    go_enter Tryz.func110, Tryz.ntmps110
    go_wp2_with (go_at_call 128; refine HO.out.mono ?_; rintro e w1 ⟨rfl, hb⟩)
    go_ret2
    exact ⟨rfl, hb⟩
  · have HO := Lib.hid (refOneLit c [127, 126, 112] (by decide) false (decide_eq_false h1) w)
    rw [if_neg h1]
    clear h1
    by_cases h2 : c = 125
    · subst h2
      go_enter Tryz.func110, Tryz.ntmps110
      go_wp2_with (go_at_call 128; refine HO.out.mono ?_; rintro e w1 ⟨rfl, hb⟩)
      go_ret2
      exact ⟨rfl, hb⟩
    · by_cases h3 : c = 124
      · subst h3
        go_enter Tryz.func110, Tryz.ntmps110
        go_wp2_with (go_at_call 128; refine HO.out.mono ?_; rintro e w1 ⟨rfl, hb⟩)
        go_ret2
        exact ⟨rfl, hb⟩
      · rw [if_neg (show ¬ (c = 125 ∨ c = 124) by omega)]
        by_cases h4 : c = 123
        · subst h4
          go_enter Tryz.func110, Tryz.ntmps110
          go_wp2_with (go_at_call 128; refine HO.out.mono ?_; rintro e w1 ⟨rfl, hb⟩)
          go_ret2
          exact ⟨rfl, hb⟩
        · rw [if_neg h4]
          have e2 := eq_no h2
          have e3 := eq_no h3
          have e4 := eq_no h4
          clear h2 h3 h4
          go_enter Tryz.func110, Tryz.ntmps110
          go_wp2_with (go_at_call 128; refine HO.out.mono ?_; rintro e w1 ⟨rfl, hb⟩)
          go_ret2
          exact ⟨rfl, hb⟩
/-- Is it of floats? -/
def isFloat (op : Int) : Bool := decide (op ∈ [42, 43, 56, 57, 67, 68]) || decide (91 ≤ op ∧ op ≤ 102) || decide (139 ≤ op ∧ op ≤ 166) || decide (168 ≤ op ∧ op ≤ 171) || decide (174 ≤ op ∧ op ≤ 191) || decide (64512 ≤ op ∧ op ≤ 64519)
/-- An opcode's shape, or why there is none. -/
def shapeV (op : Int) : Int × Int :=
  if 0 < (Num.sig op).1 ∨ op ∈ [0, 1, 15, 26, 27, 209] then (1, 0) else if op ∈ [2, 3, 4] then (2, 0) else if op ∈ [12, 13, 16, 32, 33, 34, 35, 36, 210] then (3, 0)
  else if op = 14 then (4, 0) else if op = 17 then (5, 0) else if op = 28 then (6, 0) else if 0 < (Mem.width op).1 then (7, 0)
  else if op ∈ [37, 38, 63, 64, 64523, 64527, 64528, 64529] then (8, 0) else if op = 64522 ∨ op = 64526 then (9, 0) else if op = 65 ∨ op = 66 then (10, 0) else if op = 208 then (11, 0)
  else if isFloat op = true then (0, 3) else if op = 253 then (0, 4) else (0, 5)
set_option maxRecDepth 100000 in
set_option maxHeartbeats 1000000 in
theorem refShape_s1a (op T t2 t3 W w2 : Int) (w3 : Bool) (HS : Hid (∀ w, Calls Tryz.prog 183 #[.int .i64 op] w fun e w' => e = .returned (.tuple #[.int .i64 T, .int .i64 t2, .int .i64 t3]) ∧ w = w')) (HW : Hid (∀ w, Calls Tryz.prog 182 #[.int .i64 op] w fun e w' => e = .returned (.tuple #[.int .i64 W, .int .i64 w2, .bool w3]) ∧ Below w.heap.size w w')) (hT : 0 < T) (w : World) :
    Calls Tryz.prog 158 #[.int .i64 op] w fun e w' => e = .returned (.tuple #[.int .i64 1, .int .i64 0]) ∧ Below w.heap.size w w' := by
  have hb := Below.refl w.heap.size w
  go_enter Tryz.func158, Tryz.ntmps158
  go_wp2_with (first
    | (go_at_call 182; refine (HW.out _).mono ?_; rintro e w1 ⟨rfl, hh⟩; replace hb := hb.trans (hh.mono hb.size); clear hh)
    | (go_at_call 183; refine (HS.out _).mono ?_; rintro e w1 ⟨rfl, rfl⟩))
  go_ret2
  exact ⟨rfl, hb⟩
set_option maxRecDepth 100000 in
set_option maxHeartbeats 1000000 in
theorem refShape_s1b (op T t2 t3 W w2 : Int) (w3 : Bool) (HS : Hid (∀ w, Calls Tryz.prog 183 #[.int .i64 op] w fun e w' => e = .returned (.tuple #[.int .i64 T, .int .i64 t2, .int .i64 t3]) ∧ w = w')) (HW : Hid (∀ w, Calls Tryz.prog 182 #[.int .i64 op] w fun e w' => e = .returned (.tuple #[.int .i64 W, .int .i64 w2, .bool w3]) ∧ Below w.heap.size w w')) (hT : ¬ 0 < T) (h1 : decide (op ∈ [0, 1, 15, 26, 27, 209]) = true) (w : World) :
    Calls Tryz.prog 158 #[.int .i64 op] w fun e w' => e = .returned (.tuple #[.int .i64 1, .int .i64 0]) ∧ Below w.heap.size w w' := by
  have HO1 := Lib.hid (refOneLit op [0, 1, 15, 26, 27, 209] (by decide) _ h1)
  clear h1
  have hb := Below.refl w.heap.size w
  go_enter Tryz.func158, Tryz.ntmps158
  go_wp2_with (first
    | (go_at_call 182; refine (HW.out _).mono ?_; rintro e w1 ⟨rfl, hh⟩; replace hb := hb.trans (hh.mono hb.size); clear hh)
    | (go_at_call 183; refine (HS.out _).mono ?_; rintro e w1 ⟨rfl, rfl⟩)
    | (go_at_call 128; refine (HO1.out _).mono ?_; rintro e w1 ⟨rfl, hh⟩; replace hb := hb.trans (hh.mono hb.size); clear hh HO1))
  go_ret2
  exact ⟨rfl, hb⟩
set_option maxRecDepth 100000 in
set_option maxHeartbeats 1000000 in
theorem refShape_s2 (op T t2 t3 W w2 : Int) (w3 : Bool) (HS : Hid (∀ w, Calls Tryz.prog 183 #[.int .i64 op] w fun e w' => e = .returned (.tuple #[.int .i64 T, .int .i64 t2, .int .i64 t3]) ∧ w = w')) (HW : Hid (∀ w, Calls Tryz.prog 182 #[.int .i64 op] w fun e w' => e = .returned (.tuple #[.int .i64 W, .int .i64 w2, .bool w3]) ∧ Below w.heap.size w w')) (hT : ¬ 0 < T) (h1 : decide (op ∈ [0, 1, 15, 26, 27, 209]) = false) (h2 : decide (op ∈ [2, 3, 4]) = true) (w : World) :
    Calls Tryz.prog 158 #[.int .i64 op] w fun e w' => e = .returned (.tuple #[.int .i64 2, .int .i64 0]) ∧ Below w.heap.size w w' := by
  have HO1 := Lib.hid (refOneLit op [0, 1, 15, 26, 27, 209] (by decide) _ h1)
  have HO2 := Lib.hid (refOneLit op [2, 3, 4] (by decide) _ h2)
  clear h1 h2
  have hb := Below.refl w.heap.size w
  go_enter Tryz.func158, Tryz.ntmps158
  go_wp2_with (first
    | (go_at_call 182; refine (HW.out _).mono ?_; rintro e w1 ⟨rfl, hh⟩; replace hb := hb.trans (hh.mono hb.size); clear hh)
    | (go_at_call 183; refine (HS.out _).mono ?_; rintro e w1 ⟨rfl, rfl⟩)
    | (go_at_call 128; refine (HO1.out _).mono ?_; rintro e w1 ⟨rfl, hh⟩; replace hb := hb.trans (hh.mono hb.size); clear hh HO1)
    | (go_at_call 128; refine (HO2.out _).mono ?_; rintro e w1 ⟨rfl, hh⟩; replace hb := hb.trans (hh.mono hb.size); clear hh HO2))
  go_ret2
  exact ⟨rfl, hb⟩
set_option maxRecDepth 100000 in
set_option maxHeartbeats 1000000 in
theorem refShape_s3 (op T t2 t3 W w2 : Int) (w3 : Bool) (HS : Hid (∀ w, Calls Tryz.prog 183 #[.int .i64 op] w fun e w' => e = .returned (.tuple #[.int .i64 T, .int .i64 t2, .int .i64 t3]) ∧ w = w')) (HW : Hid (∀ w, Calls Tryz.prog 182 #[.int .i64 op] w fun e w' => e = .returned (.tuple #[.int .i64 W, .int .i64 w2, .bool w3]) ∧ Below w.heap.size w w')) (hT : ¬ 0 < T) (h1 : decide (op ∈ [0, 1, 15, 26, 27, 209]) = false) (h2 : decide (op ∈ [2, 3, 4]) = false) (h3 : decide (op ∈ [12, 13, 16, 32, 33, 34, 35, 36, 210]) = true) (w : World) :
    Calls Tryz.prog 158 #[.int .i64 op] w fun e w' => e = .returned (.tuple #[.int .i64 3, .int .i64 0]) ∧ Below w.heap.size w w' := by
  have HO1 := Lib.hid (refOneLit op [0, 1, 15, 26, 27, 209] (by decide) _ h1)
  have HO2 := Lib.hid (refOneLit op [2, 3, 4] (by decide) _ h2)
  have HO3 := Lib.hid (refOneLit op [12, 13, 16, 32, 33, 34, 35, 36, 210] (by decide) _ h3)
  clear h1 h2 h3
  have hb := Below.refl w.heap.size w
  go_enter Tryz.func158, Tryz.ntmps158
  go_wp2_with (first
    | (go_at_call 182; refine (HW.out _).mono ?_; rintro e w1 ⟨rfl, hh⟩; replace hb := hb.trans (hh.mono hb.size); clear hh)
    | (go_at_call 183; refine (HS.out _).mono ?_; rintro e w1 ⟨rfl, rfl⟩)
    | (go_at_call 128; refine (HO1.out _).mono ?_; rintro e w1 ⟨rfl, hh⟩; replace hb := hb.trans (hh.mono hb.size); clear hh HO1)
    | (go_at_call 128; refine (HO2.out _).mono ?_; rintro e w1 ⟨rfl, hh⟩; replace hb := hb.trans (hh.mono hb.size); clear hh HO2)
    | (go_at_call 128; refine (HO3.out _).mono ?_; rintro e w1 ⟨rfl, hh⟩; replace hb := hb.trans (hh.mono hb.size); clear hh HO3))
  go_ret2
  exact ⟨rfl, hb⟩
set_option maxRecDepth 100000 in
set_option maxHeartbeats 1000000 in
theorem refShape_s4 (op T t2 t3 W w2 : Int) (w3 : Bool) (HS : Hid (∀ w, Calls Tryz.prog 183 #[.int .i64 op] w fun e w' => e = .returned (.tuple #[.int .i64 T, .int .i64 t2, .int .i64 t3]) ∧ w = w')) (HW : Hid (∀ w, Calls Tryz.prog 182 #[.int .i64 op] w fun e w' => e = .returned (.tuple #[.int .i64 W, .int .i64 w2, .bool w3]) ∧ Below w.heap.size w w')) (hT : ¬ 0 < T) (h1 : decide (op ∈ [0, 1, 15, 26, 27, 209]) = false) (h2 : decide (op ∈ [2, 3, 4]) = false) (h3 : decide (op ∈ [12, 13, 16, 32, 33, 34, 35, 36, 210]) = false) (h4 : (op == 14) = true) (w : World) :
    Calls Tryz.prog 158 #[.int .i64 op] w fun e w' => e = .returned (.tuple #[.int .i64 4, .int .i64 0]) ∧ Below w.heap.size w w' := by
  have HO1 := Lib.hid (refOneLit op [0, 1, 15, 26, 27, 209] (by decide) _ h1)
  have HO2 := Lib.hid (refOneLit op [2, 3, 4] (by decide) _ h2)
  have HO3 := Lib.hid (refOneLit op [12, 13, 16, 32, 33, 34, 35, 36, 210] (by decide) _ h3)
  clear h1 h2 h3
  have hb := Below.refl w.heap.size w
  go_enter Tryz.func158, Tryz.ntmps158
  go_wp2_with (first
    | (go_at_call 182; refine (HW.out _).mono ?_; rintro e w1 ⟨rfl, hh⟩; replace hb := hb.trans (hh.mono hb.size); clear hh)
    | (go_at_call 183; refine (HS.out _).mono ?_; rintro e w1 ⟨rfl, rfl⟩)
    | (go_at_call 128; refine (HO1.out _).mono ?_; rintro e w1 ⟨rfl, hh⟩; replace hb := hb.trans (hh.mono hb.size); clear hh HO1)
    | (go_at_call 128; refine (HO2.out _).mono ?_; rintro e w1 ⟨rfl, hh⟩; replace hb := hb.trans (hh.mono hb.size); clear hh HO2)
    | (go_at_call 128; refine (HO3.out _).mono ?_; rintro e w1 ⟨rfl, hh⟩; replace hb := hb.trans (hh.mono hb.size); clear hh HO3))
  go_ret2
  exact ⟨rfl, hb⟩
set_option maxRecDepth 100000 in
set_option maxHeartbeats 1000000 in
theorem refShape_s5 (op T t2 t3 W w2 : Int) (w3 : Bool) (HS : Hid (∀ w, Calls Tryz.prog 183 #[.int .i64 op] w fun e w' => e = .returned (.tuple #[.int .i64 T, .int .i64 t2, .int .i64 t3]) ∧ w = w')) (HW : Hid (∀ w, Calls Tryz.prog 182 #[.int .i64 op] w fun e w' => e = .returned (.tuple #[.int .i64 W, .int .i64 w2, .bool w3]) ∧ Below w.heap.size w w')) (hT : ¬ 0 < T) (h1 : decide (op ∈ [0, 1, 15, 26, 27, 209]) = false) (h2 : decide (op ∈ [2, 3, 4]) = false) (h3 : decide (op ∈ [12, 13, 16, 32, 33, 34, 35, 36, 210]) = false) (h4 : (op == 14) = false) (h5 : (op == 17) = true) (w : World) :
    Calls Tryz.prog 158 #[.int .i64 op] w fun e w' => e = .returned (.tuple #[.int .i64 5, .int .i64 0]) ∧ Below w.heap.size w w' := by
  have HO1 := Lib.hid (refOneLit op [0, 1, 15, 26, 27, 209] (by decide) _ h1)
  have HO2 := Lib.hid (refOneLit op [2, 3, 4] (by decide) _ h2)
  have HO3 := Lib.hid (refOneLit op [12, 13, 16, 32, 33, 34, 35, 36, 210] (by decide) _ h3)
  clear h1 h2 h3
  have hb := Below.refl w.heap.size w
  go_enter Tryz.func158, Tryz.ntmps158
  go_wp2_with (first
    | (go_at_call 182; refine (HW.out _).mono ?_; rintro e w1 ⟨rfl, hh⟩; replace hb := hb.trans (hh.mono hb.size); clear hh)
    | (go_at_call 183; refine (HS.out _).mono ?_; rintro e w1 ⟨rfl, rfl⟩)
    | (go_at_call 128; refine (HO1.out _).mono ?_; rintro e w1 ⟨rfl, hh⟩; replace hb := hb.trans (hh.mono hb.size); clear hh HO1)
    | (go_at_call 128; refine (HO2.out _).mono ?_; rintro e w1 ⟨rfl, hh⟩; replace hb := hb.trans (hh.mono hb.size); clear hh HO2)
    | (go_at_call 128; refine (HO3.out _).mono ?_; rintro e w1 ⟨rfl, hh⟩; replace hb := hb.trans (hh.mono hb.size); clear hh HO3))
  go_ret2
  exact ⟨rfl, hb⟩
set_option maxRecDepth 100000 in
set_option maxHeartbeats 1000000 in
theorem refShape_s6 (op T t2 t3 W w2 : Int) (w3 : Bool) (HS : Hid (∀ w, Calls Tryz.prog 183 #[.int .i64 op] w fun e w' => e = .returned (.tuple #[.int .i64 T, .int .i64 t2, .int .i64 t3]) ∧ w = w')) (HW : Hid (∀ w, Calls Tryz.prog 182 #[.int .i64 op] w fun e w' => e = .returned (.tuple #[.int .i64 W, .int .i64 w2, .bool w3]) ∧ Below w.heap.size w w')) (hT : ¬ 0 < T) (h1 : decide (op ∈ [0, 1, 15, 26, 27, 209]) = false) (h2 : decide (op ∈ [2, 3, 4]) = false) (h3 : decide (op ∈ [12, 13, 16, 32, 33, 34, 35, 36, 210]) = false) (h4 : (op == 14) = false) (h5 : (op == 17) = false) (h6 : (op == 28) = true) (w : World) :
    Calls Tryz.prog 158 #[.int .i64 op] w fun e w' => e = .returned (.tuple #[.int .i64 6, .int .i64 0]) ∧ Below w.heap.size w w' := by
  have HO1 := Lib.hid (refOneLit op [0, 1, 15, 26, 27, 209] (by decide) _ h1)
  have HO2 := Lib.hid (refOneLit op [2, 3, 4] (by decide) _ h2)
  have HO3 := Lib.hid (refOneLit op [12, 13, 16, 32, 33, 34, 35, 36, 210] (by decide) _ h3)
  clear h1 h2 h3
  have hb := Below.refl w.heap.size w
  go_enter Tryz.func158, Tryz.ntmps158
  go_wp2_with (first
    | (go_at_call 182; refine (HW.out _).mono ?_; rintro e w1 ⟨rfl, hh⟩; replace hb := hb.trans (hh.mono hb.size); clear hh)
    | (go_at_call 183; refine (HS.out _).mono ?_; rintro e w1 ⟨rfl, rfl⟩)
    | (go_at_call 128; refine (HO1.out _).mono ?_; rintro e w1 ⟨rfl, hh⟩; replace hb := hb.trans (hh.mono hb.size); clear hh HO1)
    | (go_at_call 128; refine (HO2.out _).mono ?_; rintro e w1 ⟨rfl, hh⟩; replace hb := hb.trans (hh.mono hb.size); clear hh HO2)
    | (go_at_call 128; refine (HO3.out _).mono ?_; rintro e w1 ⟨rfl, hh⟩; replace hb := hb.trans (hh.mono hb.size); clear hh HO3))
  go_ret2
  exact ⟨rfl, hb⟩
set_option maxRecDepth 100000 in
set_option maxHeartbeats 1000000 in
theorem refShape_s7 (op T t2 t3 W w2 : Int) (w3 : Bool) (HS : Hid (∀ w, Calls Tryz.prog 183 #[.int .i64 op] w fun e w' => e = .returned (.tuple #[.int .i64 T, .int .i64 t2, .int .i64 t3]) ∧ w = w')) (HW : Hid (∀ w, Calls Tryz.prog 182 #[.int .i64 op] w fun e w' => e = .returned (.tuple #[.int .i64 W, .int .i64 w2, .bool w3]) ∧ Below w.heap.size w w')) (hT : ¬ 0 < T) (h1 : decide (op ∈ [0, 1, 15, 26, 27, 209]) = false) (h2 : decide (op ∈ [2, 3, 4]) = false) (h3 : decide (op ∈ [12, 13, 16, 32, 33, 34, 35, 36, 210]) = false) (h4 : (op == 14) = false) (h5 : (op == 17) = false) (h6 : (op == 28) = false) (h7 : 0 < W) (w : World) :
    Calls Tryz.prog 158 #[.int .i64 op] w fun e w' => e = .returned (.tuple #[.int .i64 7, .int .i64 0]) ∧ Below w.heap.size w w' := by
  have HO1 := Lib.hid (refOneLit op [0, 1, 15, 26, 27, 209] (by decide) _ h1)
  have HO2 := Lib.hid (refOneLit op [2, 3, 4] (by decide) _ h2)
  have HO3 := Lib.hid (refOneLit op [12, 13, 16, 32, 33, 34, 35, 36, 210] (by decide) _ h3)
  clear h1 h2 h3
  have hb := Below.refl w.heap.size w
  go_enter Tryz.func158, Tryz.ntmps158
  go_wp2_with (first
    | (go_at_call 182; refine (HW.out _).mono ?_; rintro e w1 ⟨rfl, hh⟩; replace hb := hb.trans (hh.mono hb.size); clear hh)
    | (go_at_call 183; refine (HS.out _).mono ?_; rintro e w1 ⟨rfl, rfl⟩)
    | (go_at_call 128; refine (HO1.out _).mono ?_; rintro e w1 ⟨rfl, hh⟩; replace hb := hb.trans (hh.mono hb.size); clear hh HO1)
    | (go_at_call 128; refine (HO2.out _).mono ?_; rintro e w1 ⟨rfl, hh⟩; replace hb := hb.trans (hh.mono hb.size); clear hh HO2)
    | (go_at_call 128; refine (HO3.out _).mono ?_; rintro e w1 ⟨rfl, hh⟩; replace hb := hb.trans (hh.mono hb.size); clear hh HO3))
  go_ret2
  exact ⟨rfl, hb⟩
set_option maxRecDepth 100000 in
set_option maxHeartbeats 1000000 in
theorem refShape_s8 (op T t2 t3 W w2 : Int) (w3 : Bool) (HS : Hid (∀ w, Calls Tryz.prog 183 #[.int .i64 op] w fun e w' => e = .returned (.tuple #[.int .i64 T, .int .i64 t2, .int .i64 t3]) ∧ w = w')) (HW : Hid (∀ w, Calls Tryz.prog 182 #[.int .i64 op] w fun e w' => e = .returned (.tuple #[.int .i64 W, .int .i64 w2, .bool w3]) ∧ Below w.heap.size w w')) (hT : ¬ 0 < T) (h1 : decide (op ∈ [0, 1, 15, 26, 27, 209]) = false) (h2 : decide (op ∈ [2, 3, 4]) = false) (h3 : decide (op ∈ [12, 13, 16, 32, 33, 34, 35, 36, 210]) = false) (h4 : (op == 14) = false) (h5 : (op == 17) = false) (h6 : (op == 28) = false) (h7 : ¬ 0 < W) (h8 : decide (op ∈ [37, 38, 63, 64, 64523, 64527, 64528, 64529]) = true) (w : World) :
    Calls Tryz.prog 158 #[.int .i64 op] w fun e w' => e = .returned (.tuple #[.int .i64 8, .int .i64 0]) ∧ Below w.heap.size w w' := by
  have HO1 := Lib.hid (refOneLit op [0, 1, 15, 26, 27, 209] (by decide) _ h1)
  have HO2 := Lib.hid (refOneLit op [2, 3, 4] (by decide) _ h2)
  have HO3 := Lib.hid (refOneLit op [12, 13, 16, 32, 33, 34, 35, 36, 210] (by decide) _ h3)
  have HO8 := Lib.hid (refOneLit op [37, 38, 63, 64, 64523, 64527, 64528, 64529] (by decide) _ h8)
  clear h1 h2 h3 h8
  have hb := Below.refl w.heap.size w
  go_enter Tryz.func158, Tryz.ntmps158
  go_wp2_with (first
    | (go_at_call 182; refine (HW.out _).mono ?_; rintro e w1 ⟨rfl, hh⟩; replace hb := hb.trans (hh.mono hb.size); clear hh)
    | (go_at_call 183; refine (HS.out _).mono ?_; rintro e w1 ⟨rfl, rfl⟩)
    | (go_at_call 128; refine (HO1.out _).mono ?_; rintro e w1 ⟨rfl, hh⟩; replace hb := hb.trans (hh.mono hb.size); clear hh HO1)
    | (go_at_call 128; refine (HO2.out _).mono ?_; rintro e w1 ⟨rfl, hh⟩; replace hb := hb.trans (hh.mono hb.size); clear hh HO2)
    | (go_at_call 128; refine (HO3.out _).mono ?_; rintro e w1 ⟨rfl, hh⟩; replace hb := hb.trans (hh.mono hb.size); clear hh HO3)
    | (go_at_call 128; refine (HO8.out _).mono ?_; rintro e w1 ⟨rfl, hh⟩; replace hb := hb.trans (hh.mono hb.size); clear hh HO8))
  go_ret2
  exact ⟨rfl, hb⟩
set_option maxRecDepth 100000 in
set_option maxHeartbeats 1000000 in
theorem refShape_s9a (op T t2 t3 W w2 : Int) (w3 : Bool) (HS : Hid (∀ w, Calls Tryz.prog 183 #[.int .i64 op] w fun e w' => e = .returned (.tuple #[.int .i64 T, .int .i64 t2, .int .i64 t3]) ∧ w = w')) (HW : Hid (∀ w, Calls Tryz.prog 182 #[.int .i64 op] w fun e w' => e = .returned (.tuple #[.int .i64 W, .int .i64 w2, .bool w3]) ∧ Below w.heap.size w w')) (hT : ¬ 0 < T) (h1 : decide (op ∈ [0, 1, 15, 26, 27, 209]) = false) (h2 : decide (op ∈ [2, 3, 4]) = false) (h3 : decide (op ∈ [12, 13, 16, 32, 33, 34, 35, 36, 210]) = false) (h4 : (op == 14) = false) (h5 : (op == 17) = false) (h6 : (op == 28) = false) (h7 : ¬ 0 < W) (h8 : decide (op ∈ [37, 38, 63, 64, 64523, 64527, 64528, 64529]) = false) (h9 : (op == 64522) = true) (w : World) :
    Calls Tryz.prog 158 #[.int .i64 op] w fun e w' => e = .returned (.tuple #[.int .i64 9, .int .i64 0]) ∧ Below w.heap.size w w' := by
  have HO1 := Lib.hid (refOneLit op [0, 1, 15, 26, 27, 209] (by decide) _ h1)
  have HO2 := Lib.hid (refOneLit op [2, 3, 4] (by decide) _ h2)
  have HO3 := Lib.hid (refOneLit op [12, 13, 16, 32, 33, 34, 35, 36, 210] (by decide) _ h3)
  have HO8 := Lib.hid (refOneLit op [37, 38, 63, 64, 64523, 64527, 64528, 64529] (by decide) _ h8)
  clear h1 h2 h3 h8
  have hb := Below.refl w.heap.size w
  go_enter Tryz.func158, Tryz.ntmps158
  go_wp2_with (first
    | (go_at_call 182; refine (HW.out _).mono ?_; rintro e w1 ⟨rfl, hh⟩; replace hb := hb.trans (hh.mono hb.size); clear hh)
    | (go_at_call 183; refine (HS.out _).mono ?_; rintro e w1 ⟨rfl, rfl⟩)
    | (go_at_call 128; refine (HO1.out _).mono ?_; rintro e w1 ⟨rfl, hh⟩; replace hb := hb.trans (hh.mono hb.size); clear hh HO1)
    | (go_at_call 128; refine (HO2.out _).mono ?_; rintro e w1 ⟨rfl, hh⟩; replace hb := hb.trans (hh.mono hb.size); clear hh HO2)
    | (go_at_call 128; refine (HO3.out _).mono ?_; rintro e w1 ⟨rfl, hh⟩; replace hb := hb.trans (hh.mono hb.size); clear hh HO3)
    | (go_at_call 128; refine (HO8.out _).mono ?_; rintro e w1 ⟨rfl, hh⟩; replace hb := hb.trans (hh.mono hb.size); clear hh HO8))
  go_ret2
  exact ⟨rfl, hb⟩
set_option maxRecDepth 100000 in
set_option maxHeartbeats 1000000 in
theorem refShape_s9b (op T t2 t3 W w2 : Int) (w3 : Bool) (HS : Hid (∀ w, Calls Tryz.prog 183 #[.int .i64 op] w fun e w' => e = .returned (.tuple #[.int .i64 T, .int .i64 t2, .int .i64 t3]) ∧ w = w')) (HW : Hid (∀ w, Calls Tryz.prog 182 #[.int .i64 op] w fun e w' => e = .returned (.tuple #[.int .i64 W, .int .i64 w2, .bool w3]) ∧ Below w.heap.size w w')) (hT : ¬ 0 < T) (h1 : decide (op ∈ [0, 1, 15, 26, 27, 209]) = false) (h2 : decide (op ∈ [2, 3, 4]) = false) (h3 : decide (op ∈ [12, 13, 16, 32, 33, 34, 35, 36, 210]) = false) (h4 : (op == 14) = false) (h5 : (op == 17) = false) (h6 : (op == 28) = false) (h7 : ¬ 0 < W) (h8 : decide (op ∈ [37, 38, 63, 64, 64523, 64527, 64528, 64529]) = false) (h9 : (op == 64522) = false) (hA : (op == 64526) = true) (w : World) :
    Calls Tryz.prog 158 #[.int .i64 op] w fun e w' => e = .returned (.tuple #[.int .i64 9, .int .i64 0]) ∧ Below w.heap.size w w' := by
  have HO1 := Lib.hid (refOneLit op [0, 1, 15, 26, 27, 209] (by decide) _ h1)
  have HO2 := Lib.hid (refOneLit op [2, 3, 4] (by decide) _ h2)
  have HO3 := Lib.hid (refOneLit op [12, 13, 16, 32, 33, 34, 35, 36, 210] (by decide) _ h3)
  have HO8 := Lib.hid (refOneLit op [37, 38, 63, 64, 64523, 64527, 64528, 64529] (by decide) _ h8)
  clear h1 h2 h3 h8
  have hb := Below.refl w.heap.size w
  go_enter Tryz.func158, Tryz.ntmps158
  go_wp2_with (first
    | (go_at_call 182; refine (HW.out _).mono ?_; rintro e w1 ⟨rfl, hh⟩; replace hb := hb.trans (hh.mono hb.size); clear hh)
    | (go_at_call 183; refine (HS.out _).mono ?_; rintro e w1 ⟨rfl, rfl⟩)
    | (go_at_call 128; refine (HO1.out _).mono ?_; rintro e w1 ⟨rfl, hh⟩; replace hb := hb.trans (hh.mono hb.size); clear hh HO1)
    | (go_at_call 128; refine (HO2.out _).mono ?_; rintro e w1 ⟨rfl, hh⟩; replace hb := hb.trans (hh.mono hb.size); clear hh HO2)
    | (go_at_call 128; refine (HO3.out _).mono ?_; rintro e w1 ⟨rfl, hh⟩; replace hb := hb.trans (hh.mono hb.size); clear hh HO3)
    | (go_at_call 128; refine (HO8.out _).mono ?_; rintro e w1 ⟨rfl, hh⟩; replace hb := hb.trans (hh.mono hb.size); clear hh HO8))
  go_ret2
  exact ⟨rfl, hb⟩
set_option maxRecDepth 100000 in
set_option maxHeartbeats 1000000 in
theorem refShape_s10a (op T t2 t3 W w2 : Int) (w3 : Bool) (HS : Hid (∀ w, Calls Tryz.prog 183 #[.int .i64 op] w fun e w' => e = .returned (.tuple #[.int .i64 T, .int .i64 t2, .int .i64 t3]) ∧ w = w')) (HW : Hid (∀ w, Calls Tryz.prog 182 #[.int .i64 op] w fun e w' => e = .returned (.tuple #[.int .i64 W, .int .i64 w2, .bool w3]) ∧ Below w.heap.size w w')) (hT : ¬ 0 < T) (h1 : decide (op ∈ [0, 1, 15, 26, 27, 209]) = false) (h2 : decide (op ∈ [2, 3, 4]) = false) (h3 : decide (op ∈ [12, 13, 16, 32, 33, 34, 35, 36, 210]) = false) (h4 : (op == 14) = false) (h5 : (op == 17) = false) (h6 : (op == 28) = false) (h7 : ¬ 0 < W) (h8 : decide (op ∈ [37, 38, 63, 64, 64523, 64527, 64528, 64529]) = false) (h9 : (op == 64522) = false) (hA : (op == 64526) = false) (hB : (op == 65) = true) (w : World) :
    Calls Tryz.prog 158 #[.int .i64 op] w fun e w' => e = .returned (.tuple #[.int .i64 10, .int .i64 0]) ∧ Below w.heap.size w w' := by
  have HO1 := Lib.hid (refOneLit op [0, 1, 15, 26, 27, 209] (by decide) _ h1)
  have HO2 := Lib.hid (refOneLit op [2, 3, 4] (by decide) _ h2)
  have HO3 := Lib.hid (refOneLit op [12, 13, 16, 32, 33, 34, 35, 36, 210] (by decide) _ h3)
  have HO8 := Lib.hid (refOneLit op [37, 38, 63, 64, 64523, 64527, 64528, 64529] (by decide) _ h8)
  clear h1 h2 h3 h8
  have hb := Below.refl w.heap.size w
  go_enter Tryz.func158, Tryz.ntmps158
  go_wp2_with (first
    | (go_at_call 182; refine (HW.out _).mono ?_; rintro e w1 ⟨rfl, hh⟩; replace hb := hb.trans (hh.mono hb.size); clear hh)
    | (go_at_call 183; refine (HS.out _).mono ?_; rintro e w1 ⟨rfl, rfl⟩)
    | (go_at_call 128; refine (HO1.out _).mono ?_; rintro e w1 ⟨rfl, hh⟩; replace hb := hb.trans (hh.mono hb.size); clear hh HO1)
    | (go_at_call 128; refine (HO2.out _).mono ?_; rintro e w1 ⟨rfl, hh⟩; replace hb := hb.trans (hh.mono hb.size); clear hh HO2)
    | (go_at_call 128; refine (HO3.out _).mono ?_; rintro e w1 ⟨rfl, hh⟩; replace hb := hb.trans (hh.mono hb.size); clear hh HO3)
    | (go_at_call 128; refine (HO8.out _).mono ?_; rintro e w1 ⟨rfl, hh⟩; replace hb := hb.trans (hh.mono hb.size); clear hh HO8))
  go_ret2
  exact ⟨rfl, hb⟩
set_option maxRecDepth 100000 in
set_option maxHeartbeats 1000000 in
theorem refShape_s10b (op T t2 t3 W w2 : Int) (w3 : Bool) (HS : Hid (∀ w, Calls Tryz.prog 183 #[.int .i64 op] w fun e w' => e = .returned (.tuple #[.int .i64 T, .int .i64 t2, .int .i64 t3]) ∧ w = w')) (HW : Hid (∀ w, Calls Tryz.prog 182 #[.int .i64 op] w fun e w' => e = .returned (.tuple #[.int .i64 W, .int .i64 w2, .bool w3]) ∧ Below w.heap.size w w')) (hT : ¬ 0 < T) (h1 : decide (op ∈ [0, 1, 15, 26, 27, 209]) = false) (h2 : decide (op ∈ [2, 3, 4]) = false) (h3 : decide (op ∈ [12, 13, 16, 32, 33, 34, 35, 36, 210]) = false) (h4 : (op == 14) = false) (h5 : (op == 17) = false) (h6 : (op == 28) = false) (h7 : ¬ 0 < W) (h8 : decide (op ∈ [37, 38, 63, 64, 64523, 64527, 64528, 64529]) = false) (h9 : (op == 64522) = false) (hA : (op == 64526) = false) (hB : (op == 65) = false) (hC : (op == 66) = true) (w : World) :
    Calls Tryz.prog 158 #[.int .i64 op] w fun e w' => e = .returned (.tuple #[.int .i64 10, .int .i64 0]) ∧ Below w.heap.size w w' := by
  have HO1 := Lib.hid (refOneLit op [0, 1, 15, 26, 27, 209] (by decide) _ h1)
  have HO2 := Lib.hid (refOneLit op [2, 3, 4] (by decide) _ h2)
  have HO3 := Lib.hid (refOneLit op [12, 13, 16, 32, 33, 34, 35, 36, 210] (by decide) _ h3)
  have HO8 := Lib.hid (refOneLit op [37, 38, 63, 64, 64523, 64527, 64528, 64529] (by decide) _ h8)
  clear h1 h2 h3 h8
  have hb := Below.refl w.heap.size w
  go_enter Tryz.func158, Tryz.ntmps158
  go_wp2_with (first
    | (go_at_call 182; refine (HW.out _).mono ?_; rintro e w1 ⟨rfl, hh⟩; replace hb := hb.trans (hh.mono hb.size); clear hh)
    | (go_at_call 183; refine (HS.out _).mono ?_; rintro e w1 ⟨rfl, rfl⟩)
    | (go_at_call 128; refine (HO1.out _).mono ?_; rintro e w1 ⟨rfl, hh⟩; replace hb := hb.trans (hh.mono hb.size); clear hh HO1)
    | (go_at_call 128; refine (HO2.out _).mono ?_; rintro e w1 ⟨rfl, hh⟩; replace hb := hb.trans (hh.mono hb.size); clear hh HO2)
    | (go_at_call 128; refine (HO3.out _).mono ?_; rintro e w1 ⟨rfl, hh⟩; replace hb := hb.trans (hh.mono hb.size); clear hh HO3)
    | (go_at_call 128; refine (HO8.out _).mono ?_; rintro e w1 ⟨rfl, hh⟩; replace hb := hb.trans (hh.mono hb.size); clear hh HO8))
  go_ret2
  exact ⟨rfl, hb⟩
set_option maxRecDepth 100000 in
set_option maxHeartbeats 1000000 in
theorem refShape_s11 (op T t2 t3 W w2 : Int) (w3 : Bool) (HS : Hid (∀ w, Calls Tryz.prog 183 #[.int .i64 op] w fun e w' => e = .returned (.tuple #[.int .i64 T, .int .i64 t2, .int .i64 t3]) ∧ w = w')) (HW : Hid (∀ w, Calls Tryz.prog 182 #[.int .i64 op] w fun e w' => e = .returned (.tuple #[.int .i64 W, .int .i64 w2, .bool w3]) ∧ Below w.heap.size w w')) (hT : ¬ 0 < T) (h1 : decide (op ∈ [0, 1, 15, 26, 27, 209]) = false) (h2 : decide (op ∈ [2, 3, 4]) = false) (h3 : decide (op ∈ [12, 13, 16, 32, 33, 34, 35, 36, 210]) = false) (h4 : (op == 14) = false) (h5 : (op == 17) = false) (h6 : (op == 28) = false) (h7 : ¬ 0 < W) (h8 : decide (op ∈ [37, 38, 63, 64, 64523, 64527, 64528, 64529]) = false) (h9 : (op == 64522) = false) (hA : (op == 64526) = false) (hB : (op == 65) = false) (hC : (op == 66) = false) (hD : (op == 208) = true) (w : World) :
    Calls Tryz.prog 158 #[.int .i64 op] w fun e w' => e = .returned (.tuple #[.int .i64 11, .int .i64 0]) ∧ Below w.heap.size w w' := by
  have HO1 := Lib.hid (refOneLit op [0, 1, 15, 26, 27, 209] (by decide) _ h1)
  have HO2 := Lib.hid (refOneLit op [2, 3, 4] (by decide) _ h2)
  have HO3 := Lib.hid (refOneLit op [12, 13, 16, 32, 33, 34, 35, 36, 210] (by decide) _ h3)
  have HO8 := Lib.hid (refOneLit op [37, 38, 63, 64, 64523, 64527, 64528, 64529] (by decide) _ h8)
  clear h1 h2 h3 h8
  have hb := Below.refl w.heap.size w
  go_enter Tryz.func158, Tryz.ntmps158
  go_wp2_with (first
    | (go_at_call 182; refine (HW.out _).mono ?_; rintro e w1 ⟨rfl, hh⟩; replace hb := hb.trans (hh.mono hb.size); clear hh)
    | (go_at_call 183; refine (HS.out _).mono ?_; rintro e w1 ⟨rfl, rfl⟩)
    | (go_at_call 128; refine (HO1.out _).mono ?_; rintro e w1 ⟨rfl, hh⟩; replace hb := hb.trans (hh.mono hb.size); clear hh HO1)
    | (go_at_call 128; refine (HO2.out _).mono ?_; rintro e w1 ⟨rfl, hh⟩; replace hb := hb.trans (hh.mono hb.size); clear hh HO2)
    | (go_at_call 128; refine (HO3.out _).mono ?_; rintro e w1 ⟨rfl, hh⟩; replace hb := hb.trans (hh.mono hb.size); clear hh HO3)
    | (go_at_call 128; refine (HO8.out _).mono ?_; rintro e w1 ⟨rfl, hh⟩; replace hb := hb.trans (hh.mono hb.size); clear hh HO8))
  go_ret2
  exact ⟨rfl, hb⟩
set_option maxRecDepth 100000 in
set_option maxHeartbeats 1000000 in
theorem refShape_sf0 (op T t2 t3 W w2 : Int) (w3 : Bool) (HS : Hid (∀ w, Calls Tryz.prog 183 #[.int .i64 op] w fun e w' => e = .returned (.tuple #[.int .i64 T, .int .i64 t2, .int .i64 t3]) ∧ w = w')) (HW : Hid (∀ w, Calls Tryz.prog 182 #[.int .i64 op] w fun e w' => e = .returned (.tuple #[.int .i64 W, .int .i64 w2, .bool w3]) ∧ Below w.heap.size w w')) (hT : ¬ 0 < T) (h1 : decide (op ∈ [0, 1, 15, 26, 27, 209]) = false) (h2 : decide (op ∈ [2, 3, 4]) = false) (h3 : decide (op ∈ [12, 13, 16, 32, 33, 34, 35, 36, 210]) = false) (h4 : (op == 14) = false) (h5 : (op == 17) = false) (h6 : (op == 28) = false) (h7 : ¬ 0 < W) (h8 : decide (op ∈ [37, 38, 63, 64, 64523, 64527, 64528, 64529]) = false) (h9 : (op == 64522) = false) (hA : (op == 64526) = false) (hB : (op == 65) = false) (hC : (op == 66) = false) (hD : (op == 208) = false) (hE : decide (op ∈ [42, 43, 56, 57, 67, 68]) = true) (w : World) :
    Calls Tryz.prog 158 #[.int .i64 op] w fun e w' => e = .returned (.tuple #[.int .i64 0, .int .i64 3]) ∧ Below w.heap.size w w' := by
  have HO1 := Lib.hid (refOneLit op [0, 1, 15, 26, 27, 209] (by decide) _ h1)
  have HO2 := Lib.hid (refOneLit op [2, 3, 4] (by decide) _ h2)
  have HO3 := Lib.hid (refOneLit op [12, 13, 16, 32, 33, 34, 35, 36, 210] (by decide) _ h3)
  have HO8 := Lib.hid (refOneLit op [37, 38, 63, 64, 64523, 64527, 64528, 64529] (by decide) _ h8)
  have HO9 := Lib.hid (refOneLit op [42, 43, 56, 57, 67, 68] (by decide) _ hE)
  clear h1 h2 h3 h8 hE
  have hb := Below.refl w.heap.size w
  go_enter Tryz.func158, Tryz.ntmps158
  go_wp2_with (first
    | (go_at_call 182; refine (HW.out _).mono ?_; rintro e w1 ⟨rfl, hh⟩; replace hb := hb.trans (hh.mono hb.size); clear hh)
    | (go_at_call 183; refine (HS.out _).mono ?_; rintro e w1 ⟨rfl, rfl⟩)
    | (go_at_call 128; refine (HO1.out _).mono ?_; rintro e w1 ⟨rfl, hh⟩; replace hb := hb.trans (hh.mono hb.size); clear hh HO1)
    | (go_at_call 128; refine (HO2.out _).mono ?_; rintro e w1 ⟨rfl, hh⟩; replace hb := hb.trans (hh.mono hb.size); clear hh HO2)
    | (go_at_call 128; refine (HO3.out _).mono ?_; rintro e w1 ⟨rfl, hh⟩; replace hb := hb.trans (hh.mono hb.size); clear hh HO3)
    | (go_at_call 128; refine (HO8.out _).mono ?_; rintro e w1 ⟨rfl, hh⟩; replace hb := hb.trans (hh.mono hb.size); clear hh HO8)
    | (go_at_call 128; refine (HO9.out _).mono ?_; rintro e w1 ⟨rfl, hh⟩; replace hb := hb.trans (hh.mono hb.size); clear hh HO9))
  go_ret2
  exact ⟨rfl, hb⟩
set_option maxRecDepth 100000 in
set_option maxHeartbeats 1000000 in
theorem refShape_so0 (op T t2 t3 W w2 : Int) (w3 : Bool) (HS : Hid (∀ w, Calls Tryz.prog 183 #[.int .i64 op] w fun e w' => e = .returned (.tuple #[.int .i64 T, .int .i64 t2, .int .i64 t3]) ∧ w = w')) (HW : Hid (∀ w, Calls Tryz.prog 182 #[.int .i64 op] w fun e w' => e = .returned (.tuple #[.int .i64 W, .int .i64 w2, .bool w3]) ∧ Below w.heap.size w w')) (hT : ¬ 0 < T) (h1 : decide (op ∈ [0, 1, 15, 26, 27, 209]) = false) (h2 : decide (op ∈ [2, 3, 4]) = false) (h3 : decide (op ∈ [12, 13, 16, 32, 33, 34, 35, 36, 210]) = false) (h4 : (op == 14) = false) (h5 : (op == 17) = false) (h6 : (op == 28) = false) (h7 : ¬ 0 < W) (h8 : decide (op ∈ [37, 38, 63, 64, 64523, 64527, 64528, 64529]) = false) (h9 : (op == 64522) = false) (hA : (op == 64526) = false) (hB : (op == 65) = false) (hC : (op == 66) = false) (hD : (op == 208) = false) (hE : decide (op ∈ [42, 43, 56, 57, 67, 68]) = false) (r1 : op ≤ 90) (hF : (op == 253) = false) (w : World) :
    Calls Tryz.prog 158 #[.int .i64 op] w fun e w' => e = .returned (.tuple #[.int .i64 0, .int .i64 5]) ∧ Below w.heap.size w w' := by
  have HO1 := Lib.hid (refOneLit op [0, 1, 15, 26, 27, 209] (by decide) _ h1)
  have HO2 := Lib.hid (refOneLit op [2, 3, 4] (by decide) _ h2)
  have HO3 := Lib.hid (refOneLit op [12, 13, 16, 32, 33, 34, 35, 36, 210] (by decide) _ h3)
  have HO8 := Lib.hid (refOneLit op [37, 38, 63, 64, 64523, 64527, 64528, 64529] (by decide) _ h8)
  have HO9 := Lib.hid (refOneLit op [42, 43, 56, 57, 67, 68] (by decide) _ hE)
  clear h1 h2 h3 h8 hE
  have g91 : decide ((91 : Int) ≤ op) = false := decide_eq_false (by omega)
  have g139 : decide ((139 : Int) ≤ op) = false := decide_eq_false (by omega)
  have g168 : decide ((168 : Int) ≤ op) = false := decide_eq_false (by omega)
  have g174 : decide ((174 : Int) ≤ op) = false := decide_eq_false (by omega)
  have g64512 : decide ((64512 : Int) ≤ op) = false := decide_eq_false (by omega)
  clear  r1
  have hb := Below.refl w.heap.size w
  go_enter Tryz.func158, Tryz.ntmps158
  go_wp2_with (first
    | (go_at_call 182; refine (HW.out _).mono ?_; rintro e w1 ⟨rfl, hh⟩; replace hb := hb.trans (hh.mono hb.size); clear hh)
    | (go_at_call 183; refine (HS.out _).mono ?_; rintro e w1 ⟨rfl, rfl⟩)
    | (go_at_call 128; refine (HO1.out _).mono ?_; rintro e w1 ⟨rfl, hh⟩; replace hb := hb.trans (hh.mono hb.size); clear hh HO1)
    | (go_at_call 128; refine (HO2.out _).mono ?_; rintro e w1 ⟨rfl, hh⟩; replace hb := hb.trans (hh.mono hb.size); clear hh HO2)
    | (go_at_call 128; refine (HO3.out _).mono ?_; rintro e w1 ⟨rfl, hh⟩; replace hb := hb.trans (hh.mono hb.size); clear hh HO3)
    | (go_at_call 128; refine (HO8.out _).mono ?_; rintro e w1 ⟨rfl, hh⟩; replace hb := hb.trans (hh.mono hb.size); clear hh HO8)
    | (go_at_call 128; refine (HO9.out _).mono ?_; rintro e w1 ⟨rfl, hh⟩; replace hb := hb.trans (hh.mono hb.size); clear hh HO9))
  go_ret2
  exact ⟨rfl, hb⟩
set_option maxRecDepth 100000 in
set_option maxHeartbeats 1000000 in
theorem refShape_sf1 (op T t2 t3 W w2 : Int) (w3 : Bool) (HS : Hid (∀ w, Calls Tryz.prog 183 #[.int .i64 op] w fun e w' => e = .returned (.tuple #[.int .i64 T, .int .i64 t2, .int .i64 t3]) ∧ w = w')) (HW : Hid (∀ w, Calls Tryz.prog 182 #[.int .i64 op] w fun e w' => e = .returned (.tuple #[.int .i64 W, .int .i64 w2, .bool w3]) ∧ Below w.heap.size w w')) (hT : ¬ 0 < T) (h1 : decide (op ∈ [0, 1, 15, 26, 27, 209]) = false) (h2 : decide (op ∈ [2, 3, 4]) = false) (h3 : decide (op ∈ [12, 13, 16, 32, 33, 34, 35, 36, 210]) = false) (h4 : (op == 14) = false) (h5 : (op == 17) = false) (h6 : (op == 28) = false) (h7 : ¬ 0 < W) (h8 : decide (op ∈ [37, 38, 63, 64, 64523, 64527, 64528, 64529]) = false) (h9 : (op == 64522) = false) (hA : (op == 64526) = false) (hB : (op == 65) = false) (hC : (op == 66) = false) (hD : (op == 208) = false) (hE : decide (op ∈ [42, 43, 56, 57, 67, 68]) = false) (r0 : 91 ≤ op) (r1 : op ≤ 102) (w : World) :
    Calls Tryz.prog 158 #[.int .i64 op] w fun e w' => e = .returned (.tuple #[.int .i64 0, .int .i64 3]) ∧ Below w.heap.size w w' := by
  have HO1 := Lib.hid (refOneLit op [0, 1, 15, 26, 27, 209] (by decide) _ h1)
  have HO2 := Lib.hid (refOneLit op [2, 3, 4] (by decide) _ h2)
  have HO3 := Lib.hid (refOneLit op [12, 13, 16, 32, 33, 34, 35, 36, 210] (by decide) _ h3)
  have HO8 := Lib.hid (refOneLit op [37, 38, 63, 64, 64523, 64527, 64528, 64529] (by decide) _ h8)
  have HO9 := Lib.hid (refOneLit op [42, 43, 56, 57, 67, 68] (by decide) _ hE)
  clear h1 h2 h3 h8 hE
  have g91 : decide ((91 : Int) ≤ op) = true := decide_eq_true (by omega)
  have l91 : decide (op ≤ (102 : Int)) = true := decide_eq_true (by omega)
  have g139 : decide ((139 : Int) ≤ op) = false := decide_eq_false (by omega)
  have g168 : decide ((168 : Int) ≤ op) = false := decide_eq_false (by omega)
  have g174 : decide ((174 : Int) ≤ op) = false := decide_eq_false (by omega)
  have g64512 : decide ((64512 : Int) ≤ op) = false := decide_eq_false (by omega)
  clear  r0 r1
  have hb := Below.refl w.heap.size w
  go_enter Tryz.func158, Tryz.ntmps158
  go_wp2_with (first
    | (go_at_call 182; refine (HW.out _).mono ?_; rintro e w1 ⟨rfl, hh⟩; replace hb := hb.trans (hh.mono hb.size); clear hh)
    | (go_at_call 183; refine (HS.out _).mono ?_; rintro e w1 ⟨rfl, rfl⟩)
    | (go_at_call 128; refine (HO1.out _).mono ?_; rintro e w1 ⟨rfl, hh⟩; replace hb := hb.trans (hh.mono hb.size); clear hh HO1)
    | (go_at_call 128; refine (HO2.out _).mono ?_; rintro e w1 ⟨rfl, hh⟩; replace hb := hb.trans (hh.mono hb.size); clear hh HO2)
    | (go_at_call 128; refine (HO3.out _).mono ?_; rintro e w1 ⟨rfl, hh⟩; replace hb := hb.trans (hh.mono hb.size); clear hh HO3)
    | (go_at_call 128; refine (HO8.out _).mono ?_; rintro e w1 ⟨rfl, hh⟩; replace hb := hb.trans (hh.mono hb.size); clear hh HO8)
    | (go_at_call 128; refine (HO9.out _).mono ?_; rintro e w1 ⟨rfl, hh⟩; replace hb := hb.trans (hh.mono hb.size); clear hh HO9))
  go_ret2
  exact ⟨rfl, hb⟩
set_option maxRecDepth 100000 in
set_option maxHeartbeats 1000000 in
theorem refShape_so2 (op T t2 t3 W w2 : Int) (w3 : Bool) (HS : Hid (∀ w, Calls Tryz.prog 183 #[.int .i64 op] w fun e w' => e = .returned (.tuple #[.int .i64 T, .int .i64 t2, .int .i64 t3]) ∧ w = w')) (HW : Hid (∀ w, Calls Tryz.prog 182 #[.int .i64 op] w fun e w' => e = .returned (.tuple #[.int .i64 W, .int .i64 w2, .bool w3]) ∧ Below w.heap.size w w')) (hT : ¬ 0 < T) (h1 : decide (op ∈ [0, 1, 15, 26, 27, 209]) = false) (h2 : decide (op ∈ [2, 3, 4]) = false) (h3 : decide (op ∈ [12, 13, 16, 32, 33, 34, 35, 36, 210]) = false) (h4 : (op == 14) = false) (h5 : (op == 17) = false) (h6 : (op == 28) = false) (h7 : ¬ 0 < W) (h8 : decide (op ∈ [37, 38, 63, 64, 64523, 64527, 64528, 64529]) = false) (h9 : (op == 64522) = false) (hA : (op == 64526) = false) (hB : (op == 65) = false) (hC : (op == 66) = false) (hD : (op == 208) = false) (hE : decide (op ∈ [42, 43, 56, 57, 67, 68]) = false) (r0 : 103 ≤ op) (r1 : op ≤ 138) (hF : (op == 253) = false) (w : World) :
    Calls Tryz.prog 158 #[.int .i64 op] w fun e w' => e = .returned (.tuple #[.int .i64 0, .int .i64 5]) ∧ Below w.heap.size w w' := by
  have HO1 := Lib.hid (refOneLit op [0, 1, 15, 26, 27, 209] (by decide) _ h1)
  have HO2 := Lib.hid (refOneLit op [2, 3, 4] (by decide) _ h2)
  have HO3 := Lib.hid (refOneLit op [12, 13, 16, 32, 33, 34, 35, 36, 210] (by decide) _ h3)
  have HO8 := Lib.hid (refOneLit op [37, 38, 63, 64, 64523, 64527, 64528, 64529] (by decide) _ h8)
  have HO9 := Lib.hid (refOneLit op [42, 43, 56, 57, 67, 68] (by decide) _ hE)
  clear h1 h2 h3 h8 hE
  have g91 : decide ((91 : Int) ≤ op) = true := decide_eq_true (by omega)
  have l91 : decide (op ≤ (102 : Int)) = false := decide_eq_false (by omega)
  have g139 : decide ((139 : Int) ≤ op) = false := decide_eq_false (by omega)
  have g168 : decide ((168 : Int) ≤ op) = false := decide_eq_false (by omega)
  have g174 : decide ((174 : Int) ≤ op) = false := decide_eq_false (by omega)
  have g64512 : decide ((64512 : Int) ≤ op) = false := decide_eq_false (by omega)
  clear  r0 r1
  have hb := Below.refl w.heap.size w
  go_enter Tryz.func158, Tryz.ntmps158
  go_wp2_with (first
    | (go_at_call 182; refine (HW.out _).mono ?_; rintro e w1 ⟨rfl, hh⟩; replace hb := hb.trans (hh.mono hb.size); clear hh)
    | (go_at_call 183; refine (HS.out _).mono ?_; rintro e w1 ⟨rfl, rfl⟩)
    | (go_at_call 128; refine (HO1.out _).mono ?_; rintro e w1 ⟨rfl, hh⟩; replace hb := hb.trans (hh.mono hb.size); clear hh HO1)
    | (go_at_call 128; refine (HO2.out _).mono ?_; rintro e w1 ⟨rfl, hh⟩; replace hb := hb.trans (hh.mono hb.size); clear hh HO2)
    | (go_at_call 128; refine (HO3.out _).mono ?_; rintro e w1 ⟨rfl, hh⟩; replace hb := hb.trans (hh.mono hb.size); clear hh HO3)
    | (go_at_call 128; refine (HO8.out _).mono ?_; rintro e w1 ⟨rfl, hh⟩; replace hb := hb.trans (hh.mono hb.size); clear hh HO8)
    | (go_at_call 128; refine (HO9.out _).mono ?_; rintro e w1 ⟨rfl, hh⟩; replace hb := hb.trans (hh.mono hb.size); clear hh HO9))
  go_ret2
  exact ⟨rfl, hb⟩
set_option maxRecDepth 100000 in
set_option maxHeartbeats 1000000 in
theorem refShape_sf3 (op T t2 t3 W w2 : Int) (w3 : Bool) (HS : Hid (∀ w, Calls Tryz.prog 183 #[.int .i64 op] w fun e w' => e = .returned (.tuple #[.int .i64 T, .int .i64 t2, .int .i64 t3]) ∧ w = w')) (HW : Hid (∀ w, Calls Tryz.prog 182 #[.int .i64 op] w fun e w' => e = .returned (.tuple #[.int .i64 W, .int .i64 w2, .bool w3]) ∧ Below w.heap.size w w')) (hT : ¬ 0 < T) (h1 : decide (op ∈ [0, 1, 15, 26, 27, 209]) = false) (h2 : decide (op ∈ [2, 3, 4]) = false) (h3 : decide (op ∈ [12, 13, 16, 32, 33, 34, 35, 36, 210]) = false) (h4 : (op == 14) = false) (h5 : (op == 17) = false) (h6 : (op == 28) = false) (h7 : ¬ 0 < W) (h8 : decide (op ∈ [37, 38, 63, 64, 64523, 64527, 64528, 64529]) = false) (h9 : (op == 64522) = false) (hA : (op == 64526) = false) (hB : (op == 65) = false) (hC : (op == 66) = false) (hD : (op == 208) = false) (hE : decide (op ∈ [42, 43, 56, 57, 67, 68]) = false) (r0 : 139 ≤ op) (r1 : op ≤ 166) (w : World) :
    Calls Tryz.prog 158 #[.int .i64 op] w fun e w' => e = .returned (.tuple #[.int .i64 0, .int .i64 3]) ∧ Below w.heap.size w w' := by
  have HO1 := Lib.hid (refOneLit op [0, 1, 15, 26, 27, 209] (by decide) _ h1)
  have HO2 := Lib.hid (refOneLit op [2, 3, 4] (by decide) _ h2)
  have HO3 := Lib.hid (refOneLit op [12, 13, 16, 32, 33, 34, 35, 36, 210] (by decide) _ h3)
  have HO8 := Lib.hid (refOneLit op [37, 38, 63, 64, 64523, 64527, 64528, 64529] (by decide) _ h8)
  have HO9 := Lib.hid (refOneLit op [42, 43, 56, 57, 67, 68] (by decide) _ hE)
  clear h1 h2 h3 h8 hE
  have g91 : decide ((91 : Int) ≤ op) = true := decide_eq_true (by omega)
  have l91 : decide (op ≤ (102 : Int)) = false := decide_eq_false (by omega)
  have g139 : decide ((139 : Int) ≤ op) = true := decide_eq_true (by omega)
  have l139 : decide (op ≤ (166 : Int)) = true := decide_eq_true (by omega)
  have g168 : decide ((168 : Int) ≤ op) = false := decide_eq_false (by omega)
  have g174 : decide ((174 : Int) ≤ op) = false := decide_eq_false (by omega)
  have g64512 : decide ((64512 : Int) ≤ op) = false := decide_eq_false (by omega)
  clear  r0 r1
  have hb := Below.refl w.heap.size w
  go_enter Tryz.func158, Tryz.ntmps158
  go_wp2_with (first
    | (go_at_call 182; refine (HW.out _).mono ?_; rintro e w1 ⟨rfl, hh⟩; replace hb := hb.trans (hh.mono hb.size); clear hh)
    | (go_at_call 183; refine (HS.out _).mono ?_; rintro e w1 ⟨rfl, rfl⟩)
    | (go_at_call 128; refine (HO1.out _).mono ?_; rintro e w1 ⟨rfl, hh⟩; replace hb := hb.trans (hh.mono hb.size); clear hh HO1)
    | (go_at_call 128; refine (HO2.out _).mono ?_; rintro e w1 ⟨rfl, hh⟩; replace hb := hb.trans (hh.mono hb.size); clear hh HO2)
    | (go_at_call 128; refine (HO3.out _).mono ?_; rintro e w1 ⟨rfl, hh⟩; replace hb := hb.trans (hh.mono hb.size); clear hh HO3)
    | (go_at_call 128; refine (HO8.out _).mono ?_; rintro e w1 ⟨rfl, hh⟩; replace hb := hb.trans (hh.mono hb.size); clear hh HO8)
    | (go_at_call 128; refine (HO9.out _).mono ?_; rintro e w1 ⟨rfl, hh⟩; replace hb := hb.trans (hh.mono hb.size); clear hh HO9))
  go_ret2
  exact ⟨rfl, hb⟩
set_option maxRecDepth 100000 in
set_option maxHeartbeats 1000000 in
theorem refShape_so4 (op T t2 t3 W w2 : Int) (w3 : Bool) (HS : Hid (∀ w, Calls Tryz.prog 183 #[.int .i64 op] w fun e w' => e = .returned (.tuple #[.int .i64 T, .int .i64 t2, .int .i64 t3]) ∧ w = w')) (HW : Hid (∀ w, Calls Tryz.prog 182 #[.int .i64 op] w fun e w' => e = .returned (.tuple #[.int .i64 W, .int .i64 w2, .bool w3]) ∧ Below w.heap.size w w')) (hT : ¬ 0 < T) (h1 : decide (op ∈ [0, 1, 15, 26, 27, 209]) = false) (h2 : decide (op ∈ [2, 3, 4]) = false) (h3 : decide (op ∈ [12, 13, 16, 32, 33, 34, 35, 36, 210]) = false) (h4 : (op == 14) = false) (h5 : (op == 17) = false) (h6 : (op == 28) = false) (h7 : ¬ 0 < W) (h8 : decide (op ∈ [37, 38, 63, 64, 64523, 64527, 64528, 64529]) = false) (h9 : (op == 64522) = false) (hA : (op == 64526) = false) (hB : (op == 65) = false) (hC : (op == 66) = false) (hD : (op == 208) = false) (hE : decide (op ∈ [42, 43, 56, 57, 67, 68]) = false) (r0 : 167 ≤ op) (r1 : op ≤ 167) (hF : (op == 253) = false) (w : World) :
    Calls Tryz.prog 158 #[.int .i64 op] w fun e w' => e = .returned (.tuple #[.int .i64 0, .int .i64 5]) ∧ Below w.heap.size w w' := by
  have HO1 := Lib.hid (refOneLit op [0, 1, 15, 26, 27, 209] (by decide) _ h1)
  have HO2 := Lib.hid (refOneLit op [2, 3, 4] (by decide) _ h2)
  have HO3 := Lib.hid (refOneLit op [12, 13, 16, 32, 33, 34, 35, 36, 210] (by decide) _ h3)
  have HO8 := Lib.hid (refOneLit op [37, 38, 63, 64, 64523, 64527, 64528, 64529] (by decide) _ h8)
  have HO9 := Lib.hid (refOneLit op [42, 43, 56, 57, 67, 68] (by decide) _ hE)
  clear h1 h2 h3 h8 hE
  have g91 : decide ((91 : Int) ≤ op) = true := decide_eq_true (by omega)
  have l91 : decide (op ≤ (102 : Int)) = false := decide_eq_false (by omega)
  have g139 : decide ((139 : Int) ≤ op) = true := decide_eq_true (by omega)
  have l139 : decide (op ≤ (166 : Int)) = false := decide_eq_false (by omega)
  have g168 : decide ((168 : Int) ≤ op) = false := decide_eq_false (by omega)
  have g174 : decide ((174 : Int) ≤ op) = false := decide_eq_false (by omega)
  have g64512 : decide ((64512 : Int) ≤ op) = false := decide_eq_false (by omega)
  clear  r0 r1
  have hb := Below.refl w.heap.size w
  go_enter Tryz.func158, Tryz.ntmps158
  go_wp2_with (first
    | (go_at_call 182; refine (HW.out _).mono ?_; rintro e w1 ⟨rfl, hh⟩; replace hb := hb.trans (hh.mono hb.size); clear hh)
    | (go_at_call 183; refine (HS.out _).mono ?_; rintro e w1 ⟨rfl, rfl⟩)
    | (go_at_call 128; refine (HO1.out _).mono ?_; rintro e w1 ⟨rfl, hh⟩; replace hb := hb.trans (hh.mono hb.size); clear hh HO1)
    | (go_at_call 128; refine (HO2.out _).mono ?_; rintro e w1 ⟨rfl, hh⟩; replace hb := hb.trans (hh.mono hb.size); clear hh HO2)
    | (go_at_call 128; refine (HO3.out _).mono ?_; rintro e w1 ⟨rfl, hh⟩; replace hb := hb.trans (hh.mono hb.size); clear hh HO3)
    | (go_at_call 128; refine (HO8.out _).mono ?_; rintro e w1 ⟨rfl, hh⟩; replace hb := hb.trans (hh.mono hb.size); clear hh HO8)
    | (go_at_call 128; refine (HO9.out _).mono ?_; rintro e w1 ⟨rfl, hh⟩; replace hb := hb.trans (hh.mono hb.size); clear hh HO9))
  go_ret2
  exact ⟨rfl, hb⟩
set_option maxRecDepth 100000 in
set_option maxHeartbeats 1000000 in
theorem refShape_sf5 (op T t2 t3 W w2 : Int) (w3 : Bool) (HS : Hid (∀ w, Calls Tryz.prog 183 #[.int .i64 op] w fun e w' => e = .returned (.tuple #[.int .i64 T, .int .i64 t2, .int .i64 t3]) ∧ w = w')) (HW : Hid (∀ w, Calls Tryz.prog 182 #[.int .i64 op] w fun e w' => e = .returned (.tuple #[.int .i64 W, .int .i64 w2, .bool w3]) ∧ Below w.heap.size w w')) (hT : ¬ 0 < T) (h1 : decide (op ∈ [0, 1, 15, 26, 27, 209]) = false) (h2 : decide (op ∈ [2, 3, 4]) = false) (h3 : decide (op ∈ [12, 13, 16, 32, 33, 34, 35, 36, 210]) = false) (h4 : (op == 14) = false) (h5 : (op == 17) = false) (h6 : (op == 28) = false) (h7 : ¬ 0 < W) (h8 : decide (op ∈ [37, 38, 63, 64, 64523, 64527, 64528, 64529]) = false) (h9 : (op == 64522) = false) (hA : (op == 64526) = false) (hB : (op == 65) = false) (hC : (op == 66) = false) (hD : (op == 208) = false) (hE : decide (op ∈ [42, 43, 56, 57, 67, 68]) = false) (r0 : 168 ≤ op) (r1 : op ≤ 171) (w : World) :
    Calls Tryz.prog 158 #[.int .i64 op] w fun e w' => e = .returned (.tuple #[.int .i64 0, .int .i64 3]) ∧ Below w.heap.size w w' := by
  have HO1 := Lib.hid (refOneLit op [0, 1, 15, 26, 27, 209] (by decide) _ h1)
  have HO2 := Lib.hid (refOneLit op [2, 3, 4] (by decide) _ h2)
  have HO3 := Lib.hid (refOneLit op [12, 13, 16, 32, 33, 34, 35, 36, 210] (by decide) _ h3)
  have HO8 := Lib.hid (refOneLit op [37, 38, 63, 64, 64523, 64527, 64528, 64529] (by decide) _ h8)
  have HO9 := Lib.hid (refOneLit op [42, 43, 56, 57, 67, 68] (by decide) _ hE)
  clear h1 h2 h3 h8 hE
  have g91 : decide ((91 : Int) ≤ op) = true := decide_eq_true (by omega)
  have l91 : decide (op ≤ (102 : Int)) = false := decide_eq_false (by omega)
  have g139 : decide ((139 : Int) ≤ op) = true := decide_eq_true (by omega)
  have l139 : decide (op ≤ (166 : Int)) = false := decide_eq_false (by omega)
  have g168 : decide ((168 : Int) ≤ op) = true := decide_eq_true (by omega)
  have l168 : decide (op ≤ (171 : Int)) = true := decide_eq_true (by omega)
  have g174 : decide ((174 : Int) ≤ op) = false := decide_eq_false (by omega)
  have g64512 : decide ((64512 : Int) ≤ op) = false := decide_eq_false (by omega)
  clear  r0 r1
  have hb := Below.refl w.heap.size w
  go_enter Tryz.func158, Tryz.ntmps158
  go_wp2_with (first
    | (go_at_call 182; refine (HW.out _).mono ?_; rintro e w1 ⟨rfl, hh⟩; replace hb := hb.trans (hh.mono hb.size); clear hh)
    | (go_at_call 183; refine (HS.out _).mono ?_; rintro e w1 ⟨rfl, rfl⟩)
    | (go_at_call 128; refine (HO1.out _).mono ?_; rintro e w1 ⟨rfl, hh⟩; replace hb := hb.trans (hh.mono hb.size); clear hh HO1)
    | (go_at_call 128; refine (HO2.out _).mono ?_; rintro e w1 ⟨rfl, hh⟩; replace hb := hb.trans (hh.mono hb.size); clear hh HO2)
    | (go_at_call 128; refine (HO3.out _).mono ?_; rintro e w1 ⟨rfl, hh⟩; replace hb := hb.trans (hh.mono hb.size); clear hh HO3)
    | (go_at_call 128; refine (HO8.out _).mono ?_; rintro e w1 ⟨rfl, hh⟩; replace hb := hb.trans (hh.mono hb.size); clear hh HO8)
    | (go_at_call 128; refine (HO9.out _).mono ?_; rintro e w1 ⟨rfl, hh⟩; replace hb := hb.trans (hh.mono hb.size); clear hh HO9))
  go_ret2
  exact ⟨rfl, hb⟩
set_option maxRecDepth 100000 in
set_option maxHeartbeats 1000000 in
theorem refShape_so6 (op T t2 t3 W w2 : Int) (w3 : Bool) (HS : Hid (∀ w, Calls Tryz.prog 183 #[.int .i64 op] w fun e w' => e = .returned (.tuple #[.int .i64 T, .int .i64 t2, .int .i64 t3]) ∧ w = w')) (HW : Hid (∀ w, Calls Tryz.prog 182 #[.int .i64 op] w fun e w' => e = .returned (.tuple #[.int .i64 W, .int .i64 w2, .bool w3]) ∧ Below w.heap.size w w')) (hT : ¬ 0 < T) (h1 : decide (op ∈ [0, 1, 15, 26, 27, 209]) = false) (h2 : decide (op ∈ [2, 3, 4]) = false) (h3 : decide (op ∈ [12, 13, 16, 32, 33, 34, 35, 36, 210]) = false) (h4 : (op == 14) = false) (h5 : (op == 17) = false) (h6 : (op == 28) = false) (h7 : ¬ 0 < W) (h8 : decide (op ∈ [37, 38, 63, 64, 64523, 64527, 64528, 64529]) = false) (h9 : (op == 64522) = false) (hA : (op == 64526) = false) (hB : (op == 65) = false) (hC : (op == 66) = false) (hD : (op == 208) = false) (hE : decide (op ∈ [42, 43, 56, 57, 67, 68]) = false) (r0 : 172 ≤ op) (r1 : op ≤ 173) (hF : (op == 253) = false) (w : World) :
    Calls Tryz.prog 158 #[.int .i64 op] w fun e w' => e = .returned (.tuple #[.int .i64 0, .int .i64 5]) ∧ Below w.heap.size w w' := by
  have HO1 := Lib.hid (refOneLit op [0, 1, 15, 26, 27, 209] (by decide) _ h1)
  have HO2 := Lib.hid (refOneLit op [2, 3, 4] (by decide) _ h2)
  have HO3 := Lib.hid (refOneLit op [12, 13, 16, 32, 33, 34, 35, 36, 210] (by decide) _ h3)
  have HO8 := Lib.hid (refOneLit op [37, 38, 63, 64, 64523, 64527, 64528, 64529] (by decide) _ h8)
  have HO9 := Lib.hid (refOneLit op [42, 43, 56, 57, 67, 68] (by decide) _ hE)
  clear h1 h2 h3 h8 hE
  have g91 : decide ((91 : Int) ≤ op) = true := decide_eq_true (by omega)
  have l91 : decide (op ≤ (102 : Int)) = false := decide_eq_false (by omega)
  have g139 : decide ((139 : Int) ≤ op) = true := decide_eq_true (by omega)
  have l139 : decide (op ≤ (166 : Int)) = false := decide_eq_false (by omega)
  have g168 : decide ((168 : Int) ≤ op) = true := decide_eq_true (by omega)
  have l168 : decide (op ≤ (171 : Int)) = false := decide_eq_false (by omega)
  have g174 : decide ((174 : Int) ≤ op) = false := decide_eq_false (by omega)
  have g64512 : decide ((64512 : Int) ≤ op) = false := decide_eq_false (by omega)
  clear  r0 r1
  have hb := Below.refl w.heap.size w
  go_enter Tryz.func158, Tryz.ntmps158
  go_wp2_with (first
    | (go_at_call 182; refine (HW.out _).mono ?_; rintro e w1 ⟨rfl, hh⟩; replace hb := hb.trans (hh.mono hb.size); clear hh)
    | (go_at_call 183; refine (HS.out _).mono ?_; rintro e w1 ⟨rfl, rfl⟩)
    | (go_at_call 128; refine (HO1.out _).mono ?_; rintro e w1 ⟨rfl, hh⟩; replace hb := hb.trans (hh.mono hb.size); clear hh HO1)
    | (go_at_call 128; refine (HO2.out _).mono ?_; rintro e w1 ⟨rfl, hh⟩; replace hb := hb.trans (hh.mono hb.size); clear hh HO2)
    | (go_at_call 128; refine (HO3.out _).mono ?_; rintro e w1 ⟨rfl, hh⟩; replace hb := hb.trans (hh.mono hb.size); clear hh HO3)
    | (go_at_call 128; refine (HO8.out _).mono ?_; rintro e w1 ⟨rfl, hh⟩; replace hb := hb.trans (hh.mono hb.size); clear hh HO8)
    | (go_at_call 128; refine (HO9.out _).mono ?_; rintro e w1 ⟨rfl, hh⟩; replace hb := hb.trans (hh.mono hb.size); clear hh HO9))
  go_ret2
  exact ⟨rfl, hb⟩
set_option maxRecDepth 100000 in
set_option maxHeartbeats 1000000 in
theorem refShape_sf7 (op T t2 t3 W w2 : Int) (w3 : Bool) (HS : Hid (∀ w, Calls Tryz.prog 183 #[.int .i64 op] w fun e w' => e = .returned (.tuple #[.int .i64 T, .int .i64 t2, .int .i64 t3]) ∧ w = w')) (HW : Hid (∀ w, Calls Tryz.prog 182 #[.int .i64 op] w fun e w' => e = .returned (.tuple #[.int .i64 W, .int .i64 w2, .bool w3]) ∧ Below w.heap.size w w')) (hT : ¬ 0 < T) (h1 : decide (op ∈ [0, 1, 15, 26, 27, 209]) = false) (h2 : decide (op ∈ [2, 3, 4]) = false) (h3 : decide (op ∈ [12, 13, 16, 32, 33, 34, 35, 36, 210]) = false) (h4 : (op == 14) = false) (h5 : (op == 17) = false) (h6 : (op == 28) = false) (h7 : ¬ 0 < W) (h8 : decide (op ∈ [37, 38, 63, 64, 64523, 64527, 64528, 64529]) = false) (h9 : (op == 64522) = false) (hA : (op == 64526) = false) (hB : (op == 65) = false) (hC : (op == 66) = false) (hD : (op == 208) = false) (hE : decide (op ∈ [42, 43, 56, 57, 67, 68]) = false) (r0 : 174 ≤ op) (r1 : op ≤ 191) (w : World) :
    Calls Tryz.prog 158 #[.int .i64 op] w fun e w' => e = .returned (.tuple #[.int .i64 0, .int .i64 3]) ∧ Below w.heap.size w w' := by
  have HO1 := Lib.hid (refOneLit op [0, 1, 15, 26, 27, 209] (by decide) _ h1)
  have HO2 := Lib.hid (refOneLit op [2, 3, 4] (by decide) _ h2)
  have HO3 := Lib.hid (refOneLit op [12, 13, 16, 32, 33, 34, 35, 36, 210] (by decide) _ h3)
  have HO8 := Lib.hid (refOneLit op [37, 38, 63, 64, 64523, 64527, 64528, 64529] (by decide) _ h8)
  have HO9 := Lib.hid (refOneLit op [42, 43, 56, 57, 67, 68] (by decide) _ hE)
  clear h1 h2 h3 h8 hE
  have g91 : decide ((91 : Int) ≤ op) = true := decide_eq_true (by omega)
  have l91 : decide (op ≤ (102 : Int)) = false := decide_eq_false (by omega)
  have g139 : decide ((139 : Int) ≤ op) = true := decide_eq_true (by omega)
  have l139 : decide (op ≤ (166 : Int)) = false := decide_eq_false (by omega)
  have g168 : decide ((168 : Int) ≤ op) = true := decide_eq_true (by omega)
  have l168 : decide (op ≤ (171 : Int)) = false := decide_eq_false (by omega)
  have g174 : decide ((174 : Int) ≤ op) = true := decide_eq_true (by omega)
  have l174 : decide (op ≤ (191 : Int)) = true := decide_eq_true (by omega)
  have g64512 : decide ((64512 : Int) ≤ op) = false := decide_eq_false (by omega)
  clear  r0 r1
  have hb := Below.refl w.heap.size w
  go_enter Tryz.func158, Tryz.ntmps158
  go_wp2_with (first
    | (go_at_call 182; refine (HW.out _).mono ?_; rintro e w1 ⟨rfl, hh⟩; replace hb := hb.trans (hh.mono hb.size); clear hh)
    | (go_at_call 183; refine (HS.out _).mono ?_; rintro e w1 ⟨rfl, rfl⟩)
    | (go_at_call 128; refine (HO1.out _).mono ?_; rintro e w1 ⟨rfl, hh⟩; replace hb := hb.trans (hh.mono hb.size); clear hh HO1)
    | (go_at_call 128; refine (HO2.out _).mono ?_; rintro e w1 ⟨rfl, hh⟩; replace hb := hb.trans (hh.mono hb.size); clear hh HO2)
    | (go_at_call 128; refine (HO3.out _).mono ?_; rintro e w1 ⟨rfl, hh⟩; replace hb := hb.trans (hh.mono hb.size); clear hh HO3)
    | (go_at_call 128; refine (HO8.out _).mono ?_; rintro e w1 ⟨rfl, hh⟩; replace hb := hb.trans (hh.mono hb.size); clear hh HO8)
    | (go_at_call 128; refine (HO9.out _).mono ?_; rintro e w1 ⟨rfl, hh⟩; replace hb := hb.trans (hh.mono hb.size); clear hh HO9))
  go_ret2
  exact ⟨rfl, hb⟩
set_option maxRecDepth 100000 in
set_option maxHeartbeats 1000000 in
theorem refShape_sv (op T t2 t3 W w2 : Int) (w3 : Bool) (HS : Hid (∀ w, Calls Tryz.prog 183 #[.int .i64 op] w fun e w' => e = .returned (.tuple #[.int .i64 T, .int .i64 t2, .int .i64 t3]) ∧ w = w')) (HW : Hid (∀ w, Calls Tryz.prog 182 #[.int .i64 op] w fun e w' => e = .returned (.tuple #[.int .i64 W, .int .i64 w2, .bool w3]) ∧ Below w.heap.size w w')) (hT : ¬ 0 < T) (h1 : decide (op ∈ [0, 1, 15, 26, 27, 209]) = false) (h2 : decide (op ∈ [2, 3, 4]) = false) (h3 : decide (op ∈ [12, 13, 16, 32, 33, 34, 35, 36, 210]) = false) (h4 : (op == 14) = false) (h5 : (op == 17) = false) (h6 : (op == 28) = false) (h7 : ¬ 0 < W) (h8 : decide (op ∈ [37, 38, 63, 64, 64523, 64527, 64528, 64529]) = false) (h9 : (op == 64522) = false) (hA : (op == 64526) = false) (hB : (op == 65) = false) (hC : (op == 66) = false) (hD : (op == 208) = false) (hE : decide (op ∈ [42, 43, 56, 57, 67, 68]) = false) (r0 : 192 ≤ op) (r1 : op ≤ 64511) (hF : (op == 253) = true) (w : World) :
    Calls Tryz.prog 158 #[.int .i64 op] w fun e w' => e = .returned (.tuple #[.int .i64 0, .int .i64 4]) ∧ Below w.heap.size w w' := by
  have HO1 := Lib.hid (refOneLit op [0, 1, 15, 26, 27, 209] (by decide) _ h1)
  have HO2 := Lib.hid (refOneLit op [2, 3, 4] (by decide) _ h2)
  have HO3 := Lib.hid (refOneLit op [12, 13, 16, 32, 33, 34, 35, 36, 210] (by decide) _ h3)
  have HO8 := Lib.hid (refOneLit op [37, 38, 63, 64, 64523, 64527, 64528, 64529] (by decide) _ h8)
  have HO9 := Lib.hid (refOneLit op [42, 43, 56, 57, 67, 68] (by decide) _ hE)
  clear h1 h2 h3 h8 hE
  have g91 : decide ((91 : Int) ≤ op) = true := decide_eq_true (by omega)
  have l91 : decide (op ≤ (102 : Int)) = false := decide_eq_false (by omega)
  have g139 : decide ((139 : Int) ≤ op) = true := decide_eq_true (by omega)
  have l139 : decide (op ≤ (166 : Int)) = false := decide_eq_false (by omega)
  have g168 : decide ((168 : Int) ≤ op) = true := decide_eq_true (by omega)
  have l168 : decide (op ≤ (171 : Int)) = false := decide_eq_false (by omega)
  have g174 : decide ((174 : Int) ≤ op) = true := decide_eq_true (by omega)
  have l174 : decide (op ≤ (191 : Int)) = false := decide_eq_false (by omega)
  have g64512 : decide ((64512 : Int) ≤ op) = false := decide_eq_false (by omega)
  clear  r0 r1
  have hb := Below.refl w.heap.size w
  go_enter Tryz.func158, Tryz.ntmps158
  go_wp2_with (first
    | (go_at_call 182; refine (HW.out _).mono ?_; rintro e w1 ⟨rfl, hh⟩; replace hb := hb.trans (hh.mono hb.size); clear hh)
    | (go_at_call 183; refine (HS.out _).mono ?_; rintro e w1 ⟨rfl, rfl⟩)
    | (go_at_call 128; refine (HO1.out _).mono ?_; rintro e w1 ⟨rfl, hh⟩; replace hb := hb.trans (hh.mono hb.size); clear hh HO1)
    | (go_at_call 128; refine (HO2.out _).mono ?_; rintro e w1 ⟨rfl, hh⟩; replace hb := hb.trans (hh.mono hb.size); clear hh HO2)
    | (go_at_call 128; refine (HO3.out _).mono ?_; rintro e w1 ⟨rfl, hh⟩; replace hb := hb.trans (hh.mono hb.size); clear hh HO3)
    | (go_at_call 128; refine (HO8.out _).mono ?_; rintro e w1 ⟨rfl, hh⟩; replace hb := hb.trans (hh.mono hb.size); clear hh HO8)
    | (go_at_call 128; refine (HO9.out _).mono ?_; rintro e w1 ⟨rfl, hh⟩; replace hb := hb.trans (hh.mono hb.size); clear hh HO9))
  go_ret2
  exact ⟨rfl, hb⟩
set_option maxRecDepth 100000 in
set_option maxHeartbeats 1000000 in
theorem refShape_so8 (op T t2 t3 W w2 : Int) (w3 : Bool) (HS : Hid (∀ w, Calls Tryz.prog 183 #[.int .i64 op] w fun e w' => e = .returned (.tuple #[.int .i64 T, .int .i64 t2, .int .i64 t3]) ∧ w = w')) (HW : Hid (∀ w, Calls Tryz.prog 182 #[.int .i64 op] w fun e w' => e = .returned (.tuple #[.int .i64 W, .int .i64 w2, .bool w3]) ∧ Below w.heap.size w w')) (hT : ¬ 0 < T) (h1 : decide (op ∈ [0, 1, 15, 26, 27, 209]) = false) (h2 : decide (op ∈ [2, 3, 4]) = false) (h3 : decide (op ∈ [12, 13, 16, 32, 33, 34, 35, 36, 210]) = false) (h4 : (op == 14) = false) (h5 : (op == 17) = false) (h6 : (op == 28) = false) (h7 : ¬ 0 < W) (h8 : decide (op ∈ [37, 38, 63, 64, 64523, 64527, 64528, 64529]) = false) (h9 : (op == 64522) = false) (hA : (op == 64526) = false) (hB : (op == 65) = false) (hC : (op == 66) = false) (hD : (op == 208) = false) (hE : decide (op ∈ [42, 43, 56, 57, 67, 68]) = false) (r0 : 192 ≤ op) (r1 : op ≤ 64511) (hF : (op == 253) = false) (w : World) :
    Calls Tryz.prog 158 #[.int .i64 op] w fun e w' => e = .returned (.tuple #[.int .i64 0, .int .i64 5]) ∧ Below w.heap.size w w' := by
  have HO1 := Lib.hid (refOneLit op [0, 1, 15, 26, 27, 209] (by decide) _ h1)
  have HO2 := Lib.hid (refOneLit op [2, 3, 4] (by decide) _ h2)
  have HO3 := Lib.hid (refOneLit op [12, 13, 16, 32, 33, 34, 35, 36, 210] (by decide) _ h3)
  have HO8 := Lib.hid (refOneLit op [37, 38, 63, 64, 64523, 64527, 64528, 64529] (by decide) _ h8)
  have HO9 := Lib.hid (refOneLit op [42, 43, 56, 57, 67, 68] (by decide) _ hE)
  clear h1 h2 h3 h8 hE
  have g91 : decide ((91 : Int) ≤ op) = true := decide_eq_true (by omega)
  have l91 : decide (op ≤ (102 : Int)) = false := decide_eq_false (by omega)
  have g139 : decide ((139 : Int) ≤ op) = true := decide_eq_true (by omega)
  have l139 : decide (op ≤ (166 : Int)) = false := decide_eq_false (by omega)
  have g168 : decide ((168 : Int) ≤ op) = true := decide_eq_true (by omega)
  have l168 : decide (op ≤ (171 : Int)) = false := decide_eq_false (by omega)
  have g174 : decide ((174 : Int) ≤ op) = true := decide_eq_true (by omega)
  have l174 : decide (op ≤ (191 : Int)) = false := decide_eq_false (by omega)
  have g64512 : decide ((64512 : Int) ≤ op) = false := decide_eq_false (by omega)
  clear  r0 r1
  have hb := Below.refl w.heap.size w
  go_enter Tryz.func158, Tryz.ntmps158
  go_wp2_with (first
    | (go_at_call 182; refine (HW.out _).mono ?_; rintro e w1 ⟨rfl, hh⟩; replace hb := hb.trans (hh.mono hb.size); clear hh)
    | (go_at_call 183; refine (HS.out _).mono ?_; rintro e w1 ⟨rfl, rfl⟩)
    | (go_at_call 128; refine (HO1.out _).mono ?_; rintro e w1 ⟨rfl, hh⟩; replace hb := hb.trans (hh.mono hb.size); clear hh HO1)
    | (go_at_call 128; refine (HO2.out _).mono ?_; rintro e w1 ⟨rfl, hh⟩; replace hb := hb.trans (hh.mono hb.size); clear hh HO2)
    | (go_at_call 128; refine (HO3.out _).mono ?_; rintro e w1 ⟨rfl, hh⟩; replace hb := hb.trans (hh.mono hb.size); clear hh HO3)
    | (go_at_call 128; refine (HO8.out _).mono ?_; rintro e w1 ⟨rfl, hh⟩; replace hb := hb.trans (hh.mono hb.size); clear hh HO8)
    | (go_at_call 128; refine (HO9.out _).mono ?_; rintro e w1 ⟨rfl, hh⟩; replace hb := hb.trans (hh.mono hb.size); clear hh HO9))
  go_ret2
  exact ⟨rfl, hb⟩
set_option maxRecDepth 100000 in
set_option maxHeartbeats 1000000 in
theorem refShape_sf9 (op T t2 t3 W w2 : Int) (w3 : Bool) (HS : Hid (∀ w, Calls Tryz.prog 183 #[.int .i64 op] w fun e w' => e = .returned (.tuple #[.int .i64 T, .int .i64 t2, .int .i64 t3]) ∧ w = w')) (HW : Hid (∀ w, Calls Tryz.prog 182 #[.int .i64 op] w fun e w' => e = .returned (.tuple #[.int .i64 W, .int .i64 w2, .bool w3]) ∧ Below w.heap.size w w')) (hT : ¬ 0 < T) (h1 : decide (op ∈ [0, 1, 15, 26, 27, 209]) = false) (h2 : decide (op ∈ [2, 3, 4]) = false) (h3 : decide (op ∈ [12, 13, 16, 32, 33, 34, 35, 36, 210]) = false) (h4 : (op == 14) = false) (h5 : (op == 17) = false) (h6 : (op == 28) = false) (h7 : ¬ 0 < W) (h8 : decide (op ∈ [37, 38, 63, 64, 64523, 64527, 64528, 64529]) = false) (h9 : (op == 64522) = false) (hA : (op == 64526) = false) (hB : (op == 65) = false) (hC : (op == 66) = false) (hD : (op == 208) = false) (hE : decide (op ∈ [42, 43, 56, 57, 67, 68]) = false) (r0 : 64512 ≤ op) (r1 : op ≤ 64519) (w : World) :
    Calls Tryz.prog 158 #[.int .i64 op] w fun e w' => e = .returned (.tuple #[.int .i64 0, .int .i64 3]) ∧ Below w.heap.size w w' := by
  have HO1 := Lib.hid (refOneLit op [0, 1, 15, 26, 27, 209] (by decide) _ h1)
  have HO2 := Lib.hid (refOneLit op [2, 3, 4] (by decide) _ h2)
  have HO3 := Lib.hid (refOneLit op [12, 13, 16, 32, 33, 34, 35, 36, 210] (by decide) _ h3)
  have HO8 := Lib.hid (refOneLit op [37, 38, 63, 64, 64523, 64527, 64528, 64529] (by decide) _ h8)
  have HO9 := Lib.hid (refOneLit op [42, 43, 56, 57, 67, 68] (by decide) _ hE)
  clear h1 h2 h3 h8 hE
  have g91 : decide ((91 : Int) ≤ op) = true := decide_eq_true (by omega)
  have l91 : decide (op ≤ (102 : Int)) = false := decide_eq_false (by omega)
  have g139 : decide ((139 : Int) ≤ op) = true := decide_eq_true (by omega)
  have l139 : decide (op ≤ (166 : Int)) = false := decide_eq_false (by omega)
  have g168 : decide ((168 : Int) ≤ op) = true := decide_eq_true (by omega)
  have l168 : decide (op ≤ (171 : Int)) = false := decide_eq_false (by omega)
  have g174 : decide ((174 : Int) ≤ op) = true := decide_eq_true (by omega)
  have l174 : decide (op ≤ (191 : Int)) = false := decide_eq_false (by omega)
  have g64512 : decide ((64512 : Int) ≤ op) = true := decide_eq_true (by omega)
  have l64512 : decide (op ≤ (64519 : Int)) = true := decide_eq_true (by omega)
  clear  r0 r1
  have hb := Below.refl w.heap.size w
  go_enter Tryz.func158, Tryz.ntmps158
  go_wp2_with (first
    | (go_at_call 182; refine (HW.out _).mono ?_; rintro e w1 ⟨rfl, hh⟩; replace hb := hb.trans (hh.mono hb.size); clear hh)
    | (go_at_call 183; refine (HS.out _).mono ?_; rintro e w1 ⟨rfl, rfl⟩)
    | (go_at_call 128; refine (HO1.out _).mono ?_; rintro e w1 ⟨rfl, hh⟩; replace hb := hb.trans (hh.mono hb.size); clear hh HO1)
    | (go_at_call 128; refine (HO2.out _).mono ?_; rintro e w1 ⟨rfl, hh⟩; replace hb := hb.trans (hh.mono hb.size); clear hh HO2)
    | (go_at_call 128; refine (HO3.out _).mono ?_; rintro e w1 ⟨rfl, hh⟩; replace hb := hb.trans (hh.mono hb.size); clear hh HO3)
    | (go_at_call 128; refine (HO8.out _).mono ?_; rintro e w1 ⟨rfl, hh⟩; replace hb := hb.trans (hh.mono hb.size); clear hh HO8)
    | (go_at_call 128; refine (HO9.out _).mono ?_; rintro e w1 ⟨rfl, hh⟩; replace hb := hb.trans (hh.mono hb.size); clear hh HO9))
  go_ret2
  exact ⟨rfl, hb⟩
set_option maxRecDepth 100000 in
set_option maxHeartbeats 1000000 in
theorem refShape_so10 (op T t2 t3 W w2 : Int) (w3 : Bool) (HS : Hid (∀ w, Calls Tryz.prog 183 #[.int .i64 op] w fun e w' => e = .returned (.tuple #[.int .i64 T, .int .i64 t2, .int .i64 t3]) ∧ w = w')) (HW : Hid (∀ w, Calls Tryz.prog 182 #[.int .i64 op] w fun e w' => e = .returned (.tuple #[.int .i64 W, .int .i64 w2, .bool w3]) ∧ Below w.heap.size w w')) (hT : ¬ 0 < T) (h1 : decide (op ∈ [0, 1, 15, 26, 27, 209]) = false) (h2 : decide (op ∈ [2, 3, 4]) = false) (h3 : decide (op ∈ [12, 13, 16, 32, 33, 34, 35, 36, 210]) = false) (h4 : (op == 14) = false) (h5 : (op == 17) = false) (h6 : (op == 28) = false) (h7 : ¬ 0 < W) (h8 : decide (op ∈ [37, 38, 63, 64, 64523, 64527, 64528, 64529]) = false) (h9 : (op == 64522) = false) (hA : (op == 64526) = false) (hB : (op == 65) = false) (hC : (op == 66) = false) (hD : (op == 208) = false) (hE : decide (op ∈ [42, 43, 56, 57, 67, 68]) = false) (r0 : 64520 ≤ op) (hF : (op == 253) = false) (w : World) :
    Calls Tryz.prog 158 #[.int .i64 op] w fun e w' => e = .returned (.tuple #[.int .i64 0, .int .i64 5]) ∧ Below w.heap.size w w' := by
  have HO1 := Lib.hid (refOneLit op [0, 1, 15, 26, 27, 209] (by decide) _ h1)
  have HO2 := Lib.hid (refOneLit op [2, 3, 4] (by decide) _ h2)
  have HO3 := Lib.hid (refOneLit op [12, 13, 16, 32, 33, 34, 35, 36, 210] (by decide) _ h3)
  have HO8 := Lib.hid (refOneLit op [37, 38, 63, 64, 64523, 64527, 64528, 64529] (by decide) _ h8)
  have HO9 := Lib.hid (refOneLit op [42, 43, 56, 57, 67, 68] (by decide) _ hE)
  clear h1 h2 h3 h8 hE
  have g91 : decide ((91 : Int) ≤ op) = true := decide_eq_true (by omega)
  have l91 : decide (op ≤ (102 : Int)) = false := decide_eq_false (by omega)
  have g139 : decide ((139 : Int) ≤ op) = true := decide_eq_true (by omega)
  have l139 : decide (op ≤ (166 : Int)) = false := decide_eq_false (by omega)
  have g168 : decide ((168 : Int) ≤ op) = true := decide_eq_true (by omega)
  have l168 : decide (op ≤ (171 : Int)) = false := decide_eq_false (by omega)
  have g174 : decide ((174 : Int) ≤ op) = true := decide_eq_true (by omega)
  have l174 : decide (op ≤ (191 : Int)) = false := decide_eq_false (by omega)
  have g64512 : decide ((64512 : Int) ≤ op) = true := decide_eq_true (by omega)
  have l64512 : decide (op ≤ (64519 : Int)) = false := decide_eq_false (by omega)
  clear  r0
  have hb := Below.refl w.heap.size w
  go_enter Tryz.func158, Tryz.ntmps158
  go_wp2_with (first
    | (go_at_call 182; refine (HW.out _).mono ?_; rintro e w1 ⟨rfl, hh⟩; replace hb := hb.trans (hh.mono hb.size); clear hh)
    | (go_at_call 183; refine (HS.out _).mono ?_; rintro e w1 ⟨rfl, rfl⟩)
    | (go_at_call 128; refine (HO1.out _).mono ?_; rintro e w1 ⟨rfl, hh⟩; replace hb := hb.trans (hh.mono hb.size); clear hh HO1)
    | (go_at_call 128; refine (HO2.out _).mono ?_; rintro e w1 ⟨rfl, hh⟩; replace hb := hb.trans (hh.mono hb.size); clear hh HO2)
    | (go_at_call 128; refine (HO3.out _).mono ?_; rintro e w1 ⟨rfl, hh⟩; replace hb := hb.trans (hh.mono hb.size); clear hh HO3)
    | (go_at_call 128; refine (HO8.out _).mono ?_; rintro e w1 ⟨rfl, hh⟩; replace hb := hb.trans (hh.mono hb.size); clear hh HO8)
    | (go_at_call 128; refine (HO9.out _).mono ?_; rintro e w1 ⟨rfl, hh⟩; replace hb := hb.trans (hh.mono hb.size); clear hh HO9))
  go_ret2
  exact ⟨rfl, hb⟩
end Go.Proofs.YtekonefnniaheaaGreat
