/- Texts of the proof of ModulePutsUptoProof, part 3. -/
import Derived.Deep.Slices
import Derived.ChangeSame
import Derived.ChangeArms
import Derived.Test.YtekonefnniaheaaGreatModulePutsUptoProofQ1
import Derived.Test.YtekonefnniaheaaGreatModulePutsUptoProofQ2
namespace Go.Proofs.YtekonefnniaheaaGreat
open Go.RowKit

theorem eq_yes {n c : Int} (h : n = c) : (n == c) = true := by simpa using h
theorem isFloat_yes {op : Int} (h : op ∈ [42, 43, 56, 57, 67, 68] ∨ (91 ≤ op ∧ op ≤ 102) ∨ (139 ≤ op ∧ op ≤ 166) ∨ (168 ≤ op ∧ op ≤ 171) ∨ (174 ≤ op ∧ op ≤ 191) ∨ (64512 ≤ op ∧ op ≤ 64519)) : isFloat op = true := by
  unfold isFloat
  simp only [Bool.or_eq_true, decide_eq_true_eq]
  rcases h with h | h | h | h | h | h
  · exact .inl (.inl (.inl (.inl (.inl h))))
  · exact .inl (.inl (.inl (.inl (.inr h))))
  · exact .inl (.inl (.inl (.inr h)))
  · exact .inl (.inl (.inr h))
  · exact .inl (.inr h)
  · exact .inr h
theorem isFloat_no {op : Int} (h : ¬ op ∈ [42, 43, 56, 57, 67, 68]) (k : ¬ ((91 ≤ op ∧ op ≤ 102) ∨ (139 ≤ op ∧ op ≤ 166) ∨ (168 ≤ op ∧ op ≤ 171) ∨ (174 ≤ op ∧ op ≤ 191) ∨ (64512 ≤ op ∧ op ≤ 64519))) : ¬ isFloat op = true := by
  unfold isFloat
  simp only [Bool.or_eq_true, decide_eq_true_eq]
  intro h2
  rcases h2 with ((((h2 | h2) | h2) | h2) | h2) | h2
  · exact h h2
  all_goals omega
theorem refShape_any (op : Int) (w : World) :
    Calls Tryz.prog 158 #[.int .i64 op] w fun e w' => e = .returned (.tuple #[.int .i64 (shapeV op).1, .int .i64 (shapeV op).2]) ∧ Below w.heap.size w w' := by
  have HS := Lib.hid (fun w => refSig_any op w)
  have HW := Lib.hid (fun w => refWidth_any op w)
  unfold Num.sigTup at HS
  unfold Mem.widthTup at HW
  unfold shapeV
  by_cases hT : 0 < (Num.sig op).1
  · rw [if_pos (.inl hT)]
    exact refShape_s1a op _ _ _ _ _ _ HS HW hT w
  by_cases h1 : op ∈ [0, 1, 15, 26, 27, 209]
  · rw [if_pos (.inr h1)]
    exact refShape_s1b op _ _ _ _ _ _ HS HW hT (decide_eq_true h1) w
  rw [if_neg (show ¬ (0 < (Num.sig op).1 ∨ op ∈ [0, 1, 15, 26, 27, 209]) from fun h => h.elim hT h1)]
  replace h1 := decide_eq_false h1
  by_cases h2 : op ∈ [2, 3, 4]
  · rw [if_pos h2]
    exact refShape_s2 op _ _ _ _ _ _ HS HW hT h1 (decide_eq_true h2) w
  rw [if_neg h2]
  replace h2 := decide_eq_false h2
  by_cases h3 : op ∈ [12, 13, 16, 32, 33, 34, 35, 36, 210]
  · rw [if_pos h3]
    exact refShape_s3 op _ _ _ _ _ _ HS HW hT h1 h2 (decide_eq_true h3) w
  rw [if_neg h3]
  replace h3 := decide_eq_false h3
  by_cases h4 : op = 14
  · rw [if_pos h4]
    exact refShape_s4 op _ _ _ _ _ _ HS HW hT h1 h2 h3 (eq_yes h4) w
  rw [if_neg h4]
  replace h4 := eq_no h4
  by_cases h5 : op = 17
  · rw [if_pos h5]
    exact refShape_s5 op _ _ _ _ _ _ HS HW hT h1 h2 h3 h4 (eq_yes h5) w
  rw [if_neg h5]
  replace h5 := eq_no h5
  by_cases h6 : op = 28
  · rw [if_pos h6]
    exact refShape_s6 op _ _ _ _ _ _ HS HW hT h1 h2 h3 h4 h5 (eq_yes h6) w
  rw [if_neg h6]
  replace h6 := eq_no h6
  by_cases h7 : 0 < (Mem.width op).1
  · rw [if_pos h7]
    exact refShape_s7 op _ _ _ _ _ _ HS HW hT h1 h2 h3 h4 h5 h6 h7 w
  rw [if_neg h7]
  by_cases h8 : op ∈ [37, 38, 63, 64, 64523, 64527, 64528, 64529]
  · rw [if_pos h8]
    exact refShape_s8 op _ _ _ _ _ _ HS HW hT h1 h2 h3 h4 h5 h6 h7 (decide_eq_true h8) w
  rw [if_neg h8]
  replace h8 := decide_eq_false h8
  by_cases h9 : op = 64522
  · rw [if_pos (.inl h9)]
    exact refShape_s9a op _ _ _ _ _ _ HS HW hT h1 h2 h3 h4 h5 h6 h7 h8 (eq_yes h9) w
  by_cases hA : op = 64526
  · rw [if_pos (.inr hA)]
    exact refShape_s9b op _ _ _ _ _ _ HS HW hT h1 h2 h3 h4 h5 h6 h7 h8 (eq_no h9) (eq_yes hA) w
  rw [if_neg (show ¬ (op = 64522 ∨ op = 64526) from fun h => h.elim h9 hA)]
  replace h9 := eq_no h9
  replace hA := eq_no hA
  by_cases hB : op = 65
  · rw [if_pos (.inl hB)]
    exact refShape_s10a op _ _ _ _ _ _ HS HW hT h1 h2 h3 h4 h5 h6 h7 h8 h9 hA (eq_yes hB) w
  by_cases hC : op = 66
  · rw [if_pos (.inr hC)]
    exact refShape_s10b op _ _ _ _ _ _ HS HW hT h1 h2 h3 h4 h5 h6 h7 h8 h9 hA (eq_no hB) (eq_yes hC) w
  rw [if_neg (show ¬ (op = 65 ∨ op = 66) from fun h => h.elim hB hC)]
  replace hB := eq_no hB
  replace hC := eq_no hC
  by_cases hD : op = 208
  · rw [if_pos hD]
    exact refShape_s11 op _ _ _ _ _ _ HS HW hT h1 h2 h3 h4 h5 h6 h7 h8 h9 hA hB hC (eq_yes hD) w
  rw [if_neg hD]
  replace hD := eq_no hD
  by_cases hE : op ∈ [42, 43, 56, 57, 67, 68]
  · rw [if_pos (isFloat_yes (.inl hE))]
    exact refShape_sf0 op _ _ _ _ _ _ HS HW hT h1 h2 h3 h4 h5 h6 h7 h8 h9 hA hB hC hD (decide_eq_true hE) w
  have hE' := decide_eq_false hE
  by_cases q0 : op ≤ 90
  · rw [if_neg (isFloat_no hE (by omega))]
    rw [if_neg (show ¬ op = 253 by omega)]
    exact refShape_so0 op _ _ _ _ _ _ HS HW hT h1 h2 h3 h4 h5 h6 h7 h8 h9 hA hB hC hD hE' (by omega) (eq_no (by omega)) w
  by_cases q1 : op ≤ 102
  · rw [if_pos (isFloat_yes (.inr (.inl ⟨by omega, by omega⟩)))]
    exact refShape_sf1 op _ _ _ _ _ _ HS HW hT h1 h2 h3 h4 h5 h6 h7 h8 h9 hA hB hC hD hE' (by omega) (by omega) w
  by_cases q2 : op ≤ 138
  · rw [if_neg (isFloat_no hE (by omega))]
    rw [if_neg (show ¬ op = 253 by omega)]
    exact refShape_so2 op _ _ _ _ _ _ HS HW hT h1 h2 h3 h4 h5 h6 h7 h8 h9 hA hB hC hD hE' (by omega) (by omega) (eq_no (by omega)) w
  by_cases q3 : op ≤ 166
  · rw [if_pos (isFloat_yes (.inr (.inr (.inl ⟨by omega, by omega⟩))))]
    exact refShape_sf3 op _ _ _ _ _ _ HS HW hT h1 h2 h3 h4 h5 h6 h7 h8 h9 hA hB hC hD hE' (by omega) (by omega) w
  by_cases q4 : op ≤ 167
  · rw [if_neg (isFloat_no hE (by omega))]
    rw [if_neg (show ¬ op = 253 by omega)]
    exact refShape_so4 op _ _ _ _ _ _ HS HW hT h1 h2 h3 h4 h5 h6 h7 h8 h9 hA hB hC hD hE' (by omega) (by omega) (eq_no (by omega)) w
  by_cases q5 : op ≤ 171
  · rw [if_pos (isFloat_yes (.inr (.inr (.inr (.inl ⟨by omega, by omega⟩)))))]
    exact refShape_sf5 op _ _ _ _ _ _ HS HW hT h1 h2 h3 h4 h5 h6 h7 h8 h9 hA hB hC hD hE' (by omega) (by omega) w
  by_cases q6 : op ≤ 173
  · rw [if_neg (isFloat_no hE (by omega))]
    rw [if_neg (show ¬ op = 253 by omega)]
    exact refShape_so6 op _ _ _ _ _ _ HS HW hT h1 h2 h3 h4 h5 h6 h7 h8 h9 hA hB hC hD hE' (by omega) (by omega) (eq_no (by omega)) w
  by_cases q7 : op ≤ 191
  · rw [if_pos (isFloat_yes (.inr (.inr (.inr (.inr (.inl ⟨by omega, by omega⟩))))))]
    exact refShape_sf7 op _ _ _ _ _ _ HS HW hT h1 h2 h3 h4 h5 h6 h7 h8 h9 hA hB hC hD hE' (by omega) (by omega) w
  by_cases q8 : op ≤ 64511
  · rw [if_neg (isFloat_no hE (by omega))]
    by_cases hF : op = 253
    · rw [if_pos hF]
      exact refShape_sv op _ _ _ _ _ _ HS HW hT h1 h2 h3 h4 h5 h6 h7 h8 h9 hA hB hC hD hE' (by omega) (by omega) (eq_yes hF) w
    · rw [if_neg hF]
      exact refShape_so8 op _ _ _ _ _ _ HS HW hT h1 h2 h3 h4 h5 h6 h7 h8 h9 hA hB hC hD hE' (by omega) (by omega) (eq_no hF) w
  by_cases q9 : op ≤ 64519
  · rw [if_pos (isFloat_yes (.inr (.inr (.inr (.inr (.inr ⟨by omega, by omega⟩))))))]
    exact refShape_sf9 op _ _ _ _ _ _ HS HW hT h1 h2 h3 h4 h5 h6 h7 h8 h9 hA hB hC hD hE' (by omega) (by omega) w
  rw [if_neg (isFloat_no hE (by omega))]
  rw [if_neg (show ¬ op = 253 by omega)]
  exact refShape_so10 op _ _ _ _ _ _ HS HW hT h1 h2 h3 h4 h5 h6 h7 h8 h9 hA hB hC hD hE' (by omega) (eq_no (by omega)) w
end Go.Proofs.YtekonefnniaheaaGreat
namespace Go.Proofs.YtekonefnniaheaaGreat
open Go.RowKit
open Leb (byt byt_lt byt_get)

/-- The opcodes that have a name. -/
def nameOps : List Int := [0, 1, 15, 26, 27, 209, 2, 3, 4, 12, 13, 16, 32, 33, 34, 35, 36, 210, 14, 17, 28, 37, 38, 63, 64, 64523, 64527, 64528, 64529, 64522, 64526, 65, 66, 208]
/-- The shape of one that has a name. -/
def nameV (op : Int) : Int := if op ∈ [0, 1, 15, 26, 27, 209] then 1 else if op ∈ [2, 3, 4] then 2 else if op ∈ [12, 13, 16, 32, 33, 34, 35, 36, 210] then 3 else if op ∈ [14] then 4 else if op ∈ [17] then 5 else if op ∈ [28] then 6 else if op ∈ [37, 38, 63, 64, 64523, 64527, 64528, 64529] then 8 else if op ∈ [64522, 64526] then 9 else if op ∈ [65, 66] then 10 else if op ∈ [208] then 11 else 0
theorem nameOps_of {op : Int} (h : op ∈ nameOps) : op = 0 ∨ op = 1 ∨ op = 15 ∨ op = 26 ∨ op = 27 ∨ op = 209 ∨ op = 2 ∨ op = 3 ∨ op = 4 ∨ op = 12 ∨ op = 13 ∨ op = 16 ∨ op = 32 ∨ op = 33 ∨ op = 34 ∨ op = 35 ∨ op = 36 ∨ op = 210 ∨ op = 14 ∨ op = 17 ∨ op = 28 ∨ op = 37 ∨ op = 38 ∨ op = 63 ∨ op = 64 ∨ op = 64523 ∨ op = 64527 ∨ op = 64528 ∨ op = 64529 ∨ op = 64522 ∨ op = 64526 ∨ op = 65 ∨ op = 66 ∨ op = 208 := by
  simpa [nameOps] using h
theorem nameOps_not {op : Int} (h : ¬ op ∈ nameOps) : ¬ op = 0 ∧ ¬ op = 1 ∧ ¬ op = 15 ∧ ¬ op = 26 ∧ ¬ op = 27 ∧ ¬ op = 209 ∧ ¬ op = 2 ∧ ¬ op = 3 ∧ ¬ op = 4 ∧ ¬ op = 12 ∧ ¬ op = 13 ∧ ¬ op = 16 ∧ ¬ op = 32 ∧ ¬ op = 33 ∧ ¬ op = 34 ∧ ¬ op = 35 ∧ ¬ op = 36 ∧ ¬ op = 210 ∧ ¬ op = 14 ∧ ¬ op = 17 ∧ ¬ op = 28 ∧ ¬ op = 37 ∧ ¬ op = 38 ∧ ¬ op = 63 ∧ ¬ op = 64 ∧ ¬ op = 64523 ∧ ¬ op = 64527 ∧ ¬ op = 64528 ∧ ¬ op = 64529 ∧ ¬ op = 64522 ∧ ¬ op = 64526 ∧ ¬ op = 65 ∧ ¬ op = 66 ∧ ¬ op = 208 := by
  simpa [nameOps] using h
theorem nameV_no {op : Int} (h : ¬ op ∈ nameOps) : nameV op = 0 := by
  obtain ⟨h0, h1, h2, h3, h4, h5, h6, h7, h8, h9, h10, h11, h12, h13, h14, h15, h16, h17, h18, h19, h20, h21, h22, h23, h24, h25, h26, h27, h28, h29, h30, h31, h32, h33⟩ := nameOps_not h
  unfold nameV
  simp [*]
set_option maxRecDepth 100000 in
set_option maxHeartbeats 2000000 in
theorem named_any (op : Int) (w : World) :
    Calls Tryz.prog 190 #[.int .i64 op] w fun e w' => e = .returned (.int .i64 (nameV op)) ∧ w = w' := by
  by_cases hm : op ∈ nameOps
  · rcases nameOps_of hm with rfl | rfl | rfl | rfl | rfl | rfl | rfl | rfl | rfl | rfl | rfl | rfl | rfl | rfl | rfl | rfl | rfl | rfl | rfl | rfl | rfl | rfl | rfl | rfl | rfl | rfl | rfl | rfl | rfl | rfl | rfl | rfl | rfl | rfl
    all_goals
      clear hm
      go_enter Tryz.func190, Tryz.ntmps190
      go_wp2_with fail
      go_ret
      exact ⟨rfl, rfl⟩
  · rw [nameV_no hm]
    obtain ⟨h0, h1, h2, h3, h4, h5, h6, h7, h8, h9, h10, h11, h12, h13, h14, h15, h16, h17, h18, h19, h20, h21, h22, h23, h24, h25, h26, h27, h28, h29, h30, h31, h32, h33⟩ := nameOps_not hm
    clear hm
    go_enter Tryz.func190, Tryz.ntmps190
    go_wp2_with fail
    go_ret
    exact ⟨rfl, rfl⟩
theorem isFloat_eq (op : Int) : isFloat op = true ↔ (42 ≤ op ∧ op ≤ 43) ∨ (56 ≤ op ∧ op ≤ 57) ∨ (67 ≤ op ∧ op ≤ 68) ∨ (91 ≤ op ∧ op ≤ 102) ∨ (139 ≤ op ∧ op ≤ 166) ∨ (168 ≤ op ∧ op ≤ 171) ∨ (174 ≤ op ∧ op ≤ 191) ∨ (64512 ≤ op ∧ op ≤ 64519) := by
  unfold isFloat
  simp only [Bool.or_eq_true, decide_eq_true_eq, List.mem_cons, List.not_mem_nil, or_false]
  omega
set_option maxRecDepth 100000 in
set_option maxHeartbeats 2000000 in
theorem ofFloats_any (op : Int) (w : World) :
    Calls Tryz.prog 193 #[.int .i64 op] w fun e w' => e = .returned (.bool (isFloat op)) ∧ w = w' := by
  by_cases q0 : 42 ≤ op ∧ op ≤ 43
  · have H0 := Lib.hid (insW_yes q0)
    rw [(isFloat_eq op).2 (by omega)]
    clear q0
    go_enter Tryz.func193, Tryz.ntmps193
    go_wp2_with (first | (go_at_call 206; refine (H0.out _).mono ?_; rintro e w1 ⟨rfl, rfl⟩; clear H0))
    go_ret
    exact ⟨rfl, rfl⟩
  by_cases q1 : 56 ≤ op ∧ op ≤ 57
  · have H0 := Lib.hid (insW_no (op := op) (a := 42) (b := 43) (by omega))
    have H1 := Lib.hid (insW_yes q1)
    rw [(isFloat_eq op).2 (by omega)]
    clear q0 q1
    go_enter Tryz.func193, Tryz.ntmps193
    go_wp2_with (first | (go_at_call 206; refine (H0.out _).mono ?_; rintro e w1 ⟨rfl, rfl⟩; clear H0) | (go_at_call 206; refine (H1.out _).mono ?_; rintro e w1 ⟨rfl, rfl⟩; clear H1))
    go_ret
    exact ⟨rfl, rfl⟩
  by_cases q2 : 67 ≤ op ∧ op ≤ 68
  · have H0 := Lib.hid (insW_no (op := op) (a := 42) (b := 43) (by omega))
    have H1 := Lib.hid (insW_no (op := op) (a := 56) (b := 57) (by omega))
    have H2 := Lib.hid (insW_yes q2)
    rw [(isFloat_eq op).2 (by omega)]
    clear q0 q1 q2
    go_enter Tryz.func193, Tryz.ntmps193
    go_wp2_with (first | (go_at_call 206; refine (H0.out _).mono ?_; rintro e w1 ⟨rfl, rfl⟩; clear H0) | (go_at_call 206; refine (H1.out _).mono ?_; rintro e w1 ⟨rfl, rfl⟩; clear H1) | (go_at_call 206; refine (H2.out _).mono ?_; rintro e w1 ⟨rfl, rfl⟩; clear H2))
    go_ret
    exact ⟨rfl, rfl⟩
  by_cases q3 : 91 ≤ op ∧ op ≤ 102
  · have H0 := Lib.hid (insW_no (op := op) (a := 42) (b := 43) (by omega))
    have H1 := Lib.hid (insW_no (op := op) (a := 56) (b := 57) (by omega))
    have H2 := Lib.hid (insW_no (op := op) (a := 67) (b := 68) (by omega))
    have H3 := Lib.hid (insW_yes q3)
    rw [(isFloat_eq op).2 (by omega)]
    clear q0 q1 q2 q3
    go_enter Tryz.func193, Tryz.ntmps193
    go_wp2_with (first | (go_at_call 206; refine (H0.out _).mono ?_; rintro e w1 ⟨rfl, rfl⟩; clear H0) | (go_at_call 206; refine (H1.out _).mono ?_; rintro e w1 ⟨rfl, rfl⟩; clear H1) | (go_at_call 206; refine (H2.out _).mono ?_; rintro e w1 ⟨rfl, rfl⟩; clear H2) | (go_at_call 206; refine (H3.out _).mono ?_; rintro e w1 ⟨rfl, rfl⟩; clear H3))
    go_ret
    exact ⟨rfl, rfl⟩
  by_cases q4 : 139 ≤ op ∧ op ≤ 166
  · have H0 := Lib.hid (insW_no (op := op) (a := 42) (b := 43) (by omega))
    have H1 := Lib.hid (insW_no (op := op) (a := 56) (b := 57) (by omega))
    have H2 := Lib.hid (insW_no (op := op) (a := 67) (b := 68) (by omega))
    have H3 := Lib.hid (insW_no (op := op) (a := 91) (b := 102) (by omega))
    have H4 := Lib.hid (insW_yes q4)
    rw [(isFloat_eq op).2 (by omega)]
    clear q0 q1 q2 q3 q4
    go_enter Tryz.func193, Tryz.ntmps193
    go_wp2_with (first | (go_at_call 206; refine (H0.out _).mono ?_; rintro e w1 ⟨rfl, rfl⟩; clear H0) | (go_at_call 206; refine (H1.out _).mono ?_; rintro e w1 ⟨rfl, rfl⟩; clear H1) | (go_at_call 206; refine (H2.out _).mono ?_; rintro e w1 ⟨rfl, rfl⟩; clear H2) | (go_at_call 206; refine (H3.out _).mono ?_; rintro e w1 ⟨rfl, rfl⟩; clear H3) | (go_at_call 206; refine (H4.out _).mono ?_; rintro e w1 ⟨rfl, rfl⟩; clear H4))
    go_ret
    exact ⟨rfl, rfl⟩
  by_cases q5 : 168 ≤ op ∧ op ≤ 171
  · have H0 := Lib.hid (insW_no (op := op) (a := 42) (b := 43) (by omega))
    have H1 := Lib.hid (insW_no (op := op) (a := 56) (b := 57) (by omega))
    have H2 := Lib.hid (insW_no (op := op) (a := 67) (b := 68) (by omega))
    have H3 := Lib.hid (insW_no (op := op) (a := 91) (b := 102) (by omega))
    have H4 := Lib.hid (insW_no (op := op) (a := 139) (b := 166) (by omega))
    have H5 := Lib.hid (insW_yes q5)
    rw [(isFloat_eq op).2 (by omega)]
    clear q0 q1 q2 q3 q4 q5
    go_enter Tryz.func193, Tryz.ntmps193
    go_wp2_with (first | (go_at_call 206; refine (H0.out _).mono ?_; rintro e w1 ⟨rfl, rfl⟩; clear H0) | (go_at_call 206; refine (H1.out _).mono ?_; rintro e w1 ⟨rfl, rfl⟩; clear H1) | (go_at_call 206; refine (H2.out _).mono ?_; rintro e w1 ⟨rfl, rfl⟩; clear H2) | (go_at_call 206; refine (H3.out _).mono ?_; rintro e w1 ⟨rfl, rfl⟩; clear H3) | (go_at_call 206; refine (H4.out _).mono ?_; rintro e w1 ⟨rfl, rfl⟩; clear H4) | (go_at_call 206; refine (H5.out _).mono ?_; rintro e w1 ⟨rfl, rfl⟩; clear H5))
    go_ret
    exact ⟨rfl, rfl⟩
  by_cases q6 : 174 ≤ op ∧ op ≤ 191
  · have H0 := Lib.hid (insW_no (op := op) (a := 42) (b := 43) (by omega))
    have H1 := Lib.hid (insW_no (op := op) (a := 56) (b := 57) (by omega))
    have H2 := Lib.hid (insW_no (op := op) (a := 67) (b := 68) (by omega))
    have H3 := Lib.hid (insW_no (op := op) (a := 91) (b := 102) (by omega))
    have H4 := Lib.hid (insW_no (op := op) (a := 139) (b := 166) (by omega))
    have H5 := Lib.hid (insW_no (op := op) (a := 168) (b := 171) (by omega))
    have H6 := Lib.hid (insW_yes q6)
    rw [(isFloat_eq op).2 (by omega)]
    clear q0 q1 q2 q3 q4 q5 q6
    go_enter Tryz.func193, Tryz.ntmps193
    go_wp2_with (first | (go_at_call 206; refine (H0.out _).mono ?_; rintro e w1 ⟨rfl, rfl⟩; clear H0) | (go_at_call 206; refine (H1.out _).mono ?_; rintro e w1 ⟨rfl, rfl⟩; clear H1) | (go_at_call 206; refine (H2.out _).mono ?_; rintro e w1 ⟨rfl, rfl⟩; clear H2) | (go_at_call 206; refine (H3.out _).mono ?_; rintro e w1 ⟨rfl, rfl⟩; clear H3) | (go_at_call 206; refine (H4.out _).mono ?_; rintro e w1 ⟨rfl, rfl⟩; clear H4) | (go_at_call 206; refine (H5.out _).mono ?_; rintro e w1 ⟨rfl, rfl⟩; clear H5) | (go_at_call 206; refine (H6.out _).mono ?_; rintro e w1 ⟨rfl, rfl⟩; clear H6))
    go_ret
    exact ⟨rfl, rfl⟩
  by_cases q7 : 64512 ≤ op ∧ op ≤ 64519
  · have H0 := Lib.hid (insW_no (op := op) (a := 42) (b := 43) (by omega))
    have H1 := Lib.hid (insW_no (op := op) (a := 56) (b := 57) (by omega))
    have H2 := Lib.hid (insW_no (op := op) (a := 67) (b := 68) (by omega))
    have H3 := Lib.hid (insW_no (op := op) (a := 91) (b := 102) (by omega))
    have H4 := Lib.hid (insW_no (op := op) (a := 139) (b := 166) (by omega))
    have H5 := Lib.hid (insW_no (op := op) (a := 168) (b := 171) (by omega))
    have H6 := Lib.hid (insW_no (op := op) (a := 174) (b := 191) (by omega))
    have H7 := Lib.hid (insW_yes q7)
    rw [(isFloat_eq op).2 (by omega)]
    clear q0 q1 q2 q3 q4 q5 q6 q7
    go_enter Tryz.func193, Tryz.ntmps193
    go_wp2_with (first | (go_at_call 206; refine (H0.out _).mono ?_; rintro e w1 ⟨rfl, rfl⟩; clear H0) | (go_at_call 206; refine (H1.out _).mono ?_; rintro e w1 ⟨rfl, rfl⟩; clear H1) | (go_at_call 206; refine (H2.out _).mono ?_; rintro e w1 ⟨rfl, rfl⟩; clear H2) | (go_at_call 206; refine (H3.out _).mono ?_; rintro e w1 ⟨rfl, rfl⟩; clear H3) | (go_at_call 206; refine (H4.out _).mono ?_; rintro e w1 ⟨rfl, rfl⟩; clear H4) | (go_at_call 206; refine (H5.out _).mono ?_; rintro e w1 ⟨rfl, rfl⟩; clear H5) | (go_at_call 206; refine (H6.out _).mono ?_; rintro e w1 ⟨rfl, rfl⟩; clear H6) | (go_at_call 206; refine (H7.out _).mono ?_; rintro e w1 ⟨rfl, rfl⟩; clear H7))
    go_ret
    exact ⟨rfl, rfl⟩
  have H0 := Lib.hid (insW_no (op := op) (a := 42) (b := 43) (by omega))
  have H1 := Lib.hid (insW_no (op := op) (a := 56) (b := 57) (by omega))
  have H2 := Lib.hid (insW_no (op := op) (a := 67) (b := 68) (by omega))
  have H3 := Lib.hid (insW_no (op := op) (a := 91) (b := 102) (by omega))
  have H4 := Lib.hid (insW_no (op := op) (a := 139) (b := 166) (by omega))
  have H5 := Lib.hid (insW_no (op := op) (a := 168) (b := 171) (by omega))
  have H6 := Lib.hid (insW_no (op := op) (a := 174) (b := 191) (by omega))
  have H7 := Lib.hid (insW_no (op := op) (a := 64512) (b := 64519) (by omega))
  rw [show isFloat op = false from Bool.eq_false_iff.2 fun h => by have := (isFloat_eq op).1 h; omega]
  clear q0 q1 q2 q3 q4 q5 q6 q7
  go_enter Tryz.func193, Tryz.ntmps193
  go_wp2_with (first | (go_at_call 206; refine (H0.out _).mono ?_; rintro e w1 ⟨rfl, rfl⟩; clear H0) | (go_at_call 206; refine (H1.out _).mono ?_; rintro e w1 ⟨rfl, rfl⟩; clear H1) | (go_at_call 206; refine (H2.out _).mono ?_; rintro e w1 ⟨rfl, rfl⟩; clear H2) | (go_at_call 206; refine (H3.out _).mono ?_; rintro e w1 ⟨rfl, rfl⟩; clear H3) | (go_at_call 206; refine (H4.out _).mono ?_; rintro e w1 ⟨rfl, rfl⟩; clear H4) | (go_at_call 206; refine (H5.out _).mono ?_; rintro e w1 ⟨rfl, rfl⟩; clear H5) | (go_at_call 206; refine (H6.out _).mono ?_; rintro e w1 ⟨rfl, rfl⟩; clear H6) | (go_at_call 206; refine (H7.out _).mono ?_; rintro e w1 ⟨rfl, rfl⟩; clear H7))
  go_ret
  exact ⟨rfl, rfl⟩
/-- The same shapes, names first. -/
theorem shapeV_named : ∀ op ∈ nameOps, shapeV op = (nameV op, 0) ∧ nameV op ≠ 0 := by decide
theorem shapeV_other {op : Int} (h : ¬ op ∈ nameOps) : shapeV op = if 0 < (Num.sig op).1 then (1, 0) else if 0 < (Mem.width op).1 then (7, 0) else if isFloat op = true then (0, 3) else if op = 253 then (0, 4) else (0, 5) := by
  obtain ⟨h0, h1, h2, h3, h4, h5, h6, h7, h8, h9, h10, h11, h12, h13, h14, h15, h16, h17, h18, h19, h20, h21, h22, h23, h24, h25, h26, h27, h28, h29, h30, h31, h32, h33⟩ := nameOps_not h
  unfold shapeV
  simp [*]
set_option maxRecDepth 100000 in
set_option maxHeartbeats 2000000 in
theorem shape_any (op : Int) (w : World) :
    Calls Tryz.prog 179 #[.int .i64 op] w fun e w' => e = .returned (.tuple #[.int .i64 (shapeV op).1, .int .i64 (shapeV op).2]) ∧ w = w' := by
  have HN := Lib.hid (named_any op)
  by_cases hm : op ∈ nameOps
  · obtain ⟨h1, h2⟩ := shapeV_named op hm
    rw [h1]
    clear h1 hm
    revert HN h2
    generalize nameV op = s
    intro HN h2
    have h3 := eq_no h2
    clear h2
    go_enter Tryz.func179, Tryz.ntmps179
    go_wp2_with (go_at_call 190; refine (HN.out _).mono ?_; rintro e w1 ⟨rfl, rfl⟩)
    go_ret2
    exact ⟨rfl, rfl⟩
  · rw [shapeV_other hm]
    rw [nameV_no hm] at HN
    have h253 : ¬ op = 253 ∨ op = 253 := by omega
    have HS := Lib.hid (sig_any op)
    have HW := Lib.hid (width_any op)
    have HF := Lib.hid (ofFloats_any op)
    unfold Num.sigTup at HS
    unfold Mem.widthTup at HW
    clear hm
    revert HS HW HF
    generalize (Num.sig op).1 = n1
    generalize (Num.sig op).2.1 = n2
    generalize (Num.sig op).2.2 = n3
    generalize (Mem.width op).1 = m1
    generalize (Mem.width op).2.1 = m2
    generalize (Mem.width op).2.2 = m3
    generalize isFloat op = f
    intro HS HW HF
    by_cases q1 : 0 < n1
    · rw [if_pos q1]
      go_enter Tryz.func179, Tryz.ntmps179
      go_wp2_with (first | (go_at_call 190; refine (HN.out _).mono ?_; rintro e w1 ⟨rfl, rfl⟩) | (go_at_call 191; refine (HS.out _).mono ?_; rintro e w1 ⟨rfl, rfl⟩))
      go_ret2
      exact ⟨rfl, rfl⟩
    rw [if_neg q1]
    by_cases q2 : 0 < m1
    · rw [if_pos q2]
      go_enter Tryz.func179, Tryz.ntmps179
      go_wp2_with (first | (go_at_call 190; refine (HN.out _).mono ?_; rintro e w1 ⟨rfl, rfl⟩) | (go_at_call 191; refine (HS.out _).mono ?_; rintro e w1 ⟨rfl, rfl⟩) | (go_at_call 192; refine (HW.out _).mono ?_; rintro e w1 ⟨rfl, rfl⟩))
      go_ret2
      exact ⟨rfl, rfl⟩
    rw [if_neg q2]
    rcases h253 with q3 | rfl
    · rw [if_neg q3]
      cases f
      all_goals
        go_enter Tryz.func179, Tryz.ntmps179
        go_wp2_with (first | (go_at_call 190; refine (HN.out _).mono ?_; rintro e w1 ⟨rfl, rfl⟩) | (go_at_call 191; refine (HS.out _).mono ?_; rintro e w1 ⟨rfl, rfl⟩) | (go_at_call 192; refine (HW.out _).mono ?_; rintro e w1 ⟨rfl, rfl⟩) | (go_at_call 193; refine (HF.out _).mono ?_; rintro e w1 ⟨rfl, rfl⟩))
        go_ret2
        exact ⟨rfl, rfl⟩
    · rw [if_pos rfl]
      cases f
      all_goals
        go_enter Tryz.func179, Tryz.ntmps179
        go_wp2_with (first | (go_at_call 190; refine (HN.out _).mono ?_; rintro e w1 ⟨rfl, rfl⟩) | (go_at_call 191; refine (HS.out _).mono ?_; rintro e w1 ⟨rfl, rfl⟩) | (go_at_call 192; refine (HW.out _).mono ?_; rintro e w1 ⟨rfl, rfl⟩) | (go_at_call 193; refine (HF.out _).mono ?_; rintro e w1 ⟨rfl, rfl⟩))
        go_ret2
        exact ⟨rfl, rfl⟩
theorem typeV_cases (c : Int) : (c = 127 ∧ typeV c = (127, 0)) ∨ (c = 126 ∧ typeV c = (126, 0)) ∨ (c = 112 ∧ typeV c = (112, 0)) ∨ (c = 125 ∧ typeV c = (0, 3)) ∨ (c = 124 ∧ typeV c = (0, 3)) ∨ (c = 123 ∧ typeV c = (0, 4)) ∨ ((¬ c = 127 ∧ ¬ c = 126 ∧ ¬ c = 112 ∧ ¬ c = 125 ∧ ¬ c = 124 ∧ ¬ c = 123) ∧ typeV c = (0, 2)) := by
  by_cases h1 : c = 127
  · subst h1; exact .inl ⟨rfl, rfl⟩
  by_cases h2 : c = 126
  · subst h2; exact .inr (.inl ⟨rfl, rfl⟩)
  by_cases h3 : c = 112
  · subst h3; exact .inr (.inr (.inl ⟨rfl, rfl⟩))
  by_cases h4 : c = 125
  · subst h4; exact .inr (.inr (.inr (.inl ⟨rfl, rfl⟩)))
  by_cases h5 : c = 124
  · subst h5; exact .inr (.inr (.inr (.inr (.inl ⟨rfl, rfl⟩))))
  by_cases h6 : c = 123
  · subst h6; exact .inr (.inr (.inr (.inr (.inr (.inl ⟨rfl, rfl⟩)))))
  refine .inr (.inr (.inr (.inr (.inr (.inr ⟨⟨h1, h2, h3, h4, h5, h6⟩, ?_⟩)))))
  unfold typeV
  simp [*]
set_option maxRecDepth 100000 in
theorem type_any (c : Int) (w : World) :
    Calls Tryz.prog 123 #[.int .i64 c] w fun e w' => e = .returned (.tuple #[.int .i64 (typeV c).1, .int .i64 (typeV c).2]) ∧ w = w' := by
  rcases typeV_cases c with ⟨rfl, h⟩ | ⟨rfl, h⟩ | ⟨rfl, h⟩ | ⟨rfl, h⟩ | ⟨rfl, h⟩ | ⟨rfl, h⟩ | ⟨⟨k1, k2, k3, k4, k5, k6⟩, h⟩
  all_goals
    rw [h]
    clear h
    go_enter Tryz.func123, Tryz.ntmps123
    go_wp2_with fail
    go_ret2
    exact ⟨rfl, rfl⟩
theorem toList_some {s : ByteArray} (h : 0 < s.size) : s.toList.isEmpty = false := by
  rw [ByteArray.toList_eq]
  cases hl : s.data.toList with
  | nil => exact absurd (congrArg List.length hl) (by rw [Array.length_toList]; exact Nat.ne_of_gt h)
  | cons a l => rfl
/-- What taking a type tells. -/
def typeTup (s : ByteArray) : Value := if s.size = 0 then .tuple #[.int .i64 0, .string ⟨#[]⟩, .int .i64 2] else if (typeV (byt s 0)).2 = 0 then .tuple #[.int .i64 (typeV (byt s 0)).1, .string (s.extract 1 s.size), .int .i64 0] else .tuple #[.int .i64 0, .string ⟨#[]⟩, .int .i64 (typeV (byt s 0)).2]
set_option maxRecDepth 100000 in
theorem takeType_any (s : ByteArray) (hs : s.size ≤ maxLen) (w : World) :
    Calls Tryz.prog 185 #[.string s] w fun e w' => e = .returned (typeTup s) ∧ Below w.heap.size w w' := by
  unfold maxLen at hs
  unfold typeTup
  by_cases h0 : s.size = 0
  · rw [if_pos h0]
    have hse : s = ⟨#[]⟩ := ByteArray.size_eq_zero_iff.1 h0
    subst hse
    clear h0
    go_enter Tryz.func185, Tryz.ntmps185
    go_wp2_with fail
    go_ret3
    exact ⟨rfl, Below.refl _ _⟩
  · rw [if_neg h0]
    have hpos : 0 < s.size := by omega
    have hne := toList_some hpos
    have e3 := byt_get s 0 hpos
    have e5 := byt_lt s 0
    have b1 : (1 : Int) ≤ s.size := by omega
    have HT := Lib.hid (type_any (byt s 0 : Nat))
    revert HT
    generalize (typeV (byt s 0 : Nat)).1 = t
    generalize (typeV (byt s 0 : Nat)).2 = f
    intro HT
    by_cases hf : f = 0
    · rw [if_pos hf]
      subst hf
      go_enter Tryz.func185, Tryz.ntmps185
      go_wp2_with (go_at_call 123; refine (HT.out _).mono ?_; rintro e w1 ⟨rfl, rfl⟩)
      go_quiet (fail)
      go_wp2
      go_ret3
      exact ⟨rfl, below_drewN (Below.refl _ _) _⟩
    · rw [if_neg hf]
      have hf2 := eq_no hf
      clear hf
      go_enter Tryz.func185, Tryz.ntmps185
      go_wp2_with (go_at_call 123; refine (HT.out _).mono ?_; rintro e w1 ⟨rfl, rfl⟩)
      go_ret3
      exact ⟨rfl, Below.refl _ _⟩
end Go.Proofs.YtekonefnniaheaaGreat
namespace Go.Proofs.YtekonefnniaheaaGreat
open Go.RowKit Go.Deep

inductive Ins where
  | mk (op a b m : Int) (n : List Int) (l e : List Ins)
namespace Ins
def op : Ins → Int | mk x _ _ _ _ _ _ => x
def a : Ins → Int | mk _ x _ _ _ _ _ => x
def b : Ins → Int | mk _ _ x _ _ _ _ => x
def m : Ins → Int | mk _ _ _ x _ _ _ => x
def n : Ins → List Int | mk _ _ _ _ x _ _ => x
def l : Ins → List Ins | mk _ _ _ _ _ x _ => x
def e : Ins → List Ins | mk _ _ _ _ _ _ x => x
end Ins
mutual
/-- An instruction, as it lies in block b from off on. -/
def LiesI (w : World) (b off : Nat) : Ins → Prop
  | .mk op a b' m n l e => w.cell? ⟨b, off, none⟩ = some (.int .i64 op) ∧ w.cell? ⟨b, off + 1, none⟩ = some (.int .i64 a) ∧ w.cell? ⟨b, off + 2, none⟩ = some (.int .i64 b') ∧ w.cell? ⟨b, off + 3, none⟩ = some (.int .i64 m) ∧
      (∃ x c, w.cell? ⟨b, off + 4, none⟩ = some (.slice x n.length c) ∧ View w x n.length n ∧ n.length ≤ c ∧ c ≤ 9223372036854775807) ∧
      (∃ x c, w.cell? ⟨b, off + 5, none⟩ = some (.slice x l.length c) ∧ LiesL w x l ∧ l.length ≤ c ∧ c ≤ 9223372036854775807) ∧
      (∃ x c, w.cell? ⟨b, off + 6, none⟩ = some (.slice x e.length c) ∧ LiesL w x e ∧ e.length ≤ c ∧ c ≤ 9223372036854775807)
/-- Instructions, as they lie one behind the other. -/
def LiesL (w : World) (x : Option Addr) : List Ins → Prop
  | [] => True
  | i :: r => ∃ b off, x = some ⟨b, off, none⟩ ∧ LiesI w b off i ∧ LiesL w (some ⟨b, off + 7, none⟩) r
end
mutual
theorem LiesI.below {w w' : World} {b off : Nat} (h : Below w.heap.size w w') : ∀ {i : Ins}, LiesI w b off i → LiesI w' b off i
  | .mk op a b' m n l e, hi => by
    have key : ∀ o v, w.cell? ⟨b, o, none⟩ = some v → w'.cell? ⟨b, o, none⟩ = some v := fun o v hc => (h.cell (World.block_lt_of_cell? w _ hc)).trans hc
    unfold LiesI at hi ⊢
    obtain ⟨h0, h1, h2, h3, ⟨x4, c4, h4, v4, k4⟩, ⟨x5, c5, h5, v5, k5⟩, ⟨x6, c6, h6, v6, k6⟩⟩ := hi
    exact ⟨key _ _ h0, key _ _ h1, key _ _ h2, key _ _ h3, ⟨x4, c4, key _ _ h4, v4.below h, k4⟩, ⟨x5, c5, key _ _ h5, LiesL.below h v5, k5⟩, ⟨x6, c6, key _ _ h6, LiesL.below h v6, k6⟩⟩
theorem LiesL.below {w w' : World} {x : Option Addr} (h : Below w.heap.size w w') : ∀ {l : List Ins}, LiesL w x l → LiesL w' x l
  | [], _ => by unfold LiesL; trivial
  | i :: r, hl => by
    unfold LiesL at hl ⊢
    obtain ⟨b, off, hx, h1, h2⟩ := hl
    exact ⟨b, off, hx, LiesI.below h h1, LiesL.below h h2⟩
end
instance : Inhabited Ins := ⟨.mk 0 0 0 0 [] [] []⟩
theorem LiesL.at {w : World} {b off : Nat} {l : List Ins} (h : LiesL w (some ⟨b, off, none⟩) l) (i : Nat) (hi : i < l.length) : LiesI w b (off + i * 7) (l.getD i default) := by
  induction l generalizing off i with
  | nil => exact absurd hi (by simp)
  | cons j r ih =>
    unfold LiesL at h
    obtain ⟨b2, off2, hx, h1, h2⟩ := h
    cases hx
    cases i with
    | zero => simpa using h1
    | succ k =>
      have := ih h2 k (by rw [List.length_cons] at hi; omega)
      rw [show off + (k + 1) * 7 = off + 7 + k * 7 by omega]
      simpa using this
theorem LiesL.addr {w : World} {x : Option Addr} {l : List Ins} (h : LiesL w x l) (hl : 0 < l.length) : ∃ b off, x = some ⟨b, off, none⟩ := by
  cases l with
  | nil => exact absurd hl (by simp)
  | cons j r =>
    unfold LiesL at h
    obtain ⟨b, off, hx, _⟩ := h
    exact ⟨b, off, hx⟩
theorem LiesL.of {w : World} {b off : Nat} {l : List Ins} (h : ∀ i, i < l.length → LiesI w b (off + i * 7) (l.getD i default)) : LiesL w (some ⟨b, off, none⟩) l := by
  induction l generalizing off with
  | nil => unfold LiesL; trivial
  | cons j r ih =>
    unfold LiesL
    refine ⟨b, off, rfl, by simpa using h 0 (by simp), ih fun i hi => ?_⟩
    have := h (i + 1) (by rw [List.length_cons]; omega)
    rw [show off + (i + 1) * 7 = off + 7 + i * 7 by omega] at this
    simpa using this
/-- What is read of instructions that came in. -/
structure InsIn (w : World) (x : Option Addr) (len cap : Nat) (l : List Ins) : Prop where
  eq : len = l.length
  le : len ≤ cap
  top : cap ≤ 9223372036854775807
  lies : LiesL w x l
theorem ins_one_of {cs : List Value} {j : Nat} {v : Value} (h : (cs.drop j).take 1 = [v]) : cs[j]? = some v := by
  have h1 : ((cs.drop j).take 1)[0]? = some v := by rw [h]; rfl
  rw [List.getElem?_take, if_pos (by decide), List.getElem?_drop, Nat.add_zero] at h1
  exact h1
theorem cells_ins : Tryz.prog.cellsOf 50 = 7 := by kernel_rfl
theorem cells_ins_int : Tryz.prog.cellsOf 3 = 1 := by kernel_rfl
theorem cells_ins_ints : Tryz.prog.cellsOf 24 = 1 := by kernel_rfl
theorem cells_ins_l : Tryz.prog.cellsOf 48 = 1 := by kernel_rfl
section
variable {H : Type} {enc : TypeId × Value → H} {w : World} {base : Nat} {spare : Nat → Bool} {held : Bool}
theorem ints_of {fuel : Nat} {a : Option Addr} {len cap : Nat} {x : DataW H × List MemPlace} (h : DataW.trod enc Tryz.prog w base spare held fuel 24 [.slice a len cap] = some x) : ∃ n : List Int, len = n.length ∧ View w a len n ∧ len ≤ cap ∧ cap ≤ 9223372036854775807 := by
  rcases open_slice Tryz.underlying24 h with ⟨hcs, _⟩ | ⟨ad, l, c, m, n, D, Pl, hcs, _, hl, hm, hmm, _, hi⟩
  · simp only [List.cons.injEq, Value.slice.injEq, and_true] at hcs
    obtain ⟨rfl, rfl, rfl⟩ := hcs
    exact ⟨[], rfl, .inl rfl, Nat.le_refl _, by omega⟩
  · simp only [List.cons.injEq, Value.slice.injEq, and_true] at hcs
    obtain ⟨rfl, rfl, rfl⟩ := hcs
    have hlm : len ≤ m := by rw [hmm]; split <;> omega
    unfold maxLen at hm
    have key : ∀ i, i < len → ∃ z : Int, w.cell? (ad.add i) = some (.int .i64 z) := fun i hil => by
      obtain ⟨cs', h1, h2⟩ := hi i (by omega)
      rw [cells_ins_int, Nat.mul_one] at h1
      obtain ⟨z, hz, _, _⟩ := DataW.trod_int Tryz.underlying3 h2
      obtain ⟨_, _, hc⟩ := World.cells?_some h1
      refine ⟨z, ?_⟩
      have := hc 0 (by decide)
      rw [hz, add_add, Nat.add_zero] at this
      exact this
    obtain ⟨f, hf⟩ := choose_lt key
    refine ⟨(List.range len).map f, by simp, ?_, hl, by omega⟩
    by_cases h0 : len = 0
    · exact .inl h0
    · obtain ⟨b, off, spot⟩ := ad
      have hc0 := hf 0 (by omega)
      have hspot : spot = none := by simpa [Addr.add] using World.cell?_spot hc0
      subst hspot
      have hadd : ∀ i, (⟨b, off, none⟩ : Addr).add i = ⟨b, off + i, none⟩ := fun i => by unfold Addr.add; split <;> simp_all
      refine .inr ⟨b, off, rfl, fun i hi2 => ?_⟩
      have := hf i hi2
      rw [hadd] at this
      rw [this]
      congr 2
      rw [List.getD_eq_getElem?_getD, List.getElem?_map, List.getElem?_range hi2]
      rfl
theorem slice_of {t e : TypeId} {fuel : Nat} {cs : List Value} {x : DataW H × List MemPlace} (ht : Tryz.prog.underlying t = some (.slice e)) (h : DataW.trod enc Tryz.prog w base spare held fuel t cs = some x) : ∃ a len cap, cs = [.slice a len cap] := by
  rcases open_slice ht h with ⟨hcs, _⟩ | ⟨ad, l, c, m, n, D, Pl, hcs, _⟩
  · exact ⟨_, _, _, hcs⟩
  · exact ⟨_, _, _, hcs⟩
end
end Go.Proofs.YtekonefnniaheaaGreat
