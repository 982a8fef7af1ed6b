/- The reference's shapes, as one. -/
import Derived.Test.YtfhifnkekegkkaaInsB
namespace Go.Proofs.Ytfhifnkekegkkaa
open Go.RowKit

theorem eq_yes {n c : Int} (h : n = c) : (n == c) = true := by simpa using h
theorem isFloat_yes {op : Int} (h : op ∈ [42, 43, 56, 57, 67, 68] ∨ (91 ≤ op ∧ op ≤ 102) ∨ (139 ≤ op ∧ op ≤ 166) ∨ (168 ≤ op ∧ op ≤ 171) ∨ (174 ≤ op ∧ op ≤ 191) ∨ (64512 ≤ op ∧ op ≤ 64519)) : isFloat op = true := by
  unfold isFloat
  simp only [Bool.or_eq_true, decide_eq_true_eq]
  rcases h with h | h | h | h | h | h
  · exact .inl (.inl (.inl (.inl (.inl h))))
  · exact .inl (.inl (.inl (.inl (.inr h))))
  · exact .inl (.inl (.inl (.inr h)))
  · exact .inl (.inl (.inr h))
  · exact .inl (.inr h)
  · exact .inr h
theorem isFloat_no {op : Int} (h : ¬ op ∈ [42, 43, 56, 57, 67, 68]) (k : ¬ ((91 ≤ op ∧ op ≤ 102) ∨ (139 ≤ op ∧ op ≤ 166) ∨ (168 ≤ op ∧ op ≤ 171) ∨ (174 ≤ op ∧ op ≤ 191) ∨ (64512 ≤ op ∧ op ≤ 64519))) : ¬ isFloat op = true := by
  unfold isFloat
  simp only [Bool.or_eq_true, decide_eq_true_eq]
  intro h2
  rcases h2 with ((((h2 | h2) | h2) | h2) | h2) | h2
  · exact h h2
  all_goals omega
theorem refShape_any (op : Int) (w : World) :
    Calls Try.prog 27 #[.int .i64 op] w fun e w' => e = .returned (.tuple #[.int .i64 (shapeV op).1, .int .i64 (shapeV op).2]) ∧ Below w.heap.size w w' := by
  have HS := Lib.hid (fun w => refSig_any op w)
  have HW := Lib.hid (fun w => refWidth_any op w)
  unfold Num.sigTup at HS
  unfold Mem.widthTup at HW
  unfold shapeV
  by_cases hT : 0 < (Num.sig op).1
  · rw [if_pos (.inl hT)]
    exact refShape_s1a op _ _ _ _ _ _ HS HW hT w
  by_cases h1 : op ∈ [0, 1, 15, 26, 27, 209]
  · rw [if_pos (.inr h1)]
    exact refShape_s1b op _ _ _ _ _ _ HS HW hT (decide_eq_true h1) w
  rw [if_neg (show ¬ (0 < (Num.sig op).1 ∨ op ∈ [0, 1, 15, 26, 27, 209]) from fun h => h.elim hT h1)]
  replace h1 := decide_eq_false h1
  by_cases h2 : op ∈ [2, 3, 4]
  · rw [if_pos h2]
    exact refShape_s2 op _ _ _ _ _ _ HS HW hT h1 (decide_eq_true h2) w
  rw [if_neg h2]
  replace h2 := decide_eq_false h2
  by_cases h3 : op ∈ [12, 13, 16, 32, 33, 34, 35, 36, 210]
  · rw [if_pos h3]
    exact refShape_s3 op _ _ _ _ _ _ HS HW hT h1 h2 (decide_eq_true h3) w
  rw [if_neg h3]
  replace h3 := decide_eq_false h3
  by_cases h4 : op = 14
  · rw [if_pos h4]
    exact refShape_s4 op _ _ _ _ _ _ HS HW hT h1 h2 h3 (eq_yes h4) w
  rw [if_neg h4]
  replace h4 := eq_no h4
  by_cases h5 : op = 17
  · rw [if_pos h5]
    exact refShape_s5 op _ _ _ _ _ _ HS HW hT h1 h2 h3 h4 (eq_yes h5) w
  rw [if_neg h5]
  replace h5 := eq_no h5
  by_cases h6 : op = 28
  · rw [if_pos h6]
    exact refShape_s6 op _ _ _ _ _ _ HS HW hT h1 h2 h3 h4 h5 (eq_yes h6) w
  rw [if_neg h6]
  replace h6 := eq_no h6
  by_cases h7 : 0 < (Mem.width op).1
  · rw [if_pos h7]
    exact refShape_s7 op _ _ _ _ _ _ HS HW hT h1 h2 h3 h4 h5 h6 h7 w
  rw [if_neg h7]
  by_cases h8 : op ∈ [37, 38, 63, 64, 64523, 64527, 64528, 64529]
  · rw [if_pos h8]
    exact refShape_s8 op _ _ _ _ _ _ HS HW hT h1 h2 h3 h4 h5 h6 h7 (decide_eq_true h8) w
  rw [if_neg h8]
  replace h8 := decide_eq_false h8
  by_cases h9 : op = 64522
  · rw [if_pos (.inl h9)]
    exact refShape_s9a op _ _ _ _ _ _ HS HW hT h1 h2 h3 h4 h5 h6 h7 h8 (eq_yes h9) w
  by_cases hA : op = 64526
  · rw [if_pos (.inr hA)]
    exact refShape_s9b op _ _ _ _ _ _ HS HW hT h1 h2 h3 h4 h5 h6 h7 h8 (eq_no h9) (eq_yes hA) w
  rw [if_neg (show ¬ (op = 64522 ∨ op = 64526) from fun h => h.elim h9 hA)]
  replace h9 := eq_no h9
  replace hA := eq_no hA
  by_cases hB : op = 65
  · rw [if_pos (.inl hB)]
    exact refShape_s10a op _ _ _ _ _ _ HS HW hT h1 h2 h3 h4 h5 h6 h7 h8 h9 hA (eq_yes hB) w
  by_cases hC : op = 66
  · rw [if_pos (.inr hC)]
    exact refShape_s10b op _ _ _ _ _ _ HS HW hT h1 h2 h3 h4 h5 h6 h7 h8 h9 hA (eq_no hB) (eq_yes hC) w
  rw [if_neg (show ¬ (op = 65 ∨ op = 66) from fun h => h.elim hB hC)]
  replace hB := eq_no hB
  replace hC := eq_no hC
  by_cases hD : op = 208
  · rw [if_pos hD]
    exact refShape_s11 op _ _ _ _ _ _ HS HW hT h1 h2 h3 h4 h5 h6 h7 h8 h9 hA hB hC (eq_yes hD) w
  rw [if_neg hD]
  replace hD := eq_no hD
  by_cases hE : op ∈ [42, 43, 56, 57, 67, 68]
  · rw [if_pos (isFloat_yes (.inl hE))]
    exact refShape_sf0 op _ _ _ _ _ _ HS HW hT h1 h2 h3 h4 h5 h6 h7 h8 h9 hA hB hC hD (decide_eq_true hE) w
  have hE' := decide_eq_false hE
  by_cases q0 : op ≤ 90
  · rw [if_neg (isFloat_no hE (by omega))]
    rw [if_neg (show ¬ op = 253 by omega)]
    exact refShape_so0 op _ _ _ _ _ _ HS HW hT h1 h2 h3 h4 h5 h6 h7 h8 h9 hA hB hC hD hE' (by omega) (eq_no (by omega)) w
  by_cases q1 : op ≤ 102
  · rw [if_pos (isFloat_yes (.inr (.inl ⟨by omega, by omega⟩)))]
    exact refShape_sf1 op _ _ _ _ _ _ HS HW hT h1 h2 h3 h4 h5 h6 h7 h8 h9 hA hB hC hD hE' (by omega) (by omega) w
  by_cases q2 : op ≤ 138
  · rw [if_neg (isFloat_no hE (by omega))]
    rw [if_neg (show ¬ op = 253 by omega)]
    exact refShape_so2 op _ _ _ _ _ _ HS HW hT h1 h2 h3 h4 h5 h6 h7 h8 h9 hA hB hC hD hE' (by omega) (by omega) (eq_no (by omega)) w
  by_cases q3 : op ≤ 166
  · rw [if_pos (isFloat_yes (.inr (.inr (.inl ⟨by omega, by omega⟩))))]
    exact refShape_sf3 op _ _ _ _ _ _ HS HW hT h1 h2 h3 h4 h5 h6 h7 h8 h9 hA hB hC hD hE' (by omega) (by omega) w
  by_cases q4 : op ≤ 167
  · rw [if_neg (isFloat_no hE (by omega))]
    rw [if_neg (show ¬ op = 253 by omega)]
    exact refShape_so4 op _ _ _ _ _ _ HS HW hT h1 h2 h3 h4 h5 h6 h7 h8 h9 hA hB hC hD hE' (by omega) (by omega) (eq_no (by omega)) w
  by_cases q5 : op ≤ 171
  · rw [if_pos (isFloat_yes (.inr (.inr (.inr (.inl ⟨by omega, by omega⟩)))))]
    exact refShape_sf5 op _ _ _ _ _ _ HS HW hT h1 h2 h3 h4 h5 h6 h7 h8 h9 hA hB hC hD hE' (by omega) (by omega) w
  by_cases q6 : op ≤ 173
  · rw [if_neg (isFloat_no hE (by omega))]
    rw [if_neg (show ¬ op = 253 by omega)]
    exact refShape_so6 op _ _ _ _ _ _ HS HW hT h1 h2 h3 h4 h5 h6 h7 h8 h9 hA hB hC hD hE' (by omega) (by omega) (eq_no (by omega)) w
  by_cases q7 : op ≤ 191
  · rw [if_pos (isFloat_yes (.inr (.inr (.inr (.inr (.inl ⟨by omega, by omega⟩))))))]
    exact refShape_sf7 op _ _ _ _ _ _ HS HW hT h1 h2 h3 h4 h5 h6 h7 h8 h9 hA hB hC hD hE' (by omega) (by omega) w
  by_cases q8 : op ≤ 64511
  · rw [if_neg (isFloat_no hE (by omega))]
    by_cases hF : op = 253
    · rw [if_pos hF]
      exact refShape_sv op _ _ _ _ _ _ HS HW hT h1 h2 h3 h4 h5 h6 h7 h8 h9 hA hB hC hD hE' (by omega) (by omega) (eq_yes hF) w
    · rw [if_neg hF]
      exact refShape_so8 op _ _ _ _ _ _ HS HW hT h1 h2 h3 h4 h5 h6 h7 h8 h9 hA hB hC hD hE' (by omega) (by omega) (eq_no hF) w
  by_cases q9 : op ≤ 64519
  · rw [if_pos (isFloat_yes (.inr (.inr (.inr (.inr (.inr ⟨by omega, by omega⟩))))))]
    exact refShape_sf9 op _ _ _ _ _ _ HS HW hT h1 h2 h3 h4 h5 h6 h7 h8 h9 hA hB hC hD hE' (by omega) (by omega) w
  rw [if_neg (isFloat_no hE (by omega))]
  rw [if_neg (show ¬ op = 253 by omega)]
  exact refShape_so10 op _ _ _ _ _ _ HS HW hT h1 h2 h3 h4 h5 h6 h7 h8 h9 hA hB hC hD hE' (by omega) (eq_no (by omega)) w
end Go.Proofs.Ytfhifnkekegkkaa
