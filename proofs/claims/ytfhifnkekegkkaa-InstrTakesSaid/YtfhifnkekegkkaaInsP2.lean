/- The project's shapes and types. -/
import Derived.Test.YtfhifnkekegkkaaInsP1
import Derived.Test.YtfhifnkekegkkaaInsC
namespace Go.Proofs.Ytfhifnkekegkkaa
open Go.RowKit
open Leb (byt byt_lt byt_get)

/-- The opcodes that have a name. -/
def nameOps : List Int := [0, 1, 15, 26, 27, 209, 2, 3, 4, 12, 13, 16, 32, 33, 34, 35, 36, 210, 14, 17, 28, 37, 38, 63, 64, 64523, 64527, 64528, 64529, 64522, 64526, 65, 66, 208]
/-- The shape of one that has a name. -/
def nameV (op : Int) : Int := if op ∈ [0, 1, 15, 26, 27, 209] then 1 else if op ∈ [2, 3, 4] then 2 else if op ∈ [12, 13, 16, 32, 33, 34, 35, 36, 210] then 3 else if op ∈ [14] then 4 else if op ∈ [17] then 5 else if op ∈ [28] then 6 else if op ∈ [37, 38, 63, 64, 64523, 64527, 64528, 64529] then 8 else if op ∈ [64522, 64526] then 9 else if op ∈ [65, 66] then 10 else if op ∈ [208] then 11 else 0
theorem nameOps_of {op : Int} (h : op ∈ nameOps) : op = 0 ∨ op = 1 ∨ op = 15 ∨ op = 26 ∨ op = 27 ∨ op = 209 ∨ op = 2 ∨ op = 3 ∨ op = 4 ∨ op = 12 ∨ op = 13 ∨ op = 16 ∨ op = 32 ∨ op = 33 ∨ op = 34 ∨ op = 35 ∨ op = 36 ∨ op = 210 ∨ op = 14 ∨ op = 17 ∨ op = 28 ∨ op = 37 ∨ op = 38 ∨ op = 63 ∨ op = 64 ∨ op = 64523 ∨ op = 64527 ∨ op = 64528 ∨ op = 64529 ∨ op = 64522 ∨ op = 64526 ∨ op = 65 ∨ op = 66 ∨ op = 208 := by
  simpa [nameOps] using h
theorem nameOps_not {op : Int} (h : ¬ op ∈ nameOps) : ¬ op = 0 ∧ ¬ op = 1 ∧ ¬ op = 15 ∧ ¬ op = 26 ∧ ¬ op = 27 ∧ ¬ op = 209 ∧ ¬ op = 2 ∧ ¬ op = 3 ∧ ¬ op = 4 ∧ ¬ op = 12 ∧ ¬ op = 13 ∧ ¬ op = 16 ∧ ¬ op = 32 ∧ ¬ op = 33 ∧ ¬ op = 34 ∧ ¬ op = 35 ∧ ¬ op = 36 ∧ ¬ op = 210 ∧ ¬ op = 14 ∧ ¬ op = 17 ∧ ¬ op = 28 ∧ ¬ op = 37 ∧ ¬ op = 38 ∧ ¬ op = 63 ∧ ¬ op = 64 ∧ ¬ op = 64523 ∧ ¬ op = 64527 ∧ ¬ op = 64528 ∧ ¬ op = 64529 ∧ ¬ op = 64522 ∧ ¬ op = 64526 ∧ ¬ op = 65 ∧ ¬ op = 66 ∧ ¬ op = 208 := by
  simpa [nameOps] using h
theorem nameV_no {op : Int} (h : ¬ op ∈ nameOps) : nameV op = 0 := by
  obtain ⟨h0, h1, h2, h3, h4, h5, h6, h7, h8, h9, h10, h11, h12, h13, h14, h15, h16, h17, h18, h19, h20, h21, h22, h23, h24, h25, h26, h27, h28, h29, h30, h31, h32, h33⟩ := nameOps_not h
  unfold nameV
  simp [*]
set_option maxRecDepth 100000 in
set_option maxHeartbeats 2000000 in
theorem named_any (op : Int) (w : World) :
    Calls Try.prog 37 #[.int .i64 op] w fun e w' => e = .returned (.int .i64 (nameV op)) ∧ w = w' := by
  by_cases hm : op ∈ nameOps
  · rcases nameOps_of hm with rfl | rfl | rfl | rfl | rfl | rfl | rfl | rfl | rfl | rfl | rfl | rfl | rfl | rfl | rfl | rfl | rfl | rfl | rfl | rfl | rfl | rfl | rfl | rfl | rfl | rfl | rfl | rfl | rfl | rfl | rfl | rfl | rfl | rfl
    all_goals
      clear hm
      go_enter Try.func37, Try.ntmps37
      go_wp2_with fail
      go_ret
      exact ⟨rfl, rfl⟩
  · rw [nameV_no hm]
    obtain ⟨h0, h1, h2, h3, h4, h5, h6, h7, h8, h9, h10, h11, h12, h13, h14, h15, h16, h17, h18, h19, h20, h21, h22, h23, h24, h25, h26, h27, h28, h29, h30, h31, h32, h33⟩ := nameOps_not hm
    clear hm
    go_enter Try.func37, Try.ntmps37
    go_wp2_with fail
    go_ret
    exact ⟨rfl, rfl⟩
theorem isFloat_eq (op : Int) : isFloat op = true ↔ (42 ≤ op ∧ op ≤ 43) ∨ (56 ≤ op ∧ op ≤ 57) ∨ (67 ≤ op ∧ op ≤ 68) ∨ (91 ≤ op ∧ op ≤ 102) ∨ (139 ≤ op ∧ op ≤ 166) ∨ (168 ≤ op ∧ op ≤ 171) ∨ (174 ≤ op ∧ op ≤ 191) ∨ (64512 ≤ op ∧ op ≤ 64519) := by
  unfold isFloat
  simp only [Bool.or_eq_true, decide_eq_true_eq, List.mem_cons, List.not_mem_nil, or_false]
  omega
set_option maxRecDepth 100000 in
set_option maxHeartbeats 2000000 in
theorem ofFloats_any (op : Int) (w : World) :
    Calls Try.prog 40 #[.int .i64 op] w fun e w' => e = .returned (.bool (isFloat op)) ∧ w = w' := by
  by_cases q0 : 42 ≤ op ∧ op ≤ 43
  · have H0 := Lib.hid (insW_yes q0)
    rw [(isFloat_eq op).2 (by omega)]
    clear q0
    go_enter Try.func40, Try.ntmps40
    go_wp2_with (first | (go_at_call 65; refine (H0.out _).mono ?_; rintro e w1 ⟨rfl, rfl⟩; clear H0))
    go_ret
    exact ⟨rfl, rfl⟩
  by_cases q1 : 56 ≤ op ∧ op ≤ 57
  · have H0 := Lib.hid (insW_no (op := op) (a := 42) (b := 43) (by omega))
    have H1 := Lib.hid (insW_yes q1)
    rw [(isFloat_eq op).2 (by omega)]
    clear q0 q1
    go_enter Try.func40, Try.ntmps40
    go_wp2_with (first | (go_at_call 65; refine (H0.out _).mono ?_; rintro e w1 ⟨rfl, rfl⟩; clear H0) | (go_at_call 65; refine (H1.out _).mono ?_; rintro e w1 ⟨rfl, rfl⟩; clear H1))
    go_ret
    exact ⟨rfl, rfl⟩
  by_cases q2 : 67 ≤ op ∧ op ≤ 68
  · have H0 := Lib.hid (insW_no (op := op) (a := 42) (b := 43) (by omega))
    have H1 := Lib.hid (insW_no (op := op) (a := 56) (b := 57) (by omega))
    have H2 := Lib.hid (insW_yes q2)
    rw [(isFloat_eq op).2 (by omega)]
    clear q0 q1 q2
    go_enter Try.func40, Try.ntmps40
    go_wp2_with (first | (go_at_call 65; refine (H0.out _).mono ?_; rintro e w1 ⟨rfl, rfl⟩; clear H0) | (go_at_call 65; refine (H1.out _).mono ?_; rintro e w1 ⟨rfl, rfl⟩; clear H1) | (go_at_call 65; refine (H2.out _).mono ?_; rintro e w1 ⟨rfl, rfl⟩; clear H2))
    go_ret
    exact ⟨rfl, rfl⟩
  by_cases q3 : 91 ≤ op ∧ op ≤ 102
  · have H0 := Lib.hid (insW_no (op := op) (a := 42) (b := 43) (by omega))
    have H1 := Lib.hid (insW_no (op := op) (a := 56) (b := 57) (by omega))
    have H2 := Lib.hid (insW_no (op := op) (a := 67) (b := 68) (by omega))
    have H3 := Lib.hid (insW_yes q3)
    rw [(isFloat_eq op).2 (by omega)]
    clear q0 q1 q2 q3
    go_enter Try.func40, Try.ntmps40
    go_wp2_with (first | (go_at_call 65; refine (H0.out _).mono ?_; rintro e w1 ⟨rfl, rfl⟩; clear H0) | (go_at_call 65; refine (H1.out _).mono ?_; rintro e w1 ⟨rfl, rfl⟩; clear H1) | (go_at_call 65; refine (H2.out _).mono ?_; rintro e w1 ⟨rfl, rfl⟩; clear H2) | (go_at_call 65; refine (H3.out _).mono ?_; rintro e w1 ⟨rfl, rfl⟩; clear H3))
    go_ret
    exact ⟨rfl, rfl⟩
  by_cases q4 : 139 ≤ op ∧ op ≤ 166
  · have H0 := Lib.hid (insW_no (op := op) (a := 42) (b := 43) (by omega))
    have H1 := Lib.hid (insW_no (op := op) (a := 56) (b := 57) (by omega))
    have H2 := Lib.hid (insW_no (op := op) (a := 67) (b := 68) (by omega))
    have H3 := Lib.hid (insW_no (op := op) (a := 91) (b := 102) (by omega))
    have H4 := Lib.hid (insW_yes q4)
    rw [(isFloat_eq op).2 (by omega)]
    clear q0 q1 q2 q3 q4
    go_enter Try.func40, Try.ntmps40
    go_wp2_with (first | (go_at_call 65; refine (H0.out _).mono ?_; rintro e w1 ⟨rfl, rfl⟩; clear H0) | (go_at_call 65; refine (H1.out _).mono ?_; rintro e w1 ⟨rfl, rfl⟩; clear H1) | (go_at_call 65; refine (H2.out _).mono ?_; rintro e w1 ⟨rfl, rfl⟩; clear H2) | (go_at_call 65; refine (H3.out _).mono ?_; rintro e w1 ⟨rfl, rfl⟩; clear H3) | (go_at_call 65; refine (H4.out _).mono ?_; rintro e w1 ⟨rfl, rfl⟩; clear H4))
    go_ret
    exact ⟨rfl, rfl⟩
  by_cases q5 : 168 ≤ op ∧ op ≤ 171
  · have H0 := Lib.hid (insW_no (op := op) (a := 42) (b := 43) (by omega))
    have H1 := Lib.hid (insW_no (op := op) (a := 56) (b := 57) (by omega))
    have H2 := Lib.hid (insW_no (op := op) (a := 67) (b := 68) (by omega))
    have H3 := Lib.hid (insW_no (op := op) (a := 91) (b := 102) (by omega))
    have H4 := Lib.hid (insW_no (op := op) (a := 139) (b := 166) (by omega))
    have H5 := Lib.hid (insW_yes q5)
    rw [(isFloat_eq op).2 (by omega)]
    clear q0 q1 q2 q3 q4 q5
    go_enter Try.func40, Try.ntmps40
    go_wp2_with (first | (go_at_call 65; refine (H0.out _).mono ?_; rintro e w1 ⟨rfl, rfl⟩; clear H0) | (go_at_call 65; refine (H1.out _).mono ?_; rintro e w1 ⟨rfl, rfl⟩; clear H1) | (go_at_call 65; refine (H2.out _).mono ?_; rintro e w1 ⟨rfl, rfl⟩; clear H2) | (go_at_call 65; refine (H3.out _).mono ?_; rintro e w1 ⟨rfl, rfl⟩; clear H3) | (go_at_call 65; refine (H4.out _).mono ?_; rintro e w1 ⟨rfl, rfl⟩; clear H4) | (go_at_call 65; refine (H5.out _).mono ?_; rintro e w1 ⟨rfl, rfl⟩; clear H5))
    go_ret
    exact ⟨rfl, rfl⟩
  by_cases q6 : 174 ≤ op ∧ op ≤ 191
  · have H0 := Lib.hid (insW_no (op := op) (a := 42) (b := 43) (by omega))
    have H1 := Lib.hid (insW_no (op := op) (a := 56) (b := 57) (by omega))
    have H2 := Lib.hid (insW_no (op := op) (a := 67) (b := 68) (by omega))
    have H3 := Lib.hid (insW_no (op := op) (a := 91) (b := 102) (by omega))
    have H4 := Lib.hid (insW_no (op := op) (a := 139) (b := 166) (by omega))
    have H5 := Lib.hid (insW_no (op := op) (a := 168) (b := 171) (by omega))
    have H6 := Lib.hid (insW_yes q6)
    rw [(isFloat_eq op).2 (by omega)]
    clear q0 q1 q2 q3 q4 q5 q6
    go_enter Try.func40, Try.ntmps40
    go_wp2_with (first | (go_at_call 65; refine (H0.out _).mono ?_; rintro e w1 ⟨rfl, rfl⟩; clear H0) | (go_at_call 65; refine (H1.out _).mono ?_; rintro e w1 ⟨rfl, rfl⟩; clear H1) | (go_at_call 65; refine (H2.out _).mono ?_; rintro e w1 ⟨rfl, rfl⟩; clear H2) | (go_at_call 65; refine (H3.out _).mono ?_; rintro e w1 ⟨rfl, rfl⟩; clear H3) | (go_at_call 65; refine (H4.out _).mono ?_; rintro e w1 ⟨rfl, rfl⟩; clear H4) | (go_at_call 65; refine (H5.out _).mono ?_; rintro e w1 ⟨rfl, rfl⟩; clear H5) | (go_at_call 65; refine (H6.out _).mono ?_; rintro e w1 ⟨rfl, rfl⟩; clear H6))
    go_ret
    exact ⟨rfl, rfl⟩
  by_cases q7 : 64512 ≤ op ∧ op ≤ 64519
  · have H0 := Lib.hid (insW_no (op := op) (a := 42) (b := 43) (by omega))
    have H1 := Lib.hid (insW_no (op := op) (a := 56) (b := 57) (by omega))
    have H2 := Lib.hid (insW_no (op := op) (a := 67) (b := 68) (by omega))
    have H3 := Lib.hid (insW_no (op := op) (a := 91) (b := 102) (by omega))
    have H4 := Lib.hid (insW_no (op := op) (a := 139) (b := 166) (by omega))
    have H5 := Lib.hid (insW_no (op := op) (a := 168) (b := 171) (by omega))
    have H6 := Lib.hid (insW_no (op := op) (a := 174) (b := 191) (by omega))
    have H7 := Lib.hid (insW_yes q7)
    rw [(isFloat_eq op).2 (by omega)]
    clear q0 q1 q2 q3 q4 q5 q6 q7
    go_enter Try.func40, Try.ntmps40
    go_wp2_with (first | (go_at_call 65; refine (H0.out _).mono ?_; rintro e w1 ⟨rfl, rfl⟩; clear H0) | (go_at_call 65; refine (H1.out _).mono ?_; rintro e w1 ⟨rfl, rfl⟩; clear H1) | (go_at_call 65; refine (H2.out _).mono ?_; rintro e w1 ⟨rfl, rfl⟩; clear H2) | (go_at_call 65; refine (H3.out _).mono ?_; rintro e w1 ⟨rfl, rfl⟩; clear H3) | (go_at_call 65; refine (H4.out _).mono ?_; rintro e w1 ⟨rfl, rfl⟩; clear H4) | (go_at_call 65; refine (H5.out _).mono ?_; rintro e w1 ⟨rfl, rfl⟩; clear H5) | (go_at_call 65; refine (H6.out _).mono ?_; rintro e w1 ⟨rfl, rfl⟩; clear H6) | (go_at_call 65; refine (H7.out _).mono ?_; rintro e w1 ⟨rfl, rfl⟩; clear H7))
    go_ret
    exact ⟨rfl, rfl⟩
  have H0 := Lib.hid (insW_no (op := op) (a := 42) (b := 43) (by omega))
  have H1 := Lib.hid (insW_no (op := op) (a := 56) (b := 57) (by omega))
  have H2 := Lib.hid (insW_no (op := op) (a := 67) (b := 68) (by omega))
  have H3 := Lib.hid (insW_no (op := op) (a := 91) (b := 102) (by omega))
  have H4 := Lib.hid (insW_no (op := op) (a := 139) (b := 166) (by omega))
  have H5 := Lib.hid (insW_no (op := op) (a := 168) (b := 171) (by omega))
  have H6 := Lib.hid (insW_no (op := op) (a := 174) (b := 191) (by omega))
  have H7 := Lib.hid (insW_no (op := op) (a := 64512) (b := 64519) (by omega))
  rw [show isFloat op = false from Bool.eq_false_iff.2 fun h => by have := (isFloat_eq op).1 h; omega]
  clear q0 q1 q2 q3 q4 q5 q6 q7
  go_enter Try.func40, Try.ntmps40
  go_wp2_with (first | (go_at_call 65; refine (H0.out _).mono ?_; rintro e w1 ⟨rfl, rfl⟩; clear H0) | (go_at_call 65; refine (H1.out _).mono ?_; rintro e w1 ⟨rfl, rfl⟩; clear H1) | (go_at_call 65; refine (H2.out _).mono ?_; rintro e w1 ⟨rfl, rfl⟩; clear H2) | (go_at_call 65; refine (H3.out _).mono ?_; rintro e w1 ⟨rfl, rfl⟩; clear H3) | (go_at_call 65; refine (H4.out _).mono ?_; rintro e w1 ⟨rfl, rfl⟩; clear H4) | (go_at_call 65; refine (H5.out _).mono ?_; rintro e w1 ⟨rfl, rfl⟩; clear H5) | (go_at_call 65; refine (H6.out _).mono ?_; rintro e w1 ⟨rfl, rfl⟩; clear H6) | (go_at_call 65; refine (H7.out _).mono ?_; rintro e w1 ⟨rfl, rfl⟩; clear H7))
  go_ret
  exact ⟨rfl, rfl⟩
/-- The same shapes, names first. -/
theorem shapeV_named : ∀ op ∈ nameOps, shapeV op = (nameV op, 0) ∧ nameV op ≠ 0 := by decide
theorem shapeV_other {op : Int} (h : ¬ op ∈ nameOps) : shapeV op = if 0 < (Num.sig op).1 then (1, 0) else if 0 < (Mem.width op).1 then (7, 0) else if isFloat op = true then (0, 3) else if op = 253 then (0, 4) else (0, 5) := by
  obtain ⟨h0, h1, h2, h3, h4, h5, h6, h7, h8, h9, h10, h11, h12, h13, h14, h15, h16, h17, h18, h19, h20, h21, h22, h23, h24, h25, h26, h27, h28, h29, h30, h31, h32, h33⟩ := nameOps_not h
  unfold shapeV
  simp [*]
set_option maxRecDepth 100000 in
set_option maxHeartbeats 2000000 in
theorem shape_any (op : Int) (w : World) :
    Calls Try.prog 22 #[.int .i64 op] w fun e w' => e = .returned (.tuple #[.int .i64 (shapeV op).1, .int .i64 (shapeV op).2]) ∧ w = w' := by
  have HN := Lib.hid (named_any op)
  by_cases hm : op ∈ nameOps
  · obtain ⟨h1, h2⟩ := shapeV_named op hm
    rw [h1]
    clear h1 hm
    revert HN h2
    generalize nameV op = s
    intro HN h2
    have h3 := eq_no h2
    clear h2
    go_enter Try.func22, Try.ntmps22
    go_wp2_with (go_at_call 37; refine (HN.out _).mono ?_; rintro e w1 ⟨rfl, rfl⟩)
    go_ret2
    exact ⟨rfl, rfl⟩
  · rw [shapeV_other hm]
    rw [nameV_no hm] at HN
    have h253 : ¬ op = 253 ∨ op = 253 := by omega
    have HS := Lib.hid (sig_any op)
    have HW := Lib.hid (width_any op)
    have HF := Lib.hid (ofFloats_any op)
    unfold Num.sigTup at HS
    unfold Mem.widthTup at HW
    clear hm
    revert HS HW HF
    generalize (Num.sig op).1 = n1
    generalize (Num.sig op).2.1 = n2
    generalize (Num.sig op).2.2 = n3
    generalize (Mem.width op).1 = m1
    generalize (Mem.width op).2.1 = m2
    generalize (Mem.width op).2.2 = m3
    generalize isFloat op = f
    intro HS HW HF
    by_cases q1 : 0 < n1
    · rw [if_pos q1]
      go_enter Try.func22, Try.ntmps22
      go_wp2_with (first | (go_at_call 37; refine (HN.out _).mono ?_; rintro e w1 ⟨rfl, rfl⟩) | (go_at_call 38; refine (HS.out _).mono ?_; rintro e w1 ⟨rfl, rfl⟩))
      go_ret2
      exact ⟨rfl, rfl⟩
    rw [if_neg q1]
    by_cases q2 : 0 < m1
    · rw [if_pos q2]
      go_enter Try.func22, Try.ntmps22
      go_wp2_with (first | (go_at_call 37; refine (HN.out _).mono ?_; rintro e w1 ⟨rfl, rfl⟩) | (go_at_call 38; refine (HS.out _).mono ?_; rintro e w1 ⟨rfl, rfl⟩) | (go_at_call 39; refine (HW.out _).mono ?_; rintro e w1 ⟨rfl, rfl⟩))
      go_ret2
      exact ⟨rfl, rfl⟩
    rw [if_neg q2]
    rcases h253 with q3 | rfl
    · rw [if_neg q3]
      cases f
      all_goals
        go_enter Try.func22, Try.ntmps22
        go_wp2_with (first | (go_at_call 37; refine (HN.out _).mono ?_; rintro e w1 ⟨rfl, rfl⟩) | (go_at_call 38; refine (HS.out _).mono ?_; rintro e w1 ⟨rfl, rfl⟩) | (go_at_call 39; refine (HW.out _).mono ?_; rintro e w1 ⟨rfl, rfl⟩) | (go_at_call 40; refine (HF.out _).mono ?_; rintro e w1 ⟨rfl, rfl⟩))
        go_ret2
        exact ⟨rfl, rfl⟩
    · rw [if_pos rfl]
      cases f
      all_goals
        go_enter Try.func22, Try.ntmps22
        go_wp2_with (first | (go_at_call 37; refine (HN.out _).mono ?_; rintro e w1 ⟨rfl, rfl⟩) | (go_at_call 38; refine (HS.out _).mono ?_; rintro e w1 ⟨rfl, rfl⟩) | (go_at_call 39; refine (HW.out _).mono ?_; rintro e w1 ⟨rfl, rfl⟩) | (go_at_call 40; refine (HF.out _).mono ?_; rintro e w1 ⟨rfl, rfl⟩))
        go_ret2
        exact ⟨rfl, rfl⟩
theorem typeV_cases (c : Int) : (c = 127 ∧ typeV c = (127, 0)) ∨ (c = 126 ∧ typeV c = (126, 0)) ∨ (c = 112 ∧ typeV c = (112, 0)) ∨ (c = 125 ∧ typeV c = (0, 3)) ∨ (c = 124 ∧ typeV c = (0, 3)) ∨ (c = 123 ∧ typeV c = (0, 4)) ∨ ((¬ c = 127 ∧ ¬ c = 126 ∧ ¬ c = 112 ∧ ¬ c = 125 ∧ ¬ c = 124 ∧ ¬ c = 123) ∧ typeV c = (0, 2)) := by
  by_cases h1 : c = 127
  · subst h1; exact .inl ⟨rfl, rfl⟩
  by_cases h2 : c = 126
  · subst h2; exact .inr (.inl ⟨rfl, rfl⟩)
  by_cases h3 : c = 112
  · subst h3; exact .inr (.inr (.inl ⟨rfl, rfl⟩))
  by_cases h4 : c = 125
  · subst h4; exact .inr (.inr (.inr (.inl ⟨rfl, rfl⟩)))
  by_cases h5 : c = 124
  · subst h5; exact .inr (.inr (.inr (.inr (.inl ⟨rfl, rfl⟩))))
  by_cases h6 : c = 123
  · subst h6; exact .inr (.inr (.inr (.inr (.inr (.inl ⟨rfl, rfl⟩)))))
  refine .inr (.inr (.inr (.inr (.inr (.inr ⟨⟨h1, h2, h3, h4, h5, h6⟩, ?_⟩)))))
  unfold typeV
  simp [*]
set_option maxRecDepth 100000 in
theorem type_any (c : Int) (w : World) :
    Calls Try.prog 71 #[.int .i64 c] w fun e w' => e = .returned (.tuple #[.int .i64 (typeV c).1, .int .i64 (typeV c).2]) ∧ w = w' := by
  rcases typeV_cases c with ⟨rfl, h⟩ | ⟨rfl, h⟩ | ⟨rfl, h⟩ | ⟨rfl, h⟩ | ⟨rfl, h⟩ | ⟨rfl, h⟩ | ⟨⟨k1, k2, k3, k4, k5, k6⟩, h⟩
  all_goals
    rw [h]
    clear h
    go_enter Try.func71, Try.ntmps71
    go_wp2_with fail
    go_ret2
    exact ⟨rfl, rfl⟩
theorem toList_some {s : ByteArray} (h : 0 < s.size) : s.toList.isEmpty = false := by
  rw [ByteArray.toList_eq]
  cases hl : s.data.toList with
  | nil => exact absurd (congrArg List.length hl) (by rw [Array.length_toList]; exact Nat.ne_of_gt h)
  | cons a l => rfl
/-- What taking a type tells. -/
def typeTup (s : ByteArray) : Value := if s.size = 0 then .tuple #[.int .i64 0, .string ⟨#[]⟩, .int .i64 2] else if (typeV (byt s 0)).2 = 0 then .tuple #[.int .i64 (typeV (byt s 0)).1, .string (s.extract 1 s.size), .int .i64 0] else .tuple #[.int .i64 0, .string ⟨#[]⟩, .int .i64 (typeV (byt s 0)).2]
set_option maxRecDepth 100000 in
theorem takeType_any (s : ByteArray) (hs : s.size ≤ maxLen) (w : World) :
    Calls Try.prog 87 #[.string s] w fun e w' => e = .returned (typeTup s) ∧ Below w.heap.size w w' := by
  unfold maxLen at hs
  unfold typeTup
  by_cases h0 : s.size = 0
  · rw [if_pos h0]
    have hse : s = ⟨#[]⟩ := ByteArray.size_eq_zero_iff.1 h0
    subst hse
    clear h0
    go_enter Try.func87, Try.ntmps87
    go_wp2_with fail
    go_ret3
    exact ⟨rfl, Below.refl _ _⟩
  · rw [if_neg h0]
    have hpos : 0 < s.size := by omega
    have hne := toList_some hpos
    have e3 := byt_get s 0 hpos
    have e5 := byt_lt s 0
    have b1 : (1 : Int) ≤ s.size := by omega
    have HT := Lib.hid (type_any (byt s 0 : Nat))
    revert HT
    generalize (typeV (byt s 0 : Nat)).1 = t
    generalize (typeV (byt s 0 : Nat)).2 = f
    intro HT
    by_cases hf : f = 0
    · rw [if_pos hf]
      subst hf
      go_enter Try.func87, Try.ntmps87
      go_wp2_with (go_at_call 71; refine (HT.out _).mono ?_; rintro e w1 ⟨rfl, rfl⟩)
      go_quiet (fail)
      go_wp2
      go_ret3
      exact ⟨rfl, below_drewN (Below.refl _ _) _⟩
    · rw [if_neg hf]
      have hf2 := eq_no hf
      clear hf
      go_enter Try.func87, Try.ntmps87
      go_wp2_with (go_at_call 71; refine (HT.out _).mono ?_; rintro e w1 ⟨rfl, rfl⟩)
      go_ret3
      exact ⟨rfl, Below.refl _ _⟩
end Go.Proofs.Ytfhifnkekegkkaa
