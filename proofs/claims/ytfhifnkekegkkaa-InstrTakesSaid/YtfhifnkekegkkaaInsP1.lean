/- The project's shapes and types. -/
import Derived.Test.YtfhifnkekegkkaaInsA
namespace Go.Proofs.Ytfhifnkekegkkaa
open Go.RowKit

theorem numWithin_any (op a b : Int) (w : World) :
    Calls Try.prog 64 #[.int .i64 op, .int .i64 a, .int .i64 b] w fun e w' => e = .returned (.bool (decide (a ≤ op) && decide (op ≤ b))) ∧ w = w' := by
  by_cases h : a ≤ op
  · have e1 : decide (a ≤ op) = true := decide_eq_true h
    rw [e1]
    clear h
    go_enter Try.func64, Try.ntmps64
    go_wp2_with fail
    go_ret
    exact ⟨rfl, rfl⟩
  · have e1 : decide (a ≤ op) = false := decide_eq_false h
    rw [e1]
    clear h
    go_enter Try.func64, Try.ntmps64
    go_wp2_with fail
    go_ret
    exact ⟨rfl, rfl⟩
theorem insWithin_any (op a b : Int) (w : World) :
    Calls Try.prog 65 #[.int .i64 op, .int .i64 a, .int .i64 b] w fun e w' => e = .returned (.bool (decide (a ≤ op) && decide (op ≤ b))) ∧ w = w' := by
  by_cases h : a ≤ op
  · have e1 : decide (a ≤ op) = true := decide_eq_true h
    rw [e1]
    clear h
    go_enter Try.func65, Try.ntmps65
    go_wp2_with fail
    go_ret
    exact ⟨rfl, rfl⟩
  · have e1 : decide (a ≤ op) = false := decide_eq_false h
    rw [e1]
    clear h
    go_enter Try.func65, Try.ntmps65
    go_wp2_with fail
    go_ret
    exact ⟨rfl, rfl⟩
theorem inB_yes {op a b : Int} (h : a ≤ op ∧ op ≤ b) : (decide (a ≤ op) && decide (op ≤ b)) = true := by simp [h.1, h.2]
theorem inB_no {op a b : Int} (h : op < a ∨ b < op) : (decide (a ≤ op) && decide (op ≤ b)) = false := by
  rcases h with h | h
  · rw [decide_eq_false (by omega), Bool.false_and]
  · rw [Bool.and_comm, decide_eq_false (by omega), Bool.false_and]
/-- A question whose answer is known. -/
theorem numW_yes {op a b : Int} (h : a ≤ op ∧ op ≤ b) (w : World) : Calls Try.prog 64 #[.int .i64 op, .int .i64 a, .int .i64 b] w fun e w' => e = .returned (.bool true) ∧ w = w' := inB_yes h ▸ numWithin_any op a b w
theorem numW_no {op a b : Int} (h : op < a ∨ b < op) (w : World) : Calls Try.prog 64 #[.int .i64 op, .int .i64 a, .int .i64 b] w fun e w' => e = .returned (.bool false) ∧ w = w' := inB_no h ▸ numWithin_any op a b w
theorem insW_yes {op a b : Int} (h : a ≤ op ∧ op ≤ b) (w : World) : Calls Try.prog 65 #[.int .i64 op, .int .i64 a, .int .i64 b] w fun e w' => e = .returned (.bool true) ∧ w = w' := inB_yes h ▸ insWithin_any op a b w
theorem insW_no {op a b : Int} (h : op < a ∨ b < op) (w : World) : Calls Try.prog 65 #[.int .i64 op, .int .i64 a, .int .i64 b] w fun e w' => e = .returned (.bool false) ∧ w = w' := inB_no h ▸ insWithin_any op a b w
/-- The opcodes of one number. -/
def sigOps : List Int := [69, 103, 104, 105, 192, 193, 121, 122, 123, 194, 195, 196, 80, 167, 172, 173]
theorem sigOps_of {op : Int} (h : op ∈ sigOps) : op = 69 ∨ op = 103 ∨ op = 104 ∨ op = 105 ∨ op = 192 ∨ op = 193 ∨ op = 121 ∨ op = 122 ∨ op = 123 ∨ op = 194 ∨ op = 195 ∨ op = 196 ∨ op = 80 ∨ op = 167 ∨ op = 172 ∨ op = 173 := by
  simpa [sigOps] using h
theorem sigOps_not {op : Int} (h : ¬ op ∈ sigOps) : ¬ op = 69 ∧ ¬ op = 103 ∧ ¬ op = 104 ∧ ¬ op = 105 ∧ ¬ op = 192 ∧ ¬ op = 193 ∧ ¬ op = 121 ∧ ¬ op = 122 ∧ ¬ op = 123 ∧ ¬ op = 194 ∧ ¬ op = 195 ∧ ¬ op = 196 ∧ ¬ op = 80 ∧ ¬ op = 167 ∧ ¬ op = 172 ∧ ¬ op = 173 := by
  simpa [sigOps] using h
set_option maxRecDepth 100000 in
set_option maxHeartbeats 2000000 in
theorem sig_any (op : Int) (w : World) :
    Calls Try.prog 38 #[.int .i64 op] w fun e w' => e = .returned (Num.sigTup op) ∧ w = w' := by
  by_cases hm : op ∈ sigOps
  · rcases sigOps_of hm with rfl | rfl | rfl | rfl | rfl | rfl | rfl | rfl | rfl | rfl | rfl | rfl | rfl | rfl | rfl | rfl
    all_goals
      clear hm
      go_enter Try.func38, Try.ntmps38
      go_wp2_with fail
      go_ret3
      exact ⟨rfl, rfl⟩
  · obtain ⟨k1, k2, k3, k4, k5, k6, k7, k8, k9, k10, k11, k12, k13, k14, k15, k16⟩ := sigOps_not hm
    clear hm
    have hc : (∃ q : (70 ≤ op ∧ op ≤ 79), Num.sigTup op = Num.tup3 2 127 127) ∨ (∃ q : (106 ≤ op ∧ op ≤ 120), Num.sigTup op = Num.tup3 2 127 127) ∨ (∃ q : (81 ≤ op ∧ op ≤ 90), Num.sigTup op = Num.tup3 2 126 127) ∨ (∃ q : (124 ≤ op ∧ op ≤ 138), Num.sigTup op = Num.tup3 2 126 126) ∨
        ((op < 70 ∨ 79 < op) ∧ (op < 106 ∨ 120 < op) ∧ (op < 81 ∨ 90 < op) ∧ (op < 124 ∨ 138 < op) ∧ Num.sigTup op = Num.tup3 0 0 0) := by
      rcases Num.sig_cases op with ⟨h, k⟩ | ⟨h, h', k⟩ | ⟨h, k⟩ | ⟨h, k⟩ | ⟨h, k⟩ | ⟨h, k⟩ | ⟨h, h', k⟩ | ⟨h, h', k⟩ | ⟨h, k⟩ | ⟨h, k⟩ | ⟨h, h', k⟩ | ⟨h, h', k⟩ | ⟨h, h', k⟩ | ⟨h, h', k⟩ | ⟨h, k⟩
      all_goals first
        | (exfalso; omega)
        | exact .inl ⟨⟨h, h'⟩, k⟩
        | exact .inr (.inl ⟨⟨h, h'⟩, k⟩)
        | exact .inr (.inr (.inl ⟨⟨h, h'⟩, k⟩))
        | exact .inr (.inr (.inr (.inl ⟨⟨h, h'⟩, k⟩)))
        | exact .inr (.inr (.inr (.inr ⟨by omega, by omega, by omega, by omega, k⟩)))
    rcases hc with ⟨q, k⟩ | ⟨q, k⟩ | ⟨q, k⟩ | ⟨q, k⟩ | ⟨q1, q2, q3, q4, k⟩
    · have H1 := Lib.hid (numW_yes q)
      rw [k]; unfold Num.tup3; clear k q
      go_enter Try.func38, Try.ntmps38
      go_wp2_with (go_at_call 64; refine (H1.out _).mono ?_; rintro e w1 ⟨rfl, rfl⟩)
      go_ret3
      exact ⟨rfl, rfl⟩
    · have H1 := Lib.hid (numW_no (op := op) (a := 70) (b := 79) (by omega))
      have H2 := Lib.hid (numW_yes q)
      rw [k]; unfold Num.tup3; clear k q
      go_enter Try.func38, Try.ntmps38
      go_wp2_with (first | (go_at_call 64; refine (H1.out _).mono ?_; rintro e w1 ⟨rfl, rfl⟩; clear H1) | (go_at_call 64; refine (H2.out _).mono ?_; rintro e w1 ⟨rfl, rfl⟩; clear H2))
      go_ret3
      exact ⟨rfl, rfl⟩
    · have H1 := Lib.hid (numW_no (op := op) (a := 70) (b := 79) (by omega))
      have H2 := Lib.hid (numW_no (op := op) (a := 106) (b := 120) (by omega))
      have H3 := Lib.hid (numW_yes q)
      rw [k]; unfold Num.tup3; clear k q
      go_enter Try.func38, Try.ntmps38
      go_wp2_with (first | (go_at_call 64; refine (H1.out _).mono ?_; rintro e w1 ⟨rfl, rfl⟩; clear H1) | (go_at_call 64; refine (H2.out _).mono ?_; rintro e w1 ⟨rfl, rfl⟩; clear H2) | (go_at_call 64; refine (H3.out _).mono ?_; rintro e w1 ⟨rfl, rfl⟩; clear H3))
      go_ret3
      exact ⟨rfl, rfl⟩
    · have H1 := Lib.hid (numW_no (op := op) (a := 70) (b := 79) (by omega))
      have H2 := Lib.hid (numW_no (op := op) (a := 106) (b := 120) (by omega))
      have H3 := Lib.hid (numW_no (op := op) (a := 81) (b := 90) (by omega))
      have H4 := Lib.hid (numW_yes q)
      rw [k]; unfold Num.tup3; clear k q
      go_enter Try.func38, Try.ntmps38
      go_wp2_with (first | (go_at_call 64; refine (H1.out _).mono ?_; rintro e w1 ⟨rfl, rfl⟩; clear H1) | (go_at_call 64; refine (H2.out _).mono ?_; rintro e w1 ⟨rfl, rfl⟩; clear H2) | (go_at_call 64; refine (H3.out _).mono ?_; rintro e w1 ⟨rfl, rfl⟩; clear H3) | (go_at_call 64; refine (H4.out _).mono ?_; rintro e w1 ⟨rfl, rfl⟩; clear H4))
      go_ret3
      exact ⟨rfl, rfl⟩
    · have H1 := Lib.hid (numW_no q1)
      have H2 := Lib.hid (numW_no q2)
      have H3 := Lib.hid (numW_no q3)
      have H4 := Lib.hid (numW_no q4)
      rw [k]; unfold Num.tup3; clear k q1 q2 q3 q4
      go_enter Try.func38, Try.ntmps38
      go_wp2_with (first | (go_at_call 64; refine (H1.out _).mono ?_; rintro e w1 ⟨rfl, rfl⟩; clear H1) | (go_at_call 64; refine (H2.out _).mono ?_; rintro e w1 ⟨rfl, rfl⟩; clear H2) | (go_at_call 64; refine (H3.out _).mono ?_; rintro e w1 ⟨rfl, rfl⟩; clear H3) | (go_at_call 64; refine (H4.out _).mono ?_; rintro e w1 ⟨rfl, rfl⟩; clear H4))
      go_ret3
      exact ⟨rfl, rfl⟩
theorem ops_of {op : Int} (h : op ∈ Mem.wOps) : op = 40 ∨ op = 41 ∨ op = 44 ∨ op = 45 ∨ op = 46 ∨ op = 47 ∨ op = 48 ∨ op = 49 ∨ op = 50 ∨ op = 51 ∨ op = 52 ∨ op = 53 ∨ op = 54 ∨ op = 55 ∨ op = 58 ∨ op = 59 ∨ op = 60 ∨ op = 61 ∨ op = 62 := by
  simpa [Mem.wOps] using h
theorem ops_not {op : Int} (h : ¬ op ∈ Mem.wOps) : ¬ op = 40 ∧ ¬ op = 41 ∧ ¬ op = 44 ∧ ¬ op = 45 ∧ ¬ op = 46 ∧ ¬ op = 47 ∧ ¬ op = 48 ∧ ¬ op = 49 ∧ ¬ op = 50 ∧ ¬ op = 51 ∧ ¬ op = 52 ∧ ¬ op = 53 ∧ ¬ op = 54 ∧ ¬ op = 55 ∧ ¬ op = 58 ∧ ¬ op = 59 ∧ ¬ op = 60 ∧ ¬ op = 61 ∧ ¬ op = 62 := by
  simpa [Mem.wOps] using h
set_option maxRecDepth 100000 in
set_option maxHeartbeats 1000000 in
theorem width_any (op : Int) (w : World) :
    Calls Try.prog 39 #[.int .i64 op] w fun e w' => e = .returned (Mem.widthTup op) ∧ w = w' := by
  by_cases hm : op ∈ Mem.wOps
  · rcases ops_of hm with rfl | rfl | rfl | rfl | rfl | rfl | rfl | rfl | rfl | rfl | rfl | rfl | rfl | rfl | rfl | rfl | rfl | rfl | rfl
    all_goals
      clear hm
      go_enter Try.func39, Try.ntmps39
      go_wp2_with fail
      go_ret3
      exact ⟨rfl, rfl⟩
  · have hno : Mem.widthTup op = .tuple #[.int .i64 0, .int .i64 0, .bool false] := by
      unfold Mem.widthTup Mem.width
      rw [if_neg hm]
    obtain ⟨h1, h2, h3, h4, h5, h6, h7, h8, h9, h10, h11, h12, h13, h14, h15, h16, h17, h18, h19⟩ := ops_not hm
    rw [hno]
    clear hm hno
    go_enter Try.func39, Try.ntmps39
    go_wp2_with fail
    go_ret3
    exact ⟨rfl, rfl⟩
end Go.Proofs.Ytfhifnkekegkkaa
