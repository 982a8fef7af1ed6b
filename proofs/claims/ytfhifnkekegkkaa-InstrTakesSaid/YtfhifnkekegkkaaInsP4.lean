/- The project's questions about an instruction's numbers, as one. -/
import Derived.Test.YtfhifnkekegkkaaInsP3
namespace Go.Proofs.Ytfhifnkekegkkaa
open Go.RowKit

def mayAV (sh op a : Int) : Bool := if sh = 2 then blkB a else if sh ∈ [3, 4, 5, 7, 9] then idxB a else if sh = 6 then decide ((typeV a).2 = 0) else if sh = 10 then decide (op = 66) || (decide (-2147483648 ≤ a) && decide (a ≤ 2147483647)) else decide (a = 0)
set_option maxRecDepth 100000 in
set_option maxHeartbeats 1000000 in
theorem mayA_any (sh op a b m : Int) (xn xl xe : Option Addr) (nl ll el nc lc ec : Nat) (w : World) :
    Calls Try.prog 49 #[.agg #[.int .i64 op, .int .i64 a, .int .i64 b, .int .i64 m, .slice xn nl nc, .slice xl ll lc, .slice xe el ec], .int .i64 sh] w fun e w' => e = .returned (.bool (mayAV sh op a)) ∧ Below w.heap.size w w' := by
  have HI := Lib.hid (index_any a)
  have HB := Lib.hid (blockType_any a)
  have HT := Lib.hid (type_any a)
  have HW := Lib.hid (insWithin_any a (-2147483648) 2147483647)
  have hb := Lib.hid ((Below.refl w.heap.size w).alloc (Nat.le_refl _) (.cells #[.int .i64 op, .int .i64 a, .int .i64 b, .int .i64 m, .slice xn nl nc, .slice xl ll lc, .slice xe el ec] 47))
  have d0 := World.cell?_alloc_mark w #[.int .i64 op, .int .i64 a, .int .i64 b, .int .i64 m, .slice xn nl nc, .slice xl ll lc, .slice xe el ec] 47 (0, 0) 0
  have d1 := World.cell?_alloc_mark w #[.int .i64 op, .int .i64 a, .int .i64 b, .int .i64 m, .slice xn nl nc, .slice xl ll lc, .slice xe el ec] 47 (0, 0) 1
  unfold mayAV
  by_cases h2 : sh = 2
  · rw [if_pos h2]
    subst h2
    go_enter Try.func49, Try.ntmps49
    go_wp2_with (go_at_call 69; refine (HB.out _).mono ?_; rintro e w1 ⟨rfl, rfl⟩)
    go_ret
    exact ⟨rfl, hb.out⟩
  rw [if_neg h2]
  by_cases h3 : sh ∈ [3, 4, 5, 7, 9]
  · rw [if_pos h3]
    have hc : sh = 3 ∨ sh = 4 ∨ sh = 5 ∨ sh = 7 ∨ sh = 9 := by simpa using h3
    clear h2 h3
    rcases hc with rfl | rfl | rfl | rfl | rfl
    all_goals
      go_enter Try.func49, Try.ntmps49
      go_wp2_with (go_at_call 70; refine (HI.out _).mono ?_; rintro e w1 ⟨rfl, rfl⟩)
      go_ret
      exact ⟨rfl, hb.out⟩
  rw [if_neg h3]
  have hc : ¬ sh = 3 ∧ ¬ sh = 4 ∧ ¬ sh = 5 ∧ ¬ sh = 7 ∧ ¬ sh = 9 := by simpa using h3
  obtain ⟨k1, k2, k3, k4, k5⟩ := hc
  clear h3
  by_cases h6 : sh = 6
  · rw [if_pos h6]
    subst h6
    clear h2 k1 k2 k3 k4 k5
    revert HT
    generalize (typeV a).1 = t
    generalize (typeV a).2 = f
    intro HT
    go_enter Try.func49, Try.ntmps49
    go_wp2_with (go_at_call 71; refine (HT.out _).mono ?_; rintro e w1 ⟨rfl, rfl⟩)
    go_ret
    exact ⟨rfl, hb.out⟩
  rw [if_neg h6]
  by_cases h10 : sh = 10
  · rw [if_pos h10]
    subst h10
    clear h2 k1 k2 k3 k4 k5 h6
    by_cases h66 : op = 66
    · rw [decide_eq_true h66, Bool.true_or]
      subst h66
      go_enter Try.func49, Try.ntmps49
      go_wp2_with fail
      go_ret
      exact ⟨rfl, hb.out⟩
    · rw [decide_eq_false h66, Bool.false_or]
      have h67 := eq_no h66
      clear h66
      go_enter Try.func49, Try.ntmps49
      go_wp2_with (go_at_call 65; refine (HW.out _).mono ?_; rintro e w1 ⟨rfl, rfl⟩)
      go_ret
      exact ⟨rfl, hb.out⟩
  rw [if_neg h10]
  go_enter Try.func49, Try.ntmps49
  go_wp2_with fail
  go_ret
  exact ⟨rfl, hb.out⟩
/-- May these be an instruction's numbers? -/
def mayPV (sh op a b m : Int) (n : List Int) (ll el : Nat) : Bool :=
  mayAV sh op a && mayBV sh b && mayMV sh m && mayNV sh n && (decide (sh = 2) || decide (ll = 0)) && (decide (op = 4) || decide (el = 0))
theorem nat0 (k : Nat) : ((k : Int) == 0) = decide (k = 0) := by
  cases k with
  | zero => rfl
  | succ k => exact (eq_no (by omega)).trans (decide_eq_false (by omega)).symm
set_option maxRecDepth 100000 in
set_option maxHeartbeats 1000000 in
theorem may_any (sh op a b m : Int) (n : List Int) (xn xl xe : Option Addr) (nl ll el nc lc ec : Nat) (w : World) (hn : nl = n.length) (hv : View w xn nl n) :
    Calls Try.prog 26 #[.agg #[.int .i64 op, .int .i64 a, .int .i64 b, .int .i64 m, .slice xn nl nc, .slice xl ll lc, .slice xe el ec], .int .i64 sh] w fun e w' => e = .returned (.bool (mayPV sh op a b m n ll el)) ∧ Below w.heap.size w w' := by
  have HA := Lib.hid (mayA_any sh op a b m xn xl xe nl ll el nc lc ec)
  have HB := Lib.hid (mayB_any sh b)
  have HM := Lib.hid (mayM_any sh m)
  have HV := Lib.hid hv
  have HN := Lib.hid hn
  have hb0 : Below w.heap.size w (w.alloc (.cells #[.int .i64 op, .int .i64 a, .int .i64 b, .int .i64 m, .slice xn nl nc, .slice xl ll lc, .slice xe el ec] 47)) := (Below.refl _ _).alloc (Nat.le_refl _) _
  have D0 : Hid (InsAt (w.alloc (.cells #[.int .i64 op, .int .i64 a, .int .i64 b, .int .i64 m, .slice xn nl nc, .slice xl ll lc, .slice xe el ec] 47)) w.heap.size op a b m xn xl xe nl ll el nc lc ec) := Lib.hid ⟨World.cell?_alloc_mark w _ _ _ 0, World.cell?_alloc_mark w _ _ _ 1, World.cell?_alloc_mark w _ _ _ 2, World.cell?_alloc_mark w _ _ _ 3, World.cell?_alloc_mark w _ _ _ 4, World.cell?_alloc_mark w _ _ _ 5, World.cell?_alloc_mark w _ _ _ 6⟩
  obtain ⟨d0, d1, d2, d3, d4, d5, d6⟩ := D0.out
  have HB0 := Lib.hid hb0
  unfold mayPV
  clear hb0 hv hn
  revert HA HB HM
  obtain ⟨vn, hvn⟩ : ∃ vn, mayNV sh n = vn := ⟨_, rfl⟩
  rw [hvn]
  have HNV := Lib.hid hvn
  clear hvn
  generalize mayAV sh op a = va
  generalize mayBV sh b = vb
  generalize mayMV sh m = vm
  intro HA HB HM
  cases va
  · go_enter Try.func26, Try.ntmps26
    go_wp2_with (first
      | (go_at_call 49; refine (HA.out _).mono ?_; rintro e w1 ⟨rfl, hb⟩; have D := D0.out.below hb; obtain ⟨d0, d1, d2, d3, d4, d5, d6⟩ := D; have hbw := HB0.out.trans (hb.mono (by simp)); have HN2 := Lib.hid (fun sh => mayN_any sh n xn nl nc w1 HN.out (HV.out.below hbw)))
      | (go_at_call 50; refine (HB.out _).mono ?_; rintro e w1 ⟨rfl, rfl⟩)
      | (go_at_call 51; refine (HM.out _).mono ?_; rintro e w1 ⟨rfl, rfl⟩)
      | (go_at_call 52; refine (HN2.out _).mono ?_; rintro e w1 ⟨rfl, rfl⟩; try rw [HNV.out]))
    go_ret
    exact ⟨by first | rfl | simp [*], hbw⟩
  cases vb
  · go_enter Try.func26, Try.ntmps26
    go_wp2_with (first
      | (go_at_call 49; refine (HA.out _).mono ?_; rintro e w1 ⟨rfl, hb⟩; have D := D0.out.below hb; obtain ⟨d0, d1, d2, d3, d4, d5, d6⟩ := D; have hbw := HB0.out.trans (hb.mono (by simp)); have HN2 := Lib.hid (fun sh => mayN_any sh n xn nl nc w1 HN.out (HV.out.below hbw)))
      | (go_at_call 50; refine (HB.out _).mono ?_; rintro e w1 ⟨rfl, rfl⟩)
      | (go_at_call 51; refine (HM.out _).mono ?_; rintro e w1 ⟨rfl, rfl⟩)
      | (go_at_call 52; refine (HN2.out _).mono ?_; rintro e w1 ⟨rfl, rfl⟩; try rw [HNV.out]))
    go_ret
    exact ⟨by first | rfl | simp [*], hbw⟩
  cases vm
  · go_enter Try.func26, Try.ntmps26
    go_wp2_with (first
      | (go_at_call 49; refine (HA.out _).mono ?_; rintro e w1 ⟨rfl, hb⟩; have D := D0.out.below hb; obtain ⟨d0, d1, d2, d3, d4, d5, d6⟩ := D; have hbw := HB0.out.trans (hb.mono (by simp)); have HN2 := Lib.hid (fun sh => mayN_any sh n xn nl nc w1 HN.out (HV.out.below hbw)))
      | (go_at_call 50; refine (HB.out _).mono ?_; rintro e w1 ⟨rfl, rfl⟩)
      | (go_at_call 51; refine (HM.out _).mono ?_; rintro e w1 ⟨rfl, rfl⟩)
      | (go_at_call 52; refine (HN2.out _).mono ?_; rintro e w1 ⟨rfl, rfl⟩; try rw [HNV.out]))
    go_ret
    exact ⟨by first | rfl | simp [*], hbw⟩
  cases vn
  · go_enter Try.func26, Try.ntmps26
    go_wp2_with (first
      | (go_at_call 49; refine (HA.out _).mono ?_; rintro e w1 ⟨rfl, hb⟩; have D := D0.out.below hb; obtain ⟨d0, d1, d2, d3, d4, d5, d6⟩ := D; have hbw := HB0.out.trans (hb.mono (by simp)); have HN2 := Lib.hid (fun sh => mayN_any sh n xn nl nc w1 HN.out (HV.out.below hbw)))
      | (go_at_call 50; refine (HB.out _).mono ?_; rintro e w1 ⟨rfl, rfl⟩)
      | (go_at_call 51; refine (HM.out _).mono ?_; rintro e w1 ⟨rfl, rfl⟩)
      | (go_at_call 52; refine (HN2.out _).mono ?_; rintro e w1 ⟨rfl, rfl⟩; try rw [HNV.out]))
    go_ret
    exact ⟨by first | rfl | simp [*], hbw⟩
  by_cases h2 : sh = 2
  · rw [decide_eq_true h2]
    by_cases h4 : op = 4
    · rw [decide_eq_true h4]
      subst h4 h2
      go_enter Try.func26, Try.ntmps26
      go_wp2_with (first
        | (go_at_call 49; refine (HA.out _).mono ?_; rintro e w1 ⟨rfl, hb⟩; have D := D0.out.below hb; obtain ⟨d0, d1, d2, d3, d4, d5, d6⟩ := D; have hbw := HB0.out.trans (hb.mono (by simp)); have HN2 := Lib.hid (fun sh => mayN_any sh n xn nl nc w1 HN.out (HV.out.below hbw)))
        | (go_at_call 50; refine (HB.out _).mono ?_; rintro e w1 ⟨rfl, rfl⟩)
        | (go_at_call 51; refine (HM.out _).mono ?_; rintro e w1 ⟨rfl, rfl⟩)
        | (go_at_call 52; refine (HN2.out _).mono ?_; rintro e w1 ⟨rfl, rfl⟩; try rw [HNV.out]))
      go_ret
      exact ⟨by first | rfl | simp [*], hbw⟩
    · rw [decide_eq_false h4]
      have h4' := eq_no h4
      by_cases h5 : el = 0
      · subst h5 h2
        clear h4
        go_enter Try.func26, Try.ntmps26
        go_wp2_with (first
          | (go_at_call 49; refine (HA.out _).mono ?_; rintro e w1 ⟨rfl, hb⟩; have D := D0.out.below hb; obtain ⟨d0, d1, d2, d3, d4, d5, d6⟩ := D; have hbw := HB0.out.trans (hb.mono (by simp)); have HN2 := Lib.hid (fun sh => mayN_any sh n xn nl nc w1 HN.out (HV.out.below hbw)))
          | (go_at_call 50; refine (HB.out _).mono ?_; rintro e w1 ⟨rfl, rfl⟩)
          | (go_at_call 51; refine (HM.out _).mono ?_; rintro e w1 ⟨rfl, rfl⟩)
          | (go_at_call 52; refine (HN2.out _).mono ?_; rintro e w1 ⟨rfl, rfl⟩; try rw [HNV.out]))
        go_ret
        exact ⟨by first | rfl | simp [*], hbw⟩
      · rw [decide_eq_false h5]
        have h5' : ((el : Int) == 0) = false := eq_no (by omega)
        subst h2
        clear h4 h5
        go_enter Try.func26, Try.ntmps26
        go_wp2_with (first
          | (go_at_call 49; refine (HA.out _).mono ?_; rintro e w1 ⟨rfl, hb⟩; have D := D0.out.below hb; obtain ⟨d0, d1, d2, d3, d4, d5, d6⟩ := D; have hbw := HB0.out.trans (hb.mono (by simp)); have HN2 := Lib.hid (fun sh => mayN_any sh n xn nl nc w1 HN.out (HV.out.below hbw)))
          | (go_at_call 50; refine (HB.out _).mono ?_; rintro e w1 ⟨rfl, rfl⟩)
          | (go_at_call 51; refine (HM.out _).mono ?_; rintro e w1 ⟨rfl, rfl⟩)
          | (go_at_call 52; refine (HN2.out _).mono ?_; rintro e w1 ⟨rfl, rfl⟩; try rw [HNV.out]))
        go_ret
        exact ⟨by first | rfl | simp [*], hbw⟩
  · rw [decide_eq_false h2]
    have h2' := eq_no h2
    clear h2
    by_cases h3 : ll = 0
    · rw [decide_eq_true h3]
      subst h3
      by_cases h4 : op = 4
      · rw [decide_eq_true h4]
        subst h4
        go_enter Try.func26, Try.ntmps26
        go_wp2_with (first
          | (go_at_call 49; refine (HA.out _).mono ?_; rintro e w1 ⟨rfl, hb⟩; have D := D0.out.below hb; obtain ⟨d0, d1, d2, d3, d4, d5, d6⟩ := D; have hbw := HB0.out.trans (hb.mono (by simp)); have HN2 := Lib.hid (fun sh => mayN_any sh n xn nl nc w1 HN.out (HV.out.below hbw)))
          | (go_at_call 50; refine (HB.out _).mono ?_; rintro e w1 ⟨rfl, rfl⟩)
          | (go_at_call 51; refine (HM.out _).mono ?_; rintro e w1 ⟨rfl, rfl⟩)
          | (go_at_call 52; refine (HN2.out _).mono ?_; rintro e w1 ⟨rfl, rfl⟩; try rw [HNV.out]))
        go_ret
        exact ⟨by first | rfl | simp [*], hbw⟩
      · rw [decide_eq_false h4]
        have h4' := eq_no h4
        clear h4
        by_cases h5 : el = 0
        · subst h5
          go_enter Try.func26, Try.ntmps26
          go_wp2_with (first
            | (go_at_call 49; refine (HA.out _).mono ?_; rintro e w1 ⟨rfl, hb⟩; have D := D0.out.below hb; obtain ⟨d0, d1, d2, d3, d4, d5, d6⟩ := D; have hbw := HB0.out.trans (hb.mono (by simp)); have HN2 := Lib.hid (fun sh => mayN_any sh n xn nl nc w1 HN.out (HV.out.below hbw)))
            | (go_at_call 50; refine (HB.out _).mono ?_; rintro e w1 ⟨rfl, rfl⟩)
            | (go_at_call 51; refine (HM.out _).mono ?_; rintro e w1 ⟨rfl, rfl⟩)
            | (go_at_call 52; refine (HN2.out _).mono ?_; rintro e w1 ⟨rfl, rfl⟩; try rw [HNV.out]))
          go_ret
          exact ⟨by first | rfl | simp [*], hbw⟩
        · rw [decide_eq_false h5]
          have h5' : ((el : Int) == 0) = false := eq_no (by omega)
          clear h5
          go_enter Try.func26, Try.ntmps26
          go_wp2_with (first
            | (go_at_call 49; refine (HA.out _).mono ?_; rintro e w1 ⟨rfl, hb⟩; have D := D0.out.below hb; obtain ⟨d0, d1, d2, d3, d4, d5, d6⟩ := D; have hbw := HB0.out.trans (hb.mono (by simp)); have HN2 := Lib.hid (fun sh => mayN_any sh n xn nl nc w1 HN.out (HV.out.below hbw)))
            | (go_at_call 50; refine (HB.out _).mono ?_; rintro e w1 ⟨rfl, rfl⟩)
            | (go_at_call 51; refine (HM.out _).mono ?_; rintro e w1 ⟨rfl, rfl⟩)
            | (go_at_call 52; refine (HN2.out _).mono ?_; rintro e w1 ⟨rfl, rfl⟩; try rw [HNV.out]))
          go_ret
          exact ⟨by first | rfl | simp [*], hbw⟩
    · rw [decide_eq_false h3]
      have h3' : ((ll : Int) == 0) = false := eq_no (by omega)
      clear h3
      go_enter Try.func26, Try.ntmps26
      go_wp2_with (first
        | (go_at_call 49; refine (HA.out _).mono ?_; rintro e w1 ⟨rfl, hb⟩; have D := D0.out.below hb; obtain ⟨d0, d1, d2, d3, d4, d5, d6⟩ := D; have hbw := HB0.out.trans (hb.mono (by simp)); have HN2 := Lib.hid (fun sh => mayN_any sh n xn nl nc w1 HN.out (HV.out.below hbw)))
        | (go_at_call 50; refine (HB.out _).mono ?_; rintro e w1 ⟨rfl, rfl⟩)
        | (go_at_call 51; refine (HM.out _).mono ?_; rintro e w1 ⟨rfl, rfl⟩)
        | (go_at_call 52; refine (HN2.out _).mono ?_; rintro e w1 ⟨rfl, rfl⟩; try rw [HNV.out]))
      go_ret
      exact ⟨by first | rfl | simp [*], hbw⟩
end Go.Proofs.Ytfhifnkekegkkaa
