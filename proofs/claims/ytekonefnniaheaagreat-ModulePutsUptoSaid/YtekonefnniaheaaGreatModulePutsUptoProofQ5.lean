/- Texts of the proof of ModulePutsUptoProof, part 5. -/
import Derived.Deep.RegionHeld3
import Derived.Test.YtekonefnniaheaaGreatModulePutsUptoProofQ3
import Derived.Test.YtekonefnniaheaaGreatModulePutsUptoProofQ4
namespace Go.Proofs.YtekonefnniaheaaGreat
open Go.RowKit

theorem index_any (n : Int) (w : World) :
    Calls Tryz.prog 213 #[.int .i64 n] w fun e w' => e = .returned (.bool (idxB n)) ∧ w = w' := by
  have HW := Lib.hid (insWithin_any n 0 4294967295)
  have e1 : idxB n = (decide (0 ≤ n) && decide (n ≤ 4294967295)) := by unfold idxB; rw [Bool.eq_iff_iff]; simp
  rw [e1]
  clear e1
  go_enter Tryz.func213, Tryz.ntmps213
  go_wp2_with (go_at_call 206; refine (HW.out _).mono ?_; rintro e w1 ⟨rfl, rfl⟩)
  go_ret
  exact ⟨rfl, rfl⟩
/-- May it be a block's type? -/
def blkB (a : Int) : Bool := idxB a || decide (a ∈ [-64, -1, -2, -16])
set_option maxRecDepth 100000 in
theorem blockType_any (n : Int) (w : World) :
    Calls Tryz.prog 212 #[.int .i64 n] w fun e w' => e = .returned (.bool (blkB n)) ∧ w = w' := by
  have HI := Lib.hid (index_any n)
  by_cases h : n ∈ [-64, -1, -2, -16]
  · have e1 : blkB n = true := by unfold blkB; rw [decide_eq_true h, Bool.or_true]
    rw [e1]
    have hc : n = -64 ∨ n = -1 ∨ n = -2 ∨ n = -16 := by simpa using h
    clear e1 h HI
    rcases hc with rfl | rfl | rfl | rfl
    all_goals
      go_enter Tryz.func212, Tryz.ntmps212
      go_wp2_with fail
      go_ret
      exact ⟨rfl, rfl⟩
  · have e1 : blkB n = idxB n := by unfold blkB; rw [decide_eq_false h, Bool.or_false]
    rw [e1]
    have hc : ¬ n = -64 ∧ ¬ n = -1 ∧ ¬ n = -2 ∧ ¬ n = -16 := by simpa using h
    obtain ⟨h1, h2, h3, h4⟩ := hc
    clear e1 h
    go_enter Tryz.func212, Tryz.ntmps212
    go_wp2_with (go_at_call 213; refine (HI.out _).mono ?_; rintro e w1 ⟨rfl, rfl⟩)
    go_ret
    exact ⟨rfl, rfl⟩
def mayBV (sh b : Int) : Bool := if sh = 7 then decide (0 ≤ b) && decide (b ≤ 63) else decide (b = 0)
set_option maxRecDepth 100000 in
theorem mayB_any (sh b : Int) (w : World) :
    Calls Tryz.prog 202 #[.int .i64 b, .int .i64 sh] w fun e w' => e = .returned (.bool (mayBV sh b)) ∧ w = w' := by
  have HW := Lib.hid (insWithin_any b 0 63)
  unfold mayBV
  by_cases h : sh = 7
  · rw [if_pos h]
    subst h
    go_enter Tryz.func202, Tryz.ntmps202
    go_wp2_with (go_at_call 206; refine (HW.out _).mono ?_; rintro e w1 ⟨rfl, rfl⟩)
    go_ret
    exact ⟨rfl, rfl⟩
  · rw [if_neg h]
    have h2 := eq_no h
    clear h
    go_enter Tryz.func202, Tryz.ntmps202
    go_wp2_with fail
    go_ret
    exact ⟨rfl, rfl⟩
def mayMV (sh m : Int) : Bool := if sh ∈ [5, 7, 8, 9] then idxB m else decide (m = 0)
set_option maxRecDepth 100000 in
theorem mayM_any (sh m : Int) (w : World) :
    Calls Tryz.prog 203 #[.int .i64 m, .int .i64 sh] w fun e w' => e = .returned (.bool (mayMV sh m)) ∧ w = w' := by
  have HI := Lib.hid (index_any m)
  unfold mayMV
  by_cases h : sh ∈ [5, 7, 8, 9]
  · rw [if_pos h]
    have hc : sh = 5 ∨ sh = 7 ∨ sh = 8 ∨ sh = 9 := by simpa using h
    clear h
    rcases hc with rfl | rfl | rfl | rfl
    all_goals
      go_enter Tryz.func203, Tryz.ntmps203
      go_wp2_with (go_at_call 213; refine (HI.out _).mono ?_; rintro e w1 ⟨rfl, rfl⟩)
      go_ret
      exact ⟨rfl, rfl⟩
  · rw [if_neg h]
    have hc : ¬ sh = 5 ∧ ¬ sh = 7 ∧ ¬ sh = 8 ∧ ¬ sh = 9 := by simpa using h
    obtain ⟨h1, h2, h3, h4⟩ := hc
    clear h
    go_enter Tryz.func203, Tryz.ntmps203
    go_wp2_with fail
    go_ret
    exact ⟨rfl, rfl⟩
def mayNV (sh : Int) (n : List Int) : Bool := if sh = 4 then decide (n.length ≤ 1000) && n.all idxB else decide (n.length = 0)
set_option maxRecDepth 100000 in
set_option maxHeartbeats 1000000 in
theorem mayN_any (sh : Int) (n : List Int) (x : Option Addr) (nl nc : Nat) (w : World) (hn : nl = n.length) (hv : View w x nl n) :
    Calls Tryz.prog 204 #[.slice x nl nc, .int .i64 sh] w fun e w' => e = .returned (.bool (mayNV sh n)) ∧ w = w' := by
  have HI := Lib.hid index_any
  have HV := Lib.hid hv
  have HN := Lib.hid hn
  unfold mayNV
  rw [← hn]
  clear hv hn
  by_cases h : sh = 4
  · rw [if_pos h]
    subst h
    by_cases h1 : nl ≤ 1000
    · rw [decide_eq_true h1, Bool.true_and]
      have h2 : (nl : Int) ≤ 1000 := by omega
      clear h1
      go_enter Tryz.func204, Tryz.ntmps204
      go_wp2_with fail
      go_loopw [17] (fun iv wr => ∃ i : Nat, iv = .int .i64 i ∧ i ≤ nl ∧ (∀ j, j < i → idxB (n.getD j 0) = true) ∧ w = wr) (fun iv _ => nl - (intOf iv).toNat)
      case atStart => exact ⟨0, rfl, by omega, fun j hj => by omega, rfl⟩
      case round =>
        obtain ⟨i, rfl, hi, hall, rfl⟩ := hrel
        have HALL := Lib.hid hall
        clear hall
        by_cases hlt : i < nl
        · obtain ⟨b2, off2, rfl, hc⟩ := HV.out.resolve_left (by omega)
          have hci := hc i hlt
          have HZ : Hid (∀ z, n.getD i 0 = z → idxB z = false → n.all idxB = false) := Lib.hid fun z hz hf => all_not (by rw [← HN.out]; exact hlt) (by rw [hz]; exact hf)
          have HZ2 : Hid (∀ z, n.getD i 0 = z → idxB z = true → ∀ j, j < i + 1 → idxB (n.getD j 0) = true) := Lib.hid fun z hz ht j hj => by
            by_cases hji : j = i
            · rw [hji, hz]; exact ht
            · exact HALL.out j (by omega)
          obtain ⟨z, hz⟩ : ∃ z, n.getD i 0 = z := ⟨_, rfl⟩
          rw [hz] at hci
          have HZE := Lib.hid hz
          clear hc hz
          by_cases hzi : idxB z = true
          · have HIZ := Lib.hid (hzi ▸ index_any z)
            have HT := Lib.hid hzi
            clear hzi
            go_wp2_with (go_at_call 213; refine (HIZ.out _).mono ?_; rintro e w2 ⟨rfl, rfl⟩)
            exact ⟨⟨i + 1, by go_num, by omega, HZ2.out z HZE.out HT.out, trivial⟩, by simp [intOf]; omega⟩
          · have HIZ := Lib.hid (not_true hzi ▸ index_any z)
            have HA := Lib.hid (HZ.out z HZE.out (not_true hzi))
            clear hzi
            go_wp2_with (go_at_call 213; refine (HIZ.out _).mono ?_; rintro e w2 ⟨rfl, rfl⟩)
            go_ret
            rw [HA.out]
            exact ⟨rfl, rfl⟩
        · have hin : i = nl := by omega
          have HA : Hid (n.all idxB = true) := Lib.hid (all_upto fun j hj => HALL.out j (by rw [hin, HN.out]; exact hj))
          subst hin
          go_wp2_with fail
          go_ret
          rw [HA.out]
          exact ⟨rfl, rfl⟩
    · rw [decide_eq_false h1, Bool.false_and]
      have h2 : ¬ (nl : Int) ≤ 1000 := by omega
      clear h1
      go_enter Tryz.func204, Tryz.ntmps204
      go_wp2_with fail
      go_ret
      exact ⟨rfl, rfl⟩
  · rw [if_neg h]
    have h2 := eq_no h
    clear h
    by_cases h1 : nl = 0
    · subst h1
      go_enter Tryz.func204, Tryz.ntmps204
      go_wp2_with fail
      go_ret
      exact ⟨rfl, rfl⟩
    · rw [decide_eq_false h1]
      have h3 : ((nl : Int) == 0) = false := eq_no (by omega)
      clear h1
      go_enter Tryz.func204, Tryz.ntmps204
      go_wp2_with fail
      go_ret
      exact ⟨rfl, rfl⟩
end Go.Proofs.YtekonefnniaheaaGreat
namespace Go.Proofs.YtekonefnniaheaaGreat
open Go.RowKit

def mayAV (sh op a : Int) : Bool := if sh = 2 then blkB a else if sh ∈ [3, 4, 5, 7, 9] then idxB a else if sh = 6 then decide ((typeV a).2 = 0) else if sh = 10 then decide (op = 66) || (decide (-2147483648 ≤ a) && decide (a ≤ 2147483647)) else decide (a = 0)
set_option maxRecDepth 100000 in
set_option maxHeartbeats 1000000 in
theorem mayA_any (sh op a b m : Int) (xn xl xe : Option Addr) (nl ll el nc lc ec : Nat) (w : World) :
    Calls Tryz.prog 201 #[.agg #[.int .i64 op, .int .i64 a, .int .i64 b, .int .i64 m, .slice xn nl nc, .slice xl ll lc, .slice xe el ec], .int .i64 sh] w fun e w' => e = .returned (.bool (mayAV sh op a)) ∧ Below w.heap.size w w' := by
  have HI := Lib.hid (index_any a)
  have HB := Lib.hid (blockType_any a)
  have HT := Lib.hid (type_any a)
  have HW := Lib.hid (insWithin_any a (-2147483648) 2147483647)
  have hb := Lib.hid ((Below.refl w.heap.size w).alloc (Nat.le_refl _) (.cells #[.int .i64 op, .int .i64 a, .int .i64 b, .int .i64 m, .slice xn nl nc, .slice xl ll lc, .slice xe el ec] 50))
  have d0 := World.cell?_alloc_mark w #[.int .i64 op, .int .i64 a, .int .i64 b, .int .i64 m, .slice xn nl nc, .slice xl ll lc, .slice xe el ec] 50 (0, 0) 0
  have d1 := World.cell?_alloc_mark w #[.int .i64 op, .int .i64 a, .int .i64 b, .int .i64 m, .slice xn nl nc, .slice xl ll lc, .slice xe el ec] 50 (0, 0) 1
  unfold mayAV
  by_cases h2 : sh = 2
  · rw [if_pos h2]
    subst h2
    go_enter Tryz.func201, Tryz.ntmps201
    go_wp2_with (go_at_call 212; refine (HB.out _).mono ?_; rintro e w1 ⟨rfl, rfl⟩)
    go_ret
    exact ⟨rfl, hb.out⟩
  rw [if_neg h2]
  by_cases h3 : sh ∈ [3, 4, 5, 7, 9]
  · rw [if_pos h3]
    have hc : sh = 3 ∨ sh = 4 ∨ sh = 5 ∨ sh = 7 ∨ sh = 9 := by simpa using h3
    clear h2 h3
    rcases hc with rfl | rfl | rfl | rfl | rfl
    all_goals
      go_enter Tryz.func201, Tryz.ntmps201
      go_wp2_with (go_at_call 213; refine (HI.out _).mono ?_; rintro e w1 ⟨rfl, rfl⟩)
      go_ret
      exact ⟨rfl, hb.out⟩
  rw [if_neg h3]
  have hc : ¬ sh = 3 ∧ ¬ sh = 4 ∧ ¬ sh = 5 ∧ ¬ sh = 7 ∧ ¬ sh = 9 := by simpa using h3
  obtain ⟨k1, k2, k3, k4, k5⟩ := hc
  clear h3
  by_cases h6 : sh = 6
  · rw [if_pos h6]
    subst h6
    clear h2 k1 k2 k3 k4 k5
    revert HT
    generalize (typeV a).1 = t
    generalize (typeV a).2 = f
    intro HT
    go_enter Tryz.func201, Tryz.ntmps201
    go_wp2_with (go_at_call 123; refine (HT.out _).mono ?_; rintro e w1 ⟨rfl, rfl⟩)
    go_ret
    exact ⟨rfl, hb.out⟩
  rw [if_neg h6]
  by_cases h10 : sh = 10
  · rw [if_pos h10]
    subst h10
    clear h2 k1 k2 k3 k4 k5 h6
    by_cases h66 : op = 66
    · rw [decide_eq_true h66, Bool.true_or]
      subst h66
      go_enter Tryz.func201, Tryz.ntmps201
      go_wp2_with fail
      go_ret
      exact ⟨rfl, hb.out⟩
    · rw [decide_eq_false h66, Bool.false_or]
      have h67 := eq_no h66
      clear h66
      go_enter Tryz.func201, Tryz.ntmps201
      go_wp2_with (go_at_call 206; refine (HW.out _).mono ?_; rintro e w1 ⟨rfl, rfl⟩)
      go_ret
      exact ⟨rfl, hb.out⟩
  rw [if_neg h10]
  go_enter Tryz.func201, Tryz.ntmps201
  go_wp2_with fail
  go_ret
  exact ⟨rfl, hb.out⟩
/-- May these be an instruction's numbers? -/
def mayPV (sh op a b m : Int) (n : List Int) (ll el : Nat) : Bool :=
  mayAV sh op a && mayBV sh b && mayMV sh m && mayNV sh n && (decide (sh = 2) || decide (ll = 0)) && (decide (op = 4) || decide (el = 0))
set_option maxRecDepth 100000 in
set_option maxHeartbeats 1000000 in
theorem may_any (sh op a b m : Int) (n : List Int) (xn xl xe : Option Addr) (nl ll el nc lc ec : Nat) (w : World) (hn : nl = n.length) (hv : View w xn nl n) :
    Calls Tryz.prog 189 #[.agg #[.int .i64 op, .int .i64 a, .int .i64 b, .int .i64 m, .slice xn nl nc, .slice xl ll lc, .slice xe el ec], .int .i64 sh] w fun e w' => e = .returned (.bool (mayPV sh op a b m n ll el)) ∧ Below w.heap.size w w' := by
  have HA := Lib.hid (mayA_any sh op a b m xn xl xe nl ll el nc lc ec)
  have HB := Lib.hid (mayB_any sh b)
  have HM := Lib.hid (mayM_any sh m)
  have HV := Lib.hid hv
  have HN := Lib.hid hn
  have hb0 : Below w.heap.size w (w.alloc (.cells #[.int .i64 op, .int .i64 a, .int .i64 b, .int .i64 m, .slice xn nl nc, .slice xl ll lc, .slice xe el ec] 50)) := (Below.refl _ _).alloc (Nat.le_refl _) _
  have D0 : Hid (InsAt (w.alloc (.cells #[.int .i64 op, .int .i64 a, .int .i64 b, .int .i64 m, .slice xn nl nc, .slice xl ll lc, .slice xe el ec] 50)) w.heap.size op a b m xn xl xe nl ll el nc lc ec) := Lib.hid ⟨World.cell?_alloc_mark w _ _ _ 0, World.cell?_alloc_mark w _ _ _ 1, World.cell?_alloc_mark w _ _ _ 2, World.cell?_alloc_mark w _ _ _ 3, World.cell?_alloc_mark w _ _ _ 4, World.cell?_alloc_mark w _ _ _ 5, World.cell?_alloc_mark w _ _ _ 6⟩
  obtain ⟨d0, d1, d2, d3, d4, d5, d6⟩ := D0.out
  have HB0 := Lib.hid hb0
  unfold mayPV
  clear hb0 hv hn
  revert HA HB HM
  obtain ⟨vn, hvn⟩ : ∃ vn, mayNV sh n = vn := ⟨_, rfl⟩
  rw [hvn]
  have HNV := Lib.hid hvn
  clear hvn
  generalize mayAV sh op a = va
  generalize mayBV sh b = vb
  generalize mayMV sh m = vm
  intro HA HB HM
  cases va
  · go_enter Tryz.func189, Tryz.ntmps189
    go_wp2_with (first
      | (go_at_call 201; refine (HA.out _).mono ?_; rintro e w1 ⟨rfl, hb⟩; have D := D0.out.below hb; obtain ⟨d0, d1, d2, d3, d4, d5, d6⟩ := D; have hbw := HB0.out.trans (hb.mono (by simp)); have HN2 := Lib.hid (fun sh => mayN_any sh n xn nl nc w1 HN.out (HV.out.below hbw)))
      | (go_at_call 202; refine (HB.out _).mono ?_; rintro e w1 ⟨rfl, rfl⟩)
      | (go_at_call 203; refine (HM.out _).mono ?_; rintro e w1 ⟨rfl, rfl⟩)
      | (go_at_call 204; refine (HN2.out _).mono ?_; rintro e w1 ⟨rfl, rfl⟩; try rw [HNV.out]))
    go_ret
    exact ⟨by first | rfl | simp [*], hbw⟩
  cases vb
  · go_enter Tryz.func189, Tryz.ntmps189
    go_wp2_with (first
      | (go_at_call 201; refine (HA.out _).mono ?_; rintro e w1 ⟨rfl, hb⟩; have D := D0.out.below hb; obtain ⟨d0, d1, d2, d3, d4, d5, d6⟩ := D; have hbw := HB0.out.trans (hb.mono (by simp)); have HN2 := Lib.hid (fun sh => mayN_any sh n xn nl nc w1 HN.out (HV.out.below hbw)))
      | (go_at_call 202; refine (HB.out _).mono ?_; rintro e w1 ⟨rfl, rfl⟩)
      | (go_at_call 203; refine (HM.out _).mono ?_; rintro e w1 ⟨rfl, rfl⟩)
      | (go_at_call 204; refine (HN2.out _).mono ?_; rintro e w1 ⟨rfl, rfl⟩; try rw [HNV.out]))
    go_ret
    exact ⟨by first | rfl | simp [*], hbw⟩
  cases vm
  · go_enter Tryz.func189, Tryz.ntmps189
    go_wp2_with (first
      | (go_at_call 201; refine (HA.out _).mono ?_; rintro e w1 ⟨rfl, hb⟩; have D := D0.out.below hb; obtain ⟨d0, d1, d2, d3, d4, d5, d6⟩ := D; have hbw := HB0.out.trans (hb.mono (by simp)); have HN2 := Lib.hid (fun sh => mayN_any sh n xn nl nc w1 HN.out (HV.out.below hbw)))
      | (go_at_call 202; refine (HB.out _).mono ?_; rintro e w1 ⟨rfl, rfl⟩)
      | (go_at_call 203; refine (HM.out _).mono ?_; rintro e w1 ⟨rfl, rfl⟩)
      | (go_at_call 204; refine (HN2.out _).mono ?_; rintro e w1 ⟨rfl, rfl⟩; try rw [HNV.out]))
    go_ret
    exact ⟨by first | rfl | simp [*], hbw⟩
  cases vn
  · go_enter Tryz.func189, Tryz.ntmps189
    go_wp2_with (first
      | (go_at_call 201; refine (HA.out _).mono ?_; rintro e w1 ⟨rfl, hb⟩; have D := D0.out.below hb; obtain ⟨d0, d1, d2, d3, d4, d5, d6⟩ := D; have hbw := HB0.out.trans (hb.mono (by simp)); have HN2 := Lib.hid (fun sh => mayN_any sh n xn nl nc w1 HN.out (HV.out.below hbw)))
      | (go_at_call 202; refine (HB.out _).mono ?_; rintro e w1 ⟨rfl, rfl⟩)
      | (go_at_call 203; refine (HM.out _).mono ?_; rintro e w1 ⟨rfl, rfl⟩)
      | (go_at_call 204; refine (HN2.out _).mono ?_; rintro e w1 ⟨rfl, rfl⟩; try rw [HNV.out]))
    go_ret
    exact ⟨by first | rfl | simp [*], hbw⟩
  by_cases h2 : sh = 2
  · rw [decide_eq_true h2]
    by_cases h4 : op = 4
    · rw [decide_eq_true h4]
      subst h4 h2
      go_enter Tryz.func189, Tryz.ntmps189
      go_wp2_with (first
        | (go_at_call 201; refine (HA.out _).mono ?_; rintro e w1 ⟨rfl, hb⟩; have D := D0.out.below hb; obtain ⟨d0, d1, d2, d3, d4, d5, d6⟩ := D; have hbw := HB0.out.trans (hb.mono (by simp)); have HN2 := Lib.hid (fun sh => mayN_any sh n xn nl nc w1 HN.out (HV.out.below hbw)))
        | (go_at_call 202; refine (HB.out _).mono ?_; rintro e w1 ⟨rfl, rfl⟩)
        | (go_at_call 203; refine (HM.out _).mono ?_; rintro e w1 ⟨rfl, rfl⟩)
        | (go_at_call 204; refine (HN2.out _).mono ?_; rintro e w1 ⟨rfl, rfl⟩; try rw [HNV.out]))
      go_ret
      exact ⟨by first | rfl | simp [*], hbw⟩
    · rw [decide_eq_false h4]
      have h4' := eq_no h4
      by_cases h5 : el = 0
      · subst h5 h2
        clear h4
        go_enter Tryz.func189, Tryz.ntmps189
        go_wp2_with (first
          | (go_at_call 201; refine (HA.out _).mono ?_; rintro e w1 ⟨rfl, hb⟩; have D := D0.out.below hb; obtain ⟨d0, d1, d2, d3, d4, d5, d6⟩ := D; have hbw := HB0.out.trans (hb.mono (by simp)); have HN2 := Lib.hid (fun sh => mayN_any sh n xn nl nc w1 HN.out (HV.out.below hbw)))
          | (go_at_call 202; refine (HB.out _).mono ?_; rintro e w1 ⟨rfl, rfl⟩)
          | (go_at_call 203; refine (HM.out _).mono ?_; rintro e w1 ⟨rfl, rfl⟩)
          | (go_at_call 204; refine (HN2.out _).mono ?_; rintro e w1 ⟨rfl, rfl⟩; try rw [HNV.out]))
        go_ret
        exact ⟨by first | rfl | simp [*], hbw⟩
      · rw [decide_eq_false h5]
        have h5' : ((el : Int) == 0) = false := eq_no (by omega)
        subst h2
        clear h4 h5
        go_enter Tryz.func189, Tryz.ntmps189
        go_wp2_with (first
          | (go_at_call 201; refine (HA.out _).mono ?_; rintro e w1 ⟨rfl, hb⟩; have D := D0.out.below hb; obtain ⟨d0, d1, d2, d3, d4, d5, d6⟩ := D; have hbw := HB0.out.trans (hb.mono (by simp)); have HN2 := Lib.hid (fun sh => mayN_any sh n xn nl nc w1 HN.out (HV.out.below hbw)))
          | (go_at_call 202; refine (HB.out _).mono ?_; rintro e w1 ⟨rfl, rfl⟩)
          | (go_at_call 203; refine (HM.out _).mono ?_; rintro e w1 ⟨rfl, rfl⟩)
          | (go_at_call 204; refine (HN2.out _).mono ?_; rintro e w1 ⟨rfl, rfl⟩; try rw [HNV.out]))
        go_ret
        exact ⟨by first | rfl | simp [*], hbw⟩
  · rw [decide_eq_false h2]
    have h2' := eq_no h2
    clear h2
    by_cases h3 : ll = 0
    · rw [decide_eq_true h3]
      subst h3
      by_cases h4 : op = 4
      · rw [decide_eq_true h4]
        subst h4
        go_enter Tryz.func189, Tryz.ntmps189
        go_wp2_with (first
          | (go_at_call 201; refine (HA.out _).mono ?_; rintro e w1 ⟨rfl, hb⟩; have D := D0.out.below hb; obtain ⟨d0, d1, d2, d3, d4, d5, d6⟩ := D; have hbw := HB0.out.trans (hb.mono (by simp)); have HN2 := Lib.hid (fun sh => mayN_any sh n xn nl nc w1 HN.out (HV.out.below hbw)))
          | (go_at_call 202; refine (HB.out _).mono ?_; rintro e w1 ⟨rfl, rfl⟩)
          | (go_at_call 203; refine (HM.out _).mono ?_; rintro e w1 ⟨rfl, rfl⟩)
          | (go_at_call 204; refine (HN2.out _).mono ?_; rintro e w1 ⟨rfl, rfl⟩; try rw [HNV.out]))
        go_ret
        exact ⟨by first | rfl | simp [*], hbw⟩
      · rw [decide_eq_false h4]
        have h4' := eq_no h4
        clear h4
        by_cases h5 : el = 0
        · subst h5
          go_enter Tryz.func189, Tryz.ntmps189
          go_wp2_with (first
            | (go_at_call 201; refine (HA.out _).mono ?_; rintro e w1 ⟨rfl, hb⟩; have D := D0.out.below hb; obtain ⟨d0, d1, d2, d3, d4, d5, d6⟩ := D; have hbw := HB0.out.trans (hb.mono (by simp)); have HN2 := Lib.hid (fun sh => mayN_any sh n xn nl nc w1 HN.out (HV.out.below hbw)))
            | (go_at_call 202; refine (HB.out _).mono ?_; rintro e w1 ⟨rfl, rfl⟩)
            | (go_at_call 203; refine (HM.out _).mono ?_; rintro e w1 ⟨rfl, rfl⟩)
            | (go_at_call 204; refine (HN2.out _).mono ?_; rintro e w1 ⟨rfl, rfl⟩; try rw [HNV.out]))
          go_ret
          exact ⟨by first | rfl | simp [*], hbw⟩
        · rw [decide_eq_false h5]
          have h5' : ((el : Int) == 0) = false := eq_no (by omega)
          clear h5
          go_enter Tryz.func189, Tryz.ntmps189
          go_wp2_with (first
            | (go_at_call 201; refine (HA.out _).mono ?_; rintro e w1 ⟨rfl, hb⟩; have D := D0.out.below hb; obtain ⟨d0, d1, d2, d3, d4, d5, d6⟩ := D; have hbw := HB0.out.trans (hb.mono (by simp)); have HN2 := Lib.hid (fun sh => mayN_any sh n xn nl nc w1 HN.out (HV.out.below hbw)))
            | (go_at_call 202; refine (HB.out _).mono ?_; rintro e w1 ⟨rfl, rfl⟩)
            | (go_at_call 203; refine (HM.out _).mono ?_; rintro e w1 ⟨rfl, rfl⟩)
            | (go_at_call 204; refine (HN2.out _).mono ?_; rintro e w1 ⟨rfl, rfl⟩; try rw [HNV.out]))
          go_ret
          exact ⟨by first | rfl | simp [*], hbw⟩
    · rw [decide_eq_false h3]
      have h3' : ((ll : Int) == 0) = false := eq_no (by omega)
      clear h3
      go_enter Tryz.func189, Tryz.ntmps189
      go_wp2_with (first
        | (go_at_call 201; refine (HA.out _).mono ?_; rintro e w1 ⟨rfl, hb⟩; have D := D0.out.below hb; obtain ⟨d0, d1, d2, d3, d4, d5, d6⟩ := D; have hbw := HB0.out.trans (hb.mono (by simp)); have HN2 := Lib.hid (fun sh => mayN_any sh n xn nl nc w1 HN.out (HV.out.below hbw)))
        | (go_at_call 202; refine (HB.out _).mono ?_; rintro e w1 ⟨rfl, rfl⟩)
        | (go_at_call 203; refine (HM.out _).mono ?_; rintro e w1 ⟨rfl, rfl⟩)
        | (go_at_call 204; refine (HN2.out _).mono ?_; rintro e w1 ⟨rfl, rfl⟩; try rw [HNV.out]))
      go_ret
      exact ⟨by first | rfl | simp [*], hbw⟩
end Go.Proofs.YtekonefnniaheaaGreat
namespace Go.Proofs.YtekonefnniaheaaGreat
open Go.RowKit

/-- May its own numbers be? -/
def mayI (i : Ins) : Bool := mayV (shapeV i.op).1 (shapeV i.op).2 i.op i.a i.b i.m i.n i.l.length i.e.length
mutual
/-- How many there are within an instruction; below 0: they can't be counted. -/
def inI : Nat → Ins → Int
  | d, .mk _ _ _ _ _ l e => if cntL (d + 1) 0 l < 0 ∨ cntL (d + 1) 0 e < 0 then -1 else cntL (d + 1) 0 l + cntL (d + 1) 0 e
/-- How many there are, with n ahead of them. -/
def cntL : Nat → Int → List Ins → Int
  | _, n, [] => n
  | d, n, i :: r => if mayI i = false then -1 else if 2 ≤ i.op ∧ i.op ≤ 4 then (if d = 32 then -1 else if inI d i < 0 then -1 else if 8192 < n + 1 + inI d i then -1 else cntL d (n + 1 + inI d i) r) else if 8192 < n + 1 then -1 else cntL d (n + 1) r
end
mutual
theorem inI_le : ∀ (d : Nat) (i : Ins), -1 ≤ inI d i ∧ inI d i ≤ 16384
  | d, .mk _ _ _ _ _ l e => by
    have h1 := cntL_le (d + 1) 0 l (by decide) (by decide)
    have h2 := cntL_le (d + 1) 0 e (by decide) (by decide)
    unfold inI
    split <;> omega
theorem cntL_le : ∀ (d : Nat) (n : Int) (l : List Ins), 0 ≤ n → n ≤ 8192 → -1 ≤ cntL d n l ∧ cntL d n l ≤ 8192
  | _, n, [], h0, h1 => by unfold cntL; omega
  | d, n, i :: r, h0, h1 => by
    have h2 := inI_le d i
    unfold cntL
    split
    · omega
    split
    · split
      · omega
      split
      · omega
      split
      · omega
      exact cntL_le d _ r (by omega) (by omega)
    · split
      · omega
      exact cntL_le d _ r (by omega) (by omega)
end
theorem cntL_drop (d : Nat) (n : Int) (l : List Ins) (k : Nat) (hk : k < l.length) : cntL d n (l.drop k) =
    (if mayI (l.getD k default) = false then -1 else if 2 ≤ (l.getD k default).op ∧ (l.getD k default).op ≤ 4 then (if d = 32 then -1 else if inI d (l.getD k default) < 0 then -1 else if 8192 < n + 1 + inI d (l.getD k default) then -1 else cntL d (n + 1 + inI d (l.getD k default)) (l.drop (k + 1))) else if 8192 < n + 1 then -1 else cntL d (n + 1) (l.drop (k + 1))) := by
  rw [List.drop_eq_getElem_cons hk, List.getD_eq_getElem?_getD, List.getElem?_eq_getElem hk]
  rw [cntL]
  rfl
theorem LiesI.may {w : World} {b off : Nat} {i : Ins} (h : LiesI w b off i) : ∃ xn nc xl lc xe ec, w.cell? ⟨b, off, none⟩ = some (.int .i64 i.op) ∧ w.cell? ⟨b, off + 1, none⟩ = some (.int .i64 i.a) ∧ w.cell? ⟨b, off + 2, none⟩ = some (.int .i64 i.b) ∧ w.cell? ⟨b, off + 3, none⟩ = some (.int .i64 i.m) ∧
    w.cell? ⟨b, off + 4, none⟩ = some (.slice xn i.n.length nc) ∧ w.cell? ⟨b, off + 5, none⟩ = some (.slice xl i.l.length lc) ∧ w.cell? ⟨b, off + 6, none⟩ = some (.slice xe i.e.length ec) ∧
    View w xn i.n.length i.n ∧ i.n.length ≤ nc ∧ nc ≤ 9223372036854775807 ∧ InsIn w xl i.l.length lc i.l ∧ InsIn w xe i.e.length ec i.e := by
  cases i with
  | mk op a b' m n l e =>
    unfold LiesI at h
    obtain ⟨h0, h1, h2, h3, ⟨x4, c4, h4, v4, k4, t4⟩, ⟨x5, c5, h5, v5, k5, t5⟩, ⟨x6, c6, h6, v6, k6, t6⟩⟩ := h
    exact ⟨x4, c4, x5, c5, x6, c6, h0, h1, h2, h3, h4, h5, h6, v4, k4, t4, ⟨rfl, k5, t5, v5⟩, ⟨rfl, k6, t6, v6⟩⟩
theorem inI_eq (d : Nat) (c : Ins) : inI d c = if cntL (d + 1) 0 c.l < 0 ∨ cntL (d + 1) 0 c.e < 0 then -1 else cntL (d + 1) 0 c.l + cntL (d + 1) 0 c.e := by
  cases c with
  | mk op a b m n l e =>
    rw [inI]
    rfl
theorem InsIn.below {w w' : World} {x : Option Addr} {len cap : Nat} {l : List Ins} (h : InsIn w x len cap l) (hb : Below w.heap.size w w') : InsIn w' x len cap l := ⟨h.eq, h.le, h.top, LiesL.below hb h.lies⟩
set_option maxRecDepth 100000 in
set_option maxHeartbeats 4000000 in
theorem refCount_all (N : Nat) : ∀ (d : Nat) (ls : List Ins) (x : Option Addr) (len cap : Nat) (w : World), SizeOf.sizeOf ls < N → d ≤ 32 → InsIn w x len cap ls →
    Calls Tryz.prog 111 #[.slice x len cap, .int .i64 d] w fun e w' => e = .returned (.int .i64 (cntL d 0 ls)) ∧ Below w.heap.size w w' := by
  induction N with
  | zero => exact fun _ _ _ _ _ _ h => absurd h (by omega)
  | succ N ih =>
    intro d ls x len cap w hN hd hin
    obtain ⟨hlen, hle, htop, hlies⟩ := hin
    have HLEN := Lib.hid hlen
    have HLIES := Lib.hid hlies
    have HIH := Lib.hid ih
    have HNN := Lib.hid hN
    clear ih hlies hN hlen
    go_enter Tryz.func111, Tryz.ntmps111
    go_wp2_with fail
    go_loopw [5, 6] (fun nv iv wr => ∃ (i : Nat) (n : Int), iv = .int .i64 i ∧ i ≤ len ∧ nv = .int .i64 n ∧ 0 ≤ n ∧ n ≤ 8192 ∧ cntL d 0 ls = cntL d n (ls.drop i) ∧ Below w.heap.size w wr) (fun _ iv _ => len - (intOf iv).toNat)
    case atStart => exact ⟨0, 0, rfl, by omega, rfl, by decide, by decide, by rw [List.drop_zero], Below.refl _ _⟩
    case round =>
      obtain ⟨i, n, rfl, hi, rfl, hn0, hn1, heq, hb⟩ := hrel
      have HEQ := Lib.hid heq
      clear heq
      by_cases hlt : i < len
      · have hil : i < ls.length := by rw [← HLEN.out]; exact hlt
        have hdr := cntL_drop d n ls i hil
        obtain ⟨b, off, rfl⟩ := LiesL.addr HLIES.out (by omega)
        have hli := (LiesL.at HLIES.out i hil).below hb
        have hsz : SizeOf.sizeOf (ls.getD i default) < SizeOf.sizeOf ls := by
          rw [List.getD_eq_getElem?_getD, List.getElem?_eq_getElem hil]
          exact List.sizeOf_lt_of_mem (List.getElem_mem hil)
        have HDR := Lib.hid hdr
        clear hdr
        revert HDR hli hsz
        generalize ls.getD i default = c
        intro hli hsz HDR
        obtain ⟨xn, nc, xl, lc, xe, ec, c0, c1, c2, c3, c4, c5, c6, hvn, hnc, hncm, hl, he⟩ := hli.may
        have hsl : SizeOf.sizeOf c.l < N ∧ SizeOf.sizeOf c.e < N := by
          have := HNN.out
          cases c with
          | mk op a b' m n' l' e' =>
            simp only [Ins.mk.sizeOf_spec] at hsz
            simp only [Ins.l, Ins.e]
            omega
        have HMAY := Lib.hid (refMay_any c.op c.a c.b c.m c.n xn xl xe c.n.length c.l.length c.e.length nc lc ec wr rfl hvn hnc (Nat.le_trans hl.le hl.top) (Nat.le_trans he.le he.top) hncm)
        obtain ⟨mb, hmb⟩ : ∃ mb, mayI c = mb := ⟨_, rfl⟩
        unfold mayI at hmb
        rw [hmb] at HMAY
        have HMB : Hid (mayI c = mb) := Lib.hid hmb
        have HL : Hid (d ≠ 32 → ∀ w', Below wr.heap.size wr w' → Calls Tryz.prog 111 #[.slice xl c.l.length lc, .int .i64 ((d : Int) + 1)] w' fun e w2 => e = .returned (.int .i64 (cntL (d + 1) 0 c.l)) ∧ Below w'.heap.size w' w2) := Lib.hid fun h32 w' hb' => by
          have := HIH.out (d + 1) c.l xl c.l.length lc w' hsl.1 (by omega) (hl.below hb')
          rwa [Int.natCast_add] at this
        have HE5 : Hid (d ≠ 32 → ∀ w', Below wr.heap.size wr w' → Calls Tryz.prog 111 #[.slice xe c.e.length ec, .int .i64 ((d : Int) + 1)] w' fun e w2 => e = .returned (.int .i64 (cntL (d + 1) 0 c.e)) ∧ Below w'.heap.size w' w2) := Lib.hid fun h32 w' hb' => by
          have := HIH.out (d + 1) c.e xe c.e.length ec w' hsl.2 (by omega) (he.below hb')
          rwa [Int.natCast_add] at this
        clear hmb hli hsz hsl hvn hnc hncm
        cases mb
        · have HE : Hid (cntL d 0 ls = -1) := Lib.hid (by rw [HEQ.out, HDR.out, HMB.out, if_pos rfl])
          go_wp2_with (go_at_call 129; refine HMAY.out.mono ?_; rintro e w1 ⟨rfl, h1⟩; have d0 := (h1.cell (World.block_lt_of_cell? wr _ c0)).trans c0; have d5 := (h1.cell (World.block_lt_of_cell? wr _ c5)).trans c5; have d6 := (h1.cell (World.block_lt_of_cell? wr _ c6)).trans c6; have hbw := hb.trans (h1.mono hb.size); clear HMAY)
          go_ret
          rw [HE.out]
          exact ⟨rfl, hbw⟩
        · have HD2 := Lib.hid (HEQ.out.trans (HDR.out.trans (by rw [HMB.out, if_neg (by decide)])))
          by_cases hbk : 2 ≤ c.op ∧ c.op ≤ 4
          · have HD3 := Lib.hid (HD2.out.trans (if_pos hbk))
            obtain ⟨q1, q2⟩ := hbk
            by_cases h32 : d = 32
            · have HE : Hid (cntL d 0 ls = -1) := Lib.hid (HD3.out.trans (if_pos h32))
              have hd2 : (d : Int) = 32 := by omega
              clear h32
              go_wp2_with (go_at_call 129; refine HMAY.out.mono ?_; rintro e w1 ⟨rfl, h1⟩; have d0 := (h1.cell (World.block_lt_of_cell? wr _ c0)).trans c0; have d5 := (h1.cell (World.block_lt_of_cell? wr _ c5)).trans c5; have d6 := (h1.cell (World.block_lt_of_cell? wr _ c6)).trans c6; have hbw := hb.trans (h1.mono hb.size); clear HMAY)
              go_ret
              rw [HE.out]
              exact ⟨rfl, hbw⟩
            · have HD4 := Lib.hid (HD3.out.trans (if_neg h32))
              have HLc := Lib.hid (HL.out h32)
              have HEc := Lib.hid (HE5.out h32)
              have hd2 : ((d : Int) == 32) = false := eq_no (by omega)
              have r1 := cntL_le (d + 1) 0 c.l (by decide) (by decide)
              have r2 := cntL_le (d + 1) 0 c.e (by decide) (by decide)
              have HIN := Lib.hid (inI_eq d c)
              revert r1 r2 HLc HEc HIN
              generalize cntL (d + 1) 0 c.l = va
              generalize cntL (d + 1) 0 c.e = vb
              intro HLc HEc r1 r2 HIN
              have wd : IntKind.i64.wrap ((d : Int) + 1) = (d : Int) + 1 := by rw [IntKind.wrap_i64]; omega
              clear h32
              go_wp2_with (go_at_call 129; refine HMAY.out.mono ?_; rintro e w1 ⟨rfl, h1⟩; have d0 := (h1.cell (World.block_lt_of_cell? wr _ c0)).trans c0; have d5 := (h1.cell (World.block_lt_of_cell? wr _ c5)).trans c5; have d6 := (h1.cell (World.block_lt_of_cell? wr _ c6)).trans c6; have hbw := hb.trans (h1.mono hb.size); clear HMAY)
              have DS : Hid (w1.drew.cell? ⟨b, off + i * 7 + 5, none⟩ = some (.slice xl c.l.length lc) ∧ w1.drew.cell? ⟨b, off + i * 7 + 6, none⟩ = some (.slice xe c.e.length ec)) := Lib.hid ⟨d5, d6⟩
              have hbd : Below wr.heap.size wr w1.drew := h1.drew
              go_region_held3 (fun w' => w'.cell? ⟨b, off + i * 7 + 5, none⟩ = some (.slice xl c.l.length lc) ∧ w'.cell? ⟨b, off + i * 7 + 6, none⟩ = some (.slice xe c.e.length ec))
                (first | exact DS.out | exact DS1.out | exact DS2.out)
                (first
                  | (go_at_call 111; refine (HLc.out _ hbd).mono ?_; rintro e w2 ⟨rfl, k2⟩
                     have DS1 := Lib.hid (And.intro ((k2.cell (World.block_lt_of_cell? _ _ DS.out.1)).trans DS.out.1) ((k2.cell (World.block_lt_of_cell? _ _ DS.out.2)).trans DS.out.2))
                     have hbe := hbd.trans (k2.mono hbd.size)
                     clear HLc)
                  | (go_at_call 111; refine (HEc.out _ hbe).mono ?_; rintro e w3 ⟨rfl, k3⟩
                     have DS2 := Lib.hid (And.intro ((k3.cell (World.block_lt_of_cell? _ _ DS1.out.1)).trans DS1.out.1) ((k3.cell (World.block_lt_of_cell? _ _ DS1.out.2)).trans DS1.out.2))
                     have hbf := hb.trans ((hbe.trans (k3.mono hbe.size)).mono hb.size)
                     clear HEc))
              all_goals
                by_cases a0 : va < 0
                · have hI : inI d c = -1 := HIN.out.trans (if_pos (.inl a0))
                  have HE : Hid (cntL d 0 ls = -1) := Lib.hid (HD4.out.trans (if_pos (by omega)))
                  clear hI
                  go_wp2_with fail
                  go_ret
                  rw [HE.out]
                  exact ⟨rfl, hbf⟩
                · by_cases b0 : vb < 0
                  · have hI : inI d c = -1 := HIN.out.trans (if_pos (.inr b0))
                    have HE : Hid (cntL d 0 ls = -1) := Lib.hid (HD4.out.trans (if_pos (by omega)))
                    clear hI
                    go_wp2_with fail
                    go_ret
                    rw [HE.out]
                    exact ⟨rfl, hbf⟩
                  · have hI : inI d c = va + vb := HIN.out.trans (if_neg (by omega))
                    have HD5 := HD4.out.trans (if_neg (by omega))
                    rw [hI] at HD5
                    have HD6 := Lib.hid HD5
                    clear hI HD5
                    by_cases big : 8192 < n + 1 + va + vb
                    · have HE : Hid (cntL d 0 ls = -1) := Lib.hid (HD6.out.trans (if_pos (by omega)))
                      go_wp2_with fail
                      go_ret
                      rw [HE.out]
                      exact ⟨rfl, hbf⟩
                    · have HE : Hid (cntL d 0 ls = cntL d (n + 1 + va + vb) (ls.drop (i + 1))) := Lib.hid (by rw [HD6.out, if_neg (by omega), Int.add_assoc (n + 1) va vb])
                      go_wp2_with fail
                      exact ⟨⟨i + 1, n + 1 + va + vb, by go_num, by omega, rfl, by omega, by omega, HE.out, hbf⟩, by simp [intOf]; omega⟩
          · have HD3 := Lib.hid (HD2.out.trans (if_neg hbk))
            by_cases h2 : c.op < 2
            all_goals
              by_cases hbig : 8192 < n + 1
              · have HE : Hid (cntL d 0 ls = -1) := Lib.hid (HD3.out.trans (if_pos hbig))
                go_wp2_with (go_at_call 129; refine HMAY.out.mono ?_; rintro e w1 ⟨rfl, h1⟩; have d0 := (h1.cell (World.block_lt_of_cell? wr _ c0)).trans c0; have d5 := (h1.cell (World.block_lt_of_cell? wr _ c5)).trans c5; have d6 := (h1.cell (World.block_lt_of_cell? wr _ c6)).trans c6; have hbw := hb.trans (h1.mono hb.size); clear HMAY)
                go_ret
                rw [HE.out]
                exact ⟨rfl, hbw⟩
              · have HE := Lib.hid (HD3.out.trans (if_neg hbig))
                go_wp2_with (go_at_call 129; refine HMAY.out.mono ?_; rintro e w1 ⟨rfl, h1⟩; have d0 := (h1.cell (World.block_lt_of_cell? wr _ c0)).trans c0; have d5 := (h1.cell (World.block_lt_of_cell? wr _ c5)).trans c5; have d6 := (h1.cell (World.block_lt_of_cell? wr _ c6)).trans c6; have hbw := hb.trans (h1.mono hb.size); clear HMAY)
                exact ⟨⟨i + 1, n + 1, by go_num, by omega, rfl, by omega, by omega, HE.out, hbw⟩, by simp [intOf]; omega⟩
      · have hie : i = len := by omega
        subst hie
        have HE : Hid (cntL d 0 ls = n) := Lib.hid (by rw [HEQ.out, HLEN.out, List.drop_length, cntL])
        go_wp2_with fail
        go_ret
        rw [HE.out]
        exact ⟨rfl, hb⟩
theorem refCount_any (d : Nat) (hd : d ≤ 32) (ls : List Ins) (x : Option Addr) (len cap : Nat) (w : World) (h : InsIn w x len cap ls) :
    Calls Tryz.prog 111 #[.slice x len cap, .int .i64 d] w fun e w' => e = .returned (.int .i64 (cntL d 0 ls)) ∧ Below w.heap.size w w' :=
  refCount_all _ d ls x len cap w (Nat.lt_succ_self _) hd h
end Go.Proofs.YtekonefnniaheaaGreat
namespace Go.Proofs.YtekonefnniaheaaGreat
open Go.RowKit

mutual
/-- May an instruction be, within so many blocks? -/
def okI : Nat → Ins → Bool
  | d, .mk op a b m n l e => mayI (.mk op a b m n l e) && (if 2 ≤ op ∧ op ≤ 4 then decide (d ≠ 32) && (okL (d + 1) l && okL (d + 1) e) else true)
def okL : Nat → List Ins → Bool
  | _, [] => true
  | d, i :: r => okI d i && okL d r
end
mutual
/-- How many instructions there are, those within others, too. -/
def sizI : Ins → Nat
  | .mk _ _ _ _ _ l e => 1 + sizL l + sizL e
def sizL : List Ins → Nat
  | [] => 0
  | i :: r => sizI i + sizL r
end
/-- What counting comes to, with n ahead. -/
def cP (d n : Nat) (l : List Ins) : Int × Bool := if okL d l = true ∧ n + sizL l ≤ 8192 then (((n + sizL l : Nat) : Int), true) else (0, false)
theorem okI_eq (d : Nat) (c : Ins) : okI d c = (mayI c && (if 2 ≤ c.op ∧ c.op ≤ 4 then decide (d ≠ 32) && (okL (d + 1) c.l && okL (d + 1) c.e) else true)) := by
  cases c with
  | mk op a b m n l e =>
    rw [okI]
    rfl
theorem sizI_eq (c : Ins) : sizI c = 1 + sizL c.l + sizL c.e := by
  cases c with
  | mk op a b m n l e =>
    rw [sizI]
    rfl
theorem mayI_parts {c : Ins} (h : mayI c = true) : (shapeV c.op).2 = 0 ∧ ((shapeV c.op).1 = 2 ∨ c.l = []) ∧ (c.op = 4 ∨ c.e = []) := by
  unfold mayI mayV at h
  simp only [Bool.and_eq_true, Bool.or_eq_true, decide_eq_true_eq, List.length_eq_zero_iff] at h
  exact ⟨h.1.1.1.1.1.1.1, h.1.1.1.1.1.1.2, h.1.1.1.1.1.2⟩
theorem shapeV_block {op : Int} (h : 2 ≤ op ∧ op ≤ 4) : shapeV op = (2, 0) := by
  have hc : op = 2 ∨ op = 3 ∨ op = 4 := by omega
  rcases hc with rfl | rfl | rfl <;> decide
theorem shapeV_two {op : Int} (h : (shapeV op).1 = 2) : 2 ≤ op ∧ op ≤ 4 := by
  by_cases hm : op ∈ nameOps
  · have key : ∀ op ∈ nameOps, (shapeV op).1 = 2 → 2 ≤ op ∧ op ≤ 4 := by decide
    exact key op hm h
  · rw [shapeV_other hm] at h
    split at h
    · cases h
    split at h
    · cases h
    split at h
    · cases h
    split at h
    · cases h
    · cases h
theorem cP_nil (d n : Nat) (h : n ≤ 8192) : cP d n [] = ((n : Int), true) := by
  unfold cP
  rw [okL, sizL, if_pos ⟨rfl, by omega⟩, Nat.add_zero]
theorem cP_big (d n : Nat) (c : Ins) (r : List Ins) (h : 8192 < n + 1) : cP d n (c :: r) = (0, false) := by
  unfold cP
  rw [sizL, sizI_eq, if_neg (by omega)]
theorem cP_bad (d n : Nat) (c : Ins) (r : List Ins) (h : mayI c = false) : cP d n (c :: r) = (0, false) := by
  unfold cP
  rw [okL, okI_eq, h, Bool.false_and, Bool.false_and, if_neg (by simp)]
theorem cP_plain (d n : Nat) (c : Ins) (r : List Ins) (h : mayI c = true) (hs : ¬ (shapeV c.op).1 = 2) : cP d n (c :: r) = cP d (n + 1) r := by
  obtain ⟨h1, h2, h3⟩ := mayI_parts h
  have hb : ¬ (2 ≤ c.op ∧ c.op ≤ 4) := fun q => hs (by rw [shapeV_block q])
  have hl := h2.resolve_left hs
  have he := h3.resolve_left (fun q => hb (by omega))
  unfold cP
  rw [okL, okI_eq, h, if_neg hb, sizL, sizI_eq, hl, he, sizL, Bool.true_and, Bool.true_and, show n + (1 + 0 + 0 + sizL r) = n + 1 + sizL r by omega]
theorem cP_deep (n : Nat) (c : Ins) (r : List Ins) (hs : (shapeV c.op).1 = 2) : cP 32 n (c :: r) = (0, false) := by
  unfold cP
  rw [okL, okI_eq, if_pos (shapeV_two hs), if_neg (by simp)]
theorem cP_l (d n : Nat) (c : Ins) (r : List Ins) (hs : (shapeV c.op).1 = 2) (h1 : (cP (d + 1) (n + 1) c.l).2 = false) : cP d n (c :: r) = (0, false) := by
  unfold cP at h1 ⊢
  split at h1
  · cases h1
  rename_i h2
  rw [okL, okI_eq, if_pos (shapeV_two hs), sizL, sizI_eq, if_neg]
  intro q
  simp only [Bool.and_eq_true] at q
  exact h2 ⟨q.1.1.2.2.1, by omega⟩
theorem cP_e (d n k : Nat) (c : Ins) (r : List Ins) (hs : (shapeV c.op).1 = 2) (h0 : cP (d + 1) (n + 1) c.l = ((k : Int), true)) (h1 : (cP (d + 1) k c.e).2 = false) : cP d n (c :: r) = (0, false) := by
  unfold cP at h0 h1 ⊢
  split at h0
  · rename_i hq
    simp only [Prod.mk.injEq, Int.natCast_inj, and_true] at h0
    subst h0
    split at h1
    · cases h1
    rename_i h2
    rw [okL, okI_eq, if_pos (shapeV_two hs), sizL, sizI_eq, if_neg]
    intro q
    simp only [Bool.and_eq_true] at q
    exact h2 ⟨q.1.1.2.2.2, by omega⟩
  · simp at h0
theorem cP_block (d n k j : Nat) (c : Ins) (r : List Ins) (h : mayI c = true) (hd : d ≠ 32) (hs : (shapeV c.op).1 = 2) (h0 : cP (d + 1) (n + 1) c.l = ((k : Int), true)) (h1 : cP (d + 1) k c.e = ((j : Int), true)) : cP d n (c :: r) = cP d j r := by
  unfold cP at h0 h1 ⊢
  split at h0
  · rename_i hq
    simp only [Prod.mk.injEq, Int.natCast_inj, and_true] at h0
    subst h0
    split at h1
    · rename_i hr
      simp only [Prod.mk.injEq, Int.natCast_inj, and_true] at h1
      subst h1
      rw [okL, okI_eq, if_pos (shapeV_two hs), sizL, sizI_eq, h, hq.1, hr.1, decide_eq_true hd, Bool.true_and, Bool.true_and, Bool.true_and, Bool.true_and, show n + (1 + sizL c.l + sizL c.e + sizL r) = n + 1 + sizL c.l + sizL c.e + sizL r by omega]
    · simp at h1
  · simp at h0
theorem cP_cases (d n : Nat) (l : List Ins) : (∃ k : Nat, k ≤ 8192 ∧ cP d n l = ((k : Int), true)) ∨ cP d n l = (0, false) := by
  unfold cP
  split
  · rename_i h
    exact .inl ⟨_, h.2, rfl⟩
  · exact .inr rfl
/-- The two questions are one. -/
theorem may_same (c : Ins) (h : (shapeV c.op).2 = 0) : mayPV (shapeV c.op).1 c.op c.a c.b c.m c.n c.l.length c.e.length = mayI c := by
  unfold mayI
  have h4 : c.op = 4 → shapeV c.op = (2, 0) := fun q => shapeV_block (by omega)
  rcases shapeV_in c.op h with s | s | s | s | s | s | s | s | s | s | s
  all_goals
    rw [s]
    unfold mayPV mayV mayAV mayBV mayMV mayNV blkB
    rw [Bool.eq_iff_iff]
    simp [idxB]
    try (constructor <;> intro h <;> simp_all <;> omega)
set_option maxRecDepth 100000 in
set_option maxHeartbeats 4000000 in
theorem count_all (N : Nat) : ∀ (d n : Nat) (ls : List Ins) (x : Option Addr) (len cap : Nat) (w : World), SizeOf.sizeOf ls < N → d ≤ 32 → n ≤ 8192 → InsIn w x len cap ls →
    Calls Tryz.prog 178 #[.slice x len cap, .int .i64 n, .int .i64 d] w fun e w' => e = .returned (.tuple #[.int .i64 (cP d n ls).1, .bool (cP d n ls).2]) ∧ Below w.heap.size w w' := by
  induction N with
  | zero => exact fun _ _ _ _ _ _ _ h => absurd h (by omega)
  | succ N ih =>
    intro d n ls x len cap w hN hd hn hin
    obtain ⟨hlen, hle, htop, hlies⟩ := hin
    have HLEN := Lib.hid hlen
    have HLIES := Lib.hid hlies
    have HIH := Lib.hid ih
    have HNN := Lib.hid hN
    clear ih hlies hN hlen
    go_enter Tryz.func178, Tryz.ntmps178
    go_wp2_with fail
    go_loopw [1, 15] (fun nv iv wr => ∃ (i k : Nat), iv = .int .i64 i ∧ i ≤ len ∧ nv = .int .i64 k ∧ k ≤ 8192 ∧ cP d n ls = cP d k (ls.drop i) ∧ Below w.heap.size w wr) (fun _ iv _ => len - (intOf iv).toNat)
    case atStart => exact ⟨0, n, rfl, by omega, rfl, hn, by rw [List.drop_zero], Below.refl _ _⟩
    case round =>
      obtain ⟨i, k, rfl, hi, rfl, hk, heq, hb⟩ := hrel
      have HEQ := Lib.hid heq
      clear heq
      by_cases hlt : i < len
      · have hil : i < ls.length := by rw [← HLEN.out]; exact hlt
        obtain ⟨b, off, rfl⟩ := LiesL.addr HLIES.out (by omega)
        have hli := (LiesL.at HLIES.out i hil).below hb
        have hsz : SizeOf.sizeOf (ls.getD i default) < SizeOf.sizeOf ls := by
          rw [List.getD_eq_getElem?_getD, List.getElem?_eq_getElem hil]
          exact List.sizeOf_lt_of_mem (List.getElem_mem hil)
        have hdr : ls.drop i = ls.getD i default :: ls.drop (i + 1) := by
          rw [List.drop_eq_getElem_cons hil, List.getD_eq_getElem?_getD, List.getElem?_eq_getElem hil]
          rfl
        have HDR := Lib.hid (HEQ.out.trans (congrArg (cP d k) hdr))
        clear hdr
        revert HDR hli hsz
        generalize ls.getD i default = c
        intro hli hsz HDR
        obtain ⟨xn, nc, xl, lc, xe, ec, c0, c1, c2, c3, c4, c5, c6, hvn, hnc, hncm, hl, he⟩ := hli.may
        have HS := Lib.hid (shape_any c.op)
        have D0 : Hid (InsAt (wr.alloc (.cells #[.int .i64 c.op, .int .i64 c.a, .int .i64 c.b, .int .i64 c.m, .slice xn c.n.length nc, .slice xl c.l.length lc, .slice xe c.e.length ec] 50)) wr.heap.size c.op c.a c.b c.m xn xl xe c.n.length c.l.length c.e.length nc lc ec) := Lib.hid ⟨World.cell?_alloc_mark wr _ _ _ 0, World.cell?_alloc_mark wr _ _ _ 1, World.cell?_alloc_mark wr _ _ _ 2, World.cell?_alloc_mark wr _ _ _ 3, World.cell?_alloc_mark wr _ _ _ 4, World.cell?_alloc_mark wr _ _ _ 5, World.cell?_alloc_mark wr _ _ _ 6⟩
        have HB0 : Hid (Below wr.heap.size wr (wr.alloc (.cells #[.int .i64 c.op, .int .i64 c.a, .int .i64 c.b, .int .i64 c.m, .slice xn c.n.length nc, .slice xl c.l.length lc, .slice xe c.e.length ec] 50))) := Lib.hid ((Below.refl _ _).alloc (Nat.le_refl _) _)
        have hz0 : wr.heap.size ≤ (wr.alloc (.cells #[.int .i64 c.op, .int .i64 c.a, .int .i64 c.b, .int .i64 c.m, .slice xn c.n.length nc, .slice xl c.l.length lc, .slice xe c.e.length ec] 50)).heap.size := HB0.out.size
        obtain ⟨d0, d1, d2, d3, d4, d5, d6⟩ := D0.out
        by_cases hbig : 8192 < k + 1
        · have HE := Lib.hid (HDR.out.trans (cP_big d k c _ hbig))
          have hbig2 : (8192 : Int) < (k : Int) + 1 := by omega
          clear hbig
          go_wp2_with (go_at_call 179; refine (HS.out _).mono ?_; rintro e w1 ⟨rfl, rfl⟩)
          go_ret2
          rw [HE.out]
          exact ⟨rfl, hb.trans (HB0.out.mono hb.size)⟩
        by_cases her : (shapeV c.op).2 = 0
        case neg =>
          have hmf : mayI c = false := by
            cases hm : mayI c with
            | false => rfl
            | true => exact absurd (mayI_parts hm).1 her
          have HE := Lib.hid (HDR.out.trans (cP_bad d k c _ hmf))
          have hbig2 : ¬ (8192 : Int) < (k : Int) + 1 := by omega
          have her2 : ((shapeV c.op).2 != 0) = true := by simpa using her
          clear hbig her hmf
          go_wp2_with (go_at_call 179; refine (HS.out _).mono ?_; rintro e w1 ⟨rfl, rfl⟩)
          go_ret2
          rw [HE.out]
          exact ⟨rfl, hb.trans (HB0.out.mono hb.size)⟩
        have hms := may_same c her
        have hbl : (shapeV c.op).1 = 2 → 2 ≤ c.op ∧ c.op ≤ 4 := shapeV_two
        have HM := Lib.hid (may_any (shapeV c.op).1 c.op c.a c.b c.m c.n xn xl xe c.n.length c.l.length c.e.length nc lc ec (wr.alloc (.cells #[.int .i64 c.op, .int .i64 c.a, .int .i64 c.b, .int .i64 c.m, .slice xn c.n.length nc, .slice xl c.l.length lc, .slice xe c.e.length ec] 50)) rfl (hvn.below HB0.out))
        rw [hms] at HM
        obtain ⟨mb, hmb⟩ : ∃ mb, mayI c = mb := ⟨_, rfl⟩
        rw [hmb] at HM
        have HMB := Lib.hid hmb
        have hbig2 : ¬ (8192 : Int) < (k : Int) + 1 := by omega
        rw [her] at HS
        have HSL : Hid (SizeOf.sizeOf c.l < N ∧ SizeOf.sizeOf c.e < N) := Lib.hid (by
          have := HNN.out
          cases c with
          | mk op a b m n' l' e' =>
            simp only [Ins.mk.sizeOf_spec] at hsz
            simp only [Ins.l, Ins.e]
            omega)
        have HLI := Lib.hid hl
        have HEI := Lib.hid he
        have hk1 : k + 1 ≤ 8192 := by omega
        clear hbig her hms hmb hli hsz hvn hnc hncm hl he
        cases mb
        · have HE := Lib.hid (HDR.out.trans (cP_bad d k c _ HMB.out))
          clear hbl
          go_wp2_with (first | (go_at_call 179; refine (HS.out _).mono ?_; rintro e w1 ⟨rfl, rfl⟩) | (go_at_call 189; refine HM.out.mono ?_; rintro e w2 ⟨rfl, hb2⟩; have D := D0.out.below hb2; obtain ⟨d0, d1, d2, d3, d4, d5, d6⟩ := D; have hbw := HB0.out.trans (hb2.mono hz0); clear HM))
          go_ret2
          rw [HE.out]
          exact ⟨rfl, hb.trans (hbw.mono hb.size)⟩
        obtain ⟨sh, hsh⟩ : ∃ sh, (shapeV c.op).1 = sh := ⟨_, rfl⟩
        rw [hsh] at HS HM hbl
        have HSH := Lib.hid hsh
        clear hsh
        by_cases h2 : sh = 2
        · subst h2
          by_cases h32 : d = 32
          · subst h32
            have HE := Lib.hid (HDR.out.trans (cP_deep k c _ HSH.out))
            clear hbl
            go_wp2_with (first | (go_at_call 179; refine (HS.out _).mono ?_; rintro e w1 ⟨rfl, rfl⟩) | (go_at_call 189; refine HM.out.mono ?_; rintro e w2 ⟨rfl, hb2⟩; have D := D0.out.below hb2; obtain ⟨d0, d1, d2, d3, d4, d5, d6⟩ := D; have hbw := HB0.out.trans (hb2.mono hz0); clear HM))
            go_ret2
            rw [HE.out]
            exact ⟨rfl, hb.trans (hbw.mono hb.size)⟩
          have HL : Hid (∀ w', Below wr.heap.size wr w' → Calls Tryz.prog 178 #[.slice xl c.l.length lc, .int .i64 ((k : Int) + 1), .int .i64 ((d : Int) + 1)] w' fun e w2 => e = .returned (.tuple #[.int .i64 (cP (d + 1) (k + 1) c.l).1, .bool (cP (d + 1) (k + 1) c.l).2]) ∧ Below w'.heap.size w' w2) := Lib.hid fun w' hb' => by
            have := HIH.out (d + 1) (k + 1) c.l xl c.l.length lc w' HSL.out.1 (by omega) hk1 (HLI.out.below hb')
            rwa [Int.natCast_add, Int.natCast_add] at this
          have hd2 : ((d : Int) == 32) = false := eq_no (by omega)
          have D1 : Hid (∀ w2, Below (wr.alloc (.cells #[.int .i64 c.op, .int .i64 c.a, .int .i64 c.b, .int .i64 c.m, .slice xn c.n.length nc, .slice xl c.l.length lc, .slice xe c.e.length ec] 50)).heap.size (wr.alloc (.cells #[.int .i64 c.op, .int .i64 c.a, .int .i64 c.b, .int .i64 c.m, .slice xn c.n.length nc, .slice xl c.l.length lc, .slice xe c.e.length ec] 50)) w2 → InsAt w2 wr.heap.size c.op c.a c.b c.m xn xl xe c.n.length c.l.length c.e.length nc lc ec) := Lib.hid fun w2 h => D0.out.below h
          have wd : IntKind.i64.wrap ((d : Int) + 1) = (d : Int) + 1 := by rw [IntKind.wrap_i64]; omega
          rcases cP_cases (d + 1) (k + 1) c.l with ⟨k2, hk2, hc⟩ | hc
          · have HCL := Lib.hid hc
            rw [hc] at HL
            have HE : Hid (∀ w', Below wr.heap.size wr w' → Calls Tryz.prog 178 #[.slice xe c.e.length ec, .int .i64 (k2 : Int), .int .i64 ((d : Int) + 1)] w' fun e w2 => e = .returned (.tuple #[.int .i64 (cP (d + 1) k2 c.e).1, .bool (cP (d + 1) k2 c.e).2]) ∧ Below w'.heap.size w' w2) := Lib.hid fun w' hb' => by
              have := HIH.out (d + 1) k2 c.e xe c.e.length ec w' HSL.out.2 (by omega) hk2 (HEI.out.below hb')
              rwa [Int.natCast_add] at this
            clear hc
            rcases cP_cases (d + 1) k2 c.e with ⟨k3, hk3, hc⟩ | hc
            · rw [hc] at HE
              have HQ := Lib.hid (HDR.out.trans (cP_block d k k2 k3 c _ HMB.out h32 HSH.out HCL.out hc))
              clear hc h32 hbl hd
              go_wp2_with (first | (go_at_call 179; refine (HS.out _).mono ?_; rintro e w1 ⟨rfl, rfl⟩) | (go_at_call 189; refine HM.out.mono ?_; rintro e w2 ⟨rfl, hb2⟩; have D := D0.out.below hb2; obtain ⟨d0, d1, d2, d3, d4, d5, d6⟩ := D; have hbw := HB0.out.trans (hb2.mono hz0); clear HM) | (go_at_call 178; refine (HL.out _ hbw).mono ?_; rintro e w3 ⟨rfl, hb3⟩; obtain ⟨g0, g1, g2, g3, g4, g5, g6⟩ := (D0.out.below hb2).below hb3; have hbx := hbw.trans (hb3.mono hbw.size); clear HL) | (go_at_call 178; refine (HE.out _ hbx).mono ?_; rintro e w4 ⟨rfl, hb4⟩; have hby := hbx.trans (hb4.mono hbx.size); clear HE))
              exact ⟨⟨i + 1, k3, by go_num, by omega, rfl, hk3, HQ.out, hb.trans (hby.mono hb.size)⟩, by simp [intOf]; omega⟩
            · rw [hc] at HE
              have HQ := Lib.hid (HDR.out.trans (cP_e d k k2 c _ HSH.out HCL.out (by rw [hc])))
              clear hc h32 hbl hd
              go_wp2_with (first | (go_at_call 179; refine (HS.out _).mono ?_; rintro e w1 ⟨rfl, rfl⟩) | (go_at_call 189; refine HM.out.mono ?_; rintro e w2 ⟨rfl, hb2⟩; have D := D0.out.below hb2; obtain ⟨d0, d1, d2, d3, d4, d5, d6⟩ := D; have hbw := HB0.out.trans (hb2.mono hz0); clear HM) | (go_at_call 178; refine (HL.out _ hbw).mono ?_; rintro e w3 ⟨rfl, hb3⟩; obtain ⟨g0, g1, g2, g3, g4, g5, g6⟩ := (D0.out.below hb2).below hb3; have hbx := hbw.trans (hb3.mono hbw.size); clear HL) | (go_at_call 178; refine (HE.out _ hbx).mono ?_; rintro e w4 ⟨rfl, hb4⟩; have hby := hbx.trans (hb4.mono hbx.size); clear HE))
              go_ret2
              rw [HQ.out]
              exact ⟨rfl, hb.trans (hby.mono hb.size)⟩
          · have HQ := Lib.hid (HDR.out.trans (cP_l d k c _ HSH.out (by rw [hc])))
            rw [hc] at HL
            clear hc h32 hbl hd
            go_wp2_with (first | (go_at_call 179; refine (HS.out _).mono ?_; rintro e w1 ⟨rfl, rfl⟩) | (go_at_call 189; refine HM.out.mono ?_; rintro e w2 ⟨rfl, hb2⟩; have D := D0.out.below hb2; obtain ⟨d0, d1, d2, d3, d4, d5, d6⟩ := D; have hbw := HB0.out.trans (hb2.mono hz0); clear HM) | (go_at_call 178; refine (HL.out _ hbw).mono ?_; rintro e w3 ⟨rfl, hb3⟩; have hbx := hbw.trans (hb3.mono hbw.size); clear HL))
            go_ret2
            rw [HQ.out]
            exact ⟨rfl, hb.trans (hbx.mono hb.size)⟩
        · have HQ := Lib.hid (HDR.out.trans (cP_plain d k c _ HMB.out (by rw [HSH.out]; exact h2)))
          have h2' : (sh != 2) = true := by simpa using h2
          clear hbl h2
          go_wp2_with (first | (go_at_call 179; refine (HS.out _).mono ?_; rintro e w1 ⟨rfl, rfl⟩) | (go_at_call 189; refine HM.out.mono ?_; rintro e w2 ⟨rfl, hb2⟩; have D := D0.out.below hb2; obtain ⟨d0, d1, d2, d3, d4, d5, d6⟩ := D; have hbw := HB0.out.trans (hb2.mono hz0); clear HM))
          exact ⟨⟨i + 1, k + 1, by go_num, by omega, by rw [Int.natCast_add]; rfl, hk1, HQ.out, hb.trans (hbw.mono hb.size)⟩, by simp [intOf]; omega⟩
      · have hie : i = len := by omega
        subst hie
        have HE : Hid (cP d n ls = ((k : Int), true)) := Lib.hid (by rw [HEQ.out, HLEN.out, List.drop_length]; exact cP_nil d k hk)
        go_wp2_with fail
        go_ret2
        rw [HE.out]
        exact ⟨rfl, hb⟩
theorem Count_any (ls : List Ins) (x : Option Addr) (len cap : Nat) (w : World) (h : InsIn w x len cap ls) :
    Calls Tryz.prog 156 #[.slice x len cap] w fun e w' => e = .returned (.tuple #[.int .i64 (cP 0 0 ls).1, .bool (cP 0 0 ls).2]) ∧ Below w.heap.size w w' := by
  have HC := Lib.hid (count_all _ 0 0 ls x len cap w (Nat.lt_succ_self _) (by decide) (by decide) h)
  clear h
  revert HC
  generalize (cP 0 0 ls).1 = a
  generalize (cP 0 0 ls).2 = b
  intro HC
  go_enter Tryz.func156, Tryz.ntmps156
  go_wp2_with (go_at_call 178; refine HC.out.mono ?_; rintro e w1 ⟨rfl, hb⟩)
  go_ret2
  exact ⟨rfl, hb⟩
end Go.Proofs.YtekonefnniaheaaGreat
