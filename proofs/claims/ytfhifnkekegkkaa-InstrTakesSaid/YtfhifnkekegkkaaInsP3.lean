/- The project's questions about an instruction's numbers. -/
import Derived.Test.YtfhifnkekegkkaaInsP2
import Derived.Test.YtfhifnkekegkkaaInsF
namespace Go.Proofs.Ytfhifnkekegkkaa
open Go.RowKit

theorem index_any (n : Int) (w : World) :
    Calls Try.prog 70 #[.int .i64 n] w fun e w' => e = .returned (.bool (idxB n)) ∧ w = w' := by
  have HW := Lib.hid (insWithin_any n 0 4294967295)
  have e1 : idxB n = (decide (0 ≤ n) && decide (n ≤ 4294967295)) := by unfold idxB; rw [Bool.eq_iff_iff]; simp
  rw [e1]
  clear e1
  go_enter Try.func70, Try.ntmps70
  go_wp2_with (go_at_call 65; refine (HW.out _).mono ?_; rintro e w1 ⟨rfl, rfl⟩)
  go_ret
  exact ⟨rfl, rfl⟩
/-- May it be a block's type? -/
def blkB (a : Int) : Bool := idxB a || decide (a ∈ [-64, -1, -2, -16])
set_option maxRecDepth 100000 in
theorem blockType_any (n : Int) (w : World) :
    Calls Try.prog 69 #[.int .i64 n] w fun e w' => e = .returned (.bool (blkB n)) ∧ w = w' := by
  have HI := Lib.hid (index_any n)
  by_cases h : n ∈ [-64, -1, -2, -16]
  · have e1 : blkB n = true := by unfold blkB; rw [decide_eq_true h, Bool.or_true]
    rw [e1]
    have hc : n = -64 ∨ n = -1 ∨ n = -2 ∨ n = -16 := by simpa using h
    clear e1 h HI
    rcases hc with rfl | rfl | rfl | rfl
    all_goals
      go_enter Try.func69, Try.ntmps69
      go_wp2_with fail
      go_ret
      exact ⟨rfl, rfl⟩
  · have e1 : blkB n = idxB n := by unfold blkB; rw [decide_eq_false h, Bool.or_false]
    rw [e1]
    have hc : ¬ n = -64 ∧ ¬ n = -1 ∧ ¬ n = -2 ∧ ¬ n = -16 := by simpa using h
    obtain ⟨h1, h2, h3, h4⟩ := hc
    clear e1 h
    go_enter Try.func69, Try.ntmps69
    go_wp2_with (go_at_call 70; refine (HI.out _).mono ?_; rintro e w1 ⟨rfl, rfl⟩)
    go_ret
    exact ⟨rfl, rfl⟩
def mayBV (sh b : Int) : Bool := if sh = 7 then decide (0 ≤ b) && decide (b ≤ 63) else decide (b = 0)
theorem dec_eq (n c : Int) : (n == c) = decide (n = c) := rfl
set_option maxRecDepth 100000 in
theorem mayB_any (sh b : Int) (w : World) :
    Calls Try.prog 50 #[.int .i64 b, .int .i64 sh] w fun e w' => e = .returned (.bool (mayBV sh b)) ∧ w = w' := by
  have HW := Lib.hid (insWithin_any b 0 63)
  unfold mayBV
  by_cases h : sh = 7
  · rw [if_pos h]
    subst h
    go_enter Try.func50, Try.ntmps50
    go_wp2_with (go_at_call 65; refine (HW.out _).mono ?_; rintro e w1 ⟨rfl, rfl⟩)
    go_ret
    exact ⟨rfl, rfl⟩
  · rw [if_neg h]
    have h2 := eq_no h
    clear h
    go_enter Try.func50, Try.ntmps50
    go_wp2_with fail
    go_ret
    exact ⟨rfl, rfl⟩
def mayMV (sh m : Int) : Bool := if sh ∈ [5, 7, 8, 9] then idxB m else decide (m = 0)
set_option maxRecDepth 100000 in
theorem mayM_any (sh m : Int) (w : World) :
    Calls Try.prog 51 #[.int .i64 m, .int .i64 sh] w fun e w' => e = .returned (.bool (mayMV sh m)) ∧ w = w' := by
  have HI := Lib.hid (index_any m)
  unfold mayMV
  by_cases h : sh ∈ [5, 7, 8, 9]
  · rw [if_pos h]
    have hc : sh = 5 ∨ sh = 7 ∨ sh = 8 ∨ sh = 9 := by simpa using h
    clear h
    rcases hc with rfl | rfl | rfl | rfl
    all_goals
      go_enter Try.func51, Try.ntmps51
      go_wp2_with (go_at_call 70; refine (HI.out _).mono ?_; rintro e w1 ⟨rfl, rfl⟩)
      go_ret
      exact ⟨rfl, rfl⟩
  · rw [if_neg h]
    have hc : ¬ sh = 5 ∧ ¬ sh = 7 ∧ ¬ sh = 8 ∧ ¬ sh = 9 := by simpa using h
    obtain ⟨h1, h2, h3, h4⟩ := hc
    clear h
    go_enter Try.func51, Try.ntmps51
    go_wp2_with fail
    go_ret
    exact ⟨rfl, rfl⟩
def mayNV (sh : Int) (n : List Int) : Bool := if sh = 4 then decide (n.length ≤ 1000) && n.all idxB else decide (n.length = 0)
set_option maxRecDepth 100000 in
set_option maxHeartbeats 1000000 in
theorem mayN_any (sh : Int) (n : List Int) (x : Option Addr) (nl nc : Nat) (w : World) (hn : nl = n.length) (hv : View w x nl n) :
    Calls Try.prog 52 #[.slice x nl nc, .int .i64 sh] w fun e w' => e = .returned (.bool (mayNV sh n)) ∧ w = w' := by
  have HI := Lib.hid index_any
  have HV := Lib.hid hv
  have HN := Lib.hid hn
  unfold mayNV
  rw [← hn]
  clear hv hn
  by_cases h : sh = 4
  · rw [if_pos h]
    subst h
    by_cases h1 : nl ≤ 1000
    · rw [decide_eq_true h1, Bool.true_and]
      have h2 : (nl : Int) ≤ 1000 := by omega
      clear h1
      go_enter Try.func52, Try.ntmps52
      go_wp2_with fail
      go_loopw [17] (fun iv wr => ∃ i : Nat, iv = .int .i64 i ∧ i ≤ nl ∧ (∀ j, j < i → idxB (n.getD j 0) = true) ∧ w = wr) (fun iv _ => nl - (intOf iv).toNat)
      case atStart => exact ⟨0, rfl, by omega, fun j hj => by omega, rfl⟩
      case round =>
        obtain ⟨i, rfl, hi, hall, rfl⟩ := hrel
        have HALL := Lib.hid hall
        clear hall
        by_cases hlt : i < nl
        · obtain ⟨b2, off2, rfl, hc⟩ := HV.out.resolve_left (by omega)
          have hci := hc i hlt
          have HZ : Hid (∀ z, n.getD i 0 = z → idxB z = false → n.all idxB = false) := Lib.hid fun z hz hf => all_not (by rw [← HN.out]; exact hlt) (by rw [hz]; exact hf)
          have HZ2 : Hid (∀ z, n.getD i 0 = z → idxB z = true → ∀ j, j < i + 1 → idxB (n.getD j 0) = true) := Lib.hid fun z hz ht j hj => by
            by_cases hji : j = i
            · rw [hji, hz]; exact ht
            · exact HALL.out j (by omega)
          obtain ⟨z, hz⟩ : ∃ z, n.getD i 0 = z := ⟨_, rfl⟩
          rw [hz] at hci
          have HZE := Lib.hid hz
          clear hc hz
          by_cases hzi : idxB z = true
          · have HIZ := Lib.hid (hzi ▸ index_any z)
            have HT := Lib.hid hzi
            clear hzi
            go_wp2_with (go_at_call 70; refine (HIZ.out _).mono ?_; rintro e w2 ⟨rfl, rfl⟩)
            exact ⟨⟨i + 1, by go_num, by omega, HZ2.out z HZE.out HT.out, trivial⟩, by simp [intOf]; omega⟩
          · have HIZ := Lib.hid (not_true hzi ▸ index_any z)
            have HA := Lib.hid (HZ.out z HZE.out (not_true hzi))
            clear hzi
            go_wp2_with (go_at_call 70; refine (HIZ.out _).mono ?_; rintro e w2 ⟨rfl, rfl⟩)
            go_ret
            rw [HA.out]
            exact ⟨rfl, rfl⟩
        · have hin : i = nl := by omega
          have HA : Hid (n.all idxB = true) := Lib.hid (all_upto fun j hj => HALL.out j (by rw [hin, HN.out]; exact hj))
          subst hin
          go_wp2_with fail
          go_ret
          rw [HA.out]
          exact ⟨rfl, rfl⟩
    · rw [decide_eq_false h1, Bool.false_and]
      have h2 : ¬ (nl : Int) ≤ 1000 := by omega
      clear h1
      go_enter Try.func52, Try.ntmps52
      go_wp2_with fail
      go_ret
      exact ⟨rfl, rfl⟩
  · rw [if_neg h]
    have h2 := eq_no h
    clear h
    by_cases h1 : nl = 0
    · subst h1
      go_enter Try.func52, Try.ntmps52
      go_wp2_with fail
      go_ret
      exact ⟨rfl, rfl⟩
    · rw [decide_eq_false h1]
      have h3 : ((nl : Int) == 0) = false := eq_no (by omega)
      clear h1
      go_enter Try.func52, Try.ntmps52
      go_wp2_with fail
      go_ret
      exact ⟨rfl, rfl⟩
end Go.Proofs.Ytfhifnkekegkkaa
