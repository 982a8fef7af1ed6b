/- The walk of the statement on what is laid, as the document says. -/
import Derived.Test.YtfhifnkekegkkaaInsR7
import Derived.Test.YtfhifnkekegkkaaInsAw
namespace Go.Proofs.Ytfhifnkekegkkaa
open Go.RowKit Go.Deep

theorem cnt_same (ls : List Ins) : (cP 0 0 ls).2 = true ∧ (∃ k : Nat, k ≤ 8192 ∧ (cP 0 0 ls).1 = k ∧ cntL 0 0 ls = k) ∨ (cP 0 0 ls).2 = false ∧ (cP 0 0 ls).1 = 0 ∧ cntL 0 0 ls = -1 := by
  have hc := cntL_ok 0 0 ls (by decide)
  rw [show ((0 : Nat) : Int) = 0 from rfl] at hc
  rw [hc]
  unfold cR cP
  by_cases h : okL 0 ls = true ∧ 0 + sizL ls ≤ 8192
  · rw [if_pos h, if_pos h]
    exact .inl ⟨rfl, 0 + sizL ls, h.2, rfl, rfl⟩
  · rw [if_neg h, if_neg h]
    exact .inr ⟨rfl, rfl, rfl⟩
set_option maxRecDepth 100000 in
set_option maxHeartbeats 2000000 in
theorem InstrPuts_walk (a : Option Addr) (len cap : Nat) (ls : List Ins) (w : World) (hin : InsIn w a len cap ls) (hwf : wfL ls) :
    Calls Try.prog 3 #[.slice a len cap] w fun e w' => e = .returned (.bool true) ∧ Below w.heap.size w w' := by
  have HA := Lib.hid awake_any
  have hb := Below.refl w.heap.size w
  have HP := Lib.hid (fun w' (hb : Below w.heap.size w w') => Put_any ls a len cap w' (hin.below hb) hwf)
  have HR := Lib.hid (fun w' (hb : Below w.heap.size w w') => refPut_any ls a len cap w' (hin.below hb) hwf)
  have HC := Lib.hid (fun w' (hb : Below w.heap.size w w') => Count_any ls a len cap w' (hin.below hb))
  have HD := Lib.hid (fun w' (hb : Below w.heap.size w w') => refCount_all _ 0 ls a len cap w' (Nat.lt_succ_self _) (by decide) (hin.below hb))
  have hs := cnt_same ls
  clear hin hwf
  revert HP HR HC HD hs
  generalize strOfNums (putV ls).1 = S
  generalize (putV ls).2 = E
  generalize (cP 0 0 ls).1 = n
  generalize (cP 0 0 ls).2 = o
  generalize cntL 0 0 ls = m
  intro HP HR HC HD hs
  rcases hs with ⟨rfl, k, hk, rfl, rfl⟩ | ⟨rfl, rfl, rfl⟩
  · have h1 : max (k : Int) 0 = k := by omega
    have h2 : (0 : Int) ≤ (k : Int) := by omega
    go_enter Try.func3, Try.ntmps3
    go_wp2_with (first
      | (go_at_call 5; refine (HP.out _ hb).mono ?_; rintro e w1 ⟨rfl, k1⟩; replace hb := hb.trans (k1.mono hb.size); clear k1)
      | (go_at_call 6; refine (HR.out _ hb).mono ?_; rintro e w1 ⟨rfl, k1⟩; replace hb := hb.trans (k1.mono hb.size); clear k1)
      | (go_at_call 7; refine (HC.out _ hb).mono ?_; rintro e w1 ⟨rfl, k1⟩; replace hb := hb.trans (k1.mono hb.size); clear k1)
      | (go_at_call 8; refine (HD.out _ hb).mono ?_; rintro e w1 ⟨rfl, k1⟩; replace hb := hb.trans (k1.mono hb.size); clear k1)
      | (go_at_call 9; refine (HA.out _).mono ?_; rintro e w1 ⟨rfl, k1⟩; replace hb := hb.trans (k1.mono hb.size); clear k1))
    all_goals
      go_ret
      exact ⟨rfl, hb⟩
  · go_enter Try.func3, Try.ntmps3
    go_wp2_with (first
      | (go_at_call 5; refine (HP.out _ hb).mono ?_; rintro e w1 ⟨rfl, k1⟩; replace hb := hb.trans (k1.mono hb.size); clear k1)
      | (go_at_call 6; refine (HR.out _ hb).mono ?_; rintro e w1 ⟨rfl, k1⟩; replace hb := hb.trans (k1.mono hb.size); clear k1)
      | (go_at_call 7; refine (HC.out _ hb).mono ?_; rintro e w1 ⟨rfl, k1⟩; replace hb := hb.trans (k1.mono hb.size); clear k1)
      | (go_at_call 8; refine (HD.out _ hb).mono ?_; rintro e w1 ⟨rfl, k1⟩; replace hb := hb.trans (k1.mono hb.size); clear k1)
      | (go_at_call 9; refine (HA.out _).mono ?_; rintro e w1 ⟨rfl, k1⟩; replace hb := hb.trans (k1.mono hb.size); clear k1))
    all_goals
      go_ret
      exact ⟨rfl, hb⟩
end Go.Proofs.Ytfhifnkekegkkaa
