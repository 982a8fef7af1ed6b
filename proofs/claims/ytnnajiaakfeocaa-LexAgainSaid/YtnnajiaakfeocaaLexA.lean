/- lex: which bytes may go on, and how far. -/
import Derived.Test.YtnnajiaakfeocaaProg
import Derived.Test.YtnnajiaakfeocaaKitB
import Derived.Test.YtnnajiaakfeocaaBl
namespace Go.Proofs.Ytnnajiaakfeocaa
open Go.RowKit

/-! ### plain -/
namespace Lex
def dig (c : Int) : Bool := decide (48 ≤ c ∧ c ≤ 57)
def sml (c : Int) : Bool := decide (97 ≤ c ∧ c ≤ 122)
def grt (c : Int) : Bool := decide (65 ≤ c ∧ c ≤ 90)
def ltr (c : Int) : Bool := sml c || grt c
def smd (c : Int) : Bool := sml c || dig c
def grd (c : Int) : Bool := grt c || dig c
def nam (c : Int) : Bool := ltr c || (dig c || c == 45)
def ver (c : Int) : Bool := dig c || c == 46
def blk (c : Int) : Bool := (c == 32 || c == 9) || (c == 10 || c == 13)
def lin (c : Int) : Bool := c != 10
/-- How many that may go on a list begins with. -/
def far (p : Int → Bool) : List Int → Nat
  | [] => 0
  | c :: r => if p c then far p r + 1 else 0
theorem far_le (p : Int → Bool) (l : List Int) : far p l ≤ l.length := by
  induction l with
  | nil => exact Nat.le_refl _
  | cons c r ih => unfold far; split <;> simp <;> omega
end Lex
open Lex

theorem isDigit_any (c : Int) (w : World) : Calls Try.prog 38 #[.int .u8 c] w fun e w' => e = .returned (.bool (dig c)) ∧ w = w' := by
  go_enter Try.func38, Try.ntmps38
  go_wp2_with fail
  all_goals go_ret
  all_goals refine ⟨?_, rfl⟩
  all_goals refine congrArg Ending.returned (congrArg Value.bool ?_)
  all_goals rw [Bool.eq_iff_iff]
  all_goals simp [dig]
  all_goals omega
theorem isSmall_any (c : Int) (w : World) : Calls Try.prog 40 #[.int .u8 c] w fun e w' => e = .returned (.bool (sml c)) ∧ w = w' := by
  go_enter Try.func40, Try.ntmps40
  go_wp2_with fail
  all_goals go_ret
  all_goals refine ⟨?_, rfl⟩
  all_goals refine congrArg Ending.returned (congrArg Value.bool ?_)
  all_goals rw [Bool.eq_iff_iff]
  all_goals simp [sml]
  all_goals omega
theorem isGreat_any (c : Int) (w : World) : Calls Try.prog 42 #[.int .u8 c] w fun e w' => e = .returned (.bool (grt c)) ∧ w = w' := by
  go_enter Try.func42, Try.ntmps42
  go_wp2_with fail
  all_goals go_ret
  all_goals refine ⟨?_, rfl⟩
  all_goals refine congrArg Ending.returned (congrArg Value.bool ?_)
  all_goals rw [Bool.eq_iff_iff]
  all_goals simp [grt]
  all_goals omega
theorem isLetter_any (c : Int) (w : World) : Calls Try.prog 47 #[.int .u8 c] w fun e w' => e = .returned (.bool (ltr c)) ∧ w = w' := by
  have h : (sml c = true ∧ ltr c = true) ∨ (sml c = false ∧ ltr c = grt c) := by unfold ltr; cases sml c <;> simp
  rcases h with ⟨h, h2⟩ | ⟨h, h2⟩
  all_goals
    go_enter Try.func47, Try.ntmps47
    go_wp2_with (first
      | (go_at_call 40; refine (isSmall_any _ _).mono ?_; rintro e w1 ⟨rfl, rfl⟩; rw [h])
      | (go_at_call 42; refine (isGreat_any _ _).mono ?_; rintro e w1 ⟨rfl, rfl⟩))
    go_ret
    rw [h2]
    exact ⟨rfl, rfl⟩
theorem c_blk_any (c : Int) (w : World) : Calls Try.prog 30 #[.int .u8 c] w fun e w' => e = .returned (.bool (blk c)) ∧ w = w' := by
  go_enter Try.func30, Try.ntmps30
  go_wp2
  all_goals go_ret
  all_goals refine ⟨?_, rfl⟩
  all_goals refine congrArg Ending.returned (congrArg Value.bool ?_)
  all_goals rw [Bool.eq_iff_iff]
  all_goals simp [blk]
  all_goals omega
theorem c_smd_any (c : Int) (w : World) : Calls Try.prog 39 #[.int .u8 c] w fun e w' => e = .returned (.bool (smd c)) ∧ w = w' := by
  go_enter Try.func39, Try.ntmps39
  go_wp2
  all_goals go_ret
  all_goals refine ⟨?_, rfl⟩
  all_goals refine congrArg Ending.returned (congrArg Value.bool ?_)
  all_goals rw [Bool.eq_iff_iff]
  all_goals simp [smd, sml, dig]
  all_goals omega
theorem c_grd_any (c : Int) (w : World) : Calls Try.prog 41 #[.int .u8 c] w fun e w' => e = .returned (.bool (grd c)) ∧ w = w' := by
  go_enter Try.func41, Try.ntmps41
  go_wp2
  all_goals go_ret
  all_goals refine ⟨?_, rfl⟩
  all_goals refine congrArg Ending.returned (congrArg Value.bool ?_)
  all_goals rw [Bool.eq_iff_iff]
  all_goals simp [grd, grt, dig]
  all_goals omega
theorem c_lin_any (c : Int) (w : World) : Calls Try.prog 44 #[.int .u8 c] w fun e w' => e = .returned (.bool (lin c)) ∧ w = w' := by
  go_enter Try.func44, Try.ntmps44
  go_wp2
  all_goals go_ret
  all_goals refine ⟨?_, rfl⟩
  all_goals refine congrArg Ending.returned (congrArg Value.bool ?_)
  all_goals rw [Bool.eq_iff_iff]
  all_goals simp [lin]
  all_goals omega
theorem c_nam_any (c : Int) (w : World) : Calls Try.prog 46 #[.int .u8 c] w fun e w' => e = .returned (.bool (nam c)) ∧ w = w' := by
  go_enter Try.func46, Try.ntmps46
  go_wp2
  all_goals go_ret
  all_goals refine ⟨?_, rfl⟩
  all_goals refine congrArg Ending.returned (congrArg Value.bool ?_)
  all_goals rw [Bool.eq_iff_iff]
  all_goals simp [nam, ltr, sml, grt, dig]
  all_goals omega
theorem c_ver_any (c : Int) (w : World) : Calls Try.prog 48 #[.int .u8 c] w fun e w' => e = .returned (.bool (ver c)) ∧ w = w' := by
  go_enter Try.func48, Try.ntmps48
  go_wp2
  all_goals go_ret
  all_goals refine ⟨?_, rfl⟩
  all_goals refine congrArg Ending.returned (congrArg Value.bool ?_)
  all_goals rw [Bool.eq_iff_iff]
  all_goals simp [ver, dig]
  all_goals omega
end Go.Proofs.Ytnnajiaakfeocaa
