/- lex: which bytes may go on, and how far. -/
import Derived.Test.YtlkbgdhlbdjbiaaDoorProg
import Derived.Test.YtlkbgdhlbdjbiaaDoorKitB
import Derived.Test.YtlkbgdhlbdjbiaaDoorBl
namespace Go.Proofs.YtlkbgdhlbdjbiaaDoor
open Go.RowKit

/-! ### plain -/
namespace Lex
def dig (c : Int) : Bool := decide (48 ≤ c ∧ c ≤ 57)
def sml (c : Int) : Bool := decide (97 ≤ c ∧ c ≤ 122)
def grt (c : Int) : Bool := decide (65 ≤ c ∧ c ≤ 90)
def ltr (c : Int) : Bool := sml c || grt c
def smd (c : Int) : Bool := sml c || dig c
def grd (c : Int) : Bool := grt c || dig c
def nam (c : Int) : Bool := ltr c || (dig c || c == 45)
def ver (c : Int) : Bool := dig c || c == 46
def blk (c : Int) : Bool := (c == 32 || c == 9) || (c == 10 || c == 13)
def lin (c : Int) : Bool := c != 10
/-- How many that may go on a list begins with. -/
def far (p : Int → Bool) : List Int → Nat
  | [] => 0
  | c :: r => if p c then far p r + 1 else 0
theorem far_le (p : Int → Bool) (l : List Int) : far p l ≤ l.length := by
  induction l with
  | nil => exact Nat.le_refl _
  | cons c r ih => unfold far; split <;> simp <;> omega
end Lex
open Lex

theorem isDigit_any (c : Int) (w : World) : Calls Tryd.prog 69 #[.int .u8 c] w fun e w' => e = .returned (.bool (dig c)) ∧ w = w' := by
  go_enter Tryd.func69, Tryd.ntmps69
  go_wp2_with fail
  all_goals go_ret
  all_goals refine ⟨?_, rfl⟩
  all_goals refine congrArg Ending.returned (congrArg Value.bool ?_)
  all_goals rw [Bool.eq_iff_iff]
  all_goals simp [dig]
  all_goals omega
theorem isSmall_any (c : Int) (w : World) : Calls Tryd.prog 72 #[.int .u8 c] w fun e w' => e = .returned (.bool (sml c)) ∧ w = w' := by
  go_enter Tryd.func72, Tryd.ntmps72
  go_wp2_with fail
  all_goals go_ret
  all_goals refine ⟨?_, rfl⟩
  all_goals refine congrArg Ending.returned (congrArg Value.bool ?_)
  all_goals rw [Bool.eq_iff_iff]
  all_goals simp [sml]
  all_goals omega
theorem isGreat_any (c : Int) (w : World) : Calls Tryd.prog 74 #[.int .u8 c] w fun e w' => e = .returned (.bool (grt c)) ∧ w = w' := by
  go_enter Tryd.func74, Tryd.ntmps74
  go_wp2_with fail
  all_goals go_ret
  all_goals refine ⟨?_, rfl⟩
  all_goals refine congrArg Ending.returned (congrArg Value.bool ?_)
  all_goals rw [Bool.eq_iff_iff]
  all_goals simp [grt]
  all_goals omega
theorem c_smd_any (c : Int) (w : World) : Calls Tryd.prog 71 #[.int .u8 c] w fun e w' => e = .returned (.bool (smd c)) ∧ w = w' := by
  go_enter Tryd.func71, Tryd.ntmps71
  go_wp2
  all_goals go_ret
  all_goals refine ⟨?_, rfl⟩
  all_goals refine congrArg Ending.returned (congrArg Value.bool ?_)
  all_goals rw [Bool.eq_iff_iff]
  all_goals simp [smd, sml, dig]
  all_goals omega
theorem c_grd_any (c : Int) (w : World) : Calls Tryd.prog 73 #[.int .u8 c] w fun e w' => e = .returned (.bool (grd c)) ∧ w = w' := by
  go_enter Tryd.func73, Tryd.ntmps73
  go_wp2
  all_goals go_ret
  all_goals refine ⟨?_, rfl⟩
  all_goals refine congrArg Ending.returned (congrArg Value.bool ?_)
  all_goals rw [Bool.eq_iff_iff]
  all_goals simp [grd, grt, dig]
  all_goals omega
end Go.Proofs.YtlkbgdhlbdjbiaaDoor
