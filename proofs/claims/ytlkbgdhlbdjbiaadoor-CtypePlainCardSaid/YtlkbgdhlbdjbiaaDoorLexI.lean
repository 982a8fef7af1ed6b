/- lex: versions. -/
import Derived.Test.YtlkbgdhlbdjbiaaDoorLexH
import Derived.Deep.RegionHeld
namespace Go.Proofs.YtlkbgdhlbdjbiaaDoor
open Go.RowKit Go.Shelf
open Lex
attribute [local go_sem] Oper.semAt_some

/-- A version. -/
def versB (s : ByteArray) (hs : s.size ≤ maxLen) : Bool := ((parts s hs 46).all fun x => nbr (bl x.1)) && decide ((parts s hs 46).length = 3)
theorem rst_len (s : ByteArray) (hs : s.size ≤ maxLen) (c : Int) : ∀ (l : List Int) (a i : Nat), (rst s hs c a i l).length ≤ l.length + 1 := by
  intro l
  induction l with
  | nil => intro a i; simp [rst]
  | cons x r ih => intro a i; rw [rst]; split <;> simp <;> (first | exact ih _ _ | exact Nat.le_trans (ih _ _) (by omega))
theorem three {n : Nat} (h : n ≤ 9223372036854775808) : (wrap64 (n : Int) == 3) = decide (n = 3) := by
  by_cases h2 : n = 9223372036854775808
  · subst h2
    have e : wrap64 ((9223372036854775808 : Nat) : Int) = -9223372036854775808 := by unfold wrap64; decide
    rw [e]
    decide
  · rw [IntWalk.wrap64_in _ (by omega), Bool.eq_iff_iff]
    simp
    omega

theorem wrap64_succ (n : Int) : wrap64 (wrap64 n + 1) = wrap64 (n + 1) := by
  unfold wrap64
  omega

end Go.Proofs.YtlkbgdhlbdjbiaaDoor
