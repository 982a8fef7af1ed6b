/- lex: remarks and blanks. -/
import Derived.Test.YtnnajiaakfeocaaLexB
namespace Go.Proofs.Ytnnajiaakfeocaa
open Go.RowKit
open Lex

theorem toList_eq_iff (a b : ByteArray) : a.toList = b.toList ↔ a = b := by
  constructor
  · intro h
    rw [ByteArray.toList_eq, ByteArray.toList_eq] at h
    exact ByteArray.ext (Array.toList_inj.1 h)
  · intro h
    rw [h]
namespace Lex
/-- The text begins so. -/
def pre (p l : List Int) : Bool := p.isPrefixOf l
end Lex
theorem pre_iff (s p : ByteArray) (_h : p.size ≤ s.size) : ((s.extract 0 p.size).toList == p.toList) = pre (bl p) (bl s) := by
  rw [Bool.eq_iff_iff, beq_iff_eq, toList_eq_iff]
  unfold pre
  rw [List.isPrefixOf_iff_prefix]
  constructor
  · intro h2
    have h3 := congrArg bl h2
    rw [bl_take] at h3
    rw [← h3]
    exact List.take_prefix _ _
  · intro h2
    apply bl_inj
    rw [bl_take, ← bl_length]
    exact (List.prefix_iff_eq_take.1 h2).symm
theorem pre_short (s p : ByteArray) (h : s.size < p.size) : pre (bl p) (bl s) = false := by
  unfold pre
  rw [Bool.eq_false_iff]
  intro h2
  have := (List.isPrefixOf_iff_prefix.1 h2).length_le
  rw [bl_length, bl_length] at this
  omega

theorem hasPrefix_any (s p : ByteArray) (w : World) : Calls Try.prog 43 #[.string s, .string p] w fun e w' => e = .returned (.bool (pre (bl p) (bl s))) ∧ w = w' := by
  by_cases h : p.size ≤ s.size
  · have hT := pre_iff s p h
    revert hT
    generalize pre (bl p) (bl s) = b
    intro hT
    go_enter Try.func43, Try.ntmps43
    go_wp2
    all_goals go_ret
    all_goals exact ⟨rfl, rfl⟩
  · have hF := Lib.hid (pre_short s p (by omega))
    go_enter Try.func43, Try.ntmps43
    go_wp2
    all_goals go_ret
    all_goals rw [hF.out]
    all_goals exact ⟨rfl, rfl⟩
end Go.Proofs.Ytnnajiaakfeocaa
