/- lex: may there be such a token; the first one. -/
import Derived.Test.YtnnajiaakfeocaaLexK
namespace Go.Proofs.Ytnnajiaakfeocaa
open Go.RowKit
open Lex

namespace Lex
/-- May there be a token of such a kind and text? -/
def may (k : Nat) (l : List Int) : Bool := if k = 3 then versL l else if k = 4 then (decide (l = [45, 62]) || sgn (l.getD 0 0)) else nameL l
end Lex

set_option maxRecDepth 100000 in
theorem mayBe_ver (S : ByteArray) (hS : S.size ≤ maxLen) (a : Int) (w : World) :
    Calls Try.prog 33 #[.agg #[.int .i64 3, .string S, .int .i64 a]] w fun e w' => e = .returned (.bool (may 3 (bl S))) ∧ Below w.heap.size w w' := by
  have HV := Lib.hid (fun w => Version_any S hS w)
  obtain ⟨b, hb'⟩ : ∃ b, b = may 3 (bl S) := ⟨_, rfl⟩
  have hv : versB S hS = b := by rw [versB_eq, hb']; rfl
  rw [hv] at HV
  rw [← hb']
  clear hv hb'
  have hb := Below.refl w.heap.size w
  go_enter Try.func33, Try.ntmps33
  go_wp2_with (first
    | (go_at_call 16; refine (HV.out _).mono ?_; rintro e w1 ⟨rfl, k1⟩; replace hb := (hb.alloc (Nat.le_refl _) _).trans (k1.mono (by simp)); clear k1))
  go_ret
  exact ⟨rfl, hb⟩
set_option maxRecDepth 100000 in
theorem mayBe_name (k : Nat) (hk3 : k ≠ 3) (hk4 : k ≠ 4) (S : ByteArray) (hS : S.size ≤ maxLen) (a : Int) (w : World) :
    Calls Try.prog 33 #[.agg #[.int .i64 k, .string S, .int .i64 a]] w fun e w' => e = .returned (.bool (may k (bl S))) ∧ Below w.heap.size w w' := by
  have HV := Lib.hid (fun w => Name_any S hS w)
  obtain ⟨b, hb'⟩ : ∃ b, b = may k (bl S) := ⟨_, rfl⟩
  have hv : nameB S hS = b := by rw [nameB_eq, hb']; unfold may; rw [if_neg hk3, if_neg hk4]
  rw [hv] at HV
  rw [← hb']
  have t3 : ((k : Int) == 3) = false := by simp; omega
  have t4 : ((k : Int) == 4) = false := by simp; omega
  clear hv hb' hk3 hk4
  have hb := Below.refl w.heap.size w
  go_enter Try.func33, Try.ntmps33
  go_wp2_with (first
    | (go_at_call 12; refine (HV.out _).mono ?_; rintro e w1 ⟨rfl, k1⟩; replace hb := (hb.alloc (Nat.le_refl _) _).trans (k1.mono (by simp)); clear k1))
  go_ret
  exact ⟨rfl, hb⟩
set_option maxRecDepth 100000 in
theorem mayBe_sign (S : ByteArray) (h1 : S.size = 1) (a : Int) (w : World) :
    Calls Try.prog 33 #[.agg #[.int .i64 4, .string S, .int .i64 a]] w fun e w' => e = .returned (.bool (may 4 (bl S))) ∧ Below w.heap.size w w' := by
  have hv := fun w => contains_any S h1 w
  have hne : (S.toList == [45, 62]) = false := by
    rw [Bool.eq_false_iff]
    intro h
    have h2 := congrArg List.length (beq_iff_eq.1 h)
    rw [ByteArray.toList_eq, Array.length_toList] at h2
    have : S.data.size = 1 := h1
    rw [this] at h2
    simp at h2
  obtain ⟨b, hb'⟩ : ∃ b, b = may 4 (bl S) := ⟨_, rfl⟩
  have hm : b = sgn (S[0].toNat : Int) := by
    rw [hb']
    unfold may
    rw [if_neg (by decide), if_pos rfl, bl_get S 0 (by omega)]
    have : decide (bl S = [45, 62]) = false := by
      rw [decide_eq_false_iff_not]
      intro h
      have h2 := congrArg List.length h
      rw [bl_length, h1] at h2
      simp at h2
    rw [this, Bool.false_or]
  rw [← hm] at hv
  rw [← hb']
  have HV := Lib.hid hv
  clear hv hb' hm h1
  have hb := Below.refl w.heap.size w
  go_enter Try.func33, Try.ntmps33
  go_wp2_with (first
    | (go_at_call 49; refine (HV.out _).mono ?_; rintro e w1 ⟨rfl, rfl⟩))
  go_ret
  exact ⟨rfl, hb.alloc (Nat.le_refl _) _⟩
set_option maxRecDepth 100000 in
theorem mayBe_arrow (S : ByteArray) (h1 : bl S = [45, 62]) (a : Int) (w : World) :
    Calls Try.prog 33 #[.agg #[.int .i64 4, .string S, .int .i64 a]] w fun e w' => e = .returned (.bool (may 4 (bl S))) ∧ Below w.heap.size w w' := by
  have hS : S = ⟨#[45, 62]⟩ := bl_inj h1
  have hne : (S.toList == [45, 62]) = true := by rw [hS, ByteArray.toList_eq]; rfl
  have hm : may 4 (bl S) = true := by rw [h1]; rfl
  rw [hm]
  clear hm h1 hS
  have hb := Below.refl w.heap.size w
  go_enter Try.func33, Try.ntmps33
  go_wp2_with fail
  go_ret
  exact ⟨rfl, hb.alloc (Nat.le_refl _) _⟩
end Go.Proofs.Ytnnajiaakfeocaa
