/- lex: a name's part, a version's number. -/
import Derived.Test.YtlkbgdhlbdjbiaaDoorLexB
namespace Go.Proofs.YtlkbgdhlbdjbiaaDoor
open Go.RowKit
open Lex

namespace Lex
/-- A name's part. -/
def prt : List Int → Bool
  | [] => false
  | c :: r => !dig c && decide (max (far smd (c :: r)) (far grd (c :: r)) = (c :: r).length)
/-- A version's number. -/
def nbr : List Int → Bool
  | [] => false
  | c :: r => decide (r.length ≤ 8) && (decide (r.length = 0) || c != 48) && decide (far dig (c :: r) = (c :: r).length)
end Lex
theorem bl_zero {s : ByteArray} (h : s.size = 0) : bl s = [] := List.length_eq_zero_iff.1 (by rw [bl_length, h])
theorem bl_cons0 {s : ByteArray} (h : 0 < s.size) : ∃ r, bl s = (s[0].toNat : Int) :: r ∧ r.length + 1 = s.size := by
  have h2 := bl_cons (s := s) (k := 0) h
  rw [List.drop_zero, bl_get s 0 h] at h2
  exact ⟨_, h2, by rw [List.length_drop, bl_length]; omega⟩
theorem full_text {s : ByteArray} (h : 0 < s.size) : (s.toList.isEmpty) = false := by
  rw [ByteArray.toList_eq]
  cases hh : s.data.toList with
  | nil =>
    have := congrArg List.length hh
    rw [Array.length_toList] at this
    exact absurd this (by simp; intro e; have : s.size = 0 := by rw [show s.size = s.data.size from rfl, e]; rfl
                          omega)
  | cons a b => rfl
theorem empty_text {s : ByteArray} (h : s.size = 0) : (s.toList.isEmpty) = true := by
  rw [ByteArray.toList_eq]
  have : s.data.toList = [] := List.length_eq_zero_iff.1 (by rw [Array.length_toList]; exact h)
  rw [this]
  rfl

set_option maxRecDepth 100000 in
theorem isPart_any (s : ByteArray) (hs : s.size ≤ maxLen) (w : World) :
    Calls Tryd.prog 62 #[.string s] w fun e w' => e = .returned (.bool (prt (bl s))) ∧ w = w' := by
  by_cases h0 : 0 < s.size
  · obtain ⟨r, hr, hl⟩ := bl_cons0 h0
    have hf := full_text h0
    have HS := Lib.hid (fun w => reach_smd s hs w)
    have HG := Lib.hid (fun w => reach_grd s hs w)
    have ha := far_le smd (bl s)
    have hb := far_le grd (bl s)
    rw [bl_length] at ha hb
    have hmax : s.size ≤ 9223372036854775807 := by unfold maxLen at hs; omega
    obtain ⟨c, hc⟩ : ∃ c : Nat, c = s[0].toNat := ⟨_, rfl⟩
    rw [← hc] at hr
    have hp : prt (bl s) = (!dig c && decide (max (far smd (bl s)) (far grd (bl s)) = s.size)) := by
      rw [hr]
      unfold prt
      simp only [List.length_cons, hl]
    obtain ⟨b, hb'⟩ : ∃ b, b = prt (bl s) := ⟨_, rfl⟩
    rw [← hb'] at hp ⊢
    clear hb' hr hl
    revert HS HG ha hb hp
    generalize far smd (bl s) = x
    generalize far grd (bl s) = y
    intro HS HG ha hb hp
    by_cases hd : dig c = true
    · rw [hd] at hp
      have HP := Lib.hid (show b = false from hp)
      have HD := Lib.hid hd
      clear hp hd
      go_enter Tryd.func62, Tryd.ntmps62
      go_wp2_with (first
        | (go_at_call 69; refine (isDigit_any _ _).mono ?_; rintro e w1 ⟨rfl, rfl⟩; rw [← hc, HD.out]))
      go_ret
      rw [HP.out]
      exact ⟨rfl, rfl⟩
    · rw [not_true hd] at hp
      have HP := Lib.hid (show b = decide (max x y = s.size) from hp)
      have HD := Lib.hid (not_true hd)
      clear hp hd
      go_enter Tryd.func62, Tryd.ntmps62
      go_wp2_with (first
        | (go_at_call 69; refine (isDigit_any _ _).mono ?_; rintro e w1 ⟨rfl, rfl⟩; rw [← hc, HD.out])
        | (go_at_call 70; refine (HS.out _).mono ?_; rintro e w1 ⟨rfl, rfl⟩; clear HS)
        | (go_at_call 70; refine (HG.out _).mono ?_; rintro e w1 ⟨rfl, rfl⟩; clear HG))
      all_goals go_ret
      all_goals rw [HP.out]
      all_goals refine ⟨congrArg (fun z => Ending.returned (.bool z)) ?_, rfl⟩
      all_goals rw [Bool.eq_iff_iff]
      all_goals simp
      all_goals omega
  · have hz : s.size = 0 := by omega
    have he := empty_text hz
    have hp : Hid (prt (bl s) = false) := Lib.hid (by rw [bl_zero hz]; rfl)
    go_enter Tryd.func62, Tryd.ntmps62
    go_wp2_with fail
    go_ret
    rw [hp.out]
    exact ⟨rfl, rfl⟩

end Go.Proofs.YtlkbgdhlbdjbiaaDoor
