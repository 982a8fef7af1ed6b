/- lex -/
import Derived.Test.YtikgkjkgdlnekaaGreatDoorProg
import Derived.Test.YtikgkjkgdlnekaaGreatDoorKitB
import Derived.Test.YtikgkjkgdlnekaaGreatDoorBl
import Derived.RangeFuncNested
import Derived.RangeFuncBound
import Derived.RangeFuncCalls
import Derived.RangeFuncLeaves
import Derived.Shelf.Abstract
import Derived.Shelf.RegionOpen
import Derived.WalkKit
import Derived.OwnWalkIn
import Derived.TacticsInMore
import Derived.LoopNIn
import Derived.LoopIn
import Derived.Deep.RegionHeld
import Derived.Lib.Walk
import Derived.Lib.Slices
import Derived.Lib.Bytealg
/- lex: which bytes may go on, and how far. -/
namespace Go.Proofs.YtikgkjkgdlnekaaGreatDoor
open Go.RowKit

/-! ### plain -/
namespace Lex
def dig (c : Int) : Bool := decide (48 ≤ c ∧ c ≤ 57)
def sml (c : Int) : Bool := decide (97 ≤ c ∧ c ≤ 122)
def grt (c : Int) : Bool := decide (65 ≤ c ∧ c ≤ 90)
def ltr (c : Int) : Bool := sml c || grt c
def smd (c : Int) : Bool := sml c || dig c
def grd (c : Int) : Bool := grt c || dig c
def nam (c : Int) : Bool := ltr c || (dig c || c == 45)
def ver (c : Int) : Bool := dig c || c == 46
def blk (c : Int) : Bool := (c == 32 || c == 9) || (c == 10 || c == 13)
def lin (c : Int) : Bool := c != 10
/-- How many that may go on a list begins with. -/
def far (p : Int → Bool) : List Int → Nat
  | [] => 0
  | c :: r => if p c then far p r + 1 else 0
theorem far_le (p : Int → Bool) (l : List Int) : far p l ≤ l.length := by
  induction l with
  | nil => exact Nat.le_refl _
  | cons c r ih => unfold far; split <;> simp <;> omega
end Lex
open Lex

theorem isDigit_any (c : Int) (w : World) : Calls Tryz.prog 117 #[.int .u8 c] w fun e w' => e = .returned (.bool (dig c)) ∧ w = w' := by
  go_enter Tryz.func117, Tryz.ntmps117
  go_wp2_with fail
  all_goals go_ret
  all_goals refine ⟨?_, rfl⟩
  all_goals refine congrArg Ending.returned (congrArg Value.bool ?_)
  all_goals rw [Bool.eq_iff_iff]
  all_goals simp [dig]
  all_goals omega
theorem isSmall_any (c : Int) (w : World) : Calls Tryz.prog 120 #[.int .u8 c] w fun e w' => e = .returned (.bool (sml c)) ∧ w = w' := by
  go_enter Tryz.func120, Tryz.ntmps120
  go_wp2_with fail
  all_goals go_ret
  all_goals refine ⟨?_, rfl⟩
  all_goals refine congrArg Ending.returned (congrArg Value.bool ?_)
  all_goals rw [Bool.eq_iff_iff]
  all_goals simp [sml]
  all_goals omega
theorem isGreat_any (c : Int) (w : World) : Calls Tryz.prog 122 #[.int .u8 c] w fun e w' => e = .returned (.bool (grt c)) ∧ w = w' := by
  go_enter Tryz.func122, Tryz.ntmps122
  go_wp2_with fail
  all_goals go_ret
  all_goals refine ⟨?_, rfl⟩
  all_goals refine congrArg Ending.returned (congrArg Value.bool ?_)
  all_goals rw [Bool.eq_iff_iff]
  all_goals simp [grt]
  all_goals omega
theorem c_smd_any (c : Int) (w : World) : Calls Tryz.prog 119 #[.int .u8 c] w fun e w' => e = .returned (.bool (smd c)) ∧ w = w' := by
  go_enter Tryz.func119, Tryz.ntmps119
  go_wp2
  all_goals go_ret
  all_goals refine ⟨?_, rfl⟩
  all_goals refine congrArg Ending.returned (congrArg Value.bool ?_)
  all_goals rw [Bool.eq_iff_iff]
  all_goals simp [smd, sml, dig]
  all_goals omega
theorem c_grd_any (c : Int) (w : World) : Calls Tryz.prog 121 #[.int .u8 c] w fun e w' => e = .returned (.bool (grd c)) ∧ w = w' := by
  go_enter Tryz.func121, Tryz.ntmps121
  go_wp2
  all_goals go_ret
  all_goals refine ⟨?_, rfl⟩
  all_goals refine congrArg Ending.returned (congrArg Value.bool ?_)
  all_goals rw [Bool.eq_iff_iff]
  all_goals simp [grd, grt, dig]
  all_goals omega
end Go.Proofs.YtikgkjkgdlnekaaGreatDoor

/- lex: reach. -/
namespace Go.Proofs.YtikgkjkgdlnekaaGreatDoor
open Go.RowKit
open Lex

theorem far_next {p : Int → Bool} {l : List Int} {c : Int} (h : p c = true) : far p (c :: l) = far p l + 1 := by rw [far, if_pos h]
theorem far_stop {p : Int → Bool} {l : List Int} {c : Int} (h : p c = false) : far p (c :: l) = 0 := by rw [far, if_neg (by rw [h]; decide)]
set_option maxRecDepth 100000 in
theorem reach_dig (s : ByteArray) (hs : s.size ≤ maxLen) (w : World) :
    Calls Tryz.prog 118 #[.string s, .func (.func 117) #[] #[]] w fun e w' => e = .returned (.int .i64 (far dig (bl s) : Nat)) ∧ w = w' := by
  unfold maxLen at hs
  obtain ⟨F, hF⟩ : ∃ F : Nat, F = far dig (bl s) := ⟨_, rfl⟩
  rw [← hF]
  have HF := Lib.hid hF
  clear hF
  go_enter Tryz.func118, Tryz.ntmps118
  go_wp2_with fail
  go_loop [5] (fun v => ∃ n : Nat, v = .int .i64 n ∧ n ≤ s.size ∧ F = n + far dig ((bl s).drop n)) (fun v => s.size - (intOf v).toNat)
  case atStart => exact ⟨0, rfl, by omega, by rw [HF.out]; simp⟩
  case round =>
    obtain ⟨n, rfl, hn, hfar⟩ := hrel
    by_cases hlt : n < s.size
    · rw [bl_cons hlt, bl_get s n hlt] at hfar
      obtain ⟨c, hc⟩ : ∃ c : Nat, c = s[n].toNat := ⟨_, rfl⟩
      rw [← hc] at hfar
      by_cases hp : dig c = true
      · rw [far_next hp] at hfar
        have HR := Lib.hid hfar
        have HP := Lib.hid hp
        clear hfar hp
        go_wp2_with (go_at_call 117; refine (isDigit_any _ _).mono ?_; rintro e w1 ⟨rfl, rfl⟩; rw [← hc, HP.out])
        exact ⟨⟨n + 1, by go_num, by omega, by rw [HR.out]; omega⟩, by simp [intOf]; omega⟩
      · rw [far_stop (not_true hp)] at hfar
        have HR := Lib.hid hfar
        have HP := Lib.hid (not_true hp)
        clear hfar hp
        go_wp2_with (go_at_call 117; refine (isDigit_any _ _).mono ?_; rintro e w1 ⟨rfl, rfl⟩; rw [← hc, HP.out])
        go_ret
        rw [HR.out]
        exact ⟨rfl, rfl⟩
    · rw [bl_over (by omega)] at hfar
      have HR := Lib.hid (show F = n from hfar)
      have hl : n = s.size := by omega
      subst hl
      clear hfar
      go_wp2_with fail
      go_ret
      rw [HR.out]
      exact ⟨rfl, rfl⟩
set_option maxRecDepth 100000 in
theorem reach_smd (s : ByteArray) (hs : s.size ≤ maxLen) (w : World) :
    Calls Tryz.prog 118 #[.string s, .func (.func 119) #[] #[]] w fun e w' => e = .returned (.int .i64 (far smd (bl s) : Nat)) ∧ w = w' := by
  unfold maxLen at hs
  obtain ⟨F, hF⟩ : ∃ F : Nat, F = far smd (bl s) := ⟨_, rfl⟩
  rw [← hF]
  have HF := Lib.hid hF
  clear hF
  go_enter Tryz.func118, Tryz.ntmps118
  go_wp2_with fail
  go_loop [5] (fun v => ∃ n : Nat, v = .int .i64 n ∧ n ≤ s.size ∧ F = n + far smd ((bl s).drop n)) (fun v => s.size - (intOf v).toNat)
  case atStart => exact ⟨0, rfl, by omega, by rw [HF.out]; simp⟩
  case round =>
    obtain ⟨n, rfl, hn, hfar⟩ := hrel
    by_cases hlt : n < s.size
    · rw [bl_cons hlt, bl_get s n hlt] at hfar
      obtain ⟨c, hc⟩ : ∃ c : Nat, c = s[n].toNat := ⟨_, rfl⟩
      rw [← hc] at hfar
      by_cases hp : smd c = true
      · rw [far_next hp] at hfar
        have HR := Lib.hid hfar
        have HP := Lib.hid hp
        clear hfar hp
        go_wp2_with (go_at_call 119; refine (c_smd_any _ _).mono ?_; rintro e w1 ⟨rfl, rfl⟩; rw [← hc, HP.out])
        exact ⟨⟨n + 1, by go_num, by omega, by rw [HR.out]; omega⟩, by simp [intOf]; omega⟩
      · rw [far_stop (not_true hp)] at hfar
        have HR := Lib.hid hfar
        have HP := Lib.hid (not_true hp)
        clear hfar hp
        go_wp2_with (go_at_call 119; refine (c_smd_any _ _).mono ?_; rintro e w1 ⟨rfl, rfl⟩; rw [← hc, HP.out])
        go_ret
        rw [HR.out]
        exact ⟨rfl, rfl⟩
    · rw [bl_over (by omega)] at hfar
      have HR := Lib.hid (show F = n from hfar)
      have hl : n = s.size := by omega
      subst hl
      clear hfar
      go_wp2_with fail
      go_ret
      rw [HR.out]
      exact ⟨rfl, rfl⟩
set_option maxRecDepth 100000 in
theorem reach_grd (s : ByteArray) (hs : s.size ≤ maxLen) (w : World) :
    Calls Tryz.prog 118 #[.string s, .func (.func 121) #[] #[]] w fun e w' => e = .returned (.int .i64 (far grd (bl s) : Nat)) ∧ w = w' := by
  unfold maxLen at hs
  obtain ⟨F, hF⟩ : ∃ F : Nat, F = far grd (bl s) := ⟨_, rfl⟩
  rw [← hF]
  have HF := Lib.hid hF
  clear hF
  go_enter Tryz.func118, Tryz.ntmps118
  go_wp2_with fail
  go_loop [5] (fun v => ∃ n : Nat, v = .int .i64 n ∧ n ≤ s.size ∧ F = n + far grd ((bl s).drop n)) (fun v => s.size - (intOf v).toNat)
  case atStart => exact ⟨0, rfl, by omega, by rw [HF.out]; simp⟩
  case round =>
    obtain ⟨n, rfl, hn, hfar⟩ := hrel
    by_cases hlt : n < s.size
    · rw [bl_cons hlt, bl_get s n hlt] at hfar
      obtain ⟨c, hc⟩ : ∃ c : Nat, c = s[n].toNat := ⟨_, rfl⟩
      rw [← hc] at hfar
      by_cases hp : grd c = true
      · rw [far_next hp] at hfar
        have HR := Lib.hid hfar
        have HP := Lib.hid hp
        clear hfar hp
        go_wp2_with (go_at_call 121; refine (c_grd_any _ _).mono ?_; rintro e w1 ⟨rfl, rfl⟩; rw [← hc, HP.out])
        exact ⟨⟨n + 1, by go_num, by omega, by rw [HR.out]; omega⟩, by simp [intOf]; omega⟩
      · rw [far_stop (not_true hp)] at hfar
        have HR := Lib.hid hfar
        have HP := Lib.hid (not_true hp)
        clear hfar hp
        go_wp2_with (go_at_call 121; refine (c_grd_any _ _).mono ?_; rintro e w1 ⟨rfl, rfl⟩; rw [← hc, HP.out])
        go_ret
        rw [HR.out]
        exact ⟨rfl, rfl⟩
    · rw [bl_over (by omega)] at hfar
      have HR := Lib.hid (show F = n from hfar)
      have hl : n = s.size := by omega
      subst hl
      clear hfar
      go_wp2_with fail
      go_ret
      rw [HR.out]
      exact ⟨rfl, rfl⟩
end Go.Proofs.YtikgkjkgdlnekaaGreatDoor

/- lex: a name's part, a version's number. -/
namespace Go.Proofs.YtikgkjkgdlnekaaGreatDoor
open Go.RowKit
open Lex

namespace Lex
/-- A name's part. -/
def prt : List Int → Bool
  | [] => false
  | c :: r => !dig c && decide (max (far smd (c :: r)) (far grd (c :: r)) = (c :: r).length)
/-- A version's number. -/
def nbr : List Int → Bool
  | [] => false
  | c :: r => decide (r.length ≤ 8) && (decide (r.length = 0) || c != 48) && decide (far dig (c :: r) = (c :: r).length)
end Lex
theorem bl_zero {s : ByteArray} (h : s.size = 0) : bl s = [] := List.length_eq_zero_iff.1 (by rw [bl_length, h])
theorem bl_cons0 {s : ByteArray} (h : 0 < s.size) : ∃ r, bl s = (s[0].toNat : Int) :: r ∧ r.length + 1 = s.size := by
  have h2 := bl_cons (s := s) (k := 0) h
  rw [List.drop_zero, bl_get s 0 h] at h2
  exact ⟨_, h2, by rw [List.length_drop, bl_length]; omega⟩
theorem full_text {s : ByteArray} (h : 0 < s.size) : (s.toList.isEmpty) = false := by
  rw [ByteArray.toList_eq]
  cases hh : s.data.toList with
  | nil =>
    have := congrArg List.length hh
    rw [Array.length_toList] at this
    exact absurd this (by simp; intro e; have : s.size = 0 := by rw [show s.size = s.data.size from rfl, e]; rfl
                          omega)
  | cons a b => rfl
theorem empty_text {s : ByteArray} (h : s.size = 0) : (s.toList.isEmpty) = true := by
  rw [ByteArray.toList_eq]
  have : s.data.toList = [] := List.length_eq_zero_iff.1 (by rw [Array.length_toList]; exact h)
  rw [this]
  rfl

set_option maxRecDepth 100000 in
theorem isPart_any (s : ByteArray) (hs : s.size ≤ maxLen) (w : World) :
    Calls Tryz.prog 103 #[.string s] w fun e w' => e = .returned (.bool (prt (bl s))) ∧ w = w' := by
  by_cases h0 : 0 < s.size
  · obtain ⟨r, hr, hl⟩ := bl_cons0 h0
    have hf := full_text h0
    have HS := Lib.hid (fun w => reach_smd s hs w)
    have HG := Lib.hid (fun w => reach_grd s hs w)
    have ha := far_le smd (bl s)
    have hb := far_le grd (bl s)
    rw [bl_length] at ha hb
    have hmax : s.size ≤ 9223372036854775807 := by unfold maxLen at hs; omega
    obtain ⟨c, hc⟩ : ∃ c : Nat, c = s[0].toNat := ⟨_, rfl⟩
    rw [← hc] at hr
    have hp : prt (bl s) = (!dig c && decide (max (far smd (bl s)) (far grd (bl s)) = s.size)) := by
      rw [hr]
      unfold prt
      simp only [List.length_cons, hl]
    obtain ⟨b, hb'⟩ : ∃ b, b = prt (bl s) := ⟨_, rfl⟩
    rw [← hb'] at hp ⊢
    clear hb' hr hl
    revert HS HG ha hb hp
    generalize far smd (bl s) = x
    generalize far grd (bl s) = y
    intro HS HG ha hb hp
    by_cases hd : dig c = true
    · rw [hd] at hp
      have HP := Lib.hid (show b = false from hp)
      have HD := Lib.hid hd
      clear hp hd
      go_enter Tryz.func103, Tryz.ntmps103
      go_wp2_with (first
        | (go_at_call 117; refine (isDigit_any _ _).mono ?_; rintro e w1 ⟨rfl, rfl⟩; rw [← hc, HD.out]))
      go_ret
      rw [HP.out]
      exact ⟨rfl, rfl⟩
    · rw [not_true hd] at hp
      have HP := Lib.hid (show b = decide (max x y = s.size) from hp)
      have HD := Lib.hid (not_true hd)
      clear hp hd
      go_enter Tryz.func103, Tryz.ntmps103
      go_wp2_with (first
        | (go_at_call 117; refine (isDigit_any _ _).mono ?_; rintro e w1 ⟨rfl, rfl⟩; rw [← hc, HD.out])
        | (go_at_call 118; refine (HS.out _).mono ?_; rintro e w1 ⟨rfl, rfl⟩; clear HS)
        | (go_at_call 118; refine (HG.out _).mono ?_; rintro e w1 ⟨rfl, rfl⟩; clear HG))
      all_goals go_ret
      all_goals rw [HP.out]
      all_goals refine ⟨congrArg (fun z => Ending.returned (.bool z)) ?_, rfl⟩
      all_goals rw [Bool.eq_iff_iff]
      all_goals simp
      all_goals omega
  · have hz : s.size = 0 := by omega
    have he := empty_text hz
    have hp : Hid (prt (bl s) = false) := Lib.hid (by rw [bl_zero hz]; rfl)
    go_enter Tryz.func103, Tryz.ntmps103
    go_wp2_with fail
    go_ret
    rw [hp.out]
    exact ⟨rfl, rfl⟩

end Go.Proofs.YtikgkjkgdlnekaaGreatDoor

/- lex: the iterator of a text's parts. -/
namespace Go.Proofs.YtikgkjkgdlnekaaGreatDoor
open Go.RowKit Go.Shelf
open Lex
attribute [local go_sem] Oper.semAt_some

/-- A text, as long as there may be one. -/
abbrev Txt := { x : ByteArray // x.size ≤ maxLen }
def sub (s : ByteArray) (hs : s.size ≤ maxLen) (a b : Nat) : Txt := ⟨s.extract a b, by rw [ByteArray.size_extract]; omega⟩
/-- The parts that are left: the one under way begins at a, i bytes were looked at. -/
def rst (s : ByteArray) (hs : s.size ≤ maxLen) (c : Int) : Nat → Nat → List Int → List Txt
  | a, _, [] => [sub s hs a s.size]
  | a, i, x :: r => if x = c then sub s hs a i :: rst s hs c (i + 1) (i + 1) r else rst s hs c a (i + 1) r
def parts (s : ByteArray) (hs : s.size ≤ maxLen) (c : Int) : List Txt := rst s hs c 0 0 (bl s)

/-- What a round keeps: two boxes. -/
def KpB (B : Nat) (W W' : World) : Prop := ∀ b, (b = B ∨ b = B + 1) → W'.cell? ⟨b, 0, none⟩ = W.cell? ⟨b, 0, none⟩

set_option maxRecDepth 100000 in
set_option maxHeartbeats 2000000 in
theorem parts1_in (F : Fence) (n : Nat) (hf : F.fn 116) (hro : F.round = none) (hn : 1 ≤ n) (l Bs : Nat) (s : ByteArray) (hs : s.size ≤ maxLen) (c : Nat) (J Jx : List Txt → World → Prop)
    (hY : ∀ pre x W, J pre W → pre.length < (parts s hs c).length → YieldAt F (n - 1) Tryz.prog l #[.string x.1] W fun e W' =>
      (e = .returned (.bool true) ∧ J (pre ++ [x]) W' ∧ KpB Bs W W') ∨ (e = .returned (.bool false) ∧ Jx (pre ++ [x]) W'))
    (W : World) (hBs : W.cell? ⟨Bs, 0, none⟩ = some (.string s)) (hBc : W.cell? ⟨Bs + 1, 0, none⟩ = some (.int .u8 c)) (hJd : ∀ p W, J p W → J p W.drew) (h0 : J [] W) :
    CallsIn F n Tryz.prog 116 #[.func (.yield l) #[] #[], .pointer (some ⟨Bs, 0, none⟩), .pointer (some ⟨Bs + 1, 0, none⟩)] W fun e W' => (∃ v, e = .returned v) ∧
      ((∃ ys, ys = parts s hs c ∧ J ys W') ∨ (∃ pre, pre <+: parts s hs c ∧ Jx pre W')) := by
  have hmax : s.size ≤ 9223372036854775807 := by unfold maxLen at hs; omega
  refine callsIn_of_wp Tryz.func116 rfl hf ?_ hro
  simp only [Tryz.ntmps116, List.size_toArray, List.length_cons, List.length_nil, Nat.reduceAdd, Nat.reduceSub, Array.replicate_succ, Array.replicate_zero, List.push_toArray, List.append_toArray, List.nil_append, List.cons_append]
  gi_wp2
  gi_loopw [4, 8] (fun fv iv wr => ∃ (a i : Nat) (pre : List Txt), fv = .int .i64 a ∧ iv = .int .i64 i ∧ a ≤ i ∧ i ≤ s.size ∧ parts s hs c = pre ++ rst s hs c a i ((bl s).drop i) ∧ J pre wr ∧ wr.cell? ⟨Bs, 0, none⟩ = some (.string s) ∧ wr.cell? ⟨Bs + 1, 0, none⟩ = some (.int .u8 c))
    (fun _ iv _ => s.size - (intOf iv).toNat)
  case atStart => exact ⟨0, 0, [], rfl, rfl, by omega, by omega, rfl, h0, hBs, hBc⟩
  case round =>
    obtain ⟨a, i, pre, rfl, rfl, hai, hi, hparts, hJs, hc1, hc2⟩ := hrel
    by_cases hlt : i < s.size
    · rw [bl_cons hlt, bl_get s i hlt, rst] at hparts
      by_cases hx : ((s[i].toNat : Int)) = (c : Int)
      · rw [if_pos hx] at hparts
        have hlen : pre.length < (parts s hs c).length := by rw [hparts]; simp
        obtain ⟨fn, tmps, assign, body, hy, hR⟩ := hY pre (sub s hs a i) wr.drew (hJd _ _ hJs) hlen
        dsimp only [sub] at hy
        have hne : (((s[i].toNat : Int)) != (c : Int)) = false := by simpa using hx
        have hmx : Tryz.prog.follows .mixedOrders = true := by kernel_rfl
        have HP := Lib.hid hparts
        have HX := Lib.hid hx
        clear hparts hx
        gi_wp2
        gi_region_o
        all_goals gi_wp2
        all_goals
          refine hR.mono ?_
          rintro e W3 (⟨rfl, hJ3, hk3⟩ | ⟨rfl, hJx3⟩)
          · have g1 : W3.cell? ⟨Bs, 0, none⟩ = some (.string s) := (hk3 Bs (.inl rfl)).trans hc1
            have g2 : W3.cell? ⟨Bs + 1, 0, none⟩ = some (.int .u8 c) := (hk3 (Bs + 1) (.inr rfl)).trans hc2
            gi_wp2
            exact ⟨⟨i + 1, i + 1, pre ++ [sub s hs a i], by go_num, by go_num, by omega, by omega, by rw [HP.out]; simp, hJ3, g1, g2⟩, by simp [intOf]; omega⟩
          · gi_wp2
            refine bodyPost_ret (results_none rfl _ _ _) rfl ?_
            exact ⟨⟨_, rfl⟩, .inr ⟨pre ++ [sub s hs a i], by rw [HP.out]; exact ⟨rst s hs c (i + 1) (i + 1) ((bl s).drop (i + 1)), by simp⟩, hJx3⟩⟩
      · rw [if_neg hx] at hparts
        have hne : (((s[i].toNat : Int)) != (c : Int)) = true := by simpa using hx
        have hmx : Tryz.prog.follows .mixedOrders = true := by kernel_rfl
        have HP := Lib.hid hparts
        clear hparts hx
        gi_wp2
        gi_region_o
        all_goals gi_wp2
        all_goals exact ⟨⟨a, i + 1, pre, rfl, by go_num, by omega, by omega, HP.out, hJd _ _ hJs, hc1, hc2⟩, by simp [intOf]; omega⟩
    · rw [bl_over (by omega), rst] at hparts
      have hlen : pre.length < (parts s hs c).length := by rw [hparts]; simp
      obtain ⟨fn, tmps, assign, body, hy, hR⟩ := hY pre (sub s hs a s.size) wr hJs hlen
      dsimp only [sub] at hy
      have hil : i = s.size := by omega
      subst hil
      have HP := Lib.hid hparts
      clear hparts
      gi_wp2
      refine hR.mono ?_
      rintro e W3 (⟨rfl, hJ3, hk3⟩ | ⟨rfl, hJx3⟩)
      · gi_wp2
        go_end0
        exact ⟨⟨_, rfl⟩, .inl ⟨pre ++ [sub s hs a s.size], HP.out.symm, hJ3⟩⟩
      · gi_wp2
        go_end0
        exact ⟨⟨_, rfl⟩, .inr ⟨pre ++ [sub s hs a s.size], by rw [HP.out]; exact List.prefix_refl _, hJx3⟩⟩
end Go.Proofs.YtikgkjkgdlnekaaGreatDoor

/- lex: names. -/
namespace Go.Proofs.YtikgkjkgdlnekaaGreatDoor
open Go.RowKit Go.Shelf
open Lex
attribute [local go_sem] Oper.semAt_some

theorem parts_in (F : Fence) (n : Nat) (hf : F.fn 102) (hro : F.round = none) (s : ByteArray) (c : Int) (w : World) :
    CallsIn F n Tryz.prog 102 #[.string s, .int .u8 c] w fun e w' => e = .returned (.func (.func 116) #[] #[.pointer (some ⟨w.heap.size, 0, none⟩), .pointer (some ⟨w.heap.size + 1, 0, none⟩)]) ∧ w' = (w.alloc (.cells #[.string s] 9)).alloc (.cells #[.int .u8 c] 5) := by
  refine callsIn_of_wp Tryz.func102 rfl hf ?_ hro
  simp only [Tryz.ntmps102, List.size_toArray, List.length_cons, List.length_nil, Nat.reduceAdd, Nat.reduceSub, Array.replicate_succ, Array.replicate_zero, List.push_toArray, List.append_toArray, List.nil_append, List.cons_append]
  gi_wp2
  go_ret
  exact ⟨rfl, rfl⟩

theorem parts_stops (F : Fence) (n : Nat) (hf : F.fn 116) (hro : F.round = none) (hn : 1 ≤ n) (Bs : Nat) (s : ByteArray) (hs : s.size ≤ maxLen) (c : Nat) (w : World) (hb : Bs + 1 < w.heap.size)
    (hc1 : w.cell? ⟨Bs, 0, none⟩ = some (.string s)) (hc2 : w.cell? ⟨Bs + 1, 0, none⟩ = some (.int .u8 c)) :
    SeqStopsK F n Tryz.prog 116 #[.pointer (some ⟨Bs, 0, none⟩), .pointer (some ⟨Bs + 1, 0, none⟩)] (fun x : Txt => #[Value.string x.1]) (KpB Bs) (fun ys => ys = parts s hs c) (fun pre => pre <+: parts s hs c) (parts s hs c).length w := fun l J Jx W hW hJ _ hY h0 =>
  parts1_in F n hf hro hn l Bs s hs c J Jx hY W ((hW.cell (p := ⟨Bs, 0, none⟩) (by show Bs < _; omega)).trans hc1) ((hW.cell (p := ⟨Bs + 1, 0, none⟩) hb).trans hc2) (fun p W' hp => hJ p W' W'.drew none hp ⟨rfl, rfl, rfl, Nat.le_refl _, fun _ _ _ => rfl⟩ (fun r e => by cases e)) h0

theorem KpB_b {B : Nat} {w : World} (hB : B + 1 < w.heap.size) (W : World) (l : Nat) (o o' : Obj) (hl : w.heap.size ≤ l) (h : W.heap[l]? = some o) (_ : o.isCells = false) (_ : o.isWalk = false) : KpB B W (W.putObj l o') := by
  have hb := (Below.refl (B + 2) W).grown (grownBy_putObj' W l o') (by have := (Array.getElem?_eq_some_iff.1 h).1; omega) (fun k e => by cases e; omega)
  rintro b (rfl | rfl)
  · exact hb.cell (p := ⟨b, 0, none⟩) (by show b < b + 2; omega)
  · exact hb.cell (p := ⟨B + 1, 0, none⟩) (by show B + 1 < B + 2; omega)
theorem KpB_t {B : Nat} {X Y Z : World} (h : KpB B X Y) (k : KpB B Y Z) : KpB B X Z := fun b hb => (k b hb).trans (h b hb)
theorem KpB_below {B n₀ : Nat} {X Y : World} (h : Below n₀ X Y) (hB : B + 1 < n₀) : KpB B X Y := by
  rintro b (rfl | rfl)
  · exact h.cell (p := ⟨b, 0, none⟩) (by show b < n₀; omega)
  · exact h.cell (p := ⟨B + 1, 0, none⟩) hB
theorem KpB_refl (B : Nat) (W : World) : KpB B W W := fun _ _ => rfl

/-- A name. -/
def nameB (s : ByteArray) (hs : s.size ≤ maxLen) : Bool := decide (s.size ≤ 100) && (parts s hs 45).all fun x => prt (bl x.1)

set_option maxRecDepth 100000 in
set_option maxHeartbeats 2000000 in
theorem Name_go (s : ByteArray) (hs : s.size ≤ maxLen) (h100 : s.size ≤ 100) (w : World) :
    Calls Tryz.prog 86 #[.string s] w fun e W' => e = .returned (.bool ((parts s hs 45).all fun x => prt (bl x.1))) ∧ Below w.heap.size w W' := by
  refine (callsIn_wide (n := 3)).1 ?_
  refine callsIn_of_wp_marks Tryz.func86 rfl trivial ?_ rfl
  simp only [Tryz.ntmps86, List.size_toArray, List.length_cons, List.length_nil, Nat.reduceAdd, Nat.reduceSub, Array.replicate_succ, Array.replicate_zero, List.push_toArray, List.append_toArray, List.nil_append, List.cons_append]
  gi_wp2_with (refine ⟨trivial, ?_⟩; gi_at_call 102; refine (parts_in Fence.wide _ trivial rfl _ _ _).mono ?_; rintro e w' ⟨rfl, rfl⟩)
  have bR := Boxed.new w 4 (.bool false)
  have bS := Boxed.new (w.alloc (.cells #[.bool false] 4)) 9 (.string s)
  have bC := Boxed.new ((w.alloc (.cells #[.bool false] 4)).alloc (.cells #[.string s] 9)) 5 (.int .u8 45)
  simp only [World.size_alloc] at bS bC
  have hB0 : Below w.heap.size w (((w.alloc (.cells #[.bool false] 4)).alloc (.cells #[.string s] 9)).alloc (.cells #[.int .u8 45] 5)) := (((Below.refl _ w).alloc (Nat.le_refl _) _).alloc (by simp) _).alloc (by simp; omega) _
  refine wpIn_rangeFunc_ownG rfl (by decide) (gf := 116) (lb := #[.pointer (some ⟨w.heap.size + 1, 0, none⟩), .pointer (some ⟨w.heap.size + 1 + 1, 0, none⟩)]) rfl trivial (enters_of Tryz.func116 (by kernel_rfl) rfl)
    (parts_stops Fence.wide _ trivial rfl (by decide) (w.heap.size + 1) s hs 45 _ (by simp) (bS.alloc _).cell bC.cell) KpB_t (KpB_b (by simp)) (Below.refl _ _) (fun _ => rfl)
    (fun pre W => ((∀ p ∈ pre, prt (bl p.1) = true) ∧ W.cell? ⟨w.heap.size, 0, none⟩ = some (.bool false) ∧ W.frozen? ⟨w.heap.size, 0, none⟩ = false) ∧ Below w.heap.size w W)
    (fun c pre W => (c = .ret ∧ (∃ last ∈ pre, prt (bl last.1) = false) ∧ W.cell? ⟨w.heap.size, 0, none⟩ = some (.bool false)) ∧ Below w.heap.size w W)
    (OwnFrom.and (Own.from (fun s A B row hs hg hr => ⟨hs.1, cell_kept hs.2.1 hg hr, (frozen_kept hs.2.1 hg hr).trans hs.2.2⟩) _) (ownFrom_below (Nat.le_refl _) (by simp; omega)))
    (fun c => OwnFrom.and (Own.from (fun s A B row hs hg hr => ⟨hs.1, hs.2.1, cell_kept hs.2.2 hg hr⟩) _) (ownFrom_below (Nat.le_refl _) (by simp; omega)))
    ⟨⟨by simp, ((bR.alloc _).alloc _).cell, ((bR.alloc _).alloc _).frozen⟩, hB0⟩
    (fun x => { tmps := #[.string s, undef, .pointer (some ⟨w.heap.size, 0, none⟩), .string x.1, .string s, .int .i64 s.size, .bool (decide (100 < (s.size : Int))), .string s, .func (.func 116) #[] #[.pointer (some ⟨w.heap.size + 1, 0, none⟩), .pointer (some ⟨w.heap.size + 1 + 1, 0, none⟩)], .string x.1, undef, undef, undef], defers := [] }) ?assign ?body ?done ?stop
  case assign =>
    intro l x W K hK
    gi_wp2
    exact hK
  case body =>
    rintro l pre x W ⟨⟨hp, hcr, hfr⟩, hB⟩ _
    by_cases hx : prt (bl x.1) = true
    · have HX := Lib.hid hx
      clear hx
      gi_wp2_with (refine ⟨trivial, ?_⟩; gi_at_call 103; refine (CallsIn.inRound l (callsIn_wide.2 (isPart_any x.1 x.2 _))).mono ?_; rintro e w' ⟨rfl, rfl⟩; rw [HX.out])
      exact ⟨KeepsFrom.refl _ _, KpB_refl _ _, ⟨fun p hp' => (List.mem_append.1 hp').elim (hp p) (fun e => by simp at e; subst e; exact HX.out), hcr, hfr⟩, hB⟩
    · have HX := Lib.hid (not_true hx)
      clear hx
      gi_wp2_with (refine ⟨trivial, ?_⟩; gi_at_call 103; refine (CallsIn.inRound l (callsIn_wide.2 (isPart_any x.1 x.2 _))).mono ?_; rintro e w' ⟨rfl, rfl⟩; rw [HX.out])
      exact ⟨(KeepsOthers.setCell _ _ _).from _, ⟨rfl, ⟨x, by simp, HX.out⟩, World.cell?_setCell_same' _ _ _ (by rw [hcr]; rfl)⟩, hB.setCell (p := ⟨w.heap.size, 0, none⟩) (Nat.le_refl _) _⟩
  case done =>
    rintro D ys W hD rfl ⟨⟨hall, hcr, hfr⟩, hB⟩ hK
    gi_wp2
    have hK' := (KeepsOthers.setCell W ⟨w.heap.size, 0, none⟩ (.bool true)).same D _ hK rfl
    refine ⟨by simp, .inl ⟨_, _, rfl, run_takeDeferred hK', ?_⟩⟩
    have hc5 := cell_kept (World.cell?_setCell_same' W ⟨w.heap.size, 0, none⟩ (.bool true) (by rw [hcr]; rfl)) (grownBy_putObj' _ D (.deferred none)) (fun r e => by cases e; exact ⟨_, hK', rfl⟩)
    refine ⟨.bool true, ?_, by rw [show ((parts s hs 45).all fun x => prt (bl x.1)) = true from List.all_eq_true.2 hall], (hB.setCell (p := ⟨w.heap.size, 0, none⟩) (Nat.le_refl _) _).trans (belowK_b (w := w) (Nat.le_refl _) _ D _ _ (by simp at hD; omega) hK' rfl rfl)⟩
    simp [results, Tryz.f86, go_sem, hc5]
  case stop =>
    rintro D c pre W hD hpre ⟨⟨rfl, ⟨last, hlast, hbad⟩, hcr⟩, hB⟩ hK
    gi_wp2
    refine ⟨by simp, .inl ⟨_, _, rfl, run_takeDeferred hK, ?_⟩⟩
    have hc5 := cell_kept hcr (grownBy_putObj' _ D (.deferred none)) (fun r e => by cases e; exact ⟨_, hK, rfl⟩)
    refine ⟨.bool false, ?_, ?_, hB.trans (belowK_b (w := w) (Nat.le_refl _) W D _ _ (by simp at hD; omega) hK rfl rfl)⟩
    · simp [results, Tryz.f86, go_sem, hc5]
    · have : ((parts s hs 45).all fun x => prt (bl x.1)) = false := by
        rw [Bool.eq_false_iff]
        intro h
        have := List.all_eq_true.1 h last (hpre.subset hlast)
        rw [hbad] at this
        cases this
      rw [this]
theorem Name_any (s : ByteArray) (hs : s.size ≤ maxLen) (w : World) :
    Calls Tryz.prog 86 #[.string s] w fun e W' => e = .returned (.bool (nameB s hs)) ∧ Below w.heap.size w W' := by
  unfold nameB
  by_cases h100 : s.size ≤ 100
  · rw [decide_eq_true h100, Bool.true_and]
    exact Name_go s hs h100 w
  · rw [decide_eq_false h100, Bool.false_and]
    have hm := hs
    unfold maxLen at hm
    have hbig : 100 < s.size := by omega
    clear h100
    have hb := Below.refl w.heap.size w
    go_enter Tryz.func86, Tryz.ntmps86
    go_wp2_with fail
    refine bodyPost_ret (v := .bool false) (by simp [results, Tryz.f86, go_sem]) rfl ⟨rfl, ?_⟩
    exact (hb.alloc (Nat.le_refl _) _)
end Go.Proofs.YtikgkjkgdlnekaaGreatDoor

/- lex: versions. -/
namespace Go.Proofs.YtikgkjkgdlnekaaGreatDoor
open Go.RowKit Go.Shelf
open Lex
attribute [local go_sem] Oper.semAt_some

/-- A version. -/
def versB (s : ByteArray) (hs : s.size ≤ maxLen) : Bool := ((parts s hs 46).all fun x => nbr (bl x.1)) && decide ((parts s hs 46).length = 3)
theorem rst_len (s : ByteArray) (hs : s.size ≤ maxLen) (c : Int) : ∀ (l : List Int) (a i : Nat), (rst s hs c a i l).length ≤ l.length + 1 := by
  intro l
  induction l with
  | nil => intro a i; simp [rst]
  | cons x r ih => intro a i; rw [rst]; split <;> simp <;> (first | exact ih _ _ | exact Nat.le_trans (ih _ _) (by omega))
theorem three {n : Nat} (h : n ≤ 9223372036854775808) : (wrap64 (n : Int) == 3) = decide (n = 3) := by
  by_cases h2 : n = 9223372036854775808
  · subst h2
    have e : wrap64 ((9223372036854775808 : Nat) : Int) = -9223372036854775808 := by unfold wrap64; decide
    rw [e]
    decide
  · rw [IntWalk.wrap64_in _ (by omega), Bool.eq_iff_iff]
    simp
    omega

theorem wrap64_succ (n : Int) : wrap64 (wrap64 n + 1) = wrap64 (n + 1) := by
  unfold wrap64
  omega

end Go.Proofs.YtikgkjkgdlnekaaGreatDoor

/- lex: names and versions over plain lists; which bytes are signs. -/
namespace Go.Proofs.YtikgkjkgdlnekaaGreatDoor
open Go.RowKit
open Lex

namespace Lex
/-- A list's parts. -/
def cuts (c : Int) : List Int → List Int → List (List Int)
  | acc, [] => [acc]
  | acc, x :: r => if x = c then acc :: cuts c [] r else cuts c (acc ++ [x]) r
def nameL (l : List Int) : Bool := decide (l.length ≤ 100) && (cuts 45 [] l).all prt
def versL (l : List Int) : Bool := (cuts 46 [] l).all nbr && decide ((cuts 46 [] l).length = 3)
def sgnL : List Int := [58, 59, 44, 46, 47, 123, 125, 40, 41, 60, 62, 61, 64, 95]
def sgn (c : Int) : Bool := sgnL.contains c
end Lex
theorem bl_part (s : ByteArray) (a i : Nat) : bl (s.extract a i) = ((bl s).drop a).take (i - a) := by
  unfold bl
  rw [Lib.extract_data, List.map_take, List.map_drop]
theorem rst_cuts (s : ByteArray) (hs : s.size ≤ maxLen) (c : Int) : ∀ (l : List Int) (a i : Nat), l = (bl s).drop i → a ≤ i → i ≤ s.size →
    (rst s hs c a i l).map (fun x => bl x.1) = cuts c (((bl s).drop a).take (i - a)) l := by
  intro l
  induction l with
  | nil =>
    intro a i hl ha hi
    have h1 : s.size ≤ i := by
      have h2 := congrArg List.length hl
      rw [List.length_drop, bl_length] at h2
      simp at h2
      omega
    have hz : i = s.size := by omega
    subst hz
    rw [rst, cuts]
    simp only [List.map_cons, List.map_nil, sub, bl_part]
  | cons x r ih =>
    intro a i hl ha hi
    have h1 : i < s.size := by
      have h2 := congrArg List.length hl
      rw [List.length_drop, bl_length] at h2
      simp at h2
      omega
    rw [bl_cons h1] at hl
    injection hl with hx hr
    rw [rst, cuts]
    split
    · rw [List.map_cons, ih _ _ hr (by omega) (by omega)]
      simp only [sub, bl_part]
      rw [Nat.sub_self, List.take_zero]
    · rw [ih _ _ hr (by omega) (by omega)]
      congr 1
      rw [show i + 1 - a = (i - a) + 1 by omega, List.take_add_one, List.getElem?_drop, show a + (i - a) = i by omega, hx, List.getD_eq_getElem?_getD, List.getElem?_eq_getElem (by rw [bl_length]; exact h1)]
      rfl
theorem parts_cuts (s : ByteArray) (hs : s.size ≤ maxLen) (c : Int) : (parts s hs c).map (fun x => bl x.1) = cuts c [] (bl s) := by
  have := rst_cuts s hs c (bl s) 0 0 rfl (by omega) (by omega)
  simpa [parts] using this
theorem nameB_eq (s : ByteArray) (hs : s.size ≤ maxLen) : nameB s hs = nameL (bl s) := by
  unfold nameB nameL
  rw [← parts_cuts s hs, bl_length, List.all_map]
  rfl
theorem versB_eq (s : ByteArray) (hs : s.size ≤ maxLen) : versB s hs = versL (bl s) := by
  unfold versB versL
  rw [← parts_cuts s hs, List.all_map, List.length_map]
  rfl

def sgnK : ByteArray := ⟨#[58, 59, 44, 46, 47, 123, 125, 40, 41, 60, 62, 61, 64, 95]⟩
theorem sgn_index (u : UInt8) : decide (0 ≤ Lib.indexByte sgnK.data.toList u) = sgn (u.toNat : Int) := by
  have h : ∀ n : Fin 256, decide (0 ≤ Lib.indexByte sgnK.data.toList (UInt8.ofNat n.1)) = sgn (n.1 : Int) := by decide +kernel
  have := h ⟨u.toNat, u.toNat_lt⟩
  simpa using this

end Go.Proofs.YtikgkjkgdlnekaaGreatDoor

/- lex: the document's own names. -/
namespace Go.Proofs.YtikgkjkgdlnekaaGreatDoor
open Go.RowKit
open Lex

theorem far_all {p : Int → Bool} : ∀ {l : List Int}, far p l = l.length → ∀ x ∈ l, p x = true
  | [], _, x, hx => by cases hx
  | c :: r, h, x, hx => by
    by_cases hp : p c = true
    · rw [far_next hp, List.length_cons] at h
      rcases List.mem_cons.1 hx with h2 | h2
      · rw [h2]; exact hp
      · exact far_all (by omega) x h2
    · rw [far_stop (by simpa using hp)] at h
      cases h
theorem all_far {p : Int → Bool} : ∀ {l : List Int}, (∀ x ∈ l, p x = true) → far p l = l.length
  | [], _ => rfl
  | c :: r, h => by
    rw [far_next (h c List.mem_cons_self), all_far (fun x hx => h x (List.mem_cons_of_mem _ hx)), List.length_cons]

namespace Lex
def knd (c : Int) : Int := if sml c then 1 else if grt c then 2 else if dig c then 3 else if c = 45 then 4 else if c = 46 then 5 else 0
/-- The document's own walk over a name: at a part's beginning, or within a part of letters of this size. -/
def goR : Bool → Int → List Int → Bool
  | b, _, [] => !b
  | true, _, c :: r => if ltr c then goR false (knd c) r else false
  | false, z, c :: r => if knd c = z ∨ knd c = 3 ∨ knd c = 4 then goR (c == 45) z r else false
theorem goR_t (z c : Int) (r : List Int) : goR true z (c :: r) = if ltr c then goR false (knd c) r else false := rfl
theorem goR_f (z c : Int) (r : List Int) : goR false z (c :: r) = if knd c = z ∨ knd c = 3 ∨ knd c = 4 then goR (c == 45) z r else false := rfl
theorem sml_dig {c : Int} (h : sml c = true) : dig c = false ∧ grt c = false := by
  unfold sml at h
  unfold dig grt
  have := of_decide_eq_true h
  simp
  omega
theorem grt_dig {c : Int} (h : grt c = true) : dig c = false ∧ sml c = false := by
  unfold grt at h
  unfold dig sml
  have := of_decide_eq_true h
  simp
  omega
theorem far_eq (p : Int → Bool) (l : List Int) : decide (far p l = l.length) = l.all p := by
  rw [Bool.eq_iff_iff, decide_eq_true_iff, List.all_eq_true]
  exact ⟨fun h => far_all h, fun h => all_far h⟩
theorem prt_eq (c : Int) (r : List Int) : prt (c :: r) = ((sml c && r.all smd) || (grt c && r.all grd)) := by
  have h : prt (c :: r) = (!dig c && ((c :: r).all smd || (c :: r).all grd)) := by
    show (!dig c && decide (max (far smd (c :: r)) (far grd (c :: r)) = (c :: r).length)) = _
    congr 1
    rw [← far_eq, ← far_eq, Bool.eq_iff_iff, decide_eq_true_iff, Bool.or_eq_true, decide_eq_true_iff, decide_eq_true_iff]
    have h1 := far_le smd (c :: r)
    have h2 := far_le grd (c :: r)
    omega
  rw [h, List.all_cons, List.all_cons]
  unfold smd grd
  cases h1 : sml c
  · cases h2 : grt c
    · cases dig c <;> simp
    · rw [(grt_dig h2).1]; simp
  · rw [(sml_dig h1).1, (sml_dig h1).2]; simp
theorem knd_s {c : Int} (h : sml c = true) : knd c = 1 := by unfold knd; rw [if_pos h]
theorem knd_g {c : Int} (h : grt c = true) : knd c = 2 := by unfold knd; rw [if_neg (by rw [(grt_dig h).2]; decide), if_pos h]
theorem knd_1 {c : Int} (h : knd c = 1) : sml c = true := by
  unfold knd at h
  repeat' split at h
  all_goals first | assumption | (exfalso; omega)
theorem knd_2 {c : Int} (h : knd c = 2) : grt c = true := by
  unfold knd at h
  repeat' split at h
  all_goals first | assumption | (exfalso; omega)
theorem knd_3 {c : Int} : knd c = 3 ↔ dig c = true := by
  constructor
  · intro h
    unfold knd at h
    repeat' split at h
    all_goals first | assumption | (exfalso; omega)
  · intro h
    have h1 : sml c = false := by
      cases hs : sml c
      · rfl
      · rw [(sml_dig hs).1] at h; cases h
    have h2 : grt c = false := by
      cases hs : grt c
      · rfl
      · rw [(grt_dig hs).1] at h; cases h
    unfold knd
    rw [h1, h2, h]
    rfl
theorem knd_4 {c : Int} : knd c = 4 ↔ c = 45 := by
  constructor
  · intro h
    unfold knd at h
    repeat' split at h
    all_goals first | assumption | (exfalso; omega)
  · intro h
    rw [h]
    rfl
/-- One letter, digit more in a part. -/
theorem prt_snoc {h : Int} {t : List Int} {c : Int} (hp : prt (h :: t) = true) (hc : c ≠ 45) : prt (h :: (t ++ [c])) = decide (knd c = knd h ∨ knd c = 3 ∨ knd c = 4) := by
  have h4 : knd c ≠ 4 := fun e => hc (knd_4.1 e)
  rw [prt_eq] at hp ⊢
  rw [List.all_append, List.all_append]
  cases hs : sml h
  · cases hg : grt h
    · rw [hs, hg] at hp
      simp at hp
    · rw [hs, hg, Bool.false_and, Bool.false_or, Bool.true_and] at hp
      rw [hp, knd_g hg]
      simp only [Bool.false_and, Bool.false_or, Bool.true_and, List.all_cons, List.all_nil, Bool.and_true]
      unfold grd
      rw [Bool.eq_iff_iff, Bool.or_eq_true, decide_eq_true_iff]
      constructor
      · rintro (h | h)
        · exact .inl (knd_g h)
        · exact .inr (.inl (knd_3.2 h))
      · rintro (h | h | h)
        · exact .inl (knd_2 h)
        · exact .inr (knd_3.1 h)
        · exact absurd h h4
  · have hg := (sml_dig hs).2
    rw [hs, hg, Bool.false_and, Bool.or_false, Bool.true_and] at hp
    rw [hp, hg, knd_s hs]
    simp only [Bool.false_and, Bool.or_false, Bool.true_and, List.all_cons, List.all_nil, Bool.and_true]
    unfold smd
    rw [Bool.eq_iff_iff, Bool.or_eq_true, decide_eq_true_iff]
    constructor
    · rintro (h | h)
      · exact .inl (knd_s h)
      · exact .inr (.inl (knd_3.2 h))
    · rintro (h | h | h)
      · exact .inl (knd_1 h)
      · exact .inr (knd_3.1 h)
      · exact absurd h h4
theorem prt_bad {h : Int} {t : List Int} {c : Int} (hp : prt (h :: t) = false) : prt (h :: (t ++ [c])) = false := by
  rw [prt_eq] at hp ⊢
  rw [List.all_append, List.all_append]
  revert hp
  cases sml h <;> cases grt h <;> cases t.all smd <;> cases t.all grd <;> simp
theorem cuts_name : ∀ (l : List Int), (∀ z, (cuts 45 [] l).all prt = goR true z l) ∧ (∀ h t, prt (h :: t) = true → (cuts 45 (h :: t) l).all prt = goR false (knd h) l) ∧ (∀ h t, prt (h :: t) = false → (cuts 45 (h :: t) l).all prt = false)
  | [] => ⟨fun z => rfl, fun h t hp => by rw [cuts, List.all_cons, hp]; rfl, fun h t hp => by rw [cuts, List.all_cons, hp]; rfl⟩
  | c :: r => by
    obtain ⟨i1, i2, i3⟩ := cuts_name r
    by_cases hc : c = 45
    · subst hc
      refine ⟨fun z => ?_, fun h t hp => ?_, fun h t hp => ?_⟩
      · rw [cuts, if_pos rfl, List.all_cons]
        rfl
      · rw [cuts, if_pos rfl, List.all_cons, hp, Bool.true_and, i1 (knd h), goR_f, if_pos (.inr (.inr rfl))]
        rfl
      · rw [cuts, if_pos rfl, List.all_cons, hp, Bool.false_and]
    · have hb : (c == 45) = false := by simpa using hc
      refine ⟨fun z => ?_, fun h t hp => ?_, fun h t hp => ?_⟩
      · rw [cuts, if_neg hc, goR_t]
        have h1 : prt (c :: []) = ltr c := by rw [prt_eq]; unfold ltr; simp
        show (cuts 45 (c :: []) r).all prt = _
        cases hl : ltr c
        · rw [i3 c [] (h1.trans hl)]; rfl
        · rw [i2 c [] (h1.trans hl)]; rfl
      · rw [cuts, if_neg hc, goR_f, hb]
        have h1 := prt_snoc (c := c) hp hc
        show (cuts 45 (h :: (t ++ [c])) r).all prt = _
        by_cases hk : knd c = knd h ∨ knd c = 3 ∨ knd c = 4
        · rw [if_pos hk]
          exact i2 h _ (h1.trans (decide_eq_true hk))
        · rw [if_neg hk]
          exact i3 h _ (h1.trans (decide_eq_false hk))
      · rw [cuts, if_neg hc]
        exact i3 h _ (prt_bad hp)
theorem name_goR (l : List Int) (z : Int) : nameL l = (decide (l.length ≤ 100) && goR true z l) := by
  unfold nameL
  rw [(cuts_name l).1 z]
end Lex

set_option maxRecDepth 100000 in
theorem kind_any (c : Int) (w : World) : Calls Tryz.prog 115 #[.int .u8 c] w fun e w' => e = .returned (.int .i64 (knd c)) ∧ w = w' := by
  go_enter Tryz.func115, Tryz.ntmps115
  go_wp2
  all_goals go_ret
  all_goals refine ⟨congrArg (fun z => Ending.returned (.int .i64 z)) ?_, rfl⟩
  all_goals unfold knd sml grt dig
  all_goals simp at *
  all_goals (repeat' split)
  all_goals first | rfl | omega
end Go.Proofs.YtikgkjkgdlnekaaGreatDoor

/- lex: the document's own names: the walk. -/
namespace Go.Proofs.YtikgkjkgdlnekaaGreatDoor
open Go.RowKit
open Lex

theorem ltr_knd (c : Int) : (ltr c = true ∧ knd c = 1) ∨ (ltr c = true ∧ knd c = 2) ∨ (ltr c = false ∧ knd c ≠ 1 ∧ knd c ≠ 2) := by
  unfold ltr
  cases h : sml c
  · cases h2 : grt c
    · refine .inr (.inr ⟨rfl, fun e => ?_, fun e => ?_⟩)
      · rw [knd_1 e] at h; cases h
      · rw [knd_2 e] at h2; cases h2
    · exact .inr (.inl ⟨rfl, knd_g h2⟩)
  · exact .inl ⟨rfl, knd_s h⟩
set_option maxRecDepth 100000 in
set_option maxHeartbeats 1000000 in
theorem refName_go (s : ByteArray) (h1 : 1 ≤ s.size) (h100 : s.size ≤ 100) (w : World) :
    Calls Tryz.prog 101 #[.string s] w fun e w' => e = .returned (.bool (goR true 0 (bl s))) ∧ w = w' := by
  obtain ⟨R, hR⟩ : ∃ R, R = goR true 0 (bl s) := ⟨_, rfl⟩
  rw [← hR]
  have HR := Lib.hid hR
  clear hR
  go_enter Tryz.func101, Tryz.ntmps101
  go_wp2_with fail
  go_loop [3, 4, 5] (fun zv iv _ => ∃ (z : Int) (i : Nat) (st : Bool), zv = .int .i64 z ∧ iv = .int .i64 i ∧ i ≤ s.size ∧ (i = 0 → st = true) ∧ (∀ j, i = j + 1 → st = ((bl s).getD j 0 == 45)) ∧ R = goR st z ((bl s).drop i)) (fun _ iv _ => s.size - (intOf iv).toNat)
  case atStart => exact ⟨0, 0, true, rfl, rfl, by omega, fun _ => rfl, fun j h => by omega, HR.out⟩
  case round =>
    obtain ⟨z, i, st, rfl, rfl, hi, hst0, hst1, hgo⟩ := hrel
    by_cases hlt : i < s.size
    · rw [bl_cons hlt, bl_get s i hlt] at hgo
      obtain ⟨c, hc⟩ : ∃ c : Nat, c = s[i].toNat := ⟨_, rfl⟩
      have hnext : ∀ j, i + 1 = j + 1 → ((c : Int) == 45) = ((bl s).getD j 0 == 45) := fun j hj => by
        have : j = i := by omega
        subst this
        rw [bl_get s j hlt, hc]
      rw [← hc] at hgo
      have HN := Lib.hid hnext
      clear hnext
      have hfirst : (i = 0 ∧ st = true) ∨ (∃ j, i = j + 1 ∧ ∃ hj : j < s.size, ((s[j].toNat : Int) == 45) = st) := by
        cases i with
        | zero => exact .inl ⟨rfl, hst0 rfl⟩
        | succ j => exact .inr ⟨j, rfl, by omega, by rw [hst1 j rfl, bl_get s j (by omega)]⟩
      clear hst0 hst1
      cases st with
      | true =>
        rw [goR_t] at hgo
        rcases ltr_knd c with ⟨hl, hk⟩ | ⟨hl, hk⟩ | ⟨hl, hk1, hk2⟩
        · rw [if_pos hl, hk] at hgo
          have h45 : ((c : Int) == 45) = false := by
            rw [Bool.eq_false_iff]
            intro e
            rw [beq_iff_eq.1 e] at hl
            exact absurd hl (by decide)
          have HG := Lib.hid hgo
          have HK := Lib.hid hk
          rw [h45] at HN
          clear hgo hk hl h45
          rcases hfirst with ⟨rfl, _⟩ | ⟨j, rfl, hj, hs⟩
          all_goals
            go_wp2_with (go_at_call 115; refine (kind_any _ _).mono ?_; rintro e w1 ⟨rfl, rfl⟩; rw [← hc, HK.out])
          · exact ⟨⟨1, 1, false, rfl, rfl, by omega, fun h => by omega, HN.out, HG.out⟩, by simp [intOf]; omega⟩
          · exact ⟨⟨1, j + 1 + 1, false, rfl, by go_num, by omega, fun h => by omega, HN.out, HG.out⟩, by simp [intOf]; omega⟩
        · rw [if_pos hl, hk] at hgo
          have h45 : ((c : Int) == 45) = false := by
            rw [Bool.eq_false_iff]
            intro e
            rw [beq_iff_eq.1 e] at hl
            exact absurd hl (by decide)
          have HG := Lib.hid hgo
          have HK := Lib.hid hk
          rw [h45] at HN
          clear hgo hk hl h45
          rcases hfirst with ⟨rfl, _⟩ | ⟨j, rfl, hj, hs⟩
          all_goals
            go_wp2_with (go_at_call 115; refine (kind_any _ _).mono ?_; rintro e w1 ⟨rfl, rfl⟩; rw [← hc, HK.out])
          · exact ⟨⟨2, 1, false, rfl, rfl, by omega, fun h => by omega, HN.out, HG.out⟩, by simp [intOf]; omega⟩
          · exact ⟨⟨2, j + 1 + 1, false, rfl, by go_num, by omega, fun h => by omega, HN.out, HG.out⟩, by simp [intOf]; omega⟩
        · rw [if_neg (by rw [hl]; decide)] at hgo
          have HG := Lib.hid hgo
          obtain ⟨kc, hkc⟩ : ∃ kc, kc = knd c := ⟨_, rfl⟩
          rw [← hkc] at hk1 hk2
          have HK := Lib.hid hkc.symm
          have t1 : (kc != 1) = true := by simpa using hk1
          have t2 : (kc != 2) = true := by simpa using hk2
          clear hgo hkc hl hk1 hk2 HN
          rcases hfirst with ⟨rfl, _⟩ | ⟨j, rfl, hj, hs⟩
          all_goals
            go_wp2_with (go_at_call 115; refine (kind_any _ _).mono ?_; rintro e w1 ⟨rfl, rfl⟩; rw [← hc, HK.out])
            go_ret
            rw [HG.out]
            exact ⟨rfl, rfl⟩
      | false =>
        rw [goR_f] at hgo
        obtain ⟨j, rfl, hj, hs⟩ : ∃ j, i = j + 1 ∧ ∃ hj : j < s.size, ((s[j].toNat : Int) == 45) = false := by
          rcases hfirst with ⟨_, h⟩ | h
          · cases h
          · exact h
        obtain ⟨kc, hkc⟩ : ∃ kc, kc = knd c := ⟨_, rfl⟩
        rw [← hkc] at hgo
        have HK := Lib.hid hkc.symm
        clear hfirst hkc
        by_cases hk : kc = z ∨ kc = 3 ∨ kc = 4
        · rw [if_pos hk] at hgo
          have HG := Lib.hid hgo
          have ht : (kc != z) = false ∨ ((kc != z) = true ∧ (kc != 3) = false) ∨ ((kc != z) = true ∧ (kc != 3) = true ∧ (kc != 4) = false) := by
            by_cases h1 : kc = z
            · exact .inl (by simpa using h1)
            · by_cases h2 : kc = 3
              · exact .inr (.inl ⟨by simpa using h1, by simpa using h2⟩)
              · exact .inr (.inr ⟨by simpa using h1, by simpa using h2, by simp; omega⟩)
          clear hgo hk
          rcases ht with h | ⟨h, h'⟩ | ⟨h, h', h''⟩
          all_goals
            go_wp2_with (go_at_call 115; refine (kind_any _ _).mono ?_; rintro e w1 ⟨rfl, rfl⟩; rw [← hc, HK.out])
            exact ⟨⟨z, j + 1 + 1, _, rfl, by go_num, by omega, fun h => by omega, HN.out, HG.out⟩, by simp [intOf]; omega⟩
        · rw [if_neg hk] at hgo
          have HG := Lib.hid hgo
          have t1 : (kc != z) = true := by simp; omega
          have t2 : (kc != 3) = true := by simp; omega
          have t3 : (kc != 4) = true := by simp; omega
          clear hgo hk HN
          go_wp2_with (go_at_call 115; refine (kind_any _ _).mono ?_; rintro e w1 ⟨rfl, rfl⟩; rw [← hc, HK.out])
          go_ret
          rw [HG.out]
          exact ⟨rfl, rfl⟩
    · have hl : i = s.size := by omega
      rw [bl_over (by omega)] at hgo
      have hj : s.size - 1 < s.size := by omega
      have hb := hst1 (s.size - 1) (by omega)
      rw [bl_get s (s.size - 1) hj] at hb
      have hfin : R = !((s[s.size - 1].toNat : Int) == 45) := by rw [hgo, hb]; cases ((s[s.size - 1].toNat : Int) == 45) <;> rfl
      have HF := Lib.hid hfin
      subst hl
      clear hgo hb hst0 hst1 hfin
      go_wp2_with fail
      go_ret
      rw [HF.out]
      exact ⟨rfl, rfl⟩
theorem refName_any (s : ByteArray) (hs : s.size ≤ maxLen) (w : World) :
    Calls Tryz.prog 101 #[.string s] w fun e w' => e = .returned (.bool (nameL (bl s))) ∧ w = w' := by
  rw [name_goR _ 0, bl_length]
  by_cases h100 : s.size ≤ 100
  · rw [decide_eq_true h100, Bool.true_and]
    by_cases h1 : 1 ≤ s.size
    · exact refName_go s h1 h100 w
    · have hz : s.size = 0 := by omega
      have hR : Hid (goR true 0 (bl s) = false) := Lib.hid (by rw [bl_zero hz]; rfl)
      clear h1 h100
      go_enter Tryz.func101, Tryz.ntmps101
      go_wp2_with fail
      go_ret
      rw [hR.out]
      exact ⟨rfl, rfl⟩
  · rw [decide_eq_false h100, Bool.false_and]
    have hbig : 100 < s.size := by omega
    unfold maxLen at hs
    clear h100
    go_enter Tryz.func101, Tryz.ntmps101
    go_wp2_with fail
    go_ret
    exact ⟨rfl, rfl⟩
end Go.Proofs.YtikgkjkgdlnekaaGreatDoor
