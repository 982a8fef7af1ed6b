/- lex: remarks and blanks. -/
import Derived.Test.YtnnajiaakfeocaaLexC
namespace Go.Proofs.Ytnnajiaakfeocaa
open Go.RowKit
open Lex

namespace Lex
/-- How far a remark goes: behind the end that belongs to its beginning (d are open, n bytes lie behind). -/
def clo : Nat → Nat → List Int → Option Nat
  | d, n, a :: b :: r => if a = 47 ∧ b = 42 then clo (d + 1) (n + 2) r else if a = 42 ∧ b = 47 then (if d = 1 then some (n + 2) else clo (d - 1) (n + 2) r) else clo d (n + 1) (b :: r)
  | _, _, _ => none
end Lex
def oN (o : Option Nat) : Int := ((o.getD 0 : Nat) : Int)
def oB (o : Option Nat) : Bool := o.isSome

theorem bl_two {s : ByteArray} {n : Nat} (h : n + 2 ≤ s.size) : bl (s.extract n (n + 2)) = [(bl s).getD n 0, (bl s).getD (n + 1) 0] := by
  have e : bl (s.extract n (n + 2)) = ((bl s).drop n).take 2 := by
    unfold bl
    rw [Lib.extract_data, List.map_take, List.map_drop]
    congr 1
    omega
  rw [e, bl_cons (by omega), bl_cons (show n + 1 < s.size by omega)]
  rfl
theorem two_iff {s : ByteArray} {n : Nat} (h : n + 2 ≤ s.size) (x y : UInt8) : ((s.extract n (n + 2)).toList == [x, y]) = decide ((bl s).getD n 0 = (x.toNat : Int) ∧ (bl s).getD (n + 1) 0 = (y.toNat : Int)) := by
  have e0 : [x, y] = (⟨#[x, y]⟩ : ByteArray).toList := by rw [ByteArray.toList_eq]
  rw [Bool.eq_iff_iff, beq_iff_eq, e0, toList_eq_iff, decide_eq_true_iff]
  have e : bl (⟨#[x, y]⟩ : ByteArray) = [(x.toNat : Int), (y.toNat : Int)] := rfl
  constructor
  · intro h2
    have h3 := congrArg bl h2
    rw [bl_two h, e] at h3
    simpa using h3
  · rintro ⟨h2, h3⟩
    apply bl_inj
    rw [bl_two h, e, h2, h3]
theorem clo_two (d n : Nat) (a b : Int) (r : List Int) : clo d n (a :: b :: r) = if a = 47 ∧ b = 42 then clo (d + 1) (n + 2) r else if a = 42 ∧ b = 47 then (if d = 1 then some (n + 2) else clo (d - 1) (n + 2) r) else clo d (n + 1) (b :: r) := rfl
theorem clo_one (d n : Nat) (a : Int) : clo d n [a] = none := rfl
theorem clo_nil (d n : Nat) : clo d n [] = none := rfl

set_option maxRecDepth 100000 in
theorem closed_any (s : ByteArray) (hs : s.size ≤ 8192) (hp : pre [47, 42] (bl s) = true) (w : World) :
    Calls Try.prog 45 #[.string s] w fun e w' => e = .returned (.tuple #[.int .i64 (oN (clo 0 0 (bl s))), .bool (oB (clo 0 0 (bl s)))]) ∧ w = w' := by
  have hlen : 2 ≤ s.size ∧ (bl s).getD 0 0 = 47 ∧ (bl s).getD 1 0 = 42 := by
    have h2 := List.isPrefixOf_iff_prefix.1 hp
    obtain ⟨t, ht⟩ := h2
    have h3 := congrArg List.length ht
    rw [bl_length] at h3
    rw [← ht]
    simp at h3 ⊢
    omega
  clear hp
  obtain ⟨hl2, g0, g1⟩ := hlen
  have G0 := Lib.hid g0
  have G1 := Lib.hid g1
  obtain ⟨R, hR⟩ : ∃ R, R = clo 0 0 (bl s) := ⟨_, rfl⟩
  rw [← hR]
  have HR := Lib.hid hR
  clear hR g0 g1
  go_enter Try.func45, Try.ntmps45
  go_wp2_with fail
  go_loop [4, 5] (fun dv nv => ∃ d n : Nat, dv = .int .i64 d ∧ nv = .int .i64 n ∧ d ≤ n ∧ n ≤ s.size ∧ (d = 0 → n = 0) ∧ R = clo d n ((bl s).drop n)) (fun _ nv => s.size - (intOf nv).toNat)
  case atStart => exact ⟨0, 0, rfl, rfl, by omega, by omega, by omega, HR.out⟩
  case round =>
    obtain ⟨d, n, rfl, rfl, hdn, hn, hd0, hclo⟩ := hrel
    by_cases hlt : n + 2 ≤ s.size
    · rw [bl_cons (show n < s.size by omega), bl_cons (show n + 1 < s.size by omega), clo_two] at hclo
      have t1 := two_iff hlt 47 42
      have t2 := two_iff hlt 42 47
      have hz : d = 0 → (bl s).getD n 0 = 47 ∧ (bl s).getD (n + 1) 0 = 42 := fun h => by
        rw [hd0 h]
        exact ⟨G0.out, G1.out⟩
      rw [← bl_cons (show n + 1 < s.size by omega)] at hclo
      revert t1 t2 hclo hz
      generalize (bl s).getD n 0 = a
      generalize (bl s).getD (n + 1) 0 = b
      intro hclo t1 t2 hz
      by_cases h1 : a = 47 ∧ b = 42
      · rw [if_pos h1] at hclo
        rw [decide_eq_true (show a = ((47 : UInt8).toNat : Int) ∧ b = ((42 : UInt8).toNat : Int) from h1)] at t1
        have HC := Lib.hid hclo
        clear hclo t2 h1 hz hd0
        go_wp2_with fail
        exact ⟨⟨d + 1, n + 2, by push_cast; rfl, by push_cast; rfl, by omega, by omega, by omega, HC.out⟩, by simp [intOf]; omega⟩
      · rw [if_neg h1] at hclo
        rw [decide_eq_false (show ¬ (a = ((47 : UInt8).toNat : Int) ∧ b = ((42 : UInt8).toNat : Int)) from h1)] at t1
        have hd : d ≠ 0 := fun h => h1 (hz h)
        clear hz hd0
        by_cases h2 : a = 42 ∧ b = 47
        · rw [if_pos h2] at hclo
          rw [decide_eq_true (show a = ((42 : UInt8).toNat : Int) ∧ b = ((47 : UInt8).toNat : Int) from h2)] at t2
          by_cases hd1 : d = 1
          · rw [if_pos hd1] at hclo
            have HC := Lib.hid hclo
            subst hd1
            clear hclo h1 h2
            go_wp2_with fail
            go_ret2
            rw [HC.out]
            exact ⟨rfl, rfl⟩
          · rw [if_neg hd1] at hclo
            have hdz : (((d : Int) - 1) == 0) = false := by simp; omega
            have HC := Lib.hid hclo
            clear hclo h1 h2
            go_wp2_with fail
            exact ⟨⟨d - 1, n + 2, by congr 1; omega, by push_cast; rfl, by omega, by omega, by omega, HC.out⟩, by simp [intOf]; omega⟩
        · rw [if_neg h2] at hclo
          rw [decide_eq_false (show ¬ (a = ((42 : UInt8).toNat : Int) ∧ b = ((47 : UInt8).toNat : Int)) from h2)] at t2
          have HC := Lib.hid hclo
          have hdz : ((d : Int) == 0) = false := by simp; omega
          clear hclo h1 h2
          go_wp2_with fail
          exact ⟨⟨d, n + 1, rfl, by go_num, by omega, by omega, by omega, HC.out⟩, by simp [intOf]; omega⟩
    · have hno : R = none := by
        rw [hclo]
        by_cases h3 : n < s.size
        · rw [bl_cons h3, bl_over (by omega)]; rfl
        · rw [bl_over (by omega)]; rfl
      have HN := Lib.hid hno
      clear hclo hno hd0
      go_wp2_with fail
      go_ret2
      rw [HN.out]
      exact ⟨rfl, rfl⟩
end Go.Proofs.Ytnnajiaakfeocaa
