/- lex: the document's own remarks: the walk. -/
import Derived.Test.YtnnajiaakfeocaaLexZ
namespace Go.Proofs.Ytnnajiaakfeocaa
open Go.RowKit
open Lex

def rN : Option Nat → Int
  | some m => (m : Int)
  | none => -1
theorem rN_some (m : Nat) : rN (some m) = (m : Int) := rfl
theorem rN_none : rN none = -1 := rfl

set_option maxRecDepth 100000 in
set_option maxHeartbeats 1000000 in
theorem refRemark_any (s : ByteArray) (hs : s.size ≤ 8192) : ∀ (n i : Nat) (_ : s.size - i ≤ n) (_ : i ≤ s.size) (w : World),
    Calls Try.prog 34 #[.string s, .int .i64 i] w fun e w' => e = .returned (.int .i64 (rN (clo 1 i ((bl s).drop i)))) ∧ w = w' := by
  intro n
  induction n with
  | zero =>
    intro i hn hi w
    have he : i = s.size := by omega
    have hr : Hid (rN (clo 1 i ((bl s).drop i)) = -1) := Lib.hid (by rw [bl_over (by omega), clo_nil]; rfl)
    subst he
    go_enter Try.func34, Try.ntmps34
    go_wp2_with fail
    go_loop [1] (fun kv => kv = .int .i64 s.size) (fun _ => 0)
    case atStart => exact rfl
    case round =>
      obtain rfl := hrel
      go_wp2_with fail
      go_ret
      rw [hr.out]
      exact ⟨rfl, rfl⟩
  | succ n ih =>
    intro i hn hi w
    have IH := Lib.hid ih
    obtain ⟨R, hR⟩ : ∃ R, R = clo 1 i ((bl s).drop i) := ⟨_, rfl⟩
    rw [← hR]
    have HR := Lib.hid hR
    clear ih hR
    go_enter Try.func34, Try.ntmps34
    go_wp2_with fail
    go_loop [1] (fun kv => ∃ k : Nat, kv = .int .i64 k ∧ i ≤ k ∧ k ≤ s.size ∧ R = clo 1 k ((bl s).drop k)) (fun kv => s.size - (intOf kv).toNat)
    case atStart => exact ⟨i, rfl, by omega, hi, HR.out⟩
    case round =>
      obtain ⟨k, rfl, hik, hk, hclo⟩ := hrel
      by_cases hlt : k + 1 < s.size
      · have hlt0 : k < s.size := by omega
        rw [bl_cons hlt0, bl_cons hlt, clo_two] at hclo
        rw [← bl_cons hlt, bl_get s k hlt0, bl_get s (k + 1) hlt] at hclo
        obtain ⟨a, ha⟩ : ∃ a : Nat, a = s[k].toNat := ⟨_, rfl⟩
        obtain ⟨b, hb⟩ : ∃ b : Nat, b = s[k + 1].toNat := ⟨_, rfl⟩
        rw [← ha, ← hb] at hclo
        by_cases h1 : (a : Int) = 47 ∧ (b : Int) = 42
        · rw [if_pos h1, clo_in] at hclo
          have t1 : ((s[k].toNat : Int) == 42) = false := by rw [← ha]; simp; omega
          have t2 : ((s[k].toNat : Int) == 47) = true := by rw [← ha]; simp; omega
          have t3 : ((s[k + 1].toNat : Int) == 42) = true := by rw [← hb]; simp; omega
          have hcall := IH.out (k + 2) (by omega) (by omega)
          obtain ⟨o, ho⟩ : ∃ o, o = clo 1 (k + 2) ((bl s).drop (k + 2)) := ⟨_, rfl⟩
          rw [show k + 1 + 1 = k + 2 from rfl, ← ho] at hclo
          rw [← ho] at hcall
          have hol : ∀ m, o = some m → k + 2 ≤ m ∧ m ≤ s.size := fun m hm => by
            have g1 := clo_ge _ _ _ _ (ho.symm.trans hm)
            have g2 := clo_le _ _ _ _ (ho.symm.trans hm)
            rw [List.length_drop, bl_length] at g2
            omega
          clear ha hb h1 ho
          cases o with
          | none =>
            have HC := Lib.hid (show R = none from hclo)
            rw [rN_none] at hcall
            have HK := Lib.hid hcall
            clear hclo hcall hol
            go_wp2_with (go_at_call 34; refine (HK.out _).mono ?_; rintro e w1 ⟨rfl, rfl⟩)
            go_ret
            rw [HC.out]
            exact ⟨rfl, rfl⟩
          | some m =>
            obtain ⟨m1, m2⟩ := hol m rfl
            have HC := Lib.hid (show R = clo 1 m ((bl s).drop m) by
              rw [hclo]
              show clo 1 m (((bl s).drop (k + 2)).drop (m - (k + 2))) = _
              rw [List.drop_drop, show k + 2 + (m - (k + 2)) = m by omega])
            rw [rN_some] at hcall
            have HK := Lib.hid hcall
            clear hclo hcall hol
            go_wp2_with (go_at_call 34; refine (HK.out _).mono ?_; rintro e w1 ⟨rfl, rfl⟩)
            exact ⟨⟨m, rfl, by omega, m2, HC.out⟩, by simp [intOf]; omega⟩
        · rw [if_neg h1] at hclo
          by_cases h2 : (a : Int) = 42 ∧ (b : Int) = 47
          · rw [if_pos h2, if_pos rfl] at hclo
            have t1 : ((s[k].toNat : Int) == 42) = true := by rw [← ha]; simp; omega
            have t3 : ((s[k + 1].toNat : Int) == 47) = true := by rw [← hb]; simp; omega
            have HC := Lib.hid hclo
            clear ha hb h1 h2 hclo
            go_wp2_with fail
            go_ret
            rw [HC.out, rN_some]
            exact ⟨rfl, rfl⟩
          · rw [if_neg h2] at hclo
            have HC := Lib.hid hclo
            have ht : (((s[k].toNat : Int) == 42) = true ∧ ((s[k].toNat : Int) == 47) = false ∧ ((s[k + 1].toNat : Int) == 47) = false) ∨ (((s[k].toNat : Int) == 42) = false ∧ ((s[k].toNat : Int) == 47) = true ∧ ((s[k + 1].toNat : Int) == 42) = false) ∨ (((s[k].toNat : Int) == 42) = false ∧ ((s[k].toNat : Int) == 47) = false) := by
              rw [← ha, ← hb]
              by_cases g1 : a = 42
              · exact .inl ⟨by simp; omega, by simp; omega, by simp; omega⟩
              · by_cases g2 : a = 47
                · exact .inr (.inl ⟨by simp; omega, by simp; omega, by simp; omega⟩)
                · exact .inr (.inr ⟨by simp; omega, by simp; omega⟩)
            clear ha hb h1 h2 hclo
            rcases ht with ⟨t1, t2, t3⟩ | ⟨t1, t2, t3⟩ | ⟨t1, t2⟩
            all_goals
              go_wp2_with fail
              exact ⟨⟨k + 1, by go_num, by omega, by omega, HC.out⟩, by simp [intOf]; omega⟩
      · have hno : R = none := by
          rw [hclo]
          by_cases h3 : k < s.size
          · rw [bl_cons h3, bl_over (by omega)]; rfl
          · rw [bl_over (by omega)]; rfl
        have HN := Lib.hid hno
        clear hclo hno
        go_wp2_with fail
        go_ret
        rw [HN.out]
        exact ⟨rfl, rfl⟩
end Go.Proofs.Ytnnajiaakfeocaa
