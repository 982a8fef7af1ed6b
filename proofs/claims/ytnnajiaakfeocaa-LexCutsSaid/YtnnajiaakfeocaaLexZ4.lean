/- lex: the document's own rows of bytes, and signs. -/
import Derived.Test.YtnnajiaakfeocaaLexZ3
import Derived.Test.YtnnajiaakfeocaaLexT
namespace Go.Proofs.Ytnnajiaakfeocaa
open Go.RowKit
open Lex

theorem nam_knd (c : Int) : (nam c = true ∧ knd c ≠ 0 ∧ knd c ≠ 5) ∨ (nam c = false ∧ knd c = 0) ∨ (nam c = false ∧ knd c ≠ 0 ∧ knd c = 5) := by
  unfold nam knd ltr
  cases h1 : sml c
  · cases h2 : grt c
    · cases h3 : dig c
      · by_cases h4 : c = 45
        · subst h4; simp
        · by_cases h5 : c = 46
          · subst h5; simp
          · simp [h4, h5]
      · simp
    · simp
  · simp
theorem ver_knd (c : Int) : (ver c = true ∧ knd c = 3) ∨ (ver c = true ∧ knd c ≠ 3 ∧ knd c = 5) ∨ (ver c = false ∧ knd c ≠ 3 ∧ knd c ≠ 5) := by
  by_cases h3 : dig c = true
  · exact .inl ⟨by unfold ver; rw [h3]; rfl, knd_3.2 h3⟩
  · by_cases h5 : c = 46
    · subst h5; exact .inr (.inl ⟨rfl, by decide, rfl⟩)
    · refine .inr (.inr ⟨?_, fun e => h3 (knd_3.1 e), fun e => h5 ?_⟩)
      · unfold ver
        rw [not_true h3]
        simpa using h5
      · unfold knd at e
        repeat' split at e
        all_goals first | assumption | (exfalso; omega)

set_option maxRecDepth 100000 in
theorem refRow_nam (s : ByteArray) (hs : s.size ≤ 8192) (i : Nat) (hi : i ≤ s.size) (w : World) :
    Calls Try.prog 35 #[.string s, .int .i64 i, .bool false] w fun e w' => e = .returned (.int .i64 ((i + far nam ((bl s).drop i) : Nat) : Int)) ∧ w = w' := by
  obtain ⟨F, hF⟩ : ∃ F : Nat, F = i + far nam ((bl s).drop i) := ⟨_, rfl⟩
  rw [← hF]
  have HF := Lib.hid hF
  clear hF
  go_enter Try.func35, Try.ntmps35
  go_wp2_with fail
  go_loop [1, 7] (fun kv _ => ∃ k : Nat, kv = .int .i64 k ∧ k ≤ s.size ∧ F = k + far nam ((bl s).drop k)) (fun kv _ => s.size - (intOf kv).toNat)
  case atStart => exact ⟨i, rfl, hi, HF.out⟩
  case round =>
    obtain ⟨k, rfl, hk, hfar⟩ := hrel
    by_cases hlt : k < s.size
    · rw [bl_cons hlt, bl_get s k hlt] at hfar
      obtain ⟨c, hc⟩ : ∃ c : Nat, s[k].toNat = c := ⟨_, rfl⟩
      rw [hc] at hfar
      rcases nam_knd c with ⟨h, h0, h5⟩ | ⟨h, h0⟩ | ⟨h, h0, h5⟩
      · rw [far_next h] at hfar
        have HR := Lib.hid hfar
        obtain ⟨kc, hkc⟩ : ∃ kc, kc = knd c := ⟨_, rfl⟩
        rw [← hkc] at h0 h5
        have HK := Lib.hid hkc.symm
        have t0 : (kc == 0) = false := by simpa using h0
        have t5 : (kc == 5) = false := by simpa using h5
        clear hfar h h0 h5 hkc
        go_wp2_with (go_at_call 26; refine (kind_any _ _).mono ?_; rintro e w1 ⟨rfl, rfl⟩; rw [HK.out])
        exact ⟨⟨k + 1, by go_num, by omega, by rw [HR.out]; omega⟩, by simp [intOf]; omega⟩
      · rw [far_stop h] at hfar
        have HR := Lib.hid hfar
        have HK := Lib.hid h0
        clear hfar h h0
        go_wp2_with (go_at_call 26; refine (kind_any _ _).mono ?_; rintro e w1 ⟨rfl, rfl⟩; rw [HK.out])
        go_ret
        rw [HR.out]
        exact ⟨rfl, rfl⟩
      · rw [far_stop h] at hfar
        have HR := Lib.hid hfar
        have HK := Lib.hid h5
        clear hfar h h0 h5
        go_wp2_with (go_at_call 26; refine (kind_any _ _).mono ?_; rintro e w1 ⟨rfl, rfl⟩; rw [HK.out])
        go_ret
        rw [HR.out]
        exact ⟨rfl, rfl⟩
    · rw [bl_over (by omega)] at hfar
      have HR := Lib.hid (show F = k from hfar)
      have hl : k = s.size := by omega
      subst hl
      clear hfar
      go_wp2_with fail
      go_ret
      rw [HR.out]
      exact ⟨rfl, rfl⟩
set_option maxRecDepth 100000 in
theorem refRow_ver (s : ByteArray) (hs : s.size ≤ 8192) (i : Nat) (hi : i ≤ s.size) (w : World) :
    Calls Try.prog 35 #[.string s, .int .i64 i, .bool true] w fun e w' => e = .returned (.int .i64 ((i + far ver ((bl s).drop i) : Nat) : Int)) ∧ w = w' := by
  obtain ⟨F, hF⟩ : ∃ F : Nat, F = i + far ver ((bl s).drop i) := ⟨_, rfl⟩
  rw [← hF]
  have HF := Lib.hid hF
  clear hF
  go_enter Try.func35, Try.ntmps35
  go_wp2_with fail
  go_loop [1, 7] (fun kv _ => ∃ k : Nat, kv = .int .i64 k ∧ k ≤ s.size ∧ F = k + far ver ((bl s).drop k)) (fun kv _ => s.size - (intOf kv).toNat)
  case atStart => exact ⟨i, rfl, hi, HF.out⟩
  case round =>
    obtain ⟨k, rfl, hk, hfar⟩ := hrel
    by_cases hlt : k < s.size
    · rw [bl_cons hlt, bl_get s k hlt] at hfar
      obtain ⟨c, hc⟩ : ∃ c : Nat, s[k].toNat = c := ⟨_, rfl⟩
      rw [hc] at hfar
      rcases ver_knd c with ⟨h, h3⟩ | ⟨h, h3, h5⟩ | ⟨h, h3, h5⟩
      · rw [far_next h] at hfar
        have HR := Lib.hid hfar
        have HK := Lib.hid h3
        clear hfar h h3
        go_wp2_with (go_at_call 26; refine (kind_any _ _).mono ?_; rintro e w1 ⟨rfl, rfl⟩; rw [HK.out])
        exact ⟨⟨k + 1, by go_num, by omega, by rw [HR.out]; omega⟩, by simp [intOf]; omega⟩
      · rw [far_next h] at hfar
        have HR := Lib.hid hfar
        have HK := Lib.hid h5
        clear hfar h h3 h5
        go_wp2_with (go_at_call 26; refine (kind_any _ _).mono ?_; rintro e w1 ⟨rfl, rfl⟩; rw [HK.out])
        exact ⟨⟨k + 1, by go_num, by omega, by rw [HR.out]; omega⟩, by simp [intOf]; omega⟩
      · rw [far_stop h] at hfar
        have HR := Lib.hid hfar
        obtain ⟨kc, hkc⟩ : ∃ kc, kc = knd c := ⟨_, rfl⟩
        rw [← hkc] at h3 h5
        have HK := Lib.hid hkc.symm
        have t0 : (kc != 3) = true := by simpa using h3
        have t5 : (kc != 5) = true := by simpa using h5
        clear hfar h h3 h5 hkc
        go_wp2_with (go_at_call 26; refine (kind_any _ _).mono ?_; rintro e w1 ⟨rfl, rfl⟩; rw [HK.out])
        go_ret
        rw [HR.out]
        exact ⟨rfl, rfl⟩
    · rw [bl_over (by omega)] at hfar
      have HR := Lib.hid (show F = k from hfar)
      have hl : k = s.size := by omega
      subst hl
      clear hfar
      go_wp2_with fail
      go_ret
      rw [HR.out]
      exact ⟨rfl, rfl⟩
end Go.Proofs.Ytnnajiaakfeocaa
