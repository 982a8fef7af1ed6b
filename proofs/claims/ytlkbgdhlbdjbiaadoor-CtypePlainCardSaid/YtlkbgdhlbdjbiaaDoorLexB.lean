/- lex: reach. -/
import Derived.Test.YtlkbgdhlbdjbiaaDoorLexA
namespace Go.Proofs.YtlkbgdhlbdjbiaaDoor
open Go.RowKit
open Lex

theorem far_next {p : Int → Bool} {l : List Int} {c : Int} (h : p c = true) : far p (c :: l) = far p l + 1 := by rw [far, if_pos h]
theorem far_stop {p : Int → Bool} {l : List Int} {c : Int} (h : p c = false) : far p (c :: l) = 0 := by rw [far, if_neg (by rw [h]; decide)]
set_option maxRecDepth 100000 in
theorem reach_dig (s : ByteArray) (hs : s.size ≤ maxLen) (w : World) :
    Calls Tryd.prog 70 #[.string s, .func (.func 69) #[] #[]] w fun e w' => e = .returned (.int .i64 (far dig (bl s) : Nat)) ∧ w = w' := by
  unfold maxLen at hs
  obtain ⟨F, hF⟩ : ∃ F : Nat, F = far dig (bl s) := ⟨_, rfl⟩
  rw [← hF]
  have HF := Lib.hid hF
  clear hF
  go_enter Tryd.func70, Tryd.ntmps70
  go_wp2_with fail
  go_loop [5] (fun v => ∃ n : Nat, v = .int .i64 n ∧ n ≤ s.size ∧ F = n + far dig ((bl s).drop n)) (fun v => s.size - (intOf v).toNat)
  case atStart => exact ⟨0, rfl, by omega, by rw [HF.out]; simp⟩
  case round =>
    obtain ⟨n, rfl, hn, hfar⟩ := hrel
    by_cases hlt : n < s.size
    · rw [bl_cons hlt, bl_get s n hlt] at hfar
      obtain ⟨c, hc⟩ : ∃ c : Nat, c = s[n].toNat := ⟨_, rfl⟩
      rw [← hc] at hfar
      by_cases hp : dig c = true
      · rw [far_next hp] at hfar
        have HR := Lib.hid hfar
        have HP := Lib.hid hp
        clear hfar hp
        go_wp2_with (go_at_call 69; refine (isDigit_any _ _).mono ?_; rintro e w1 ⟨rfl, rfl⟩; rw [← hc, HP.out])
        exact ⟨⟨n + 1, by go_num, by omega, by rw [HR.out]; omega⟩, by simp [intOf]; omega⟩
      · rw [far_stop (not_true hp)] at hfar
        have HR := Lib.hid hfar
        have HP := Lib.hid (not_true hp)
        clear hfar hp
        go_wp2_with (go_at_call 69; refine (isDigit_any _ _).mono ?_; rintro e w1 ⟨rfl, rfl⟩; rw [← hc, HP.out])
        go_ret
        rw [HR.out]
        exact ⟨rfl, rfl⟩
    · rw [bl_over (by omega)] at hfar
      have HR := Lib.hid (show F = n from hfar)
      have hl : n = s.size := by omega
      subst hl
      clear hfar
      go_wp2_with fail
      go_ret
      rw [HR.out]
      exact ⟨rfl, rfl⟩
set_option maxRecDepth 100000 in
theorem reach_smd (s : ByteArray) (hs : s.size ≤ maxLen) (w : World) :
    Calls Tryd.prog 70 #[.string s, .func (.func 71) #[] #[]] w fun e w' => e = .returned (.int .i64 (far smd (bl s) : Nat)) ∧ w = w' := by
  unfold maxLen at hs
  obtain ⟨F, hF⟩ : ∃ F : Nat, F = far smd (bl s) := ⟨_, rfl⟩
  rw [← hF]
  have HF := Lib.hid hF
  clear hF
  go_enter Tryd.func70, Tryd.ntmps70
  go_wp2_with fail
  go_loop [5] (fun v => ∃ n : Nat, v = .int .i64 n ∧ n ≤ s.size ∧ F = n + far smd ((bl s).drop n)) (fun v => s.size - (intOf v).toNat)
  case atStart => exact ⟨0, rfl, by omega, by rw [HF.out]; simp⟩
  case round =>
    obtain ⟨n, rfl, hn, hfar⟩ := hrel
    by_cases hlt : n < s.size
    · rw [bl_cons hlt, bl_get s n hlt] at hfar
      obtain ⟨c, hc⟩ : ∃ c : Nat, c = s[n].toNat := ⟨_, rfl⟩
      rw [← hc] at hfar
      by_cases hp : smd c = true
      · rw [far_next hp] at hfar
        have HR := Lib.hid hfar
        have HP := Lib.hid hp
        clear hfar hp
        go_wp2_with (go_at_call 71; refine (c_smd_any _ _).mono ?_; rintro e w1 ⟨rfl, rfl⟩; rw [← hc, HP.out])
        exact ⟨⟨n + 1, by go_num, by omega, by rw [HR.out]; omega⟩, by simp [intOf]; omega⟩
      · rw [far_stop (not_true hp)] at hfar
        have HR := Lib.hid hfar
        have HP := Lib.hid (not_true hp)
        clear hfar hp
        go_wp2_with (go_at_call 71; refine (c_smd_any _ _).mono ?_; rintro e w1 ⟨rfl, rfl⟩; rw [← hc, HP.out])
        go_ret
        rw [HR.out]
        exact ⟨rfl, rfl⟩
    · rw [bl_over (by omega)] at hfar
      have HR := Lib.hid (show F = n from hfar)
      have hl : n = s.size := by omega
      subst hl
      clear hfar
      go_wp2_with fail
      go_ret
      rw [HR.out]
      exact ⟨rfl, rfl⟩
set_option maxRecDepth 100000 in
theorem reach_grd (s : ByteArray) (hs : s.size ≤ maxLen) (w : World) :
    Calls Tryd.prog 70 #[.string s, .func (.func 73) #[] #[]] w fun e w' => e = .returned (.int .i64 (far grd (bl s) : Nat)) ∧ w = w' := by
  unfold maxLen at hs
  obtain ⟨F, hF⟩ : ∃ F : Nat, F = far grd (bl s) := ⟨_, rfl⟩
  rw [← hF]
  have HF := Lib.hid hF
  clear hF
  go_enter Tryd.func70, Tryd.ntmps70
  go_wp2_with fail
  go_loop [5] (fun v => ∃ n : Nat, v = .int .i64 n ∧ n ≤ s.size ∧ F = n + far grd ((bl s).drop n)) (fun v => s.size - (intOf v).toNat)
  case atStart => exact ⟨0, rfl, by omega, by rw [HF.out]; simp⟩
  case round =>
    obtain ⟨n, rfl, hn, hfar⟩ := hrel
    by_cases hlt : n < s.size
    · rw [bl_cons hlt, bl_get s n hlt] at hfar
      obtain ⟨c, hc⟩ : ∃ c : Nat, c = s[n].toNat := ⟨_, rfl⟩
      rw [← hc] at hfar
      by_cases hp : grd c = true
      · rw [far_next hp] at hfar
        have HR := Lib.hid hfar
        have HP := Lib.hid hp
        clear hfar hp
        go_wp2_with (go_at_call 73; refine (c_grd_any _ _).mono ?_; rintro e w1 ⟨rfl, rfl⟩; rw [← hc, HP.out])
        exact ⟨⟨n + 1, by go_num, by omega, by rw [HR.out]; omega⟩, by simp [intOf]; omega⟩
      · rw [far_stop (not_true hp)] at hfar
        have HR := Lib.hid hfar
        have HP := Lib.hid (not_true hp)
        clear hfar hp
        go_wp2_with (go_at_call 73; refine (c_grd_any _ _).mono ?_; rintro e w1 ⟨rfl, rfl⟩; rw [← hc, HP.out])
        go_ret
        rw [HR.out]
        exact ⟨rfl, rfl⟩
    · rw [bl_over (by omega)] at hfar
      have HR := Lib.hid (show F = n from hfar)
      have hl : n = s.size := by omega
      subst hl
      clear hfar
      go_wp2_with fail
      go_ret
      rw [HR.out]
      exact ⟨rfl, rfl⟩
end Go.Proofs.YtlkbgdhlbdjbiaaDoor
