/- lex: reach. -/
import Derived.Test.YtnnajiaakfeocaaLexA
namespace Go.Proofs.Ytnnajiaakfeocaa
open Go.RowKit
open Lex

theorem far_next {p : Int → Bool} {l : List Int} {c : Int} (h : p c = true) : far p (c :: l) = far p l + 1 := by rw [far, if_pos h]
theorem far_stop {p : Int → Bool} {l : List Int} {c : Int} (h : p c = false) : far p (c :: l) = 0 := by rw [far, if_neg (by rw [h]; decide)]
set_option maxRecDepth 100000 in
theorem reach_dig (s : ByteArray) (hs : s.size ≤ maxLen) (w : World) :
    Calls Try.prog 29 #[.string s, .func (.func 38) #[] #[]] w fun e w' => e = .returned (.int .i64 (far dig (bl s) : Nat)) ∧ w = w' := by
  unfold maxLen at hs
  obtain ⟨F, hF⟩ : ∃ F : Nat, F = far dig (bl s) := ⟨_, rfl⟩
  rw [← hF]
  have HF := Lib.hid hF
  clear hF
  go_enter Try.func29, Try.ntmps29
  go_wp2_with fail
  go_loop [5] (fun v => ∃ n : Nat, v = .int .i64 n ∧ n ≤ s.size ∧ F = n + far dig ((bl s).drop n)) (fun v => s.size - (intOf v).toNat)
  case atStart => exact ⟨0, rfl, by omega, by rw [HF.out]; simp⟩
  case round =>
    obtain ⟨n, rfl, hn, hfar⟩ := hrel
    by_cases hlt : n < s.size
    · rw [bl_cons hlt, bl_get s n hlt] at hfar
      obtain ⟨c, hc⟩ : ∃ c : Nat, c = s[n].toNat := ⟨_, rfl⟩
      rw [← hc] at hfar
      by_cases hp : dig c = true
      · rw [far_next hp] at hfar
        have HR := Lib.hid hfar
        have HP := Lib.hid hp
        clear hfar hp
        go_wp2_with (go_at_call 38; refine (isDigit_any _ _).mono ?_; rintro e w1 ⟨rfl, rfl⟩; rw [← hc, HP.out])
        exact ⟨⟨n + 1, by go_num, by omega, by rw [HR.out]; omega⟩, by simp [intOf]; omega⟩
      · rw [far_stop (not_true hp)] at hfar
        have HR := Lib.hid hfar
        have HP := Lib.hid (not_true hp)
        clear hfar hp
        go_wp2_with (go_at_call 38; refine (isDigit_any _ _).mono ?_; rintro e w1 ⟨rfl, rfl⟩; rw [← hc, HP.out])
        go_ret
        rw [HR.out]
        exact ⟨rfl, rfl⟩
    · rw [bl_over (by omega)] at hfar
      have HR := Lib.hid (show F = n from hfar)
      have hl : n = s.size := by omega
      subst hl
      clear hfar
      go_wp2_with fail
      go_ret
      rw [HR.out]
      exact ⟨rfl, rfl⟩
set_option maxRecDepth 100000 in
theorem reach_blk (s : ByteArray) (hs : s.size ≤ maxLen) (w : World) :
    Calls Try.prog 29 #[.string s, .func (.func 30) #[] #[]] w fun e w' => e = .returned (.int .i64 (far blk (bl s) : Nat)) ∧ w = w' := by
  unfold maxLen at hs
  obtain ⟨F, hF⟩ : ∃ F : Nat, F = far blk (bl s) := ⟨_, rfl⟩
  rw [← hF]
  have HF := Lib.hid hF
  clear hF
  go_enter Try.func29, Try.ntmps29
  go_wp2_with fail
  go_loop [5] (fun v => ∃ n : Nat, v = .int .i64 n ∧ n ≤ s.size ∧ F = n + far blk ((bl s).drop n)) (fun v => s.size - (intOf v).toNat)
  case atStart => exact ⟨0, rfl, by omega, by rw [HF.out]; simp⟩
  case round =>
    obtain ⟨n, rfl, hn, hfar⟩ := hrel
    by_cases hlt : n < s.size
    · rw [bl_cons hlt, bl_get s n hlt] at hfar
      obtain ⟨c, hc⟩ : ∃ c : Nat, c = s[n].toNat := ⟨_, rfl⟩
      rw [← hc] at hfar
      by_cases hp : blk c = true
      · rw [far_next hp] at hfar
        have HR := Lib.hid hfar
        have HP := Lib.hid hp
        clear hfar hp
        go_wp2_with (go_at_call 30; refine (c_blk_any _ _).mono ?_; rintro e w1 ⟨rfl, rfl⟩; rw [← hc, HP.out])
        exact ⟨⟨n + 1, by go_num, by omega, by rw [HR.out]; omega⟩, by simp [intOf]; omega⟩
      · rw [far_stop (not_true hp)] at hfar
        have HR := Lib.hid hfar
        have HP := Lib.hid (not_true hp)
        clear hfar hp
        go_wp2_with (go_at_call 30; refine (c_blk_any _ _).mono ?_; rintro e w1 ⟨rfl, rfl⟩; rw [← hc, HP.out])
        go_ret
        rw [HR.out]
        exact ⟨rfl, rfl⟩
    · rw [bl_over (by omega)] at hfar
      have HR := Lib.hid (show F = n from hfar)
      have hl : n = s.size := by omega
      subst hl
      clear hfar
      go_wp2_with fail
      go_ret
      rw [HR.out]
      exact ⟨rfl, rfl⟩
set_option maxRecDepth 100000 in
theorem reach_smd (s : ByteArray) (hs : s.size ≤ maxLen) (w : World) :
    Calls Try.prog 29 #[.string s, .func (.func 39) #[] #[]] w fun e w' => e = .returned (.int .i64 (far smd (bl s) : Nat)) ∧ w = w' := by
  unfold maxLen at hs
  obtain ⟨F, hF⟩ : ∃ F : Nat, F = far smd (bl s) := ⟨_, rfl⟩
  rw [← hF]
  have HF := Lib.hid hF
  clear hF
  go_enter Try.func29, Try.ntmps29
  go_wp2_with fail
  go_loop [5] (fun v => ∃ n : Nat, v = .int .i64 n ∧ n ≤ s.size ∧ F = n + far smd ((bl s).drop n)) (fun v => s.size - (intOf v).toNat)
  case atStart => exact ⟨0, rfl, by omega, by rw [HF.out]; simp⟩
  case round =>
    obtain ⟨n, rfl, hn, hfar⟩ := hrel
    by_cases hlt : n < s.size
    · rw [bl_cons hlt, bl_get s n hlt] at hfar
      obtain ⟨c, hc⟩ : ∃ c : Nat, c = s[n].toNat := ⟨_, rfl⟩
      rw [← hc] at hfar
      by_cases hp : smd c = true
      · rw [far_next hp] at hfar
        have HR := Lib.hid hfar
        have HP := Lib.hid hp
        clear hfar hp
        go_wp2_with (go_at_call 39; refine (c_smd_any _ _).mono ?_; rintro e w1 ⟨rfl, rfl⟩; rw [← hc, HP.out])
        exact ⟨⟨n + 1, by go_num, by omega, by rw [HR.out]; omega⟩, by simp [intOf]; omega⟩
      · rw [far_stop (not_true hp)] at hfar
        have HR := Lib.hid hfar
        have HP := Lib.hid (not_true hp)
        clear hfar hp
        go_wp2_with (go_at_call 39; refine (c_smd_any _ _).mono ?_; rintro e w1 ⟨rfl, rfl⟩; rw [← hc, HP.out])
        go_ret
        rw [HR.out]
        exact ⟨rfl, rfl⟩
    · rw [bl_over (by omega)] at hfar
      have HR := Lib.hid (show F = n from hfar)
      have hl : n = s.size := by omega
      subst hl
      clear hfar
      go_wp2_with fail
      go_ret
      rw [HR.out]
      exact ⟨rfl, rfl⟩
set_option maxRecDepth 100000 in
theorem reach_grd (s : ByteArray) (hs : s.size ≤ maxLen) (w : World) :
    Calls Try.prog 29 #[.string s, .func (.func 41) #[] #[]] w fun e w' => e = .returned (.int .i64 (far grd (bl s) : Nat)) ∧ w = w' := by
  unfold maxLen at hs
  obtain ⟨F, hF⟩ : ∃ F : Nat, F = far grd (bl s) := ⟨_, rfl⟩
  rw [← hF]
  have HF := Lib.hid hF
  clear hF
  go_enter Try.func29, Try.ntmps29
  go_wp2_with fail
  go_loop [5] (fun v => ∃ n : Nat, v = .int .i64 n ∧ n ≤ s.size ∧ F = n + far grd ((bl s).drop n)) (fun v => s.size - (intOf v).toNat)
  case atStart => exact ⟨0, rfl, by omega, by rw [HF.out]; simp⟩
  case round =>
    obtain ⟨n, rfl, hn, hfar⟩ := hrel
    by_cases hlt : n < s.size
    · rw [bl_cons hlt, bl_get s n hlt] at hfar
      obtain ⟨c, hc⟩ : ∃ c : Nat, c = s[n].toNat := ⟨_, rfl⟩
      rw [← hc] at hfar
      by_cases hp : grd c = true
      · rw [far_next hp] at hfar
        have HR := Lib.hid hfar
        have HP := Lib.hid hp
        clear hfar hp
        go_wp2_with (go_at_call 41; refine (c_grd_any _ _).mono ?_; rintro e w1 ⟨rfl, rfl⟩; rw [← hc, HP.out])
        exact ⟨⟨n + 1, by go_num, by omega, by rw [HR.out]; omega⟩, by simp [intOf]; omega⟩
      · rw [far_stop (not_true hp)] at hfar
        have HR := Lib.hid hfar
        have HP := Lib.hid (not_true hp)
        clear hfar hp
        go_wp2_with (go_at_call 41; refine (c_grd_any _ _).mono ?_; rintro e w1 ⟨rfl, rfl⟩; rw [← hc, HP.out])
        go_ret
        rw [HR.out]
        exact ⟨rfl, rfl⟩
    · rw [bl_over (by omega)] at hfar
      have HR := Lib.hid (show F = n from hfar)
      have hl : n = s.size := by omega
      subst hl
      clear hfar
      go_wp2_with fail
      go_ret
      rw [HR.out]
      exact ⟨rfl, rfl⟩
set_option maxRecDepth 100000 in
theorem reach_lin (s : ByteArray) (hs : s.size ≤ maxLen) (w : World) :
    Calls Try.prog 29 #[.string s, .func (.func 44) #[] #[]] w fun e w' => e = .returned (.int .i64 (far lin (bl s) : Nat)) ∧ w = w' := by
  unfold maxLen at hs
  obtain ⟨F, hF⟩ : ∃ F : Nat, F = far lin (bl s) := ⟨_, rfl⟩
  rw [← hF]
  have HF := Lib.hid hF
  clear hF
  go_enter Try.func29, Try.ntmps29
  go_wp2_with fail
  go_loop [5] (fun v => ∃ n : Nat, v = .int .i64 n ∧ n ≤ s.size ∧ F = n + far lin ((bl s).drop n)) (fun v => s.size - (intOf v).toNat)
  case atStart => exact ⟨0, rfl, by omega, by rw [HF.out]; simp⟩
  case round =>
    obtain ⟨n, rfl, hn, hfar⟩ := hrel
    by_cases hlt : n < s.size
    · rw [bl_cons hlt, bl_get s n hlt] at hfar
      obtain ⟨c, hc⟩ : ∃ c : Nat, c = s[n].toNat := ⟨_, rfl⟩
      rw [← hc] at hfar
      by_cases hp : lin c = true
      · rw [far_next hp] at hfar
        have HR := Lib.hid hfar
        have HP := Lib.hid hp
        clear hfar hp
        go_wp2_with (go_at_call 44; refine (c_lin_any _ _).mono ?_; rintro e w1 ⟨rfl, rfl⟩; rw [← hc, HP.out])
        exact ⟨⟨n + 1, by go_num, by omega, by rw [HR.out]; omega⟩, by simp [intOf]; omega⟩
      · rw [far_stop (not_true hp)] at hfar
        have HR := Lib.hid hfar
        have HP := Lib.hid (not_true hp)
        clear hfar hp
        go_wp2_with (go_at_call 44; refine (c_lin_any _ _).mono ?_; rintro e w1 ⟨rfl, rfl⟩; rw [← hc, HP.out])
        go_ret
        rw [HR.out]
        exact ⟨rfl, rfl⟩
    · rw [bl_over (by omega)] at hfar
      have HR := Lib.hid (show F = n from hfar)
      have hl : n = s.size := by omega
      subst hl
      clear hfar
      go_wp2_with fail
      go_ret
      rw [HR.out]
      exact ⟨rfl, rfl⟩
set_option maxRecDepth 100000 in
theorem reach_nam (s : ByteArray) (hs : s.size ≤ maxLen) (w : World) :
    Calls Try.prog 29 #[.string s, .func (.func 46) #[] #[]] w fun e w' => e = .returned (.int .i64 (far nam (bl s) : Nat)) ∧ w = w' := by
  unfold maxLen at hs
  obtain ⟨F, hF⟩ : ∃ F : Nat, F = far nam (bl s) := ⟨_, rfl⟩
  rw [← hF]
  have HF := Lib.hid hF
  clear hF
  go_enter Try.func29, Try.ntmps29
  go_wp2_with fail
  go_loop [5] (fun v => ∃ n : Nat, v = .int .i64 n ∧ n ≤ s.size ∧ F = n + far nam ((bl s).drop n)) (fun v => s.size - (intOf v).toNat)
  case atStart => exact ⟨0, rfl, by omega, by rw [HF.out]; simp⟩
  case round =>
    obtain ⟨n, rfl, hn, hfar⟩ := hrel
    by_cases hlt : n < s.size
    · rw [bl_cons hlt, bl_get s n hlt] at hfar
      obtain ⟨c, hc⟩ : ∃ c : Nat, c = s[n].toNat := ⟨_, rfl⟩
      rw [← hc] at hfar
      by_cases hp : nam c = true
      · rw [far_next hp] at hfar
        have HR := Lib.hid hfar
        have HP := Lib.hid hp
        clear hfar hp
        go_wp2_with (go_at_call 46; refine (c_nam_any _ _).mono ?_; rintro e w1 ⟨rfl, rfl⟩; rw [← hc, HP.out])
        exact ⟨⟨n + 1, by go_num, by omega, by rw [HR.out]; omega⟩, by simp [intOf]; omega⟩
      · rw [far_stop (not_true hp)] at hfar
        have HR := Lib.hid hfar
        have HP := Lib.hid (not_true hp)
        clear hfar hp
        go_wp2_with (go_at_call 46; refine (c_nam_any _ _).mono ?_; rintro e w1 ⟨rfl, rfl⟩; rw [← hc, HP.out])
        go_ret
        rw [HR.out]
        exact ⟨rfl, rfl⟩
    · rw [bl_over (by omega)] at hfar
      have HR := Lib.hid (show F = n from hfar)
      have hl : n = s.size := by omega
      subst hl
      clear hfar
      go_wp2_with fail
      go_ret
      rw [HR.out]
      exact ⟨rfl, rfl⟩
set_option maxRecDepth 100000 in
theorem reach_ver (s : ByteArray) (hs : s.size ≤ maxLen) (w : World) :
    Calls Try.prog 29 #[.string s, .func (.func 48) #[] #[]] w fun e w' => e = .returned (.int .i64 (far ver (bl s) : Nat)) ∧ w = w' := by
  unfold maxLen at hs
  obtain ⟨F, hF⟩ : ∃ F : Nat, F = far ver (bl s) := ⟨_, rfl⟩
  rw [← hF]
  have HF := Lib.hid hF
  clear hF
  go_enter Try.func29, Try.ntmps29
  go_wp2_with fail
  go_loop [5] (fun v => ∃ n : Nat, v = .int .i64 n ∧ n ≤ s.size ∧ F = n + far ver ((bl s).drop n)) (fun v => s.size - (intOf v).toNat)
  case atStart => exact ⟨0, rfl, by omega, by rw [HF.out]; simp⟩
  case round =>
    obtain ⟨n, rfl, hn, hfar⟩ := hrel
    by_cases hlt : n < s.size
    · rw [bl_cons hlt, bl_get s n hlt] at hfar
      obtain ⟨c, hc⟩ : ∃ c : Nat, c = s[n].toNat := ⟨_, rfl⟩
      rw [← hc] at hfar
      by_cases hp : ver c = true
      · rw [far_next hp] at hfar
        have HR := Lib.hid hfar
        have HP := Lib.hid hp
        clear hfar hp
        go_wp2_with (go_at_call 48; refine (c_ver_any _ _).mono ?_; rintro e w1 ⟨rfl, rfl⟩; rw [← hc, HP.out])
        exact ⟨⟨n + 1, by go_num, by omega, by rw [HR.out]; omega⟩, by simp [intOf]; omega⟩
      · rw [far_stop (not_true hp)] at hfar
        have HR := Lib.hid hfar
        have HP := Lib.hid (not_true hp)
        clear hfar hp
        go_wp2_with (go_at_call 48; refine (c_ver_any _ _).mono ?_; rintro e w1 ⟨rfl, rfl⟩; rw [← hc, HP.out])
        go_ret
        rw [HR.out]
        exact ⟨rfl, rfl⟩
    · rw [bl_over (by omega)] at hfar
      have HR := Lib.hid (show F = n from hfar)
      have hl : n = s.size := by omega
      subst hl
      clear hfar
      go_wp2_with fail
      go_ret
      rw [HR.out]
      exact ⟨rfl, rfl⟩
end Go.Proofs.Ytnnajiaakfeocaa
