/- The walks of the document's own taking: the same sums. -/
import Derived.Test.YtfhifnkekegkkaaLebTakeW
namespace Go.Proofs.Ytfhifnkekegkkaa
open Go.RowKit
open Leb (byt len7 lenF sum7 sg7)

set_option maxRecDepth 100000 in
theorem length_any (s : ByteArray) (most : Nat) (hs : s.size ≤ maxLen) (h1 : most ≤ 10) (w : World) :
    Calls Try.prog 59 #[.string s, .int .i64 most] w fun e w' => e = .returned (.int .i64 (len7 s most)) ∧ w = w' := by
  unfold maxLen at hs
  go_enter Try.func59, Try.ntmps59
  go_wp2_with fail
  go_loop [5] (fun i => ∃ m : Nat, i = .int .i64 m ∧ m ≤ s.size ∧ m ≤ most ∧ lenF s most (most - m) m = len7 s most) (fun i => (10 - intOf i).toNat)
  case atStart => exact ⟨0, rfl, by omega, by omega, rfl⟩
  case round =>
    obtain ⟨m, rfl, hm, hm2, hF⟩ := hrel
    by_cases hlt : m < s.size ∧ m < most
    · obtain ⟨h2, h3⟩ := hlt
      obtain ⟨f, hf⟩ : ∃ f, most - m = f + 1 := ⟨most - m - 1, by omega⟩
      rw [hf] at hF
      have e3 := Leb.byt_get s m h2
      have e5 := Leb.byt_lt s m
      by_cases hb : 128 ≤ byt s m
      · rw [Leb.lenF_next s most f m h2 h3 hb] at hF
        have hfe : f = most - (m + 1) := by omega
        rw [hfe] at hF
        have HF := Lib.hid hF
        clear hF hf hfe
        go_wp2
        go_round
        case rel => exact ⟨m + 1, by go_num, by omega, by omega, HF.out⟩
        case measure => simp [intOf]; omega
      · rw [Leb.lenF_here s most f m h2 h3 (by omega)] at hF
        have HF := Lib.hid hF
        clear hF hf
        go_wp2
        go_ret
        rw [← HF.out]
        exact ⟨rfl, rfl⟩
    · rw [Leb.lenF_end s most _ m (by omega)] at hF
      have HF := Lib.hid hF
      clear hF
      by_cases hmm : m = s.size
      · subst hmm
        go_wp2
        go_ret
        rw [← HF.out]
        exact ⟨rfl, rfl⟩
      · have e2 : m = most := by omega
        have e4 : m < s.size := by omega
        subst e2
        clear hlt hmm
        go_wp2
        go_ret
        rw [← HF.out]
        exact ⟨rfl, rfl⟩

theorem p5 : (128 : Nat) ^ 5 = 34359738368 := by simp
theorem sum7_5 (s : ByteArray) (m : Nat) (h : m ≤ 5) : sum7 s m < 34359738368 ∧ 128 ^ m ≤ 34359738368 := by
  have h1 := Leb.sum7_lt s m
  have h2 : (128 : Nat) ^ m ≤ 128 ^ 5 := Nat.pow_le_pow_right (by decide) h
  rw [p5] at h2
  omega
theorem part_le (B U : Nat) (hB : B % 128 < 128) (hU : U ≤ 34359738368) : 0 ≤ (B : Int) % 128 * (U : Int) ∧ (B : Int) % 128 * (U : Int) ≤ 4363686772736 := by
  have e : (B : Int) % 128 * (U : Int) = ((B % 128 * U : Nat) : Int) := by simp
  have h : B % 128 * U ≤ 127 * 34359738368 := Nat.mul_le_mul (by omega) hU
  rw [e]
  omega
theorem sum_step (s : ByteArray) (m V U : Nat) (hV : V = sum7 s m) (hU : U = 128 ^ m) : (V : Int) + (byt s m : Int) % 128 * (U : Int) = ((sum7 s (m + 1) : Nat) : Int) := by
  subst hV hU
  rw [Leb.sum7_succ]
  simp

set_option maxRecDepth 100000 in
theorem refTakeU_some (s : ByteArray) (hs : s.size ≤ maxLen) (h0 : len7 s 5 ≠ 0) (w : World) :
    Calls Try.prog 34 #[.string s] w fun e w' => e = .returned (uTup s) ∧ Below w.heap.size w w' := by
  have hs' := hs
  unfold maxLen at hs'
  have hle := Leb.len7_le s 5
  have h0' : ((len7 s 5 : Int) == 0) = false := by simp; omega
  go_enter Try.func34, Try.ntmps34
  go_wp2_with (go_at_call 59; refine (length_any s 5 hs (by decide) _).mono ?_; rintro e w' ⟨rfl, rfl⟩)
  go_loop [6, 7, 8] (fun v u i => ∃ m V U : Nat, i = .int .i64 m ∧ v = .int .i64 V ∧ u = .int .i64 U ∧ m ≤ len7 s 5 ∧ V = sum7 s m ∧ U = 128 ^ m) (fun _ _ i => (10 - intOf i).toNat)
  case atStart => exact ⟨0, 0, 1, rfl, rfl, rfl, by omega, rfl, rfl⟩
  case round =>
    obtain ⟨m, V, U, rfl, rfl, rfl, hm, hV, hU⟩ := hrel
    have hb := sum7_5 s m (by omega)
    rw [← hV, ← hU] at hb
    have hpl := part_le (byt s m) U (by omega) hb.2
    have hst := Lib.hid (sum_step s m V U hV hU)
    have HV := Lib.hid hV
    have HU := Lib.hid hU
    clear hV hU
    by_cases hlt : m < len7 s 5
    · have h2 : m < s.size := by omega
      have e3 := Leb.byt_get s m h2
      have e5 := Leb.byt_lt s m
      go_wp2_with fail
      go_round
      case rel => exact ⟨m + 1, sum7 s (m + 1), U * 128, by go_num, by rw [← hst.out], by go_num, by omega, rfl, by rw [HU.out, Nat.pow_succ]⟩
      case measure => simp [intOf]; omega
    · have hme : m = len7 s 5 := by omega
      have HM := Lib.hid hme
      clear hme
      by_cases hbig : 4294967296 ≤ V
      · have HP := Lib.hid (uTup_bad (okU_big (by rw [← HM.out, ← HV.out]; exact hbig)))
        have hbi : (4294967296 : Int) ≤ (V : Int) := by omega
        clear hbig hb hpl
        go_wp2_with fail
        go_ret3
        rw [HP.out]
        exact ⟨rfl, Below.refl _ _⟩
      · have HP := Lib.hid (uTup_good (okU_yes h0 (by rw [← HM.out, ← HV.out]; omega)))
        have hbi : decide ((4294967296 : Int) ≤ (V : Int)) = false := by simp; omega
        have hms : m ≤ s.size := by omega
        clear hbig hb hpl
        go_wp2_with fail
        go_quiet (fail)
        go_wp2
        go_ret3
        rw [HP.out, ← HM.out, ← HV.out]
        exact ⟨rfl, below_drewN (Below.refl _ _) _⟩
theorem refTakeU_any (s : ByteArray) (hs : s.size ≤ maxLen) (w : World) :
    Calls Try.prog 34 #[.string s] w fun e w' => e = .returned (uTup s) ∧ Below w.heap.size w w' := by
  by_cases h0 : len7 s 5 = 0
  · rw [uTup_bad (okU_none h0)]
    go_enter Try.func34, Try.ntmps34
    go_wp2_with (go_at_call 59; refine (length_any s 5 hs (by decide) _).mono ?_; rintro e w' ⟨rfl, rfl⟩)
    go_ret3
    exact ⟨rfl, Below.refl _ _⟩
  · exact refTakeU_some s hs h0 w
end Go.Proofs.Ytfhifnkekegkkaa
