/- The walks of the statements of layer 1 on what is laid and taken again. -/
import Derived.Test.YtanfdkbdmaljhaaLebLaws
namespace Go.Proofs.Ytanfdkbdmaljhaa
open Go.RowKit
open Leb (byt len7 lenF sum7 sg7)

theorem okU_parts {s : ByteArray} (h : okU s = true) : len7 s 5 ≠ 0 ∧ sum7 s (len7 s 5) < 4294967296 := of_decide_eq_true h
theorem okS_parts {s : ByteArray} {most : Nat} {half : Int} (h : okS s most half = true) :
    len7 s most ≠ 0 ∧ (len7 s most = 10 → byt s 9 = 0 ∨ byt s 9 = 127) ∧ -half ≤ sg7 s (len7 s most) ∧ sg7 s (len7 s most) < half := of_decide_eq_true h
theorem short_U {s : ByteArray} (h : okU s = true) : (Leb.putU (sum7 s (len7 s 5))).length ≤ len7 s 5 := by
  have h0 := (okU_parts h).1
  have hl := Leb.sum7_lt s (len7 s 5)
  have e : ((128 ^ len7 s 5 : Nat) : Int) = (128 : Int) ^ len7 s 5 := by simp
  unfold Leb.putU
  rw [if_neg (by omega)]
  exact Leb.putF_short 10 _ _ (by omega) (by rw [← e]; omega) (by omega)
theorem short_S {s : ByteArray} (h : okS s 10 9223372036854775808 = true) : (Leb.putS (sg7 s (len7 s 10))).length ≤ len7 s 10 := by
  have h0 := (okS_parts h).1
  have hb : byt s (len7 s 10 - 1) < 128 := by
    rcases Leb.len7_prop s 10 with h1 | ⟨_, _, _, h1, _⟩
    · omega
    · exact h1
  have hr := Leb.sg7_range s (len7 s 10) (by omega) hb
  exact Leb.putG_short 10 _ _ hr.1 hr.2 (by omega)

theorem num_U {s : ByteArray} : ((sum7 s (len7 s 5) : Nat) : Int) ≤ 9223372036854775807 := by
  have := sum7_lt' s (len7 s 5) (by have := (Leb.len7_le s 5).1; omega)
  omega
theorem num_S {s : ByteArray} (h : okS s 10 9223372036854775808 = true) : -9223372036854775808 ≤ sg7 s (len7 s 10) ∧ sg7 s (len7 s 10) ≤ 9223372036854775807 := by
  have := (okS_parts h).2.2
  omega
theorem not_true {b : Bool} (h : ¬ b = true) : b = false := by cases b <;> simp_all

set_option maxRecDepth 100000 in
theorem LebShort_walk (s : ByteArray) (hs : s.size ≤ maxLen) (w : World) :
    Calls Try.prog 6 #[.string s] w fun e w' => e = .returned (.bool true) ∧ Below w.heap.size w w' := by
  have hs' := hs
  unfold maxLen at hs'
  have hb := Below.refl w.heap.size w
  have hz := strOfNums_size
  have hle5 := Leb.len7_le s 5
  have hle10 := Leb.len7_le s 10
  have HSU := Lib.hid (num_U (s := s))
  have HW : Hid (Bw 64 10 9223372036854775808) := Lib.hid (.inr (.inr ⟨rfl, rfl, rfl⟩))
  by_cases hu : okU s = true
  · have hlu := short_U hu
    have HU := Lib.hid (uTup_good hu)
    clear hu
    by_cases hv : okS s 10 9223372036854775808 = true
    · have hlv := short_S hv
      have HSV := Lib.hid (num_S hv)
      have HV := Lib.hid (sTup_good hv)
      clear hv
      go_enter Try.func6, Try.ntmps6
      go_wp2_with (first
        | (go_at_call 15; refine (TakeU_any s hs _).mono ?_; rintro e w1 ⟨rfl, k1⟩; replace hb := hb.trans (k1.mono hb.size); clear k1; rw [HU.out])
        | (go_at_call 17; refine (TakeS_any s _ _ _ HW.out hs _).mono ?_; rintro e w1 ⟨rfl, k1⟩; replace hb := hb.trans (k1.mono hb.size); clear k1; rw [HV.out])
        | (go_at_call 10; refine (PutU_any _ _ HSU.out).mono ?_; rintro e w1 ⟨rfl, k1⟩; replace hb := hb.trans (k1.mono hb.size); clear k1)
        | (go_at_call 12; refine (PutS_any _ _ HSV.out.1 HSV.out.2).mono ?_; rintro e w1 ⟨rfl, k1⟩; replace hb := hb.trans (k1.mono hb.size); clear k1)
        | (go_at_call 14; refine (awake_any _).mono ?_; rintro e w1 ⟨rfl, k1⟩; replace hb := hb.trans (k1.mono hb.size); clear k1))
      go_ret
      exact ⟨rfl, hb⟩
    · have HV := Lib.hid (sTup_bad (not_true hv))
      clear hv
      go_enter Try.func6, Try.ntmps6
      go_wp2_with (first
        | (go_at_call 15; refine (TakeU_any s hs _).mono ?_; rintro e w1 ⟨rfl, k1⟩; replace hb := hb.trans (k1.mono hb.size); clear k1; rw [HU.out])
        | (go_at_call 17; refine (TakeS_any s _ _ _ HW.out hs _).mono ?_; rintro e w1 ⟨rfl, k1⟩; replace hb := hb.trans (k1.mono hb.size); clear k1; rw [HV.out])
        | (go_at_call 10; refine (PutU_any _ _ HSU.out).mono ?_; rintro e w1 ⟨rfl, k1⟩; replace hb := hb.trans (k1.mono hb.size); clear k1)
        | (go_at_call 14; refine (awake_any _).mono ?_; rintro e w1 ⟨rfl, k1⟩; replace hb := hb.trans (k1.mono hb.size); clear k1))
      go_ret
      exact ⟨rfl, hb⟩
  · have HU := Lib.hid (uTup_bad (not_true hu))
    clear hu
    by_cases hv : okS s 10 9223372036854775808 = true
    · have hlv := short_S hv
      have HSV := Lib.hid (num_S hv)
      have HV := Lib.hid (sTup_good hv)
      clear hv
      go_enter Try.func6, Try.ntmps6
      go_wp2_with (first
        | (go_at_call 15; refine (TakeU_any s hs _).mono ?_; rintro e w1 ⟨rfl, k1⟩; replace hb := hb.trans (k1.mono hb.size); clear k1; rw [HU.out])
        | (go_at_call 17; refine (TakeS_any s _ _ _ HW.out hs _).mono ?_; rintro e w1 ⟨rfl, k1⟩; replace hb := hb.trans (k1.mono hb.size); clear k1; rw [HV.out])
        | (go_at_call 12; refine (PutS_any _ _ HSV.out.1 HSV.out.2).mono ?_; rintro e w1 ⟨rfl, k1⟩; replace hb := hb.trans (k1.mono hb.size); clear k1)
        | (go_at_call 14; refine (awake_any _).mono ?_; rintro e w1 ⟨rfl, k1⟩; replace hb := hb.trans (k1.mono hb.size); clear k1))
      go_ret
      exact ⟨rfl, hb⟩
    · have HV := Lib.hid (sTup_bad (not_true hv))
      clear hv
      go_enter Try.func6, Try.ntmps6
      go_wp2_with (first
        | (go_at_call 15; refine (TakeU_any s hs _).mono ?_; rintro e w1 ⟨rfl, k1⟩; replace hb := hb.trans (k1.mono hb.size); clear k1; rw [HU.out])
        | (go_at_call 17; refine (TakeS_any s _ _ _ HW.out hs _).mono ?_; rintro e w1 ⟨rfl, k1⟩; replace hb := hb.trans (k1.mono hb.size); clear k1; rw [HV.out])
        | (go_at_call 14; refine (awake_any _).mono ?_; rintro e w1 ⟨rfl, k1⟩; replace hb := hb.trans (k1.mono hb.size); clear k1))
      go_ret
      exact ⟨rfl, hb⟩

theorem ok_33 {s : ByteArray} (h : okS s 5 2147483648 = true) : okS s 5 4294967296 = true := by
  obtain ⟨h1, h2, h3, h4⟩ := okS_parts h
  exact decide_eq_true ⟨h1, h2, by omega, by omega⟩
theorem len_64 {s : ByteArray} (h : len7 s 5 ≠ 0) : len7 s 10 = len7 s 5 := by
  rcases Leb.len7_prop s 5 with h0 | ⟨h1, h2, h3, h4, h5⟩
  · exact absurd h0 h
  · exact Leb.len7_of s 10 (len7 s 5) h1 (by omega) h3 h4 h5
theorem ok_64 {s : ByteArray} (h : okS s 5 4294967296 = true) : okS s 10 9223372036854775808 = true := by
  obtain ⟨h1, h2, h3, h4⟩ := okS_parts h
  have h5 := (Leb.len7_le s 5).1
  exact decide_eq_true (by rw [len_64 h1]; exact ⟨h1, fun h => by omega, by omega, by omega⟩)

set_option maxRecDepth 100000 in
theorem LebBits_walk (s : ByteArray) (hs : s.size ≤ maxLen) (w : World) :
    Calls Try.prog 7 #[.string s] w fun e w' => e = .returned (.bool true) ∧ Below w.heap.size w w' := by
  have hb := Below.refl w.heap.size w
  have B32 : Hid (Bw 32 5 2147483648) := Lib.hid (.inl ⟨rfl, rfl, rfl⟩)
  have B33 : Hid (Bw 33 5 4294967296) := Lib.hid (.inr (.inl ⟨rfl, rfl, rfl⟩))
  have B64 : Hid (Bw 64 10 9223372036854775808) := Lib.hid (.inr (.inr ⟨rfl, rfl, rfl⟩))
  by_cases h33 : okS s 5 4294967296 = true
  · have e64 := sTup_good (ok_64 h33)
    rw [len_64 (okS_parts h33).1] at e64
    have H64 := Lib.hid e64
    have H33 := Lib.hid (sTup_good h33)
    have hr := (okS_parts h33).2.2
    have g1 : decide ((-4294967296 : Int) ≤ sg7 s (len7 s 5)) = true := by simp; omega
    have g2 : decide (sg7 s (len7 s 5) < (4294967296 : Int)) = true := by simp; omega
    clear e64 hr
    by_cases h32 : okS s 5 2147483648 = true
    · have H32 := Lib.hid (sTup_good h32)
      have hr := (okS_parts h32).2.2
      have g3 : decide ((-2147483648 : Int) ≤ sg7 s (len7 s 5)) = true := by simp; omega
      have g4 : decide (sg7 s (len7 s 5) < (2147483648 : Int)) = true := by simp; omega
      clear hr h32 h33
      go_enter Try.func7, Try.ntmps7
      go_wp2_with (first
        | (go_at_call 17; refine (TakeS_any s _ _ _ (by first | exact B32.out | exact B33.out | exact B64.out) hs _).mono ?_; rintro e w1 ⟨rfl, k1⟩; replace hb := hb.trans (k1.mono hb.size); clear k1; (first | rw [H32.out] | rw [H33.out] | rw [H64.out]))
        | (go_at_call 14; refine (awake_any _).mono ?_; rintro e w1 ⟨rfl, k1⟩; replace hb := hb.trans (k1.mono hb.size); clear k1))
      go_ret
      exact ⟨rfl, hb⟩
    · have H32 := Lib.hid (sTup_bad (not_true h32))
      clear h32 h33
      go_enter Try.func7, Try.ntmps7
      go_wp2_with (first
        | (go_at_call 17; refine (TakeS_any s _ _ _ (by first | exact B32.out | exact B33.out | exact B64.out) hs _).mono ?_; rintro e w1 ⟨rfl, k1⟩; replace hb := hb.trans (k1.mono hb.size); clear k1; (first | rw [H32.out] | rw [H33.out] | rw [H64.out]))
        | (go_at_call 14; refine (awake_any _).mono ?_; rintro e w1 ⟨rfl, k1⟩; replace hb := hb.trans (k1.mono hb.size); clear k1))
      go_ret
      exact ⟨rfl, hb⟩
  · have H33 := Lib.hid (sTup_bad (not_true h33))
    have H32 := Lib.hid (sTup_bad (not_true (fun h => h33 (ok_33 h))))
    clear h33
    have H64 := Lib.hid (show sTup s 10 9223372036854775808 = .tuple #[.int .i64 (sN s 10 9223372036854775808), .string (sR s 10 9223372036854775808), .int .i64 (sE s 10 9223372036854775808)] from rfl)
    go_enter Try.func7, Try.ntmps7
    go_wp2_with (first
      | (go_at_call 17; refine (TakeS_any s _ _ _ (by first | exact B32.out | exact B33.out | exact B64.out) hs _).mono ?_; rintro e w1 ⟨rfl, k1⟩; replace hb := hb.trans (k1.mono hb.size); clear k1; (first | rw [H32.out] | rw [H33.out] | rw [H64.out]))
      | (go_at_call 14; refine (awake_any _).mono ?_; rintro e w1 ⟨rfl, k1⟩; replace hb := hb.trans (k1.mono hb.size); clear k1))
    go_ret
    exact ⟨rfl, hb⟩
end Go.Proofs.Ytanfdkbdmaljhaa
