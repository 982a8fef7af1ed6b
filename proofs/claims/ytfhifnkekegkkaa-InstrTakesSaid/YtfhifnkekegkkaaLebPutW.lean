/- The walks of what lays numbers: each function comes to the bytes of LebPutMath. -/
import Derived.Test.YtfhifnkekegkkaaProg
import Derived.Test.YtfhifnkekegkkaaLebPutMath
import Derived.Test.YtfhifnkekegkkaaKitB
import Derived.WalkKit
import Derived.WalkSpells
import Derived.WalkLawsBesides
import Derived.Lib.Hide
import Derived.Below
import Derived.Laws.BytesArg
import Derived.Laws.Bits128
import Derived.Laws.IdiomStrings
namespace Go.Proofs.Ytfhifnkekegkkaa
open Go.RowKit

theorem one_any (n : Int) (h1 : 0 ≤ n) (h2 : n ≤ 255) (w : World) :
    Calls Try.prog 67 #[.int .i64 n] w fun e w' => e = .returned (.string (strOfNums [n])) ∧ Below w.heap.size w w' := by
  have hc := one_conv n w
  go_enter Try.func67, Try.ntmps67
  go_wp2
  go_ret
  exact ⟨rfl, (Below.refl _ _).alloc (Nat.le_refl _) _⟩

theorem refPutU_neg (n : Int) (h : n < 0) (w : World) :
    Calls Try.prog 46 #[.int .i64 n] w fun e w' => e = .returned (.string (strOfNums [])) ∧ Below w.heap.size w w' := by
  go_enter Try.func46, Try.ntmps46
  go_wp2_with fail
  go_ret
  exact ⟨rfl, Below.refl _ _⟩
theorem refPutU_last (f : Nat) (n : Int) (w : World) (h0 : 0 ≤ n) (h1 : n < 128) :
    Calls Try.prog 46 #[.int .i64 n] w fun e w' => e = .returned (.string (strOfNums (Leb.putF (f + 1) n))) ∧ Below w.heap.size w w' := by
  rw [Leb.putF_last f n h1]
  go_enter Try.func46, Try.ntmps46
  go_wp2_with (go_at_call 67; refine (one_any n h0 (by omega) _).mono ?_; rintro e w' ⟨rfl, hb⟩)
  go_ret
  exact ⟨rfl, hb⟩
theorem refPutU_fuel (f : Nat) (hf : f < 10) : ∀ (n : Int) (w : World), 0 ≤ n → n < 128 ^ (f + 1) → n ≤ 9223372036854775807 →
    Calls Try.prog 46 #[.int .i64 n] w fun e w' => e = .returned (.string (strOfNums (Leb.putF (f + 1) n))) ∧ Below w.heap.size w w' := by
  induction f with
  | zero =>
    intro n w h0 h1 h2
    exact refPutU_last 0 n w h0 (by simpa using h1)
  | succ f ih =>
    intro n w h0 h1 h2
    by_cases h : n < 128
    · exact refPutU_last (f + 1) n w h0 h
    · rw [Leb.putF_next (f + 1) n (by omega)]
      rw [Int.pow_succ] at h1
      have h1' : n / 128 < 128 ^ (f + 1) := by omega
      have IH := Lib.hid (ih (by omega))
      have hl := Leb.putF_length (f + 1) (n / 128)
      have hs := strOfNums_size
      have h0' : 128 ≤ n := by omega
      clear h1 ih h
      go_enter Try.func46, Try.ntmps46
      go_wp2_with (first
        | (go_at_call 67; refine (one_any _ (by omega) (by omega) _).mono ?_; rintro e w1 ⟨rfl, hb1⟩)
        | (go_at_call 46; refine (IH.out (n / 128) _ (by omega) h1' (by omega)).mono ?_; rintro e w2 ⟨rfl, hb2⟩))
      go_ret
      refine ⟨?_, hb1.trans (hb2.mono hb1.size)⟩
      rw [strOfNums_cons, Int.add_comm]
      rfl

theorem refPutU_any (n : Int) (w : World) (h : n ≤ 9223372036854775807) :
    Calls Try.prog 46 #[.int .i64 n] w fun e w' => e = .returned (.string (strOfNums (Leb.putU n))) ∧ Below w.heap.size w w' := by
  unfold Leb.putU
  by_cases h0 : n < 0
  · rw [if_pos h0]
    exact refPutU_neg n h0 w
  · rw [if_neg h0]
    exact refPutU_fuel 9 (by decide) n w (by omega) (by rw [Leb.p10i]; omega) h

theorem floor_neg (n : Int) (h1 : -9223372036854775808 ≤ n) (hn : n < 0) :
    wrap64 (-wrap64 (wrap64 (-(n + 1).tdiv 128) + 1)) = n / 128 := by
  have e : (-(n + 1)).tdiv 128 = (-(n + 1)) / 128 := Int.tdiv_eq_ediv_of_nonneg (by omega)
  have e2 : -(n + 1).tdiv 128 = (-(n + 1)).tdiv 128 := (Int.neg_tdiv ..).symm
  rw [e2, e]
  unfold wrap64
  omega
theorem floor_any (n : Int) (h1 : -9223372036854775808 ≤ n) (h2 : n ≤ 9223372036854775807) (w : World) :
    Calls Try.prog 68 #[.int .i64 n] w fun e w' => e = .returned (.int .i64 (n / 128)) ∧ w = w' := by
  by_cases hn : 0 ≤ n
  · go_enter Try.func68, Try.ntmps68
    go_wp2
    go_ret
    exact ⟨rfl, rfl⟩
  · have hz := Lib.hid (floor_neg n h1 (by omega))
    go_enter Try.func68, Try.ntmps68
    go_wp2
    go_ret
    exact ⟨by rw [← hz.out]; rfl, rfl⟩

theorem refPutS_last (f : Nat) (n : Int) (w : World) (h0 : -64 ≤ n) (h1 : n < 64) :
    Calls Try.prog 47 #[.int .i64 n] w fun e w' => e = .returned (.string (strOfNums (Leb.putG (f + 1) n))) ∧ Below w.heap.size w w' := by
  rw [Leb.putG_last f n ⟨h0, h1⟩]
  have ht : (n + 128) % 128 = n % 128 := by omega
  go_enter Try.func47, Try.ntmps47
  go_wp2_with (go_at_call 67; refine (one_any _ (by omega) (by omega) _).mono ?_; rintro e w' ⟨rfl, hb⟩)
  go_ret
  exact ⟨rfl, hb⟩
theorem tmod_lo (n : Int) : -128 < n.tmod 128 ∧ n.tmod 128 < 128 ∧ (n.tmod 128 + 128) % 128 = n % 128 := by
  have h := Int.tmod_add_mul_tdiv n 128
  have h1 : n.tmod 128 < 128 := Int.tmod_lt_of_pos n (by decide)
  have h2 : -128 < n.tmod 128 := by
    have := Int.neg_tmod n 128 ▸ Int.tmod_lt_of_pos (-n) (show (0 : Int) < 128 by decide)
    omega
  omega
theorem refPutS_fuel (f : Nat) (hf : f < 10) : ∀ (n : Int) (w : World), -64 * 128 ^ f ≤ n → n < 64 * 128 ^ f → -9223372036854775808 ≤ n → n ≤ 9223372036854775807 →
    Calls Try.prog 47 #[.int .i64 n] w fun e w' => e = .returned (.string (strOfNums (Leb.putG (f + 1) n))) ∧ Below w.heap.size w w' := by
  induction f with
  | zero =>
    intro n w h0 h1 h2 h3
    exact refPutS_last 0 n w (by simpa using h0) (by simpa using h1)
  | succ f ih =>
    intro n w h0 h1 h2 h3
    by_cases h : -64 ≤ n ∧ n < 64
    · exact refPutS_last (f + 1) n w h.1 h.2
    · rw [Leb.putG_next (f + 1) n h]
      rw [Int.pow_succ] at h0 h1
      have h0' : -64 * 128 ^ f ≤ n / 128 := by
        generalize (128 : Int) ^ f = P at *
        omega
      have h1' : n / 128 < 64 * 128 ^ f := by
        generalize (128 : Int) ^ f = P at *
        omega
      have IH := Lib.hid (ih (by omega))
      have hl := Leb.putG_length (f + 1) (n / 128)
      have hs := strOfNums_size
      obtain ⟨m1, m2, m3⟩ := tmod_lo n
      have M3 := Lib.hid (show 128 + n.tmod 128 % 128 = n % 128 + 128 by omega)
      clear h0 h1 ih m3
      have hg : (decide (-64 ≤ n) && decide (n < 64)) = false := by simpa using h
      by_cases hn : n < -64
      · clear h
        go_enter Try.func47, Try.ntmps47
        go_wp2_with (first
          | (go_at_call 67; refine (one_any _ (by omega) (by omega) _).mono ?_; rintro e w1 ⟨rfl, hb1⟩)
          | (go_at_call 68; refine (floor_any n h2 h3 _).mono ?_; rintro e w' ⟨rfl, rfl⟩)
          | (go_at_call 47; refine (IH.out (n / 128) _ h0' h1' (by omega) (by omega)).mono ?_; rintro e w2 ⟨rfl, hb2⟩))
        go_ret
        refine ⟨?_, hb1.trans (hb2.mono hb1.size)⟩
        rw [strOfNums_cons, M3.out]
        rfl
      · have h64 : 64 ≤ n := by omega
        clear h m1 m2 M3
        go_enter Try.func47, Try.ntmps47
        go_wp2_with (first
          | (go_at_call 67; refine (one_any _ (by omega) (by omega) _).mono ?_; rintro e w1 ⟨rfl, hb1⟩)
          | (go_at_call 68; refine (floor_any n h2 h3 _).mono ?_; rintro e w' ⟨rfl, rfl⟩)
          | (go_at_call 47; refine (IH.out (n / 128) _ h0' h1' (by omega) (by omega)).mono ?_; rintro e w2 ⟨rfl, hb2⟩))
        go_ret
        refine ⟨?_, hb1.trans (hb2.mono hb1.size)⟩
        rw [strOfNums_cons, Int.add_comm]
        rfl
theorem refPutS_any (n : Int) (w : World) (h1 : -9223372036854775808 ≤ n) (h2 : n ≤ 9223372036854775807) :
    Calls Try.prog 47 #[.int .i64 n] w fun e w' => e = .returned (.string (strOfNums (Leb.putS n))) ∧ Below w.heap.size w w' :=
  refPutS_fuel 9 (by decide) n w (by simp; omega) (by simp; omega) h1 h2
end Go.Proofs.Ytfhifnkekegkkaa
