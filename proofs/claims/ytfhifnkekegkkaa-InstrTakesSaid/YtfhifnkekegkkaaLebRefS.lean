/- The walk of the document's own TakeS: the same sums. -/
import Derived.Test.YtfhifnkekegkkaaLebRefT
import Derived.Test.YtfhifnkekegkkaaLebTakeS
namespace Go.Proofs.Ytfhifnkekegkkaa
open Go.RowKit
open Leb (byt len7 lenF sum7 sg7)

theorem refTakeS_arg (s : ByteArray) (b : Int) (h32 : b ≠ 32) (h33 : b ≠ 33) (h64 : b ≠ 64) (w : World) :
    Calls Try.prog 81 #[.string s, .int .i64 b] w fun e w' => e = .returned (.tuple #[.int .i64 0, .string ⟨#[]⟩, .int .i64 1]) ∧ w = w' := by
  have k1 : (b != 32) = true := by simpa using h32
  have k2 : (b != 33) = true := by simpa using h33
  have k3 : (b != 64) = true := by simpa using h64
  clear h32 h33 h64
  go_enter Try.func81, Try.ntmps81
  go_wp2_with fail
  go_ret3
  exact ⟨rfl, rfl⟩

theorem refTakeS_none (s : ByteArray) (b : Int) (most : Nat) (half : Int) (hw : Bw b most half) (hs : s.size ≤ maxLen) (h0 : len7 s most = 0) (w : World) :
    Calls Try.prog 81 #[.string s, .int .i64 b] w fun e w' => e = .returned (sTup s most half) ∧ Below w.heap.size w w' := by
  rw [sTup_bad (decide_eq_false (by omega))]
  rcases hw with ⟨rfl, rfl, rfl⟩ | ⟨rfl, rfl, rfl⟩ | ⟨rfl, rfl, rfl⟩
  all_goals
    go_enter Try.func81, Try.ntmps81
    go_wp2_with (go_at_call 59; refine (length_any s _ hs (by decide) _).mono ?_; rintro e w' ⟨rfl, rfl⟩)
    go_ret3
    exact ⟨rfl, Below.refl _ _⟩

theorem refTakeS_ten (s : ByteArray) (b : Int) (most : Nat) (half : Int) (hw : Bw b most half) (hs : s.size ≤ maxLen) (ht : ¬ tenOk s (len7 s most)) (w : World) :
    Calls Try.prog 81 #[.string s, .int .i64 b] w fun e w' => e = .returned (sTup s most half) ∧ Below w.heap.size w w' := by
  rw [sTup_bad (decide_eq_false (fun h => ht h.2.1))]
  have hs' := hs
  unfold maxLen at hs'
  obtain ⟨hu, h1, h2⟩ : len7 s most = 10 ∧ byt s 9 ≠ 0 ∧ byt s 9 ≠ 127 := by unfold tenOk at ht; omega
  have hle := Leb.len7_le s most
  rw [hu] at hle
  have hi : (9 : Nat) < s.size := by omega
  have e3 := Leb.byt_get s 9 hi
  have k1 : ((byt s 9 : Int) != 0) = true := by rw [bne_iff_ne]; omega
  have k2 : ((byt s 9 : Int) != 127) = true := by rw [bne_iff_ne]; omega
  have hL := Lib.hid (length_any s most hs)
  rw [hu] at hL
  clear ht h1 h2 hu
  rcases hw with ⟨rfl, rfl, rfl⟩ | ⟨rfl, rfl, rfl⟩ | ⟨rfl, rfl, rfl⟩
  · omega
  · omega
  · go_enter Try.func81, Try.ntmps81
    go_wp2_with (go_at_call 59; refine (hL.out (by decide) _).mono ?_; rintro e w' ⟨rfl, rfl⟩)
    go_ret3
    exact ⟨rfl, Below.refl _ _⟩

/-! ### The loop from the last byte down -/
theorem down_step (s : ByteArray) (m : Nat) (V G : Int) (h : V * ((128 ^ (m + 1) : Nat) : Int) + (sum7 s (m + 1) : Nat) = G) : (V * 128 + (byt s m : Int) % 128) * ((128 ^ m : Nat) : Int) + (sum7 s m : Nat) = G := by
  rw [← h, Leb.sum7_succ, Nat.pow_succ, Int.add_mul]
  simp
  rw [Int.mul_assoc, Int.mul_comm 128]
  generalize (128 : Int) ^ m = P
  generalize (byt s m : Int) % 128 * P = Y
  generalize V * (P * 128) = Z
  omega
theorem down_range (X P A G : Int) (h : X * P + A = G) (hP : 1 ≤ P) (hA : 0 ≤ A) (hA2 : A < P) (hG : -9223372036854775808 ≤ G ∧ G ≤ 9223372036854775807) : -9223372036854775808 ≤ X ∧ X ≤ 9223372036854775807 := by
  constructor
  · by_cases hx : -9223372036854775808 ≤ X
    · exact hx
    · exfalso
      have h1 : X * P ≤ (-9223372036854775809) * P := Int.mul_le_mul_of_nonneg_right (by omega) (by omega)
      omega
  · by_cases hx : X ≤ 9223372036854775807
    · exact hx
    · exfalso
      have h1 : 9223372036854775808 * P ≤ X * P := Int.mul_le_mul_of_nonneg_right (by omega) (by omega)
      omega
theorem down_in (s : ByteArray) (m : Nat) (V G : Int) (h : V * ((128 ^ (m + 1) : Nat) : Int) + (sum7 s (m + 1) : Nat) = G) (hG : -9223372036854775808 ≤ G ∧ G ≤ 9223372036854775807) :
    -9223372036854775808 ≤ V * 128 + (byt s m : Int) % 128 ∧ V * 128 + (byt s m : Int) % 128 ≤ 9223372036854775807 := by
  have hl := Leb.sum7_lt s m
  have hp : 0 < 128 ^ m := Nat.pow_pos (by decide)
  exact down_range _ _ _ _ (down_step s m V G h) (by omega) (by omega) (by omega) hG
def DownRel (s : ByteArray) (n : Nat) (v i : Value) : Prop :=
  ∃ (k : Nat) (V j : Int), v = .int .i64 V ∧ i = .int .i64 j ∧ j = (k : Int) - 1 ∧ k ≤ n ∧ V * ((128 ^ k : Nat) : Int) + (sum7 s k : Nat) = sg7 s n
theorem down_start (s : ByteArray) (p : Nat) (V : Int) (h : V = if 64 ≤ byt s p % 128 then -1 else 0) : DownRel s (p + 1) (.int .i64 V) (.int .i64 (p : Int)) := by
  refine ⟨p + 1, V, p, rfl, rfl, by omega, Nat.le_refl _, ?_⟩
  subst h
  unfold sg7
  rw [Nat.add_sub_cancel]
  have e : ((128 ^ (p + 1) : Nat) : Int) = (128 : Int) ^ (p + 1) := by simp
  rw [e]
  split <;> omega

theorem down_zero {s : ByteArray} {n : Nat} {V j : Int} (hj : j = ((0 : Nat) : Int) - 1) (hV : V * ((128 ^ 0 : Nat) : Int) + (sum7 s 0 : Nat) = sg7 s n) : V = sg7 s n ∧ j = -1 := by
  simp [sum7] at hV
  exact ⟨hV, by omega⟩
theorem last_start (s : ByteArray) (p : Nat) : (64 ≤ byt s p % 128 ∧ Hid (DownRel s (p + 1) (.int .i64 (-1)) (.int .i64 (p : Int)))) ∨ (byt s p % 128 < 64 ∧ Hid (DownRel s (p + 1) (.int .i64 0) (.int .i64 (p : Int)))) := by
  by_cases h : 64 ≤ byt s p % 128
  · exact .inl ⟨h, Lib.hid (down_start s p (-1) (by rw [if_pos h]))⟩
  · exact .inr ⟨by omega, Lib.hid (down_start s p 0 (by rw [if_neg h]))⟩

set_option maxRecDepth 100000 in
set_option maxHeartbeats 1000000 in
theorem refTakeS_far (s : ByteArray) (b : Int) (most : Nat) (half : Int) (hw : Bw b most half) (hs : s.size ≤ maxLen) (p : Nat) (hn : len7 s most = p + 1) (ht : tenOk s (p + 1)) (hr : ¬(-half ≤ sg7 s (p + 1) ∧ sg7 s (p + 1) < half)) (w : World) :
    Calls Try.prog 81 #[.string s, .int .i64 b] w fun e w' => e = .returned (sTup s most half) ∧ Below w.heap.size w w' := by
  rw [sTup_bad (decide_eq_false (fun h => hr (hn ▸ h.2.2)))]
  have hs' := hs
  unfold maxLen at hs'
  have hle := Leb.len7_le s most
  rw [hn] at hle
  have hm : most ≤ 10 := by rcases hw with ⟨rfl, rfl, rfl⟩ | ⟨rfl, rfl, rfl⟩ | ⟨rfl, rfl, rfl⟩ <;> decide
  have hin := sg7_in s (p + 1) (by omega) (by omega) ht
  have hL := Lib.hid (length_any s most hs hm)
  rw [hn] at hL
  have hpi : p < s.size := by omega
  have ep := Leb.byt_get s p hpi
  have ep2 := Leb.byt_lt s p
  clear hn ht
  rcases hw with ⟨rfl, rfl, rfl⟩ | ⟨rfl, rfl, rfl⟩ | ⟨rfl, rfl, rfl⟩
  rotate_left 2
  · omega
  all_goals
    have h10 : (((p : Int) + 1) == 10) = false := by simp; omega
    have HR := Lib.hid hr
    clear hr
    rcases last_start s p with ⟨hc, HS⟩ | ⟨hc, HS⟩
    all_goals
      go_enter Try.func81, Try.ntmps81
      go_wp2_with (go_at_call 59; refine (hL.out _).mono ?_; rintro e w' ⟨rfl, rfl⟩)
      go_loop [9, 10] (fun v i => DownRel s (p + 1) v i) (fun _ i => (intOf i + 1).toNat)
      case atStart => exact HS.out
      case round =>
        obtain ⟨k, V, j, rfl, rfl, hj, hk, hV⟩ := hrel
        cases k with
        | zero =>
          obtain ⟨rfl, rfl⟩ := down_zero hj hV
          clear hj hV hk
          have hG := HR.out
          by_cases hG1 : -2147483648 ≤ sg7 s (p + 1)
          · first
              | (have hG2 : decide ((2147483648 : Int) ≤ sg7 s (p + 1)) = true := by simp; omega
                 clear hG
                 go_wp2_with fail
                 go_ret3
                 exact ⟨rfl, Below.refl _ _⟩)
              | (have hG2 : decide ((4294967296 : Int) ≤ sg7 s (p + 1)) = true := by simp; omega
                 have hG3 : decide (sg7 s (p + 1) < (-4294967296 : Int)) = false := by simp; omega
                 clear hG
                 go_wp2_with fail
                 go_ret3
                 exact ⟨rfl, Below.refl _ _⟩)
          · first
              | (have hG2 : decide (sg7 s (p + 1) < (-2147483648 : Int)) = true := by simp; omega
                 clear hG
                 go_wp2_with fail
                 go_ret3
                 exact ⟨rfl, Below.refl _ _⟩)
              | (have hG2 : decide (sg7 s (p + 1) < (-4294967296 : Int)) = true := by simp; omega
                 clear hG
                 go_wp2_with fail
                 go_ret3
                 exact ⟨rfl, Below.refl _ _⟩)
        | succ m =>
          obtain rfl : j = (m : Int) := by omega
          have hb := down_in s m V _ hV hin
          have hst := Lib.hid (down_step s m V _ hV)
          have hmi : m < s.size := by omega
          have em := Leb.byt_get s m hmi
          have em2 := Leb.byt_lt s m
          have hb2 : -9223372036854775808 ≤ V * 128 ∧ V * 128 ≤ 9223372036854775807 := by omega
          clear hj hV
          go_wp2_with fail
          go_round
          case rel => exact ⟨m, _, _, rfl, rfl, rfl, by omega, hst.out⟩
          case measure => simp [intOf]

set_option maxRecDepth 100000 in
set_option maxHeartbeats 1000000 in
theorem refTakeS_short (s : ByteArray) (b : Int) (most : Nat) (half : Int) (hw : Bw b most half) (hs : s.size ≤ maxLen) (p : Nat) (hn : len7 s most = p + 1) (hp : p < 9) (hr : -half ≤ sg7 s (p + 1) ∧ sg7 s (p + 1) < half) (w : World) :
    Calls Try.prog 81 #[.string s, .int .i64 b] w fun e w' => e = .returned (sTup s most half) ∧ Below w.heap.size w w' := by
  have ht : tenOk s (p + 1) := fun h => by omega
  rw [sTup_good (decide_eq_true (by rw [hn]; exact ⟨by omega, ht, hr⟩)), hn]
  have hs' := hs
  unfold maxLen at hs'
  have hle := Leb.len7_le s most
  rw [hn] at hle
  have hm : most ≤ 10 := by rcases hw with ⟨rfl, rfl, rfl⟩ | ⟨rfl, rfl, rfl⟩ | ⟨rfl, rfl, rfl⟩ <;> decide
  have hin := sg7_in s (p + 1) (by omega) (by omega) ht
  have hL := Lib.hid (length_any s most hs hm)
  rw [hn] at hL
  have hpi : p < s.size := by omega
  have ep := Leb.byt_get s p hpi
  have ep2 := Leb.byt_lt s p
  have h10 : (((p : Int) + 1) == 10) = false := by simp; omega
  clear hn ht
  rcases hw with ⟨rfl, rfl, rfl⟩ | ⟨rfl, rfl, rfl⟩ | ⟨rfl, rfl, rfl⟩
  · have hG2 : decide ((2147483648 : Int) ≤ sg7 s (p + 1)) = false := by simp; omega
    have hG3 : decide (sg7 s (p + 1) < (-2147483648 : Int)) = false := by simp; omega
    clear hr
    rcases last_start s p with ⟨hc, HS⟩ | ⟨hc, HS⟩
    all_goals
      go_enter Try.func81, Try.ntmps81
      go_wp2_with (go_at_call 59; refine (hL.out _).mono ?_; rintro e w' ⟨rfl, rfl⟩)
      go_loop [9, 10] (fun v i => DownRel s (p + 1) v i) (fun _ i => (intOf i + 1).toNat)
      case atStart => exact HS.out
      case round =>
        obtain ⟨k, V, j, rfl, rfl, hj, hk, hV⟩ := hrel
        cases k with
        | zero =>
          obtain ⟨rfl, rfl⟩ := down_zero hj hV
          clear hj hV hk
          go_wp2_with fail
          go_quiet (fail)
          go_wp2
          go_ret3
          exact ⟨rfl, below_drewN (Below.refl _ _) _⟩
        | succ m =>
          obtain rfl : j = (m : Int) := by omega
          have hb := down_in s m V _ hV hin
          have hst := Lib.hid (down_step s m V _ hV)
          have hmi : m < s.size := by omega
          have em := Leb.byt_get s m hmi
          have em2 := Leb.byt_lt s m
          have hb2 : -9223372036854775808 ≤ V * 128 ∧ V * 128 ≤ 9223372036854775807 := by omega
          clear hj hV
          go_wp2_with fail
          go_round
          case rel => exact ⟨m, _, _, rfl, rfl, rfl, by omega, hst.out⟩
          case measure => simp [intOf]
  · have hG2 : decide ((4294967296 : Int) ≤ sg7 s (p + 1)) = false := by simp; omega
    have hG3 : decide (sg7 s (p + 1) < (-4294967296 : Int)) = false := by simp; omega
    clear hr
    rcases last_start s p with ⟨hc, HS⟩ | ⟨hc, HS⟩
    all_goals
      go_enter Try.func81, Try.ntmps81
      go_wp2_with (go_at_call 59; refine (hL.out _).mono ?_; rintro e w' ⟨rfl, rfl⟩)
      go_loop [9, 10] (fun v i => DownRel s (p + 1) v i) (fun _ i => (intOf i + 1).toNat)
      case atStart => exact HS.out
      case round =>
        obtain ⟨k, V, j, rfl, rfl, hj, hk, hV⟩ := hrel
        cases k with
        | zero =>
          obtain ⟨rfl, rfl⟩ := down_zero hj hV
          clear hj hV hk
          go_wp2_with fail
          go_quiet (fail)
          go_wp2
          go_ret3
          exact ⟨rfl, below_drewN (Below.refl _ _) _⟩
        | succ m =>
          obtain rfl : j = (m : Int) := by omega
          have hb := down_in s m V _ hV hin
          have hst := Lib.hid (down_step s m V _ hV)
          have hmi : m < s.size := by omega
          have em := Leb.byt_get s m hmi
          have em2 := Leb.byt_lt s m
          have hb2 : -9223372036854775808 ≤ V * 128 ∧ V * 128 ≤ 9223372036854775807 := by omega
          clear hj hV
          go_wp2_with fail
          go_round
          case rel => exact ⟨m, _, _, rfl, rfl, rfl, by omega, hst.out⟩
          case measure => simp [intOf]
  · clear hr
    rcases last_start s p with ⟨hc, HS⟩ | ⟨hc, HS⟩
    all_goals
      go_enter Try.func81, Try.ntmps81
      go_wp2_with (go_at_call 59; refine (hL.out _).mono ?_; rintro e w' ⟨rfl, rfl⟩)
      go_loop [9, 10] (fun v i => DownRel s (p + 1) v i) (fun _ i => (intOf i + 1).toNat)
      case atStart => exact HS.out
      case round =>
        obtain ⟨k, V, j, rfl, rfl, hj, hk, hV⟩ := hrel
        cases k with
        | zero =>
          obtain ⟨rfl, rfl⟩ := down_zero hj hV
          clear hj hV hk
          go_wp2_with fail
          go_quiet (fail)
          go_wp2
          go_ret3
          exact ⟨rfl, below_drewN (Below.refl _ _) _⟩
        | succ m =>
          obtain rfl : j = (m : Int) := by omega
          have hb := down_in s m V _ hV hin
          have hst := Lib.hid (down_step s m V _ hV)
          have hmi : m < s.size := by omega
          have em := Leb.byt_get s m hmi
          have em2 := Leb.byt_lt s m
          have hb2 : -9223372036854775808 ≤ V * 128 ∧ V * 128 ≤ 9223372036854775807 := by omega
          clear hj hV
          go_wp2_with fail
          go_round
          case rel => exact ⟨m, _, _, rfl, rfl, rfl, by omega, hst.out⟩
          case measure => simp [intOf]
end Go.Proofs.Ytfhifnkekegkkaa
