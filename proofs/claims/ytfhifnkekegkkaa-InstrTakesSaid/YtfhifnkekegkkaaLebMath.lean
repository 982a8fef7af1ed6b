/- The plain arithmetic of numbers as bytes of seven bits: lists and numbers alone, no program. -/
import Derived.Laws.BytesArg
import Derived.Laws.Bits128
import Derived.IntWalk
import Derived.RowKit
namespace Go.Proofs.Ytfhifnkekegkkaa
namespace Leb
open Go.RowKit (wrap64)

/-- Byte i of a string, 0 behind its end. -/
def byt (s : ByteArray) (i : Nat) : Nat := (s.data.toList.getD i 0).toNat
theorem byt_lt (s : ByteArray) (i : Nat) : byt s i < 256 := UInt8.toNat_lt _
theorem byt_get (s : ByteArray) (i : Nat) (h : i < s.size) : s[i].toNat = byt s i := by
  have h' : i < s.data.size := h
  unfold byt
  rw [List.getD_eq_getElem?_getD, List.getElem?_eq_getElem (by simpa using h')]
  rfl

/-- From place i on, at most f bytes, and below the bound: how many bytes there are up to the first below 128; 0: none. -/
def lenF (s : ByteArray) (most : Nat) : Nat → Nat → Nat
  | 0, _ => 0
  | f + 1, i => if i < s.size ∧ i < most then (if byt s i < 128 then i + 1 else lenF s most f (i + 1)) else 0
def len7 (s : ByteArray) (most : Nat) : Nat := lenF s most most 0

theorem lenF_next (s : ByteArray) (most f i : Nat) (h : i < s.size) (h2 : i < most) (hb : 128 ≤ byt s i) : lenF s most (f + 1) i = lenF s most f (i + 1) := by
  rw [lenF, if_pos ⟨h, h2⟩, if_neg (by omega)]
theorem lenF_here (s : ByteArray) (most f i : Nat) (h : i < s.size) (h2 : i < most) (hb : byt s i < 128) : lenF s most (f + 1) i = i + 1 := by
  rw [lenF, if_pos ⟨h, h2⟩, if_pos hb]
theorem lenF_end (s : ByteArray) (most f i : Nat) (h : s.size ≤ i ∨ most ≤ i) : lenF s most f i = 0 := by
  cases f with
  | zero => rfl
  | succ f => rw [lenF, if_neg (by omega)]

theorem lenF_prop (s : ByteArray) (most : Nat) : ∀ f i, lenF s most f i = 0 ∨
    (i < lenF s most f i ∧ lenF s most f i ≤ most ∧ lenF s most f i ≤ s.size ∧ byt s (lenF s most f i - 1) < 128 ∧ ∀ j, i ≤ j → j < lenF s most f i - 1 → 128 ≤ byt s j) := by
  intro f
  induction f with
  | zero => intro i; exact .inl rfl
  | succ f ih =>
    intro i
    by_cases h : i < s.size ∧ i < most
    · by_cases hb : byt s i < 128
      · rw [lenF_here s most f i h.1 h.2 hb]
        refine .inr ⟨by omega, by omega, by omega, by simpa using hb, ?_⟩
        intro j h1 h2
        omega
      · rw [lenF_next s most f i h.1 h.2 (by omega)]
        rcases ih (i + 1) with h0 | ⟨h1, h2, h3, h4, h5⟩
        · exact .inl h0
        · refine .inr ⟨by omega, h2, h3, h4, ?_⟩
          intro j hj1 hj2
          by_cases e : j = i
          · subst e; omega
          · exact h5 j (by omega) hj2
    · rw [lenF_end s most _ i (by omega)]
      exact .inl rfl

theorem lenF_of (s : ByteArray) (most n : Nat) (h2 : n ≤ most) (h3 : n ≤ s.size) (h4 : byt s (n - 1) < 128) :
    ∀ f i, i < n → n ≤ i + f → (∀ j, i ≤ j → j < n - 1 → 128 ≤ byt s j) → lenF s most f i = n := by
  intro f
  induction f with
  | zero => intro i h1 h; omega
  | succ f ih =>
    intro i h1 h hb
    by_cases e : i + 1 = n
    · have e2 : n - 1 = i := by omega
      rw [lenF_here s most f i (by omega) (by omega) (by rw [← e2]; exact h4)]
      exact e
    · rw [lenF_next s most f i (by omega) (by omega) (hb i (Nat.le_refl _) (by omega))]
      exact ih (i + 1) (by omega) (by omega) (fun j k1 k2 => hb j (by omega) k2)

theorem len7_prop (s : ByteArray) (most : Nat) : len7 s most = 0 ∨
    (0 < len7 s most ∧ len7 s most ≤ most ∧ len7 s most ≤ s.size ∧ byt s (len7 s most - 1) < 128 ∧ ∀ j, j < len7 s most - 1 → 128 ≤ byt s j) := by
  rcases lenF_prop s most most 0 with h | ⟨h1, h2, h3, h4, h5⟩
  · exact .inl h
  · exact .inr ⟨h1, h2, h3, h4, fun j hj => h5 j (Nat.zero_le _) hj⟩
theorem len7_of (s : ByteArray) (most n : Nat) (h1 : 0 < n) (h2 : n ≤ most) (h3 : n ≤ s.size) (h4 : byt s (n - 1) < 128) (h5 : ∀ j, j < n - 1 → 128 ≤ byt s j) : len7 s most = n :=
  lenF_of s most n h2 h3 h4 most 0 h1 (by omega) (fun j _ hj => h5 j hj)
theorem len7_le (s : ByteArray) (most : Nat) : len7 s most ≤ most ∧ len7 s most ≤ s.size := by
  rcases len7_prop s most with h | ⟨_, h2, h3, _⟩
  · omega
  · exact ⟨h2, h3⟩

/-- The sum of the first k bytes' seven bits. -/
def sum7 (s : ByteArray) : Nat → Nat
  | 0 => 0
  | k + 1 => sum7 s k + byt s k % 128 * 128 ^ k
theorem sum7_succ (s : ByteArray) (k : Nat) : sum7 s (k + 1) = sum7 s k + byt s k % 128 * 128 ^ k := rfl
theorem sum7_lt (s : ByteArray) : ∀ k, sum7 s k < 128 ^ k := by
  intro k
  induction k with
  | zero => simp [sum7]
  | succ k ih =>
    have h : byt s k % 128 * 128 ^ k ≤ 127 * 128 ^ k := Nat.mul_le_mul_right _ (by omega)
    rw [sum7, Nat.pow_succ]
    omega

theorem wrap_mod (X : Nat) : ((wrap64 (X : Int)) % (18446744073709551616 : Int)).toNat = X % 18446744073709551616 := by
  unfold wrap64
  omega
theorem wrap_add (a X : Nat) : (((X % 18446744073709551616 + a : Nat) : Int) + 9223372036854775808) % 18446744073709551616 - 9223372036854775808 = wrap64 ((a + X : Nat) : Int) := by
  unfold wrap64
  omega
theorem p63 : (2 : Nat) ^ 63 = 9223372036854775808 := by simp
theorem p64 : (2 : Nat) ^ 64 = 18446744073709551616 := by simp
theorem toNat_ofInt64 (i : Int) : (BitVec.ofInt 64 i).toNat = (i % 18446744073709551616).toNat := by
  rw [BitVec.toNat_ofInt, p64]
  rfl
theorem low_bits (c k : Nat) (hk : k ≤ 63) : (c * 2 ^ k) % 18446744073709551616 = 2 ^ k * (c % 2 ^ (64 - k)) := by
  have h : k + (64 - k) = 64 := by omega
  have e : (18446744073709551616 : Nat) = 2 ^ k * 2 ^ (64 - k) := by
    rw [← Nat.pow_add, h, p64]
  rw [e, Nat.mul_comm c, Nat.mul_mod_mul_left]
theorem below63 (a k : Nat) (hk : k ≤ 63) (ha : a < 2 ^ k) : a < 9223372036854775808 := by
  have hp : (2 : Nat) ^ k ≤ 2 ^ 63 := Nat.pow_le_pow_right (by decide) hk
  rw [p63] at hp
  exact Nat.lt_of_lt_of_le ha hp

/-- x | y, x below 2^k, y a multiple of 2^k, whatever is lost of it above bit 63. -/
theorem or_shift (a c k : Nat) (hk : k ≤ 63) (ha : a < 2 ^ k) : bits .or .i64 (a : Int) (wrap64 ((c : Int) * 2 ^ k)) = wrap64 ((a + c * 2 ^ k : Nat) : Int) := by
  have hp := below63 a k hk ha
  have e1 : (BitVec.ofInt 64 (a : Int)).toNat = a := by
    rw [toNat_ofInt64]
    omega
  have e2 : (BitVec.ofInt 64 (wrap64 ((c : Int) * 2 ^ k))).toNat = (c * 2 ^ k) % 18446744073709551616 := by
    have e : ((c : Int) * 2 ^ k) = ((c * 2 ^ k : Nat) : Int) := by simp
    rw [toNat_ofInt64, e, wrap_mod]
  show IntKind.i64.wrap ((BitVec.ofInt 64 (a : Int) ||| BitVec.ofInt 64 (wrap64 ((c : Int) * 2 ^ k))).toNat : Nat) = _
  rw [BitVec.toNat_or, e1, e2, low_bits c k hk, Nat.or_comm, ← Nat.two_pow_add_eq_or_of_lt ha, ← low_bits c k hk, IntKind.wrap_i64]
  exact wrap_add a _

theorem pow7 (m : Nat) : (128 : Nat) ^ m = 2 ^ (7 * m) := by rw [Nat.pow_mul]

theorem or_sum (s : ByteArray) (m : Nat) (hm : m ≤ 9) : bits .or .i64 (wrap64 (sum7 s m)) (wrap64 (((byt s m % 128 : Nat) : Int) * 2 ^ (7 * m))) = wrap64 (sum7 s (m + 1)) := by
  have h := sum7_lt s m
  rw [pow7] at h
  have h63 := below63 _ _ (by omega) h
  have e : wrap64 (sum7 s m) = (sum7 s m : Int) := IntWalk.wrap64_in _ (by omega)
  rw [e, or_shift _ _ _ (by omega) h, sum7, pow7]

/-- With the bits behind the last byte's bit 6 as that. -/
def sg7 (s : ByteArray) (u : Nat) : Int := if 64 ≤ byt s (u - 1) % 128 then (sum7 s u : Int) - 128 ^ u else sum7 s u
theorem ten_even (A : Nat) (hl : A < 9223372036854775808) : wrap64 ((A + 0 * 9223372036854775808 : Nat) : Int) = (A : Int) := by
  unfold wrap64
  omega
theorem ten_odd (A : Nat) (hl : A < 9223372036854775808) : wrap64 ((A + 127 * 9223372036854775808 : Nat) : Int) = ((A + 127 * 9223372036854775808 : Nat) : Int) - 1180591620717411303424 := by
  unfold wrap64
  omega
theorem p9 : (128 : Nat) ^ 9 = 9223372036854775808 := by simp
theorem p10 : (128 : Int) ^ 10 = 1180591620717411303424 := by simp
theorem sign_ten (A b S : Nat) (G : Int) (hl : A < 9223372036854775808) (h : b = 0 ∨ b = 127) (hS : S = A + b % 128 * 9223372036854775808)
    (hG : G = if 64 ≤ b % 128 then (S : Int) - 1180591620717411303424 else S) : wrap64 (S : Int) = G := by
  subst hG hS
  rcases h with rfl | rfl
  · rw [if_neg (by decide), show 0 % 128 = 0 from rfl, ten_even A hl]
    omega
  · rw [if_pos (by decide), show 127 % 128 = 127 from rfl, ten_odd A hl]
theorem sum10 (s : ByteArray) : sum7 s 10 = sum7 s 9 + byt s 9 % 128 * 9223372036854775808 := by
  rw [← p9]
  exact sum7_succ s 9
theorem sg10 (s : ByteArray) : sg7 s 10 = if 64 ≤ byt s 9 % 128 then (sum7 s 10 : Int) - 1180591620717411303424 else sum7 s 10 := by
  rw [← p10]
  rfl
theorem sign_of10 (s : ByteArray) (h : byt s 9 = 0 ∨ byt s 9 = 127) : wrap64 (sum7 s 10) = sg7 s 10 := by
  have hl := sum7_lt s 9
  rw [p9] at hl
  exact sign_ten (sum7 s 9) (byt s 9) _ _ hl h (sum10 s) (sg10 s)
theorem p57 : (2 : Nat) ^ 57 = 144115188075855872 := by simp
theorem sign_one (A B P Q : Int) (hPQ : P * Q = 144115188075855872) (hQ : 0 < Q) (hA0 : 0 ≤ A) (hA : A < P) (hB0 : 0 ≤ B) (hB : B < 128) :
    wrap64 ((A + B * P) * Q) = (if 64 ≤ B then (A + B * P) - P * 128 else (A + B * P)) * Q := by
  have e : (A + B * P) * Q = A * Q + B * 144115188075855872 := by rw [Int.add_mul, Int.mul_assoc, hPQ]
  have e2 : ((A + B * P) - P * 128) * Q = A * Q + B * 144115188075855872 - 144115188075855872 * 128 := by rw [Int.sub_mul, e, Int.mul_assoc P, Int.mul_comm 128, ← Int.mul_assoc, hPQ]
  have h1 : 0 ≤ A * Q := Int.mul_nonneg hA0 (Int.le_of_lt hQ)
  have h2 : A * Q < 144115188075855872 := by rw [← hPQ]; exact Int.mul_lt_mul_of_pos_right hA hQ
  split
  · rw [e2, e]
    generalize A * Q = X at *
    unfold wrap64
    omega
  · rw [e]
    generalize A * Q = X at *
    unfold wrap64
    omega
theorem sg7_eq (s : ByteArray) (k : Nat) : sg7 s (k + 1) = if (64 : Int) ≤ ((byt s k % 128 : Nat) : Int) then ((sum7 s k : Int) + ((byt s k % 128 : Nat) : Int) * ((128 ^ k : Nat) : Int)) - ((128 ^ k : Nat) : Int) * 128 else ((sum7 s k : Int) + ((byt s k % 128 : Nat) : Int) * ((128 ^ k : Nat) : Int)) := by
  unfold sg7
  rw [Nat.add_sub_cancel, sum7_succ]
  have e : ((128 : Int) ^ (k + 1)) = ((128 ^ k : Nat) : Int) * 128 := by rw [Int.pow_succ]; simp
  rw [e]
  have e2 : ((sum7 s k + byt s k % 128 * 128 ^ k : Nat) : Int) = (sum7 s k : Int) + ((byt s k % 128 : Nat) : Int) * ((128 ^ k : Nat) : Int) := by simp
  rw [e2]
  by_cases h : 64 ≤ byt s k % 128
  · rw [if_pos h, if_pos (by omega)]
  · rw [if_neg h, if_neg (by omega)]
theorem sign_of (s : ByteArray) (u : Nat) (h1 : 1 ≤ u) (h2 : u ≤ 9) : wrap64 (wrap64 (sum7 s u) * 2 ^ (64 - 7 * u)) / 2 ^ (64 - 7 * u) = sg7 s u := by
  have hlu := sum7_lt s u
  rw [pow7] at hlu
  have h63 := below63 _ _ (by omega) hlu
  rw [IntWalk.wrap64_in (sum7 s u : Int) (by omega)]
  clear hlu h63
  obtain ⟨k, rfl⟩ : ∃ k, u = k + 1 := ⟨u - 1, by omega⟩
  have hl := sum7_lt s k
  have hb : byt s k % 128 < 128 := Nat.mod_lt _ (by decide)
  have hQ : (0 : Int) < 2 ^ (64 - 7 * (k + 1)) := Int.pow_pos (by decide)
  have hPQn : (128 : Nat) ^ k * 2 ^ (64 - 7 * (k + 1)) = 144115188075855872 := by
    rw [pow7, ← Nat.pow_add, show 7 * k + (64 - 7 * (k + 1)) = 57 from by omega, p57]
  have hPQ : ((128 ^ k : Nat) : Int) * 2 ^ (64 - 7 * (k + 1)) = 144115188075855872 := by
    have : ((2 : Int) ^ (64 - 7 * (k + 1))) = ((2 ^ (64 - 7 * (k + 1)) : Nat) : Int) := by simp
    rw [this, ← Int.natCast_mul, hPQn]
    rfl
  have e2 : ((sum7 s (k + 1) : Nat) : Int) = (sum7 s k : Int) + ((byt s k % 128 : Nat) : Int) * ((128 ^ k : Nat) : Int) := by rw [sum7_succ]; simp
  rw [e2, sg7_eq, sign_one _ _ _ _ hPQ hQ (by omega) (by omega) (by omega) (by omega)]
  exact Int.mul_ediv_cancel _ (by omega)
end Leb
end Go.Proofs.Ytfhifnkekegkkaa
