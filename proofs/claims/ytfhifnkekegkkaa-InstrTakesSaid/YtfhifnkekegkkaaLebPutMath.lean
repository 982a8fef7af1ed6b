/- What is laid of a number, as a list of bytes: that it is taken as it was, and that no bytes are fewer: lists and numbers alone, no program. -/
import Derived.Test.YtfhifnkekegkkaaLebMath
namespace Go.Proofs.Ytfhifnkekegkkaa
namespace Leb

/-- The bytes of a number from 0 on, at most f. -/
def putF : Nat → Int → List Int
  | 0, _ => []
  | f + 1, n => if n < 128 then [n] else (n % 128 + 128) :: putF f (n / 128)
def putU (n : Int) : List Int := if n < 0 then [] else putF 10 n
/-- The bytes of any number, at most f. -/
def putG : Nat → Int → List Int
  | 0, _ => []
  | f + 1, n => if -64 ≤ n ∧ n < 64 then [n % 128] else (n % 128 + 128) :: putG f (n / 128)
def putS (n : Int) : List Int := putG 10 n

theorem putF_last (f : Nat) (n : Int) (h : n < 128) : putF (f + 1) n = [n] := by rw [putF, if_pos h]
theorem putF_next (f : Nat) (n : Int) (h : 128 ≤ n) : putF (f + 1) n = (n % 128 + 128) :: putF f (n / 128) := by rw [putF, if_neg (by omega)]
theorem putG_last (f : Nat) (n : Int) (h : -64 ≤ n ∧ n < 64) : putG (f + 1) n = [n % 128] := by rw [putG, if_pos h]
theorem putG_next (f : Nat) (n : Int) (h : ¬(-64 ≤ n ∧ n < 64)) : putG (f + 1) n = (n % 128 + 128) :: putG f (n / 128) := by rw [putG, if_neg h]

theorem putF_length (f : Nat) : ∀ n, (putF f n).length ≤ f := by
  induction f with
  | zero => intro n; simp [putF]
  | succ f ih =>
    intro n
    by_cases h : n < 128
    · rw [putF_last f n h]; simp
    · rw [putF_next f n (by omega)]; simpa using ih _
theorem putG_length (f : Nat) : ∀ n, (putG f n).length ≤ f := by
  induction f with
  | zero => intro n; simp [putG]
  | succ f ih =>
    intro n
    by_cases h : -64 ≤ n ∧ n < 64
    · rw [putG_last f n h]; simp
    · rw [putG_next f n h]; simpa using ih _
theorem putU_length (n : Int) : (putU n).length ≤ 10 := by
  unfold putU
  split
  · simp
  · exact putF_length 10 n

/-! ### One byte ahead of others -/
theorem byt_head (d : Int) (l : List Int) (more : ByteArray) (h2 : d < 256) : byt (strOfNums (d :: l) ++ more) 0 = d.toNat := by
  unfold byt
  simp [ByteArray.data_append, strOfNums]
  omega
theorem byt_tail (d : Int) (l : List Int) (more : ByteArray) (i : Nat) : byt (strOfNums (d :: l) ++ more) (i + 1) = byt (strOfNums l ++ more) i := by
  unfold byt
  simp [ByteArray.data_append, strOfNums]
theorem size_app (l : List Int) (more : ByteArray) : (strOfNums l ++ more).size = l.length + more.size := by
  rw [ByteArray.size_append, strOfNums_size]

theorem sum7_shift (s t : ByteArray) (h : ∀ i, byt s (i + 1) = byt t i) : ∀ k, sum7 s (k + 1) = byt s 0 % 128 + 128 * sum7 t k := by
  intro k
  induction k with
  | zero => simp [sum7]
  | succ k ih =>
    rw [sum7_succ, ih, h k, sum7_succ t k, Nat.pow_succ, Nat.mul_add]
    generalize byt t k % 128 = B
    generalize 128 ^ k = P
    rw [show B * (P * 128) = 128 * (B * P) from by rw [← Nat.mul_assoc, Nat.mul_comm _ 128]]
    omega
theorem sum7_one (s : ByteArray) : sum7 s 1 = byt s 0 % 128 := by simp [sum7]
theorem sg7_one (s : ByteArray) : sg7 s 1 = if 64 ≤ byt s 0 % 128 then ((byt s 0 % 128 : Nat) : Int) - 128 else ((byt s 0 % 128 : Nat) : Int) := by
  unfold sg7
  rw [sum7_one]
  rfl
theorem sg7_shift (s t : ByteArray) (h : ∀ i, byt s (i + 1) = byt t i) (k : Nat) (hk : 1 ≤ k) : sg7 s (k + 1) = ((byt s 0 % 128 : Nat) : Int) + 128 * sg7 t k := by
  obtain ⟨j, rfl⟩ : ∃ j, k = j + 1 := ⟨k - 1, by omega⟩
  unfold sg7
  rw [sum7_shift s t h]
  simp only [Nat.add_sub_cancel]
  rw [h j, Int.pow_succ]
  generalize (128 : Int) ^ (j + 1) = P
  generalize sum7 t (j + 1) = A
  generalize byt s 0 % 128 = B
  split <;> omega

/-- A laid number's bytes: how many, which of them are below 128. -/
structure Laid (l : List Int) (more : ByteArray) : Prop where
  pos : 0 < l.length
  last : byt (strOfNums l ++ more) (l.length - 1) < 128
  others : ∀ j, j < l.length - 1 → 128 ≤ byt (strOfNums l ++ more) j

theorem Laid.one (d : Int) (more : ByteArray) (h : 0 ≤ d) (h2 : d < 128) : Laid [d] more := by
  refine ⟨by simp, ?_, ?_⟩
  · show byt _ 0 < 128
    rw [byt_head d [] more (by omega)]
    omega
  · intro j hj
    simp at hj
theorem Laid.cons {l : List Int} {more : ByteArray} (h : Laid l more) (d : Int) (h1 : 128 ≤ d) (h2 : d < 256) : Laid (d :: l) more := by
  have hp := h.pos
  refine ⟨by simp, ?_, ?_⟩
  · obtain ⟨k, hk⟩ : ∃ k, l.length = k + 1 := ⟨l.length - 1, by omega⟩
    have e : (d :: l).length - 1 = k + 1 := by simp [hk]
    rw [e, byt_tail]
    have := h.last
    rw [hk] at this
    exact this
  · intro j hj
    cases j with
    | zero => rw [byt_head d l more h2]; omega
    | succ j => rw [byt_tail]; exact h.others j (by simp at hj; omega)
theorem Laid.len7 {l : List Int} {more : ByteArray} (h : Laid l more) (most : Nat) (hm : l.length ≤ most) : len7 (strOfNums l ++ more) most = l.length :=
  len7_of _ _ _ h.pos hm (by rw [size_app]; omega) h.last h.others
theorem Laid.none {l : List Int} {more : ByteArray} (h : Laid l more) (most : Nat) (hm : most < l.length) : Leb.len7 (strOfNums l ++ more) most = 0 := by
  rcases len7_prop (strOfNums l ++ more) most with h0 | ⟨h1, h2, _, h4, _⟩
  · exact h0
  · have := h.others (Leb.len7 (strOfNums l ++ more) most - 1) (by omega)
    omega

theorem putF_laid (more : ByteArray) (f : Nat) : ∀ n : Int, 0 ≤ n → n < 128 ^ f → 1 ≤ f →
    Laid (putF f n) more ∧ ((sum7 (strOfNums (putF f n) ++ more) (putF f n).length : Nat) : Int) = n := by
  induction f with
  | zero => intro n _ _ h; omega
  | succ f ih =>
    intro n h0 h1 _
    by_cases h : n < 128
    · rw [putF_last f n h]
      refine ⟨.one n more h0 h, ?_⟩
      show ((sum7 _ 1 : Nat) : Int) = n
      rw [sum7_one, byt_head n [] more (by omega)]
      omega
    · rw [putF_next f n (by omega)]
      rw [Int.pow_succ] at h1
      have hf : 1 ≤ f := by
        cases f with
        | zero => exfalso; simp at h1; omega
        | succ f => omega
      obtain ⟨a, b⟩ := ih (n / 128) (by omega) (by omega) hf
      refine ⟨a.cons _ (by omega) (by omega), ?_⟩
      rw [List.length_cons, sum7_shift _ _ (byt_tail _ _ more), byt_head _ _ more (by omega)]
      omega
theorem putG_laid (more : ByteArray) (f : Nat) : ∀ n : Int, -64 * 128 ^ f ≤ n * 128 → n * 128 < 64 * 128 ^ f → 1 ≤ f →
    Laid (putG f n) more ∧ sg7 (strOfNums (putG f n) ++ more) (putG f n).length = n := by
  induction f with
  | zero => intro n _ _ h; omega
  | succ f ih =>
    intro n h0 h1 _
    by_cases h : -64 ≤ n ∧ n < 64
    · rw [putG_last f n h]
      refine ⟨.one _ more (by omega) (by omega), ?_⟩
      show sg7 _ 1 = n
      rw [sg7_one, byt_head _ [] more (by omega)]
      split <;> omega
    · rw [putG_next f n h]
      rw [Int.pow_succ] at h0 h1
      have hf : 1 ≤ f := by
        cases f with
        | zero => exfalso; simp at h0 h1; omega
        | succ f => omega
      have h0' : -64 * 128 ^ f ≤ n / 128 * 128 := by
        obtain ⟨g, rfl⟩ : ∃ g, f = g + 1 := ⟨f - 1, by omega⟩
        rw [Int.pow_succ] at h0 ⊢
        generalize (128 : Int) ^ g = P at *
        omega
      have h1' : n / 128 * 128 < 64 * 128 ^ f := by
        generalize (128 : Int) ^ f = P at *
        omega
      obtain ⟨a, b⟩ := ih (n / 128) h0' h1' hf
      refine ⟨a.cons _ (by omega) (by omega), ?_⟩
      rw [List.length_cons, sg7_shift _ _ (byt_tail _ _ more) _ a.pos, byt_head _ _ more (by omega), b]
      omega
theorem p10i : (128 : Int) ^ 10 = 1180591620717411303424 := by simp
theorem putU_laid (n : Int) (more : ByteArray) (h0 : 0 ≤ n) (h1 : n ≤ 9223372036854775807) :
    Laid (putU n) more ∧ ((sum7 (strOfNums (putU n) ++ more) (putU n).length : Nat) : Int) = n := by
  have e : putU n = putF 10 n := by unfold putU; rw [if_neg (by omega)]
  rw [e]
  exact putF_laid more 10 n h0 (by rw [p10i]; omega) (by decide)
theorem putS_laid (n : Int) (more : ByteArray) (h0 : -9223372036854775808 ≤ n) (h1 : n ≤ 9223372036854775807) :
    Laid (putS n) more ∧ sg7 (strOfNums (putS n) ++ more) (putS n).length = n :=
  putG_laid more 10 n (by rw [p10i]; omega) (by rw [p10i]; omega) (by decide)

/-! ### No bytes are fewer -/
theorem putF_short (f : Nat) : ∀ (n : Int) (u : Nat), 0 ≤ n → n < 128 ^ u → 1 ≤ u → (putF f n).length ≤ u := by
  induction f with
  | zero => intro n u _ _ _; simp [putF]
  | succ f ih =>
    intro n u h0 h1 hu
    by_cases h : n < 128
    · rw [putF_last f n h]; simpa using hu
    · rw [putF_next f n (by omega)]
      obtain ⟨v, rfl⟩ : ∃ v, u = v + 1 := ⟨u - 1, by omega⟩
      rw [Int.pow_succ] at h1
      have hv : 1 ≤ v := by
        cases v with
        | zero => exfalso; simp at h1; omega
        | succ v => omega
      have := ih (n / 128) v (by omega) (by omega) hv
      simpa using this
theorem putG_short (f : Nat) : ∀ (n : Int) (u : Nat), -64 * 128 ^ u ≤ n * 128 → n * 128 < 64 * 128 ^ u → 1 ≤ u → (putG f n).length ≤ u := by
  induction f with
  | zero => intro n u _ _ _; simp [putG]
  | succ f ih =>
    intro n u h0 h1 hu
    by_cases h : -64 ≤ n ∧ n < 64
    · rw [putG_last f n h]; simpa using hu
    · rw [putG_next f n h]
      obtain ⟨v, rfl⟩ : ∃ v, u = v + 1 := ⟨u - 1, by omega⟩
      rw [Int.pow_succ] at h0 h1
      have hv : 1 ≤ v := by
        cases v with
        | zero => exfalso; simp at h0 h1; omega
        | succ v => omega
      have h0' : -64 * 128 ^ v ≤ n / 128 * 128 := by
        obtain ⟨g, rfl⟩ : ∃ g, v = g + 1 := ⟨v - 1, by omega⟩
        rw [Int.pow_succ] at h0 ⊢
        generalize (128 : Int) ^ g = P at *
        omega
      have h1' : n / 128 * 128 < 64 * 128 ^ v := by
        generalize (128 : Int) ^ v = P at *
        omega
      have := ih (n / 128) v h0' h1' hv
      simpa using this
theorem sg7_range (s : ByteArray) (u : Nat) (hu : 1 ≤ u) (hb : byt s (u - 1) < 128) : -64 * 128 ^ u ≤ sg7 s u * 128 ∧ sg7 s u * 128 < 64 * 128 ^ u := by
  obtain ⟨k, rfl⟩ : ∃ k, u = k + 1 := ⟨u - 1, by omega⟩
  rw [sg7_eq, Int.pow_succ]
  have hl := sum7_lt s k
  rw [Nat.add_sub_cancel] at hb
  have e : byt s k % 128 = byt s k := Nat.mod_eq_of_lt hb
  have ep : ((128 ^ k : Nat) : Int) = (128 : Int) ^ k := by simp
  rw [e]
  have hp : (0 : Int) < ((128 ^ k : Nat) : Int) := by
    have : 0 < 128 ^ k := Nat.pow_pos (by decide)
    omega
  rw [← ep]
  generalize sum7 s k = A at *
  generalize hP : (128 ^ k : Nat) = P at *
  generalize byt s k = B at *
  split
  · have h1 : (64 : Int) * P ≤ B * P := Int.mul_le_mul_of_nonneg_right (by omega) (by omega)
    have h2 : (B : Int) * P ≤ 127 * P := Int.mul_le_mul_of_nonneg_right (by omega) (by omega)
    omega
  · have h1 : (0 : Int) * P ≤ B * P := Int.mul_le_mul_of_nonneg_right (by omega) (by omega)
    have h2 : (B : Int) * P ≤ 63 * P := Int.mul_le_mul_of_nonneg_right (by omega) (by omega)
    omega
end Leb
end Go.Proofs.Ytfhifnkekegkkaa
