/- Numbers as rows of bits: plain arithmetic, no program. -/
import Derived.Test.YtfhifnkekegkkaaLebMath
import Derived.Test.YtfhifnkekegkkaaUtfBits
namespace Go.Proofs.Ytfhifnkekegkkaa
open Go.RowKit
namespace Num

/-- What bits come to, the lowest first. -/
def valL : List Int → Int
  | [] => 0
  | b :: l => b + 2 * valL l
def Bits (l : List Int) : Prop := ∀ b ∈ l, b = 0 ∨ b = 1
/-- A number's lowest bits. -/
def bitsOf (n : Int) (w : Nat) : List Int := (List.range w).map fun k => n / 2 ^ k % 2

theorem Bits.app {l m : List Int} (h : Bits l) (k : Bits m) : Bits (l ++ m) := fun b hb => (List.mem_append.1 hb).elim (h b) (k b)
theorem Bits.take {l : List Int} (h : Bits l) (k : Nat) : Bits (l.take k) := fun b hb => h b (List.mem_of_mem_take hb)
theorem Bits.get {l : List Int} (h : Bits l) {k : Nat} (hk : k < l.length) : l.getD k 0 = 0 ∨ l.getD k 0 = 1 := by
  have hm : l.getD k 0 ∈ l := by
    rw [List.getD_eq_getElem?_getD, List.getElem?_eq_getElem hk]
    exact List.getElem_mem _
  exact h _ hm
theorem valL_app (l m : List Int) : valL (l ++ m) = valL l + 2 ^ l.length * valL m := by
  induction l with
  | nil => simp [valL]
  | cons b l ih =>
    rw [List.cons_append, valL, valL, ih, List.length_cons, Int.pow_succ, Int.mul_add, Int.mul_assoc, Int.mul_left_comm]
    omega
theorem valL_range {l : List Int} (h : Bits l) : 0 ≤ valL l ∧ valL l < 2 ^ l.length := by
  induction l with
  | nil => simp [valL]
  | cons b l ih =>
    have hb := h b (List.mem_cons_self)
    have := ih fun c hc => h c (List.mem_cons_of_mem _ hc)
    rw [valL, List.length_cons, Int.pow_succ]
    omega
theorem bitsOf_length (n : Int) (w : Nat) : (bitsOf n w).length = w := by simp [bitsOf]
theorem bitsOf_succ (n : Int) (w : Nat) : bitsOf n (w + 1) = bitsOf n w ++ [n / 2 ^ w % 2] := by simp [bitsOf, List.range_succ]
theorem bitsOf_bits (n : Int) (w : Nat) : Bits (bitsOf n w) := by
  intro b hb
  obtain ⟨k, _, rfl⟩ := List.mem_map.1 hb
  omega
theorem bitsOf_get (n : Int) {w k : Nat} (h : k < w) : (bitsOf n w).getD k 0 = n / 2 ^ k % 2 := by
  rw [List.getD_eq_getElem?_getD, List.getElem?_eq_getElem (by rw [bitsOf_length]; exact h)]
  simp [bitsOf]
theorem bitsOf_take (n : Int) {w k : Nat} (h : k ≤ w) : (bitsOf n w).take k = bitsOf n k := by
  unfold bitsOf
  rw [← List.map_take, List.take_range, Nat.min_eq_left h]
theorem mod_step (n : Int) (w : Nat) : n % 2 ^ (w + 1) = n % 2 ^ w + 2 ^ w * (n / 2 ^ w % 2) := by
  have hp : (0 : Int) < 2 ^ w := Int.pow_pos (by decide)
  have h1 := Int.mul_ediv_add_emod n (2 ^ w)
  have h2 := Int.mul_ediv_add_emod (n / 2 ^ w) 2
  have e : n = 2 ^ (w + 1) * (n / 2 ^ w / 2) + (n % 2 ^ w + 2 ^ w * (n / 2 ^ w % 2)) := by
    rw [Int.pow_succ, Int.mul_assoc]
    have h3 : 2 ^ w * (n / 2 ^ w) = 2 ^ w * (2 * (n / 2 ^ w / 2)) + 2 ^ w * (n / 2 ^ w % 2) := by rw [← Int.mul_add, h2]
    omega
  have hr0 := Int.emod_nonneg n (Int.ne_of_gt hp)
  have hr1 := Int.emod_lt_of_pos n hp
  have hb : n / 2 ^ w % 2 = 0 ∨ n / 2 ^ w % 2 = 1 := by omega
  have hlo : 0 ≤ n % 2 ^ w + 2 ^ w * (n / 2 ^ w % 2) := by rcases hb with h | h <;> rw [h] <;> omega
  have hhi : n % 2 ^ w + 2 ^ w * (n / 2 ^ w % 2) < 2 ^ (w + 1) := by rw [Int.pow_succ]; rcases hb with h | h <;> rw [h] <;> omega
  generalize n % 2 ^ w + 2 ^ w * (n / 2 ^ w % 2) = R at e hlo hhi ⊢
  rw [e, Int.mul_add_emod_self_left, Int.emod_eq_of_lt hlo hhi]
theorem valL_bitsOf (n : Int) (w : Nat) : valL (bitsOf n w) = n % 2 ^ w := by
  induction w with
  | zero => simp [bitsOf, valL, Int.emod_one]
  | succ w ih => rw [bitsOf_succ, valL_app, bitsOf_length, ih, mod_step n w]; simp [valL]

theorem two_le {k : Nat} (h : k ≤ 63) : (2 : Int) ^ k ≤ 9223372036854775808 := by
  have := Nat.pow_le_pow_right (n := 2) (by omega) h
  rw [Leb.p63] at this
  have e : ((2 ^ k : Nat) : Int) = (2 : Int) ^ k := by rw [Int.natCast_pow]; rfl
  rw [← e]
  omega
theorem wrap_small {x : Int} (h0 : 0 ≤ x) (h1 : x < 9223372036854775808) : wrap64 x = x := by
  unfold wrap64
  omega
/-- One bit more. -/
theorem or_step {S b : Int} {k : Nat} (hk : k ≤ 63) (h0 : 0 ≤ S) (h1 : S < 2 ^ k) (hb : b = 0 ∨ b = 1) : bits .or .i64 (wrap64 S) (wrap64 (b * 2 ^ k)) = wrap64 (S + b * 2 ^ k) := by
  have hl := two_le hk
  rw [wrap_small h0 (by omega)]
  obtain ⟨A, rfl⟩ := Int.eq_ofNat_of_zero_le h0
  obtain ⟨B, rfl⟩ := Int.eq_ofNat_of_zero_le (show 0 ≤ b by omega)
  have := Leb.or_shift A B k hk (by exact_mod_cast h1)
  rw [this]
  exact congrArg wrap64 (by rw [Int.natCast_add, Int.natCast_mul, Int.natCast_pow]; rfl)
theorem from_step {l : List Int} {k : Nat} (h : Bits l) (hk : k < l.length) (h64 : l.length ≤ 64) :
    bits .or .i64 (wrap64 (valL (l.take k))) (wrap64 (l.getD k 0 * 2 ^ k)) = wrap64 (valL (l.take (k + 1))) := by
  have hr := valL_range (h.take k)
  have hln : (l.take k).length = k := List.length_take_of_le (by omega)
  rw [hln] at hr
  rw [or_step (by omega) hr.1 hr.2 (h.get hk), List.take_succ_eq_append_getElem hk, valL_app, hln, List.getD_eq_getElem?_getD, List.getElem?_eq_getElem hk]
  simp [valL, Int.mul_comm]
theorem and_one (n : Int) : bits .and .i64 n 1 = n % 2 := i64_mask n 1 1 (by decide) (by decide)
end Num
end Go.Proofs.Ytfhifnkekegkkaa
