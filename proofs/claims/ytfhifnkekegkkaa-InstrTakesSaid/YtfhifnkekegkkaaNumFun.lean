/- What instructions make of numbers, as functions: no program. -/
import Derived.Test.YtfhifnkekegkkaaNumMath
namespace Go.Proofs.Ytfhifnkekegkkaa
open Go.RowKit
namespace Num

/-- How many of a row's bits are none till there is a 1. -/
def Lead (f : Nat → Int) (w k : Nat) : Prop := k ≤ w ∧ (∀ j, j < k → f j ≠ 1) ∧ (k < w → f k = 1)
def leadN (f : Nat → Int) : Nat → Nat → Nat
  | 0, k => k
  | g + 1, k => if f k = 1 then k else leadN f g (k + 1)
def lead (f : Nat → Int) (w : Nat) : Nat := leadN f w 0
theorem leadN_lead (f : Nat → Int) : ∀ g k, (∀ j, j < k → f j ≠ 1) → Lead f (k + g) (leadN f g k) := by
  intro g
  induction g with
  | zero => intro k h; exact ⟨by simp [leadN], by simpa [leadN] using h, by simp [leadN]⟩
  | succ g ih =>
    intro k h
    unfold leadN
    by_cases hk : f k = 1
    · rw [if_pos hk]
      exact ⟨by omega, h, fun _ => hk⟩
    · rw [if_neg hk]
      have := ih (k + 1) (fun j hj => by
        by_cases hjk : j = k
        · rw [hjk]; exact hk
        · exact h j (by omega))
      rw [show k + (g + 1) = k + 1 + g by omega]
      exact this
theorem lead_lead (f : Nat → Int) (w : Nat) : Lead f w (lead f w) := by
  have := leadN_lead f w 0 (fun j hj => by omega)
  rw [Nat.zero_add] at this
  exact this
theorem lead_uniq {f : Nat → Int} {w k m : Nat} (h : Lead f w k) (g : Lead f w m) : k = m := by
  obtain ⟨h1, h2, h3⟩ := h
  obtain ⟨g1, g2, g3⟩ := g
  by_cases a : k < m
  · exact absurd (h3 (by omega)) (g2 k a)
  · by_cases b : m < k
    · exact absurd (g3 (by omega)) (h2 m b)
    · omega
theorem lead_is {f : Nat → Int} {w k : Nat} (h : Lead f w k) : lead f w = k := lead_uniq (lead_lead f w) h
/-- The bits of a number from the greatest, from the lowest on. -/
def hi (n : Int) (w j : Nat) : Int := n / 2 ^ (w - 1 - j) % 2
def lo (n : Int) (j : Nat) : Int := n / 2 ^ j % 2
def clz (n : Int) (w : Nat) : Int := lead (hi n w) w
def ctz (n : Int) (w : Nat) : Int := lead (lo n) w
def pop (n : Int) (w : Nat) : Int := (bitsOf n w).sum
theorem pop_succ (n : Int) (k : Nat) : pop n (k + 1) = pop n k + n / 2 ^ k % 2 := by simp [pop, bitsOf_succ]
theorem pop_range (n : Int) (k : Nat) : 0 ≤ pop n k ∧ pop n k ≤ k := by
  induction k with
  | zero => simp [pop, bitsOf]
  | succ k ih =>
    rw [pop_succ]
    omega

def u32 (n : Int) : Int := n % 4294967296
def s32 (n : Int) : Int := (n + 2147483648) % 4294967296 - 2147483648
theorem u32_go (n : Int) : (wrap64 (n.tmod 4294967296 + 4294967296)).tmod 4294967296 = u32 n := by
  have h1 : -4294967296 < n.tmod 4294967296 := Int.lt_tmod_of_pos n (by decide)
  have h2 : n.tmod 4294967296 < 4294967296 := Int.tmod_lt_of_pos n (by decide)
  have h3 := Int.mul_tdiv_add_tmod n 4294967296
  generalize n.tmod 4294967296 = x at h1 h2 h3 ⊢
  generalize n.tdiv 4294967296 = q at h3
  have e : wrap64 (x + 4294967296) = x + 4294967296 := by unfold wrap64; omega
  rw [e, Int.tmod_eq_emod_of_nonneg (by omega)]
  unfold u32
  omega

/-- How many numbers an instruction takes, of which type, and which it leaves. -/
def sig (op : Int) : Int × Int × Int :=
  if op = 69 ∨ (103 ≤ op ∧ op ≤ 105) ∨ op = 192 ∨ op = 193 then (1, 127, 127)
  else if op = 80 ∨ op = 167 then (1, 126, 127)
  else if (121 ≤ op ∧ op ≤ 123) ∨ (194 ≤ op ∧ op ≤ 196) then (1, 126, 126)
  else if op = 172 ∨ op = 173 then (1, 127, 126)
  else if (70 ≤ op ∧ op ≤ 79) ∨ (106 ≤ op ∧ op ≤ 120) then (2, 127, 127)
  else if 81 ≤ op ∧ op ≤ 90 then (2, 126, 127)
  else if 124 ≤ op ∧ op ≤ 138 then (2, 126, 126)
  else (0, 0, 0)
def sigTup (op : Int) : Value := .tuple #[.int .i64 (sig op).1, .int .i64 (sig op).2.1, .int .i64 (sig op).2.2]
def tup3 (a b c : Int) : Value := .tuple #[.int .i64 a, .int .i64 b, .int .i64 c]
theorem sig_cases (op : Int) :
    (op = 69 ∧ sigTup op = tup3 1 127 127) ∨ (103 ≤ op ∧ op ≤ 105 ∧ sigTup op = tup3 1 127 127) ∨ (op = 192 ∧ sigTup op = tup3 1 127 127) ∨ (op = 193 ∧ sigTup op = tup3 1 127 127) ∨
    (op = 80 ∧ sigTup op = tup3 1 126 127) ∨ (op = 167 ∧ sigTup op = tup3 1 126 127) ∨
    (121 ≤ op ∧ op ≤ 123 ∧ sigTup op = tup3 1 126 126) ∨ (194 ≤ op ∧ op ≤ 196 ∧ sigTup op = tup3 1 126 126) ∨
    (op = 172 ∧ sigTup op = tup3 1 127 126) ∨ (op = 173 ∧ sigTup op = tup3 1 127 126) ∨
    (70 ≤ op ∧ op ≤ 79 ∧ sigTup op = tup3 2 127 127) ∨ (106 ≤ op ∧ op ≤ 120 ∧ sigTup op = tup3 2 127 127) ∨
    (81 ≤ op ∧ op ≤ 90 ∧ sigTup op = tup3 2 126 127) ∨ (124 ≤ op ∧ op ≤ 138 ∧ sigTup op = tup3 2 126 126) ∨
    ((op < 69 ∨ (91 ≤ op ∧ op ≤ 102) ∨ (139 ≤ op ∧ op ≤ 166) ∨ (168 ≤ op ∧ op ≤ 171) ∨ (174 ≤ op ∧ op ≤ 191) ∨ 197 ≤ op) ∧ sigTup op = tup3 0 0 0) := by
  have key : ∀ t : Int × Int × Int, sig op = t → sigTup op = tup3 t.1 t.2.1 t.2.2 := fun t h => by unfold sigTup tup3; rw [h]
  unfold sig at key
  by_cases h1 : op = 69 ∨ (103 ≤ op ∧ op ≤ 105) ∨ op = 192 ∨ op = 193
  · have := key _ (if_pos h1)
    rcases h1 with h | ⟨h, h'⟩ | h | h
    · exact .inl ⟨h, this⟩
    · exact .inr (.inl ⟨h, h', this⟩)
    · exact .inr (.inr (.inl ⟨h, this⟩))
    · exact .inr (.inr (.inr (.inl ⟨h, this⟩)))
  rw [if_neg h1] at key
  by_cases h2 : op = 80 ∨ op = 167
  · have := key _ (if_pos h2)
    rcases h2 with h | h
    · exact .inr (.inr (.inr (.inr (.inl ⟨h, this⟩))))
    · exact .inr (.inr (.inr (.inr (.inr (.inl ⟨h, this⟩)))))
  rw [if_neg h2] at key
  by_cases h3 : (121 ≤ op ∧ op ≤ 123) ∨ (194 ≤ op ∧ op ≤ 196)
  · have := key _ (if_pos h3)
    rcases h3 with ⟨h, h'⟩ | ⟨h, h'⟩
    · exact .inr (.inr (.inr (.inr (.inr (.inr (.inl ⟨h, h', this⟩))))))
    · exact .inr (.inr (.inr (.inr (.inr (.inr (.inr (.inl ⟨h, h', this⟩)))))))
  rw [if_neg h3] at key
  by_cases h4 : op = 172 ∨ op = 173
  · have := key _ (if_pos h4)
    rcases h4 with h | h
    · exact .inr (.inr (.inr (.inr (.inr (.inr (.inr (.inr (.inl ⟨h, this⟩))))))))
    · exact .inr (.inr (.inr (.inr (.inr (.inr (.inr (.inr (.inr (.inl ⟨h, this⟩)))))))))
  rw [if_neg h4] at key
  by_cases h5 : (70 ≤ op ∧ op ≤ 79) ∨ (106 ≤ op ∧ op ≤ 120)
  · have := key _ (if_pos h5)
    rcases h5 with ⟨h, h'⟩ | ⟨h, h'⟩
    · exact .inr (.inr (.inr (.inr (.inr (.inr (.inr (.inr (.inr (.inr (.inl ⟨h, h', this⟩))))))))))
    · exact .inr (.inr (.inr (.inr (.inr (.inr (.inr (.inr (.inr (.inr (.inr (.inl ⟨h, h', this⟩)))))))))))
  rw [if_neg h5] at key
  by_cases h6 : 81 ≤ op ∧ op ≤ 90
  · exact .inr (.inr (.inr (.inr (.inr (.inr (.inr (.inr (.inr (.inr (.inr (.inr (.inl ⟨h6.1, h6.2, key _ (if_pos h6)⟩))))))))))))
  rw [if_neg h6] at key
  by_cases h7 : 124 ≤ op ∧ op ≤ 138
  · exact .inr (.inr (.inr (.inr (.inr (.inr (.inr (.inr (.inr (.inr (.inr (.inr (.inr (.inl ⟨h7.1, h7.2, key _ (if_pos h7)⟩)))))))))))))
  · exact .inr (.inr (.inr (.inr (.inr (.inr (.inr (.inr (.inr (.inr (.inr (.inr (.inr (.inr ⟨by omega, key _ (if_neg h7)⟩)))))))))))))
end Num
end Go.Proofs.Ytfhifnkekegkkaa
