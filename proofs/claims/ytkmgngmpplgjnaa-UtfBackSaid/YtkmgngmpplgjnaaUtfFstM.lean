/- The first character of a text, by its bytes: numbers and lists alone, no program. -/
import Derived.Test.YtkmgngmpplgjnaaUtfReadM
namespace Go.Proofs.Ytkmgngmpplgjnaa
namespace Utf

/-- What a text in the first form begins with where it begins with a character, by its bytes. -/
theorem head0 {L x : List Int} {p : Int} (hp : oneL 0 p ≠ []) (e : L = oneL 0 p ++ x) :
    (1 ≤ L.length ∧ L.getD 0 0 = p ∧ 0 ≤ p ∧ p < 128) ∨
    (2 ≤ L.length ∧ L.getD 0 0 = 192 + p / 64 ∧ L.getD 1 0 = 128 + p % 64 ∧ 128 ≤ p ∧ p < 2048) ∨
    (3 ≤ L.length ∧ L.getD 0 0 = 224 + p / 4096 ∧ L.getD 1 0 = 128 + p / 64 % 64 ∧ L.getD 2 0 = 128 + p % 64 ∧ 2048 ≤ p ∧ p < 65536 ∧ scal p = true) ∨
    (4 ≤ L.length ∧ L.getD 0 0 = 240 + p / 262144 ∧ L.getD 1 0 = 128 + p / 4096 % 64 ∧ L.getD 2 0 = 128 + p / 64 % 64 ∧ L.getD 3 0 = 128 + p % 64 ∧ 65536 ≤ p ∧ p ≤ 1114111 ∧ scal p = true) := by
  have hs : scal p = true := by
    by_cases h : scal p = true
    · exact h
    · exact absurd (oneL_no (by cases hb : scal p <;> simp_all)) hp
  rcases shape0 hp with ⟨h, h1, h2⟩ | ⟨h, h1, h2⟩ | ⟨h, h1, h2⟩ | ⟨h, h1, h2⟩
  all_goals
    rw [h] at e
    subst e
  · exact .inl ⟨by simp, by simp, h1, h2⟩
  · exact .inr (.inl ⟨by simp, by simp, by simp, h1, h2⟩)
  · exact .inr (.inr (.inl ⟨by simp, by simp, by simp, by simp, h1, h2, hs⟩))
  · exact .inr (.inr (.inr ⟨by simp, by simp, by simp, by simp, by simp, h1, h2, hs⟩))
theorem head1 {L x : List Int} {p : Int} (hp : oneL 1 p ≠ []) (e : L = oneL 1 p ++ x) :
    (2 ≤ L.length ∧ L.getD 0 0 = p % 256 ∧ L.getD 1 0 = p / 256 ∧ 0 ≤ p ∧ p < 65536 ∧ scal p = true) ∨
    (4 ≤ L.length ∧ L.getD 0 0 = hiU p % 256 ∧ L.getD 1 0 = hiU p / 256 ∧ L.getD 2 0 = loU p % 256 ∧ L.getD 3 0 = loU p / 256 ∧ 65536 ≤ p ∧ p ≤ 1114111) := by
  have hs : scal p = true := by
    by_cases h : scal p = true
    · exact h
    · exact absurd (oneL_no (by cases hb : scal p <;> simp_all)) hp
  rcases shape1 hp with ⟨h, h1, h2, _⟩ | ⟨h, h1, h2⟩
  all_goals
    rw [h] at e
    subst e
  · exact .inl ⟨by simp, by simp, by simp, h1, h2, hs⟩
  · exact .inr ⟨by simp, by simp, by simp, by simp, by simp, h1, h2⟩

/-- The first n numbers of a list. -/
theorem take1 {L : List Int} (h : 1 ≤ L.length) : L.take 1 = [L.getD 0 0] := by
  match L, h with
  | a :: l, _ => simp
theorem take2 {L : List Int} (h : 2 ≤ L.length) : L.take 2 = [L.getD 0 0, L.getD 1 0] := by
  match L, h with
  | a :: b :: l, _ => simp
theorem take3 {L : List Int} (h : 3 ≤ L.length) : L.take 3 = [L.getD 0 0, L.getD 1 0, L.getD 2 0] := by
  match L, h with
  | a :: b :: c :: l, _ => simp
theorem take4 {L : List Int} (h : 4 ≤ L.length) : L.take 4 = [L.getD 0 0, L.getD 1 0, L.getD 2 0, L.getD 3 0] := by
  match L, h with
  | a :: b :: c :: d :: l, _ => simp

/-- A text begins with this character, of n bytes; or, n being 0, with none. -/
def First (form : Int) (L : List Int) (p : Int) (n : Nat) : Prop :=
  (n = 0 ∧ NoHead form L) ∨ (1 ≤ n ∧ n ≤ L.length ∧ oneL form p = L.take n)
theorem First.two0 {L : List Int} (h : 2 ≤ L.length) {p : Int} (h0 : L.getD 0 0 = 192 + p / 64) (h1 : L.getD 1 0 = 128 + p % 64) (hs : scal p = true) (a : 128 ≤ p) (b : p < 2048) : First 0 L p 2 :=
  .inr ⟨by decide, h, by rw [take2 h, h0, h1, oneL_0b hs (by omega) b]⟩
theorem First.three0 {L : List Int} (h : 3 ≤ L.length) {p : Int} (h0 : L.getD 0 0 = 224 + p / 4096) (h1 : L.getD 1 0 = 128 + p / 64 % 64) (h2 : L.getD 2 0 = 128 + p % 64) (hs : scal p = true) (a : 2048 ≤ p) (b : p < 65536) : First 0 L p 3 :=
  .inr ⟨by decide, h, by rw [take3 h, h0, h1, h2, oneL_0c hs (by omega) b]⟩
theorem First.four0 {L : List Int} (h : 4 ≤ L.length) {p : Int} (h0 : L.getD 0 0 = 240 + p / 262144) (h1 : L.getD 1 0 = 128 + p / 4096 % 64) (h2 : L.getD 2 0 = 128 + p / 64 % 64) (h3 : L.getD 3 0 = 128 + p % 64) (hs : scal p = true) (a : 65536 ≤ p) : First 0 L p 4 :=
  .inr ⟨by decide, h, by rw [take4 h, h0, h1, h2, h3, oneL_0d hs (by omega)]⟩
theorem First.one0 {L : List Int} (h : 1 ≤ L.length) (h0 : 0 ≤ L.getD 0 0) (h1 : L.getD 0 0 < 128) : First 0 L (L.getD 0 0) 1 :=
  .inr ⟨by decide, h, by rw [take1 h, oneL_0a (decide_eq_true (by omega)) h1]⟩
theorem First.one2 {L : List Int} (h : 1 ≤ L.length) (h0 : 0 ≤ L.getD 0 0) (h1 : L.getD 0 0 < 256) : First 2 L (L.getD 0 0) 1 :=
  .inr ⟨by decide, h, by rw [take1 h, oneL_2 (decide_eq_true (by omega)) (by omega)]⟩
theorem First.two1 {L : List Int} (h : 2 ≤ L.length) {p : Int} (h0 : L.getD 0 0 = p % 256) (h1 : L.getD 1 0 = p / 256) (hs : scal p = true) (b : p < 65536) : First 1 L p 2 :=
  .inr ⟨by decide, h, by rw [take2 h, h0, h1, oneL_1a hs b]⟩
theorem First.four1 {L : List Int} (h : 4 ≤ L.length) {p : Int} (h0 : L.getD 0 0 = hiU p % 256) (h1 : L.getD 1 0 = hiU p / 256) (h2 : L.getD 2 0 = loU p % 256) (h3 : L.getD 3 0 = loU p / 256) (hs : scal p = true) (b : 65536 ≤ p) : First 1 L p 4 :=
  .inr ⟨by decide, h, by rw [take4 h, h0, h1, h2, h3, oneL_1b hs (by omega)]⟩
theorem First.other {form : Int} (h : form ≠ 0 ∧ form ≠ 1 ∧ form ≠ 2) (L : List Int) (p : Int) : First form L p 0 :=
  .inl ⟨rfl, fun _ _ hq _ => hq (oneL_other h.1 h.2.1 h.2.2)⟩
end Utf
end Go.Proofs.Ytkmgngmpplgjnaa
