/- lex: the document's own remarks and blanks: plain. -/
import Derived.Test.YtnnajiaakfeocaaLexO
namespace Go.Proofs.Ytnnajiaakfeocaa
open Go.RowKit
open Lex

namespace Lex
theorem clo_ge : ∀ (l : List Int) (d n m : Nat), clo d n l = some m → n ≤ m
  | [], d, n, m, h => by rw [clo_nil] at h; cases h
  | [a], d, n, m, h => by rw [clo_one] at h; cases h
  | a :: b :: r, d, n, m, h => by
    rw [clo_two] at h
    split at h
    · have := clo_ge r _ _ _ h; omega
    · split at h
      · split at h
        · cases h; omega
        · have := clo_ge r _ _ _ h; omega
      · have := clo_ge (b :: r) _ _ _ h; omega
/-- What a remark's inside, and then d more, come to. -/
def thn (d n : Nat) (l : List Int) : Option Nat → Option Nat
  | none => none
  | some m => if d = 0 then some m else clo d m (l.drop (m - n))
theorem clo_step : ∀ (k : Nat) (l : List Int), l.length ≤ k → ∀ (d n : Nat), clo (d + 1) n l = thn d n l (clo 1 n l)
  | 0, l, h, d, n => by
    have : l = [] := List.length_eq_zero_iff.1 (by omega)
    rw [this, clo_nil, clo_nil]
    rfl
  | k + 1, [], _, d, n => by rw [clo_nil, clo_nil]; rfl
  | k + 1, [a], _, d, n => by rw [clo_one, clo_one]; rfl
  | k + 1, a :: b :: r, h, d, n => by
    have hr : r.length ≤ k := by simp at h; omega
    have hbr : (b :: r).length ≤ k := by simp at h ⊢; omega
    rw [clo_two, clo_two]
    by_cases h1 : a = 47 ∧ b = 42
    · rw [if_pos h1, if_pos h1, clo_step k r hr (d + 1) (n + 2), clo_step k r hr 1 (n + 2)]
      cases hc : clo 1 (n + 2) r with
      | none => rfl
      | some m =>
        have hm := clo_ge r _ _ _ hc
        show (if d + 1 = 0 then some m else clo (d + 1) m (r.drop (m - (n + 2)))) = thn d n (a :: b :: r) (if 1 = 0 then some m else clo 1 m (r.drop (m - (n + 2))))
        rw [if_neg (by omega), if_neg (by omega), clo_step k _ (by rw [List.length_drop]; omega) d m]
        cases hc2 : clo 1 m (r.drop (m - (n + 2))) with
        | none => rfl
        | some m2 =>
          have hm2 := clo_ge _ _ _ _ hc2
          show (if d = 0 then some m2 else clo d m2 ((r.drop (m - (n + 2))).drop (m2 - m))) = (if d = 0 then some m2 else clo d m2 ((a :: b :: r).drop (m2 - n)))
          rw [List.drop_drop, show m2 - n = (m - (n + 2) + (m2 - m)) + 1 + 1 by omega, List.drop_succ_cons, List.drop_succ_cons]
    · rw [if_neg h1, if_neg h1]
      by_cases h2 : a = 42 ∧ b = 47
      · rw [if_pos h2, if_pos h2, if_pos rfl]
        show (if d + 1 = 1 then some (n + 2) else clo (d + 1 - 1) (n + 2) r) = (if d = 0 then some (n + 2) else clo d (n + 2) ((a :: b :: r).drop (n + 2 - n)))
        rw [show n + 2 - n = 0 + 1 + 1 by omega, List.drop_succ_cons, List.drop_succ_cons, List.drop_zero]
        by_cases hd : d = 0
        · rw [if_pos hd, if_pos (by omega)]
        · rw [if_neg hd, if_neg (by omega)]; rfl
      · rw [if_neg h2, if_neg h2, clo_step k (b :: r) hbr d (n + 1)]
        cases hc : clo 1 (n + 1) (b :: r) with
        | none => rfl
        | some m =>
          have hm := clo_ge _ _ _ _ hc
          show (if d = 0 then some m else clo d m ((b :: r).drop (m - (n + 1)))) = (if d = 0 then some m else clo d m ((a :: b :: r).drop (m - n)))
          rw [show m - n = (m - (n + 1)) + 1 by omega, List.drop_succ_cons]
/-- A remark in a remark: behind the inner one the outer one goes on. -/
theorem clo_in (n : Nat) (r : List Int) : clo 2 n r = match clo 1 n r with | none => none | some m => clo 1 m (r.drop (m - n)) := by
  rw [clo_step r.length r (Nat.le_refl _) 1 n]
  cases clo 1 n r <;> rfl

theorem blaF_add : ∀ (f n k : Nat) (l : List Int), blaF f (n + k) l = (blaF f n l).map (· + k)
  | 0, n, k, l => rfl
  | f + 1, n, k, l => by
    rw [blaF, blaF]
    cases rem (l.drop (far blk l)) with
    | none => rfl
    | some m =>
      cases m with
      | zero => simp; omega
      | succ m =>
        dsimp only
        rw [show n + k + far blk l + (m + 1) = n + far blk l + (m + 1) + k by omega, blaF_add f]
theorem blaF_fuel : ∀ (f g n : Nat) (l : List Int), l.length < f → l.length < g → blaF f n l = blaF g n l
  | 0, _, _, _, h, _ => absurd h (by omega)
  | _ + 1, 0, _, _, _, h => absurd h (by omega)
  | f + 1, g + 1, n, l, hf, hg => by
    rw [blaF, blaF]
    cases hr : rem (l.drop (far blk l)) with
    | none => rfl
    | some m =>
      cases m with
      | zero => rfl
      | succ m =>
        have h1 := rem_le hr
        rw [List.length_drop] at h1
        have h2 := far_le blk l
        dsimp only
        refine blaF_fuel f g _ _ ?_ ?_ <;> rw [List.length_drop, List.length_drop] <;> omega
theorem bla_eq (l : List Int) : bla l = match rem (l.drop (far blk l)) with
    | none => none
    | some 0 => some (far blk l)
    | some (m + 1) => (bla (l.drop (far blk l + (m + 1)))).map (· + (far blk l + (m + 1))) := by
  unfold bla
  rw [blaF]
  cases hr : rem (l.drop (far blk l)) with
  | none => rfl
  | some m =>
    cases m with
    | zero => simp
    | succ m =>
      have h1 := rem_le hr
      rw [List.length_drop] at h1
      have h2 := far_le blk l
      dsimp only
      rw [show 0 + far blk l + (m + 1) = 0 + (far blk l + (m + 1)) by omega, blaF_add, List.drop_drop]
      congr 1
      refine blaF_fuel _ _ _ _ ?_ ?_ <;> rw [List.length_drop] <;> omega
theorem bla_blank {c : Int} {r : List Int} (h : blk c = true) : bla (c :: r) = (bla r).map (· + 1) := by
  rw [bla_eq (c :: r), bla_eq r, far_next h, List.drop_succ_cons]
  cases rem (r.drop (far blk r)) with
  | none => rfl
  | some m =>
    cases m with
    | zero => rfl
    | succ m =>
      dsimp only
      rw [show far blk r + 1 + (m + 1) = (far blk r + (m + 1)) + 1 by omega, List.drop_succ_cons, Option.map_map]
      congr 1
theorem bla_rem {l : List Int} {m : Nat} (h : far blk l = 0) (hr : rem l = some (m + 1)) : bla l = (bla (l.drop (m + 1))).map (· + (m + 1)) := by
  rw [bla_eq l, h, List.drop_zero, hr]
  dsimp only
  rw [Nat.zero_add]
theorem bla_bad {l : List Int} (h : far blk l = 0) (hr : rem l = none) : bla l = none := by
  rw [bla_eq l, h, List.drop_zero, hr]
theorem bla_stop {l : List Int} (h : far blk l = 0) (hr : rem l = some 0) : bla l = some 0 := by
  rw [bla_eq l, h, List.drop_zero, hr]
theorem rem_line (r : List Int) : rem (47 :: 47 :: r) = some (far lin (47 :: 47 :: r)) := by
  have h : pre [47, 47] (47 :: 47 :: r) = true := by simp [pre, List.isPrefixOf]
  unfold rem
  rw [if_pos h]
theorem rem_block (r : List Int) : rem (47 :: 42 :: r) = clo 1 2 r := by
  have h1 : pre [47, 47] (47 :: 42 :: r) = false := by simp [pre, List.isPrefixOf]
  have h2 : pre [47, 42] (47 :: 42 :: r) = true := by simp [pre, List.isPrefixOf]
  unfold rem
  rw [if_neg (by rw [h1]; decide), if_pos h2, clo_two, if_pos ⟨rfl, rfl⟩]
theorem rem_other {l : List Int} (h1 : ∀ r, l ≠ 47 :: 47 :: r) (h2 : ∀ r, l ≠ 47 :: 42 :: r) : rem l = some 0 := by
  have g : ∀ x, (∀ r, l ≠ 47 :: x :: r) → pre [47, x] l = false := by
    intro x hx
    unfold pre
    rw [Bool.eq_false_iff]
    intro h
    obtain ⟨t, ht⟩ := List.isPrefixOf_iff_prefix.1 h
    exact hx t ht.symm
  unfold rem
  rw [g 47 h1, g 42 h2]
  rfl
theorem clo_add : ∀ (l : List Int) (d n k : Nat), clo d (n + k) l = (clo d n l).map (· + k)
  | [], d, n, k => by rw [clo_nil, clo_nil]; rfl
  | [a], d, n, k => by rw [clo_one, clo_one]; rfl
  | a :: b :: r, d, n, k => by
    rw [clo_two, clo_two]
    split
    · rw [show n + k + 2 = n + 2 + k by omega, clo_add r]
    · split
      · split
        · simp; omega
        · rw [show n + k + 2 = n + 2 + k by omega, clo_add r]
      · rw [show n + k + 1 = n + 1 + k by omega, clo_add (b :: r)]
end Lex
end Go.Proofs.Ytnnajiaakfeocaa
