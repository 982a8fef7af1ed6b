/- ctype: sizes and alignments, as plain functions: no program. -/
import Derived.Test.YtlkbgdhlbdjbiaaDoorCtL
set_option linter.unusedVariables false
set_option linter.unusedSimpArgs false
namespace Go.Proofs.YtlkbgdhlbdjbiaaDoor
open Go.RowKit
open Lex Ct

namespace Ct
def nxt (n b : Nat) : Nat := (n + b - 1) / b * b
def Al (b : Nat) : Prop := b = 1 ∨ b = 2 ∨ b = 4 ∨ b = 8
theorem nxt_bound {n b : Nat} (h : Al b) : n ≤ nxt n b ∧ nxt n b ≤ n + 7 := by
  unfold nxt
  rcases h with rfl | rfl | rfl | rfl <;> omega
theorem nxt_one (n : Nat) : nxt n 1 = n := by unfold nxt; omega
theorem nxt_mod {n b : Nat} (h : Al b) : nxt n b % b = 0 := by
  unfold nxt
  exact Nat.mul_mod_left _ _
theorem Al.max {a b : Nat} (h : Al a) (k : Al b) : Al (max a b) := by
  unfold Al at *
  rcases h with rfl | rfl | rfl | rfl <;> rcases k with rfl | rfl | rfl | rfl <;> decide
theorem Al.le {a : Nat} (h : Al a) : 1 ≤ a ∧ a ≤ 8 := by rcases h with rfl | rfl | rfl | rfl <;> decide
theorem Al.dvd {a b : Nat} (h : Al a) (k : Al b) (hab : a ≤ b) : b % a = 0 := by
  rcases h with rfl | rfl | rfl | rfl <;> rcases k with rfl | rfl | rfl | rfl <;> first | rfl | omega
theorem nxt_small {n b : Nat} (h : Al b) (hn : n ≤ 2) : nxt n b ≤ 8 := by
  unfold nxt
  rcases h with rfl | rfl | rfl | rfl <;> omega
def fldOne (st : List Nat × Nat × Nat) (p : Nat × Nat) : List Nat × Nat × Nat := (st.1 ++ [nxt st.2.1 p.2], nxt st.2.1 p.2 + p.1, max st.2.2 p.2)
def fldS (f : Ty → Nat × Nat) (l : List Ty) : List Nat × Nat × Nat := l.foldl (fun st x => fldOne st (f x)) ([], 0, 1)
theorem fldS_snoc {f : Ty → Nat × Nat} {l : List Ty} {i : Nat} {x : Ty} (h : l[i]? = some x) : fldS f (l.take (i + 1)) = fldOne (fldS f (l.take i)) (f x) := by
  unfold fldS
  rw [List.take_add_one, h, Option.toList_some, List.foldl_append]
  rfl
def fldV (f : Ty → Nat × Nat) (l : List Ty) : Nat × Nat := (nxt (fldS f l).2.1 (fldS f l).2.2, (fldS f l).2.2)
def casOne (st : Nat × Nat) (p : Nat × Nat) : Nat × Nat := (max st.1 p.1, max st.2 p.2)
def casS (f : Ty → Nat × Nat) (l : List Ty) : Nat × Nat := l.foldl (fun st x => casOne st (f x)) (0, 1)
theorem casS_snoc {f : Ty → Nat × Nat} {l : List Ty} {i : Nat} {x : Ty} (h : l[i]? = some x) : casS f (l.take (i + 1)) = casOne (casS f (l.take i)) (f x) := by
  unfold casS
  rw [List.take_add_one, h, Option.toList_some, List.foldl_append]
  rfl
def casB (n : Nat) : Nat := if 256 < n then 2 else 1
def casAt (f : Ty → Nat × Nat) (l : List Ty) : Nat := nxt (casB l.length) (casS f l).2
def casV (f : Ty → Nat × Nat) (l : List Ty) : Nat × Nat := (nxt (casAt f l + (casS f l).1) (max (casS f l).2 (casB l.length)), max (casS f l).2 (casB l.length))
def plainL (t : Ty) : List Ty := if t.kind = 16 then List.replicate t.names.length .zero else if t.kind = 17 ∧ t.l.length = 1 then .zero :: t.l else t.l
def flg (n : Nat) : Nat × Nat := if n ≤ 8 then (1, 1) else if n ≤ 16 then (2, 2) else (4, 4)
def lieK : Nat → Ty → Nat × Nat
  | 0, _ => (0, 1)
  | k + 1, t => if t.kind = 0 then (0, 1) else if t.kind = 1 ∨ t.kind = 2 ∨ t.kind = 3 then (1, 1) else if t.kind = 4 ∨ t.kind = 5 then (2, 2) else if t.kind = 8 ∨ t.kind = 9 then (8, 8) else if t.kind = 11 ∨ t.kind = 12 then (8, 4)
    else if t.kind = 19 then flg t.names.length else if t.kind = 13 ∨ t.kind = 14 then fldV (lieK k) t.l else if t.kind = 15 ∨ t.kind = 16 ∨ t.kind = 17 ∨ t.kind = 18 then casV (lieK k) (plainL t) else (4, 4)
def csum (k : Nat) (l : List Ty) : Nat := (l.map fun x => if x.kind = 0 then 0 else cntK k x).sum
theorem csum_cons (k : Nat) (x : Ty) (l : List Ty) : csum k (x :: l) = (if x.kind = 0 then 0 else cntK k x) + csum k l := by
  unfold csum
  rw [List.map_cons, List.sum_cons]
theorem cntK_succ (k : Nat) (t : Ty) : cntK (k + 1) t = 1 + csum k t.l := rfl
theorem csum_plain (k : Nat) (t : Ty) : csum k (plainL t) ≤ csum k t.l := by
  unfold plainL
  split
  · have : ∀ n, csum k (List.replicate n .zero) = 0 := by
      intro n
      induction n with
      | zero => rfl
      | succ n ih => rw [List.replicate_succ, csum_cons, ih]; rfl
    rw [this]
    exact Nat.zero_le _
  · split
    · rw [csum_cons]
      show 0 + _ ≤ _
      omega
    · exact Nat.le_refl _
/-- What is told of a type's size and alignment. -/
structure Good (p : Nat × Nat) (kd : Int) (c : Nat) : Prop where
  al : Al p.2
  none : kd = 0 → p = (0, 1)
  some : kd ≠ 0 → p.1 + 7 ≤ 15 * c
theorem fld_good {k : Nat} {f : Ty → Nat × Nat} (h : ∀ x, Good (f x) x.kind (cntK k x)) : ∀ (l : List Ty) (st : List Nat × Nat × Nat) (S : Nat), Al st.2.2 → st.2.1 ≤ 15 * S →
    Al (l.foldl (fun st x => fldOne st (f x)) st).2.2 ∧ (l.foldl (fun st x => fldOne st (f x)) st).2.1 ≤ 15 * (S + csum k l)
  | [], st, S, ha, hs => ⟨ha, by show st.2.1 ≤ 15 * (S + 0); omega⟩
  | x :: r, st, S, ha, hs => by
    rw [List.foldl_cons, csum_cons, ← Nat.add_assoc]
    have hx := h x
    refine fld_good h r _ _ (ha.max hx.al) ?_
    show nxt st.2.1 (f x).2 + (f x).1 ≤ _
    by_cases hk : x.kind = 0
    · rw [if_pos hk, hx.none hk, nxt_one]
      omega
    · rw [if_neg hk]
      have := hx.some hk
      have := (nxt_bound (n := st.2.1) hx.al).2
      omega
theorem cas_good {k : Nat} {f : Ty → Nat × Nat} (h : ∀ x, Good (f x) x.kind (cntK k x)) : ∀ (l : List Ty) (st : Nat × Nat) (S : Nat), Al st.2 → (st = (0, 1) ∨ st.1 + 7 ≤ 15 * S) →
    Al (l.foldl (fun st x => casOne st (f x)) st).2 ∧ (l.foldl (fun st x => casOne st (f x)) st = (0, 1) ∨ (l.foldl (fun st x => casOne st (f x)) st).1 + 7 ≤ 15 * (S + csum k l))
  | [], st, S, ha, hs => ⟨ha, hs⟩
  | x :: r, st, S, ha, hs => by
    rw [List.foldl_cons, csum_cons, ← Nat.add_assoc]
    have hx := h x
    refine cas_good h r _ _ (ha.max hx.al) ?_
    by_cases hk : x.kind = 0
    · rw [if_pos hk, hx.none hk, Nat.add_zero]
      rcases hs with rfl | hs
      · exact .inl rfl
      · refine .inr ?_
        show max st.1 0 + 7 ≤ _
        omega
    · rw [if_neg hk]
      have := hx.some hk
      refine .inr ?_
      show max st.1 (f x).1 + 7 ≤ _
      rcases hs with rfl | hs
      · show max 0 (f x).1 + 7 ≤ _
        omega
      · omega
theorem casB_or (n : Nat) : casB n = 1 ∨ casB n = 2 := by unfold casB; split <;> simp
theorem casB_al (n : Nat) : Al (casB n) := by rcases casB_or n with h | h <;> rw [h] <;> simp [Al]
theorem lieK_good : ∀ (k : Nat) (t : Ty), Good (lieK k t) t.kind (cntK k t)
  | 0, t => ⟨.inl rfl, fun _ => rfl, fun _ => by show 0 + 7 ≤ 15 * 1; omega⟩
  | k + 1, t => by
    have ih := lieK_good k
    have hc : 1 ≤ cntK (k + 1) t := by rw [cntK_succ]; omega
    unfold lieK
    by_cases h0 : t.kind = 0
    · rw [if_pos h0]
      exact ⟨.inl rfl, fun _ => rfl, fun h => absurd h0 h⟩
    · rw [if_neg h0]
      split
      · exact ⟨by simp [Al], fun h => absurd h h0, fun _ => by show 1 + 7 ≤ _; omega⟩
      split
      · exact ⟨by simp [Al], fun h => absurd h h0, fun _ => by show 2 + 7 ≤ _; omega⟩
      split
      · exact ⟨by simp [Al], fun h => absurd h h0, fun _ => by show 8 + 7 ≤ _; omega⟩
      split
      · exact ⟨by simp [Al], fun h => absurd h h0, fun _ => by show 8 + 7 ≤ _; omega⟩
      split
      · unfold flg
        split
        · exact ⟨by simp [Al], fun h => absurd h h0, fun _ => by show 1 + 7 ≤ _; omega⟩
        split
        · exact ⟨by simp [Al], fun h => absurd h h0, fun _ => by show 2 + 7 ≤ _; omega⟩
        · exact ⟨by simp [Al], fun h => absurd h h0, fun _ => by show 4 + 7 ≤ _; omega⟩
      split
      · have hf := fld_good ih t.l ([], 0, 1) 0 (.inl rfl) (Nat.zero_le _)
        refine ⟨hf.1, fun h => absurd h h0, fun _ => ?_⟩
        have h2 := (nxt_bound (n := (fldS (lieK k) t.l).2.1) (b := (fldS (lieK k) t.l).2.2) hf.1).2
        have h3 : (fldS (lieK k) t.l).2.1 ≤ 15 * (0 + csum k t.l) := hf.2
        show nxt (fldS (lieK k) t.l).2.1 (fldS (lieK k) t.l).2.2 + 7 ≤ _
        rw [cntK_succ]
        omega
      split
      · have hf := cas_good ih (plainL t) (0, 1) 0 (.inl rfl) (.inl rfl)
        have ha : Al (casS (lieK k) (plainL t)).2 := hf.1
        refine ⟨ha.max (casB_al _), fun h => absurd h h0, fun _ => ?_⟩
        have hp := csum_plain k t
        have hcb := casB_or (plainL t).length
        have h8 : casAt (lieK k) (plainL t) ≤ 8 := nxt_small ha (by omega)
        have hs : casS (lieK k) (plainL t) = (0, 1) ∨ (casS (lieK k) (plainL t)).1 + 7 ≤ 15 * (0 + csum k (plainL t)) := hf.2
        have h2 := (nxt_bound (n := casAt (lieK k) (plainL t) + (casS (lieK k) (plainL t)).1) (b := max (casS (lieK k) (plainL t)).2 (casB (plainL t).length)) (ha.max (casB_al _))).2
        show nxt (casAt (lieK k) (plainL t) + (casS (lieK k) (plainL t)).1) (max (casS (lieK k) (plainL t)).2 (casB (plainL t).length)) + 7 ≤ _
        rw [cntK_succ]
        rcases hs with hs | hs
        · unfold casAt at h2 h8 ⊢
          rw [hs] at h2 h8 ⊢
          simp only [nxt_one] at h2 h8 ⊢
          have : max 1 (casB (plainL t).length) = casB (plainL t).length := by omega
          rw [this] at h2 ⊢
          have n22 : nxt 2 2 = 2 := by decide
          have n11 : nxt 1 1 = 1 := by decide
          rcases hcb with e | e <;> rw [e] at h2 ⊢ <;> simp only [Nat.add_zero] at h2 ⊢ <;> omega
        · omega
      · exact ⟨by simp [Al], fun h => absurd h h0, fun _ => by show 4 + 7 ≤ _; omega⟩
end Ct
/-- A size and an alignment, as a complex number. -/
abbrev cV (p : Nat × Nat) : Value := .complex .f64 (flt p.1) (flt p.2)
theorem cV_01 : cV (0, 1) = .complex .f64 0 4607182418800017408 := by unfold cV; rw [flt0, flt1]
theorem cV_11 : cV (1, 1) = .complex .f64 4607182418800017408 4607182418800017408 := by unfold cV; rw [flt1]
theorem cV_22 : cV (2, 2) = .complex .f64 4611686018427387904 4611686018427387904 := by unfold cV; rw [flt2]
theorem cV_44 : cV (4, 4) = .complex .f64 4616189618054758400 4616189618054758400 := by unfold cV; rw [flt4]
theorem cV_88 : cV (8, 8) = .complex .f64 4620693217682128896 4620693217682128896 := by unfold cV; rw [flt8]
theorem cV_84 : cV (8, 4) = .complex .f64 4620693217682128896 4616189618054758400 := by unfold cV; rw [flt8, flt4]
end Go.Proofs.YtlkbgdhlbdjbiaaDoor
