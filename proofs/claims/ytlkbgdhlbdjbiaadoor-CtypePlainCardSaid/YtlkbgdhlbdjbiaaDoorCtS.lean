/- ctype: types as trees, and what is told of them, as plain functions: no program. -/
import Derived.Test.YtlkbgdhlbdjbiaaDoorLexU
set_option linter.unusedVariables false
set_option linter.unusedSimpArgs false
namespace Go.Proofs.YtlkbgdhlbdjbiaaDoor
open Go.RowKit
open Lex

namespace Ct
abbrev Nm := List Int
inductive Ty where
  | mk (kind : Int) (names : List Nm) (l : List Ty) (r : Int)
instance : Inhabited Ty := ⟨.mk 0 [] [] 0⟩
namespace Ty
def kind : Ty → Int | mk k _ _ _ => k
def names : Ty → List Nm | mk _ n _ _ => n
def l : Ty → List Ty | mk _ _ l _ => l
def r : Ty → Int | mk _ _ _ r => r
def zero : Ty := .mk 0 [] [] 0
end Ty
def isNone (t : Ty) : Bool := t.kind == 0 && (t.r == 0 && (t.names.length == 0 && t.l.length == 0))
/-- Names that differ from each other, and from these. -/
def difG : List Nm → List Nm → Bool
  | _, [] => true
  | p, s :: r => nameL s && (!(p.contains s) && difG (p ++ [s]) r)
def difL (l : List Nm) : Bool := difG [] l
theorem difG_step {l : List Nm} {i : Nat} {s : Nm} (h : l[i]? = some s) : difG (l.take i) (l.drop i) = (nameL s && (!((l.take i).contains s) && difG (l.take (i + 1)) (l.drop (i + 1)))) := by
  obtain ⟨hi, rfl⟩ := List.getElem?_eq_some_iff.1 h
  rw [List.drop_eq_getElem_cons hi, difG, List.take_add_one, List.getElem?_eq_getElem hi]
  rfl
theorem difG_end {l : List Nm} {i : Nat} (h : l.length ≤ i) : difG (l.take i) (l.drop i) = true := by
  rw [List.drop_eq_nil_of_le h]
  rfl
/-- As many names, and types within, as a kind asks for. -/
def okW (k : Int) (n m : Nat) : Bool :=
  if k = 12 ∨ k = 17 then n == 0 && m == 1
  else if k = 14 then n == 0 && (decide (1 ≤ m) && decide (m ≤ 64))
  else if k = 18 then n == 0 && m == 2
  else if k = 13 ∨ k = 15 then decide (1 ≤ n) && (decide (n ≤ 64) && m == n)
  else if k = 16 then decide (1 ≤ n) && (decide (n ≤ 64) && m == 0)
  else if k = 19 then decide (1 ≤ n) && (decide (n ≤ 32) && m == 0)
  else if k = 20 ∨ k = 21 then n == 0 && m == 0
  else decide (1 ≤ k) && (decide (k ≤ 11) && (n == 0 && m == 0))
def mostR (k : Int) : Int := if k = 20 ∨ k = 21 then 1048576 else 0
def shapedB (t : Ty) : Bool := okW t.kind t.names.length t.l.length && (decide (0 ≤ t.r) && decide (t.r ≤ mostR t.kind))
def orN (k : Int) : Bool := k == 15 || k == 18
def mayAll (f : Ty → Nat → Option Nat) (mn : Bool) : List Ty → Nat → Option Nat
  | [], c => some c
  | x :: r, c => if (mn && isNone x) = true then mayAll f mn r c else match f x c with
    | none => none
    | some c' => mayAll f mn r c'
/-- So many more may stand within one another; so many there were already: as many as there are then. -/
def mayK : Nat → Ty → Nat → Option Nat
  | 0, _, _ => none
  | k + 1, t, c => if 500 < c + 1 then none else if shapedB t = false then none else if difL t.names = false then none else mayAll (mayK k) (orN t.kind) t.l (c + 1)
def okT (t : Ty) : Bool := (mayK 16 t 0).isSome
def deepK : Nat → Ty → Bool
  | 0, _ => false
  | k + 1, t => (shapedB t && difL t.names) && t.l.all fun x => (orN t.kind && isNone x) || deepK k x
def cntK : Nat → Ty → Nat
  | 0, _ => 1
  | k + 1, t => 1 + (t.l.map fun x => if x.kind = 0 then 0 else cntK k x).sum
def prtL (f : Ty → Nat) : List Ty → Nat → Nat
  | [], n => n
  | x :: r, n => if n ≤ 500 then (if x.kind = 0 then prtL f r n else prtL f r (n + f x)) else n
def prtK : Nat → Ty → Nat
  | 0, _ => 1
  | k + 1, t => prtL (prtK k) t.l 1
def okR (t : Ty) : Bool := deepK 16 t && decide (prtK 16 t ≤ 500)
theorem prtL_le {f : Ty → Nat} : ∀ {l : List Ty} {n : Nat}, n ≤ prtL f l n
  | [], n => Nat.le_refl _
  | x :: r, n => by
    unfold prtL
    split
    · split
      · exact prtL_le
      · exact Nat.le_trans (Nat.le_add_right _ _) prtL_le
    · exact Nat.le_refl _
theorem prtL_cnt {f g : Ty → Nat} : ∀ {l : List Ty} {n : Nat}, (∀ x ∈ l, (f x ≤ 500 → f x = g x) ∧ (g x ≤ 500 → f x = g x)) → (prtL f l n ≤ 500 → prtL f l n = n + (l.map fun x => if x.kind = 0 then 0 else g x).sum) ∧ (n + (l.map fun x => if x.kind = 0 then 0 else g x).sum ≤ 500 → prtL f l n = n + (l.map fun x => if x.kind = 0 then 0 else g x).sum)
  | [], n, h => by simp [prtL]
  | x :: r, n, h => by
    have hx := h x List.mem_cons_self
    have ih := fun n => prtL_cnt (f := f) (g := g) (l := r) (n := n) fun y hy => h y (List.mem_cons_of_mem _ hy)
    unfold prtL
    rw [List.map_cons, List.sum_cons]
    by_cases hk : x.kind = 0
    · rw [if_pos hk, if_pos hk]
      have := ih n
      constructor
      · intro h1
        split at h1
        · rw [if_pos (by assumption)]; have := this.1 h1; omega
        · omega
      · intro h1
        rw [if_pos (by omega)]
        have := this.2 (by omega)
        omega
    · rw [if_neg hk, if_neg hk]
      constructor
      · intro h1
        split at h1
        · rw [if_pos (by assumption)]
          have h2 := prtL_le (f := f) (l := r) (n := n + f x)
          have := hx.1 (by omega)
          have := (ih (n + f x)).1 h1
          omega
        · omega
      · intro h1
        rw [if_pos (by omega)]
        have := hx.2 (by omega)
        have := (ih (n + f x)).2 (by omega)
        omega
theorem prtK_cnt : ∀ (k : Nat) (t : Ty), (prtK k t ≤ 500 → prtK k t = cntK k t) ∧ (cntK k t ≤ 500 → prtK k t = cntK k t)
  | 0, t => ⟨fun _ => rfl, fun _ => rfl⟩
  | k + 1, t => by
    unfold prtK cntK
    exact prtL_cnt fun x _ => prtK_cnt k x
theorem isNone_kind {t : Ty} (h : isNone t = true) : t.kind = 0 := by
  unfold isNone at h
  simp at h
  exact h.1
theorem okW_kind {k : Int} {n m : Nat} (h : okW k n m = true) : 1 ≤ k ∧ k ≤ 21 := by
  unfold okW at h
  repeat' split at h
  all_goals (try simp at h)
  all_goals omega
theorem deepK_kind {k : Nat} {t : Ty} (h : deepK k t = true) : 1 ≤ t.kind ∧ t.kind ≤ 21 := by
  cases k with
  | zero => cases h
  | succ k =>
    unfold deepK at h
    simp only [Bool.and_eq_true] at h
    have := h.1.1
    unfold shapedB at this
    simp only [Bool.and_eq_true] at this
    exact okW_kind this.1
theorem mayAll_eq {f : Ty → Nat → Option Nat} {d : Ty → Bool} {g : Ty → Nat} (mn : Bool) (h : ∀ x c, f x c = if d x = true ∧ c + g x ≤ 500 then some (c + g x) else none) (hd : ∀ x, d x = true → x.kind ≠ 0) :
    ∀ (l : List Ty) (c : Nat), c ≤ 500 → mayAll f mn l c = if (l.all fun x => (mn && isNone x) || d x) = true ∧ c + (l.map fun x => if x.kind = 0 then 0 else g x).sum ≤ 500 then some (c + (l.map fun x => if x.kind = 0 then 0 else g x).sum) else none
  | [], c, hc => by simp [mayAll, hc]
  | x :: r, c, hc => by
    unfold mayAll
    rw [List.map_cons, List.sum_cons, List.all_cons]
    by_cases hn : (mn && isNone x) = true
    · rw [if_pos hn, hn, Bool.true_or, Bool.true_and]
      have hk : x.kind = 0 := isNone_kind (by simp at hn; exact hn.2)
      rw [if_pos hk, Nat.zero_add]
      exact mayAll_eq mn h hd r c hc
    · rw [if_neg hn, Bool.eq_false_iff.2 hn, Bool.false_or, h]
      by_cases hx : d x = true
      · have hk := hd x hx
        rw [if_neg hk, hx, Bool.true_and]
        by_cases h5 : c + g x ≤ 500
        · rw [if_pos ⟨rfl, h5⟩]
          show mayAll f mn r (c + g x) = _
          rw [mayAll_eq mn h hd r _ h5, Nat.add_assoc]
        · rw [if_neg (fun q => h5 q.2), if_neg (fun q => h5 (by omega))]
      · rw [if_neg (fun q => hx q.1), Bool.eq_false_iff.2 hx, Bool.false_and, if_neg (fun q => by cases q.1)]
theorem mayK_eq : ∀ (k : Nat) (t : Ty) (c : Nat), mayK k t c = if deepK k t = true ∧ c + cntK k t ≤ 500 then some (c + cntK k t) else none
  | 0, t, c => by simp [mayK, deepK]
  | k + 1, t, c => by
    unfold mayK deepK cntK
    by_cases h5 : 500 < c + 1
    · rw [if_pos h5, if_neg (fun q => by have := q.2; omega)]
    · rw [if_neg h5]
      by_cases hs : shapedB t = false
      · rw [if_pos hs, hs]
        simp
      · rw [if_neg hs]
        simp only [Bool.not_eq_false] at hs
        by_cases hn : difL t.names = false
        · rw [if_pos hn, hn]
          simp
        · rw [if_neg hn]
          simp only [Bool.not_eq_false] at hn
          rw [mayAll_eq (orN t.kind) (mayK_eq k) (fun x hx => by have := (deepK_kind hx).1; omega) t.l (c + 1) (by omega), hs, hn]
          simp only [Bool.true_and, Nat.add_assoc]
theorem okT_eq (t : Ty) : okT t = okR t := by
  unfold okT okR
  rw [mayK_eq, Nat.zero_add]
  have h := prtK_cnt 16 t
  by_cases hd : deepK 16 t = true
  · rw [hd]
    by_cases h5 : cntK 16 t ≤ 500
    · rw [if_pos ⟨rfl, h5⟩, h.2 h5, decide_eq_true h5]
      rfl
    · rw [if_neg (fun q => h5 q.2), decide_eq_false (fun q => h5 (by rw [← h.1 q]; exact q))]
      rfl
  · rw [if_neg (fun q => hd q.1), Bool.eq_false_iff.2 hd]
    rfl
theorem okT_deep {t : Ty} (h : okT t = true) : deepK 16 t = true ∧ cntK 16 t ≤ 500 := by
  unfold okT at h
  rw [mayK_eq] at h
  by_cases hc : deepK 16 t = true ∧ 0 + cntK 16 t ≤ 500
  · exact ⟨hc.1, by omega⟩
  · rw [if_neg hc] at h
    cases h
/-- A function's types. -/
structure Sg where
  name : Nm
  p : List Nm
  t : List Ty
  r : Ty
def okS (s : Sg) : Bool := decide (s.p.length ≤ 64) && (s.t.length == s.p.length && (difL s.p && (s.t.all okT && (isNone s.r || okT s.r))))
end Ct
end Go.Proofs.YtlkbgdhlbdjbiaaDoor
