/- base -/
import Derived.Test.YtikgkjkgdlnekaaGreatDoorCtLL
import Derived.Test.YtikgkjkgdlnekaaGreatDoorBlk
import Derived.Deep.AppendLies
/- ctype: types as trees, and what is told of them, as plain functions: no program. -/
set_option linter.unusedVariables false
set_option linter.unusedSimpArgs false
namespace Go.Proofs.YtikgkjkgdlnekaaGreatDoor
open Go.RowKit
open Lex

namespace Ct
abbrev Nm := List Int
inductive Ty where
  | mk (kind : Int) (names : List Nm) (l : List Ty) (r : Int)
instance : Inhabited Ty := ⟨.mk 0 [] [] 0⟩
namespace Ty
def kind : Ty → Int | mk k _ _ _ => k
def names : Ty → List Nm | mk _ n _ _ => n
def l : Ty → List Ty | mk _ _ l _ => l
def r : Ty → Int | mk _ _ _ r => r
def zero : Ty := .mk 0 [] [] 0
end Ty
def isNone (t : Ty) : Bool := t.kind == 0 && (t.r == 0 && (t.names.length == 0 && t.l.length == 0))
/-- Names that differ from each other, and from these. -/
def difG : List Nm → List Nm → Bool
  | _, [] => true
  | p, s :: r => nameL s && (!(p.contains s) && difG (p ++ [s]) r)
def difL (l : List Nm) : Bool := difG [] l
theorem difG_step {l : List Nm} {i : Nat} {s : Nm} (h : l[i]? = some s) : difG (l.take i) (l.drop i) = (nameL s && (!((l.take i).contains s) && difG (l.take (i + 1)) (l.drop (i + 1)))) := by
  obtain ⟨hi, rfl⟩ := List.getElem?_eq_some_iff.1 h
  rw [List.drop_eq_getElem_cons hi, difG, List.take_add_one, List.getElem?_eq_getElem hi]
  rfl
theorem difG_end {l : List Nm} {i : Nat} (h : l.length ≤ i) : difG (l.take i) (l.drop i) = true := by
  rw [List.drop_eq_nil_of_le h]
  rfl
/-- As many names, and types within, as a kind asks for. -/
def okW (k : Int) (n m : Nat) : Bool :=
  if k = 12 ∨ k = 17 then n == 0 && m == 1
  else if k = 14 then n == 0 && (decide (1 ≤ m) && decide (m ≤ 64))
  else if k = 18 then n == 0 && m == 2
  else if k = 13 ∨ k = 15 then decide (1 ≤ n) && (decide (n ≤ 64) && m == n)
  else if k = 16 then decide (1 ≤ n) && (decide (n ≤ 64) && m == 0)
  else if k = 19 then decide (1 ≤ n) && (decide (n ≤ 32) && m == 0)
  else if k = 20 ∨ k = 21 then n == 0 && m == 0
  else decide (1 ≤ k) && (decide (k ≤ 11) && (n == 0 && m == 0))
def mostR (k : Int) : Int := if k = 20 ∨ k = 21 then 1048576 else 0
def shapedB (t : Ty) : Bool := okW t.kind t.names.length t.l.length && (decide (0 ≤ t.r) && decide (t.r ≤ mostR t.kind))
def orN (k : Int) : Bool := k == 15 || k == 18
def mayAll (f : Ty → Nat → Option Nat) (mn : Bool) : List Ty → Nat → Option Nat
  | [], c => some c
  | x :: r, c => if (mn && isNone x) = true then mayAll f mn r c else match f x c with
    | none => none
    | some c' => mayAll f mn r c'
/-- So many more may stand within one another; so many there were already: as many as there are then. -/
def mayK : Nat → Ty → Nat → Option Nat
  | 0, _, _ => none
  | k + 1, t, c => if 500 < c + 1 then none else if shapedB t = false then none else if difL t.names = false then none else mayAll (mayK k) (orN t.kind) t.l (c + 1)
def okT (t : Ty) : Bool := (mayK 16 t 0).isSome
def deepK : Nat → Ty → Bool
  | 0, _ => false
  | k + 1, t => (shapedB t && difL t.names) && t.l.all fun x => (orN t.kind && isNone x) || deepK k x
def cntK : Nat → Ty → Nat
  | 0, _ => 1
  | k + 1, t => 1 + (t.l.map fun x => if x.kind = 0 then 0 else cntK k x).sum
def prtL (f : Ty → Nat) : List Ty → Nat → Nat
  | [], n => n
  | x :: r, n => if n ≤ 500 then (if x.kind = 0 then prtL f r n else prtL f r (n + f x)) else n
def prtK : Nat → Ty → Nat
  | 0, _ => 1
  | k + 1, t => prtL (prtK k) t.l 1
def okR (t : Ty) : Bool := deepK 16 t && decide (prtK 16 t ≤ 500)
theorem prtL_le {f : Ty → Nat} : ∀ {l : List Ty} {n : Nat}, n ≤ prtL f l n
  | [], n => Nat.le_refl _
  | x :: r, n => by
    unfold prtL
    split
    · split
      · exact prtL_le
      · exact Nat.le_trans (Nat.le_add_right _ _) prtL_le
    · exact Nat.le_refl _
theorem prtL_cnt {f g : Ty → Nat} : ∀ {l : List Ty} {n : Nat}, (∀ x ∈ l, (f x ≤ 500 → f x = g x) ∧ (g x ≤ 500 → f x = g x)) → (prtL f l n ≤ 500 → prtL f l n = n + (l.map fun x => if x.kind = 0 then 0 else g x).sum) ∧ (n + (l.map fun x => if x.kind = 0 then 0 else g x).sum ≤ 500 → prtL f l n = n + (l.map fun x => if x.kind = 0 then 0 else g x).sum)
  | [], n, h => by simp [prtL]
  | x :: r, n, h => by
    have hx := h x List.mem_cons_self
    have ih := fun n => prtL_cnt (f := f) (g := g) (l := r) (n := n) fun y hy => h y (List.mem_cons_of_mem _ hy)
    unfold prtL
    rw [List.map_cons, List.sum_cons]
    by_cases hk : x.kind = 0
    · rw [if_pos hk, if_pos hk]
      have := ih n
      constructor
      · intro h1
        split at h1
        · rw [if_pos (by assumption)]; have := this.1 h1; omega
        · omega
      · intro h1
        rw [if_pos (by omega)]
        have := this.2 (by omega)
        omega
    · rw [if_neg hk, if_neg hk]
      constructor
      · intro h1
        split at h1
        · rw [if_pos (by assumption)]
          have h2 := prtL_le (f := f) (l := r) (n := n + f x)
          have := hx.1 (by omega)
          have := (ih (n + f x)).1 h1
          omega
        · omega
      · intro h1
        rw [if_pos (by omega)]
        have := hx.2 (by omega)
        have := (ih (n + f x)).2 (by omega)
        omega
theorem prtK_cnt : ∀ (k : Nat) (t : Ty), (prtK k t ≤ 500 → prtK k t = cntK k t) ∧ (cntK k t ≤ 500 → prtK k t = cntK k t)
  | 0, t => ⟨fun _ => rfl, fun _ => rfl⟩
  | k + 1, t => by
    unfold prtK cntK
    exact prtL_cnt fun x _ => prtK_cnt k x
theorem isNone_kind {t : Ty} (h : isNone t = true) : t.kind = 0 := by
  unfold isNone at h
  simp at h
  exact h.1
theorem okW_kind {k : Int} {n m : Nat} (h : okW k n m = true) : 1 ≤ k ∧ k ≤ 21 := by
  unfold okW at h
  repeat' split at h
  all_goals (try simp at h)
  all_goals omega
theorem deepK_kind {k : Nat} {t : Ty} (h : deepK k t = true) : 1 ≤ t.kind ∧ t.kind ≤ 21 := by
  cases k with
  | zero => cases h
  | succ k =>
    unfold deepK at h
    simp only [Bool.and_eq_true] at h
    have := h.1.1
    unfold shapedB at this
    simp only [Bool.and_eq_true] at this
    exact okW_kind this.1
theorem mayAll_eq {f : Ty → Nat → Option Nat} {d : Ty → Bool} {g : Ty → Nat} (mn : Bool) (h : ∀ x c, f x c = if d x = true ∧ c + g x ≤ 500 then some (c + g x) else none) (hd : ∀ x, d x = true → x.kind ≠ 0) :
    ∀ (l : List Ty) (c : Nat), c ≤ 500 → mayAll f mn l c = if (l.all fun x => (mn && isNone x) || d x) = true ∧ c + (l.map fun x => if x.kind = 0 then 0 else g x).sum ≤ 500 then some (c + (l.map fun x => if x.kind = 0 then 0 else g x).sum) else none
  | [], c, hc => by simp [mayAll, hc]
  | x :: r, c, hc => by
    unfold mayAll
    rw [List.map_cons, List.sum_cons, List.all_cons]
    by_cases hn : (mn && isNone x) = true
    · rw [if_pos hn, hn, Bool.true_or, Bool.true_and]
      have hk : x.kind = 0 := isNone_kind (by simp at hn; exact hn.2)
      rw [if_pos hk, Nat.zero_add]
      exact mayAll_eq mn h hd r c hc
    · rw [if_neg hn, Bool.eq_false_iff.2 hn, Bool.false_or, h]
      by_cases hx : d x = true
      · have hk := hd x hx
        rw [if_neg hk, hx, Bool.true_and]
        by_cases h5 : c + g x ≤ 500
        · rw [if_pos ⟨rfl, h5⟩]
          show mayAll f mn r (c + g x) = _
          rw [mayAll_eq mn h hd r _ h5, Nat.add_assoc]
        · rw [if_neg (fun q => h5 q.2), if_neg (fun q => h5 (by omega))]
      · rw [if_neg (fun q => hx q.1), Bool.eq_false_iff.2 hx, Bool.false_and, if_neg (fun q => by cases q.1)]
theorem mayK_eq : ∀ (k : Nat) (t : Ty) (c : Nat), mayK k t c = if deepK k t = true ∧ c + cntK k t ≤ 500 then some (c + cntK k t) else none
  | 0, t, c => by simp [mayK, deepK]
  | k + 1, t, c => by
    unfold mayK deepK cntK
    by_cases h5 : 500 < c + 1
    · rw [if_pos h5, if_neg (fun q => by have := q.2; omega)]
    · rw [if_neg h5]
      by_cases hs : shapedB t = false
      · rw [if_pos hs, hs]
        simp
      · rw [if_neg hs]
        simp only [Bool.not_eq_false] at hs
        by_cases hn : difL t.names = false
        · rw [if_pos hn, hn]
          simp
        · rw [if_neg hn]
          simp only [Bool.not_eq_false] at hn
          rw [mayAll_eq (orN t.kind) (mayK_eq k) (fun x hx => by have := (deepK_kind hx).1; omega) t.l (c + 1) (by omega), hs, hn]
          simp only [Bool.true_and, Nat.add_assoc]
theorem okT_eq (t : Ty) : okT t = okR t := by
  unfold okT okR
  rw [mayK_eq, Nat.zero_add]
  have h := prtK_cnt 16 t
  by_cases hd : deepK 16 t = true
  · rw [hd]
    by_cases h5 : cntK 16 t ≤ 500
    · rw [if_pos ⟨rfl, h5⟩, h.2 h5, decide_eq_true h5]
      rfl
    · rw [if_neg (fun q => h5 q.2), decide_eq_false (fun q => h5 (by rw [← h.1 q]; exact q))]
      rfl
  · rw [if_neg (fun q => hd q.1), Bool.eq_false_iff.2 hd]
    rfl
theorem okT_deep {t : Ty} (h : okT t = true) : deepK 16 t = true ∧ cntK 16 t ≤ 500 := by
  unfold okT at h
  rw [mayK_eq] at h
  by_cases hc : deepK 16 t = true ∧ 0 + cntK 16 t ≤ 500
  · exact ⟨hc.1, by omega⟩
  · rw [if_neg hc] at h
    cases h
/-- A function's types. -/
structure Sg where
  name : Nm
  p : List Nm
  t : List Ty
  r : Ty
def okS (s : Sg) : Bool := decide (s.p.length ≤ 64) && (s.t.length == s.p.length && (difL s.p && (s.t.all okT && (isNone s.r || okT s.r))))
end Ct
end Go.Proofs.YtikgkjkgdlnekaaGreatDoor

/- Trees of values, as they lie: numbers, texts, slices of structs; rows that a call makes. -/
set_option linter.unusedVariables false
set_option linter.unusedSimpArgs false
namespace Go.Proofs.YtikgkjkgdlnekaaGreatDoor
open Go.RowKit

/-- Of what was there, only these blocks may have turned. -/
structure Kept (F : Nat → Prop) (w w' : World) : Prop where
  os : w'.os = w.os
  tape : w'.tape = w.tape
  output : w'.output = w.output
  size : w.heap.size ≤ w'.heap.size
  block : ∀ k, k < w.heap.size → ¬ F k → w'.heap[k]? = w.heap[k]?
theorem Kept.refl (F : Nat → Prop) (w : World) : Kept F w w := ⟨rfl, rfl, rfl, Nat.le_refl _, fun _ _ _ => rfl⟩
theorem Kept.trans {F : Nat → Prop} {a b c : World} (h : Kept F a b) (k : Kept F b c) : Kept F a c :=
  ⟨k.os.trans h.os, k.tape.trans h.tape, k.output.trans h.output, Nat.le_trans h.size k.size, fun i hi hf => (k.block i (Nat.lt_of_lt_of_le hi h.size) hf).trans (h.block i hi hf)⟩
theorem Kept.of_below {F : Nat → Prop} {w w' : World} (h : Below w.heap.size w w') : Kept F w w' := ⟨h.os, h.tape, h.output, h.size, fun k hk _ => h.block k hk⟩
theorem Kept.set {F : Nat → Prop} {a w : World} (h : Kept F a w) {p : Addr} (hp : F p.block) (u : Value) : Kept F a (w.setCell p u) :=
  h.trans ⟨rfl, rfl, rfl, by simp [World.setCell], fun k _ hf => Below.heap_setCell _ _ _ _ (fun e => hf (e ▸ hp))⟩
theorem Kept.mono {F G : Nat → Prop} {w w' : World} (h : Kept F w w') (hf : ∀ k, F k → G k) : Kept G w w' := ⟨h.os, h.tape, h.output, h.size, fun k hk hg => h.block k hk (fun h => hg (hf k h))⟩
theorem Kept.below {F : Nat → Prop} {B : Nat} {w w' : World} (h : Kept F w w') (hB : B ≤ w.heap.size) (hf : ∀ k, F k → B ≤ k) : Below B w w' :=
  ⟨h.os, h.tape, h.output, h.size, fun k hk => h.block k (by omega) (fun hF => by have := hf k hF; omega)⟩
theorem Kept.cells {F : Nat → Prop} {w w' : World} (h : Kept F w w') {k : Nat} {o : Obj} (hk : w.heap[k]? = some o) (hf : ¬ F k) : w'.heap[k]? = some o := (h.block k (Array.getElem?_eq_some_iff.1 hk).1 hf).trans hk
/-- What a later step changes of what there was already. -/
theorem Kept.then {F G : Nat → Prop} {a b c : World} (h : Kept F a b) (k : Kept G b c) (hg : ∀ i, i < a.heap.size → G i → F i) : Kept F a c :=
  ⟨k.os.trans h.os, k.tape.trans h.tape, k.output.trans h.output, Nat.le_trans h.size k.size, fun i hi hf => (k.block i (Nat.lt_of_lt_of_le hi h.size) (fun q => hf (hg i hi q))).trans (h.block i hi hf)⟩
theorem Kept.new {F : Nat → Prop} {a w : World} (h : Kept F a w) (o : Obj) : Kept F a (w.alloc o) := h.trans (Kept.of_below ((Below.refl _ _).alloc (Nat.le_refl _) _))
theorem Kept.drew {F : Nat → Prop} {a w : World} (h : Kept F a w) : Kept F a w.drew := ⟨h.os, h.tape, h.output, h.size, h.block⟩
theorem Kept.clear {F G : Nat → Prop} {a b : World} (h : Kept F a b) (hg : ∀ i, i < a.heap.size → F i → G i) : Kept G a b :=
  ⟨h.os, h.tape, h.output, h.size, fun i hi hf => h.block i hi fun q => hf (hg i hi q)⟩
theorem Kept.grown {F : Nat → Prop} {a w w' : World} {r : Option Nat} (h : Kept F a w) (hg : w.grownBy w' r) (hf : ∀ k, k < a.heap.size → some k = r → F k) : Kept F a w' :=
  h.then (G := fun k => some k = r) ⟨hg.os, hg.tape, hg.output, hg.size, fun k hk hn => hg.block k hk hn⟩ hf
theorem Kept.grow {w w' : World} {r : Option Nat} (hg : w.grownBy w' r) : Kept (fun k => some k = r) w w' := ⟨hg.os, hg.tape, hg.output, hg.size, fun k hk hn => hg.block k hk hn⟩
theorem BlkAt.kept {F : Nat → Prop} {w w' : World} {b : Nat} {cs : Array Value} {T : TypeId} (h : BlkAt w b cs T) (hk : Kept F w w') (hf : ¬ F b) : BlkAt w' b cs T := hk.cells h hf
theorem bodyPost_void {P : Program} {fn : Func} {R : Ending → World → Prop} {a : Act} {w : World} (hr : fn.results = #[]) (hd : a.defers = []) (hR : R (.returned (.tuple #[])) w) : bodyPost P fn R .normal a w :=
  ⟨hd, .tuple #[], by simp [results, hr, go_sem], hR⟩
theorem bodyPost_voidr {P : Program} {fn : Func} {R : Ending → World → Prop} {a : Act} {w : World} (hr : fn.results = #[]) (hd : a.defers = []) (hR : R (.returned (.tuple #[])) w) : bodyPost P fn R .ret a w :=
  ⟨hd, .tuple #[], by simp [results, hr, go_sem], hR⟩
/-- These cells lie in a block, from o on. -/
def CellsAt (w : World) (b o : Nat) (cs : List Value) : Prop := ∀ j v, cs[j]? = some v → w.cell? ⟨b, o + j, none⟩ = some v
theorem cell_of {w w' : World} {g i : Nat} (h : w'.heap[g]? = w.heap[g]?) : w'.cell? ⟨g, i, none⟩ = w.cell? ⟨g, i, none⟩ := by
  unfold World.cell?
  rw [h]
theorem CellsAt.next {w w' : World} {b o : Nat} {cs : List Value} (h : CellsAt w b o cs) (hb : w'.heap[b]? = w.heap[b]?) : CellsAt w' b o cs := fun j v hj => (cell_of hb).trans (h j v hj)
theorem CellsAt.sub {w : World} {b o : Nat} {cs : List Value} (h : CellsAt w b o cs) (k n : Nat) : CellsAt w b (o + k) ((cs.drop k).take n) := by
  intro j v hj
  rw [List.getElem?_take] at hj
  split at hj
  · rw [List.getElem?_drop] at hj
    have := h (k + j) v hj
    rw [← Nat.add_assoc] at this
    exact this
  · cases hj
/-- Worlds that agree on these blocks. -/
def Agree (P : Nat → Prop) (w w' : World) : Prop := ∀ k, P k → k < w.heap.size → w'.heap[k]? = w.heap[k]?
theorem Kept.agree {F P : Nat → Prop} {w w' : World} (h : Kept F w w') (hp : ∀ k, P k → k < w.heap.size → ¬ F k) : Agree P w w' := fun k hk hl => h.block k hl (hp k hk hl)

/-- A value, and what it reaches: T the type of a slice's elements, m their cells, n how many. -/
inductive U where
  | z (i : Int)
  | s (b : List Int)
  | sl (T : TypeId) (m n : Nat) (cs : List U)
mutual
/-- A value that is this tree; it leans on these blocks alone. -/
def LiesU (P : Nat → Prop) (w : World) : U → Value → Prop
  | .z i, v => v = .int .i64 i
  | .s b, v => v = .string (strOfNums b)
  | .sl T m n cs, v => ∃ a cap vs, v = .slice a n cap ∧ n ≤ cap ∧ cap ≤ 9223372036854775807 ∧ cs.length = n * m ∧ LiesL P w cs vs ∧ (n = 0 ∨ ∃ g o, a = some ⟨g, o, none⟩ ∧ P g ∧ g < w.heap.size ∧ CellsAt w g o vs)
def LiesL (P : Nat → Prop) (w : World) : List U → List Value → Prop
  | [], vs => vs = []
  | x :: r, vs => ∃ v t, vs = v :: t ∧ LiesU P w x v ∧ LiesL P w r t
end
mutual
theorem LiesU.next {P Q : Nat → Prop} {w w' : World} (ha : Agree P w w') (hz : w.heap.size ≤ w'.heap.size) (hq : ∀ k, P k → k < w.heap.size → Q k) : ∀ {x : U} {v : Value}, LiesU P w x v → LiesU Q w' x v
  | .z i, v, h => by unfold LiesU at h ⊢; exact h
  | .s b, v, h => by unfold LiesU at h ⊢; exact h
  | .sl T m n cs, v, h => by
    unfold LiesU at h ⊢
    obtain ⟨a, cap, vs, e, h1, h2, h3, h4, h5⟩ := h
    refine ⟨a, cap, vs, e, h1, h2, h3, LiesL.next ha hz hq h4, ?_⟩
    rcases h5 with h5 | ⟨g, o, e2, hp, hl, hc⟩
    · exact .inl h5
    · exact .inr ⟨g, o, e2, hq g hp hl, by omega, hc.next (ha g hp hl)⟩
theorem LiesL.next {P Q : Nat → Prop} {w w' : World} (ha : Agree P w w') (hz : w.heap.size ≤ w'.heap.size) (hq : ∀ k, P k → k < w.heap.size → Q k) : ∀ {xs : List U} {vs : List Value}, LiesL P w xs vs → LiesL Q w' xs vs
  | [], vs, h => by unfold LiesL at h ⊢; exact h
  | x :: r, vs, h => by
    unfold LiesL at h ⊢
    obtain ⟨v, t, e, h1, h2⟩ := h
    exact ⟨v, t, e, LiesU.next ha hz hq h1, LiesL.next ha hz hq h2⟩
end
theorem LiesL.nil {P : Nat → Prop} {w : World} : LiesL P w [] [] := by unfold LiesL; rfl
theorem LiesL.cons {P : Nat → Prop} {w : World} {x : U} {v : Value} {xs : List U} {vs : List Value} (h : LiesU P w x v) (k : LiesL P w xs vs) : LiesL P w (x :: xs) (v :: vs) := by unfold LiesL; exact ⟨v, vs, rfl, h, k⟩
theorem LiesL.inv {P : Nat → Prop} {w : World} {x : U} {xs : List U} {vs : List Value} (h : LiesL P w (x :: xs) vs) : ∃ v t, vs = v :: t ∧ LiesU P w x v ∧ LiesL P w xs t := by unfold LiesL at h; exact h
theorem LiesL.inv_nil {P : Nat → Prop} {w : World} {vs : List Value} (h : LiesL P w [] vs) : vs = [] := by unfold LiesL at h; exact h
theorem LiesL.append {P : Nat → Prop} {w : World} : ∀ {xs ys : List U} {us vs : List Value}, LiesL P w xs us → LiesL P w ys vs → LiesL P w (xs ++ ys) (us ++ vs)
  | [], ys, us, vs, h, k => by rw [h.inv_nil]; exact k
  | x :: r, ys, us, vs, h, k => by
    obtain ⟨v, t, rfl, h1, h2⟩ := h.inv
    exact .cons h1 (h2.append k)
theorem LiesL.split {P : Nat → Prop} {w : World} : ∀ {xs ys : List U} {vs : List Value}, LiesL P w (xs ++ ys) vs → ∃ a b, vs = a ++ b ∧ LiesL P w xs a ∧ LiesL P w ys b
  | [], ys, vs, h => ⟨[], vs, rfl, .nil, h⟩
  | x :: r, ys, vs, h => by
    obtain ⟨v, t, rfl, h1, h2⟩ := LiesL.inv h
    obtain ⟨a, b, rfl, k1, k2⟩ := LiesL.split h2
    exact ⟨v :: a, b, rfl, .cons h1 k1, k2⟩
theorem LiesL.length {P : Nat → Prop} {w : World} : ∀ {xs : List U} {vs : List Value}, LiesL P w xs vs → vs.length = xs.length
  | [], vs, h => by rw [h.inv_nil]; rfl
  | x :: r, vs, h => by
    obtain ⟨v, t, rfl, _, h2⟩ := h.inv
    rw [List.length_cons, List.length_cons, h2.length]
theorem LiesL.get {P : Nat → Prop} {w : World} : ∀ {xs : List U} {vs : List Value}, LiesL P w xs vs → ∀ {i : Nat} {x : U}, xs[i]? = some x → ∃ v, vs[i]? = some v ∧ LiesU P w x v
  | [], vs, h, i, x, hi => by simp at hi
  | y :: r, vs, h, i, x, hi => by
    obtain ⟨v, t, rfl, h1, h2⟩ := h.inv
    cases i with
    | zero => simp at hi; subst hi; exact ⟨v, rfl, h1⟩
    | succ j => exact h2.get (i := j) (by simpa using hi)
theorem liesU_z {P : Nat → Prop} {w : World} (i : Int) : LiesU P w (.z i) (.int .i64 i) := by unfold LiesU; rfl
theorem liesU_s {P : Nat → Prop} {w : World} (b : List Int) : LiesU P w (.s b) (.string (strOfNums b)) := by unfold LiesU; rfl
theorem liesU_nil {P : Nat → Prop} {w : World} (T : TypeId) (m : Nat) : LiesU P w (.sl T m 0 []) (.slice none 0 0) := by
  unfold LiesU
  exact ⟨none, 0, [], rfl, by omega, by omega, by simp, .nil, .inl rfl⟩
theorem LiesU.int {P : Nat → Prop} {w : World} {i : Int} {v : Value} (h : LiesU P w (.z i) v) : v = .int .i64 i := by unfold LiesU at h; exact h
theorem LiesU.str {P : Nat → Prop} {w : World} {b : List Int} {v : Value} (h : LiesU P w (.s b) v) : v = .string (strOfNums b) := by unfold LiesU at h; exact h
/-- Cells of one cell each. -/
theorem LiesU.oneCell {P : Nat → Prop} {w : World} : ∀ {x : U} {v : Value}, LiesU P w x v → v.oneCell' = true
  | .z i, v, h => by rw [h.int]; rfl
  | .s b, v, h => by rw [h.str]; rfl
  | .sl T m n cs, v, h => by
    unfold LiesU at h
    obtain ⟨a, cap, vs, e, _⟩ := h
    rw [e]
    rfl
theorem LiesL.oneCell {P : Nat → Prop} {w : World} : ∀ {xs : List U} {vs : List Value}, LiesL P w xs vs → ∀ u ∈ vs, u.oneCell' = true
  | [], vs, h, u, hu => by rw [h.inv_nil] at hu; cases hu
  | x :: r, vs, h, u, hu => by
    obtain ⟨v, t, rfl, h1, h2⟩ := h.inv
    rcases List.mem_cons.1 hu with e | hu
    · rw [e]; exact h1.oneCell
    · exact h2.oneCell u hu

/-! Rows that a call makes. -/
/-- Blocks that nothing writes to any more: none of these, not block b. -/
def Free (B b : Nat) (cs : List Value) (k : Nat) : Prop := B ≤ k ∧ k ≠ b ∧ ∀ v ∈ cs, v.ownBlock ≠ some k
def OwnU (B : Nat) (P : Nat → Prop) (w : World) : U → Value → Prop
  | .z i, v => v = .int .i64 i
  | .s b, v => v = .string (strOfNums b)
  | .sl T m n cs, v => ∃ vs, w.ownsRow B T m v n vs ∧ LiesL P w cs vs
/-- Values of a struct in the making: each slice is a row of its own. -/
structure Holds (w : World) (B b : Nat) (cs : List Value) (xs : List U) : Prop where
  len : cs.length = xs.length
  own : ∀ (i : Nat) (x : U) (v : Value), xs[i]? = some x → cs[i]? = some v → OwnU B (Free B b cs) w x v
  apart : ∀ (i j : Nat) (u v : Value) (k : Nat), i ≠ j → cs[i]? = some u → cs[j]? = some v → u.ownBlock = some k → v.ownBlock ≠ some k
  notb : ∀ v ∈ cs, v.ownBlock ≠ some b
theorem ownsRow_kept {T : TypeId} {m : Nat} {F : Nat → Prop} {B : Nat} {v : Value} {n : Nat} {vs : List Value} {w w' : World} (h : w.ownsRow B T m v n vs) (hk : Kept F w w') (hf : ∀ k, v.ownBlock = some k → ¬ F k) : w'.ownsRow B T m v n vs := by
  refine ⟨h.1, ?_⟩
  rcases h.2 with hn | ⟨g, cap, cur, rfl, hg, hgg, rest⟩
  · exact .inl hn
  · exact .inr ⟨g, cap, cur, rfl, hg, hk.cells hgg (hf g rfl), rest⟩
theorem OwnU.lt {B : Nat} {P : Nat → Prop} {w : World} {x : U} {v : Value} (h : OwnU B P w x v) : ∀ k, v.ownBlock = some k → B ≤ k ∧ k < w.heap.size := by
  intro k hk
  cases x with
  | z i => unfold OwnU at h; rw [h] at hk; cases hk
  | s b => unfold OwnU at h; rw [h] at hk; cases hk
  | sl T m n cs =>
    obtain ⟨vs, hown, _⟩ := h
    exact World.ownsRow.lt hown k hk
theorem OwnU.next {B : Nat} {P Q F : Nat → Prop} {w w' : World} {x : U} {v : Value} (h : OwnU B P w x v) (k : Kept F w w') (hv : ∀ k, v.ownBlock = some k → ¬ F k) (hp : ∀ k, P k → k < w.heap.size → ¬ F k) (hq : ∀ k, P k → k < w.heap.size → Q k) : OwnU B Q w' x v := by
  cases x with
  | z i => exact h
  | s b => exact h
  | sl T m n cs =>
    obtain ⟨vs, hown, hl⟩ := h
    exact ⟨vs, ownsRow_kept hown k hv, hl.next (k.agree hp) k.size hq⟩
theorem Holds.lt {w : World} {B b : Nat} {cs : List Value} {xs : List U} (h : Holds w B b cs xs) {v : Value} (hv : v ∈ cs) : ∀ k, v.ownBlock = some k → B ≤ k ∧ k < w.heap.size := by
  obtain ⟨i, hi, he⟩ := List.getElem_of_mem hv
  have hx : i < xs.length := by rw [← h.len]; exact hi
  exact (h.own i _ v (List.getElem?_eq_getElem hx) (by rw [List.getElem?_eq_getElem hi, he])).lt
theorem Holds.kept {F : Nat → Prop} {w w' : World} {B b : Nat} {cs : List Value} {xs : List U} (h : Holds w B b cs xs) (k : Kept F w w') (hf : ∀ i, i < w.heap.size → F i → i < B ∨ i = b) : Holds w' B b cs xs := by
  refine ⟨h.len, fun i x v hx hv => (h.own i x v hx hv).next k ?_ ?_ fun _ hp _ => hp, h.apart, h.notb⟩
  · intro j hj hF
    have hm := List.mem_of_getElem? hv
    have h1 := h.lt hm j hj
    rcases hf j h1.2 hF with h2 | h2
    · omega
    · exact h.notb v hm (by rw [hj, h2])
  · intro j hp hl hF
    rcases hf j hl hF with h2 | h2
    · have := hp.1; omega
    · exact hp.2.1 h2
/-- One thing more in a row, behind those that there were. -/
theorem Holds.grow {w w5 : World} {B b : Nat} {cs : List Value} {xs : List U} (h : Holds w B b cs xs) {i : Nat} {v0 : Value} {T : TypeId} {m n : Nat} {us : List U} (hv : cs[i]? = some v0) (hx : xs[i]? = some (.sl T m n us))
    {vs vals : List Value} {ys : List U} (hl0 : LiesL (Free B b cs) w us vs) (k : Kept (fun k => k < B ∨ k = b ∨ some k = v0.ownBlock) w w5) (g cap : Nat) (hown : w5.ownsRow B T m (.slice (some ⟨g, 0, none⟩) (n + 1) cap) (n + 1) (vs ++ vals)) (hat : v0.ownBlock = some g ∨ w.heap.size ≤ g) (hb : b < w.heap.size) (hl : LiesL (Free B b cs) w ys vals) :
    Holds w5 B b (cs.set i (.slice (some ⟨g, 0, none⟩) (n + 1) cap)) (xs.set i (.sl T m (n + 1) (us ++ ys))) := by
  have hi : i < cs.length := (List.getElem?_eq_some_iff.1 hv).1
  have hix : i < xs.length := (List.getElem?_eq_some_iff.1 hx).1
  have hm0 := List.mem_of_getElem? hv
  have hfree : ∀ q, Free B b cs q → q < w.heap.size → Free B b (cs.set i (.slice (some ⟨g, 0, none⟩) (n + 1) cap)) q := by
    intro q hq hql
    refine ⟨hq.1, hq.2.1, fun u hu => ?_⟩
    rcases List.mem_or_eq_of_mem_set hu with hu | rfl
    · exact hq.2.2 u hu
    · intro e
      have e : g = q := Option.some.inj e
      rcases hat with h1 | h1
      · exact hq.2.2 v0 hm0 (by rw [h1, e])
      · omega
  have hnf : ∀ q, Free B b cs q → q < w.heap.size → ¬ (q < B ∨ q = b ∨ some q = v0.ownBlock) := by
    rintro q hq _ (h1 | h1 | h1)
    · have := hq.1; omega
    · exact hq.2.1 h1
    · exact hq.2.2 v0 hm0 h1.symm
  have hgb : g ≠ b := by
    intro e
    rcases hat with h1 | h1
    · exact h.notb v0 hm0 (by rw [h1, e])
    · omega
  refine ⟨by rw [List.length_set, List.length_set]; exact h.len, ?_, ?_, ?_⟩
  · intro j x v hxj hvj
    by_cases e : i = j
    · subst e
      rw [List.getElem?_set_self hi] at hvj
      rw [List.getElem?_set_self hix] at hxj
      cases hvj
      cases hxj
      exact ⟨_, hown, (hl0.next (k.agree hnf) k.size hfree).append (hl.next (k.agree hnf) k.size hfree)⟩
    · rw [List.getElem?_set_ne e] at hvj hxj
      refine (h.own j x v hxj hvj).next k ?_ hnf hfree
      intro q hq hF
      have hm := List.mem_of_getElem? hvj
      have h1 := h.lt hm q hq
      rcases hF with h2 | h2 | h2
      · omega
      · exact h.notb v hm (by rw [hq, h2])
      · exact h.apart i j v0 v q e hv hvj h2.symm hq
  · intro j l u v q hjl hu hv' hq
    by_cases e : i = j
    · subst e
      rw [List.getElem?_set_self hi] at hu
      rw [List.getElem?_set_ne hjl] at hv'
      cases hu
      have hq : g = q := Option.some.inj hq
      subst hq
      intro hc
      have h1 := h.lt (List.mem_of_getElem? hv') g hc
      rcases hat with h2 | h2
      · exact h.apart i l v0 v g hjl hv hv' h2 hc
      · omega
    · rw [List.getElem?_set_ne e] at hu
      by_cases e2 : i = l
      · subst e2
        rw [List.getElem?_set_self hi] at hv'
        cases hv'
        intro hc
        have hc : g = q := Option.some.inj hc
        subst hc
        have h1 := h.lt (List.mem_of_getElem? hu) g hq
        rcases hat with h2 | h2
        · exact h.apart j i u v0 g hjl hu hv hq h2
        · omega
      · rw [List.getElem?_set_ne e2] at hv'
        exact h.apart j l u v q hjl hu hv' hq
  · intro v hv'
    rcases List.mem_or_eq_of_mem_set hv' with hv' | rfl
    · exact h.notb v hv'
    · intro e
      exact hgb (Option.some.inj e)
/-- What is told of a row in the making. -/
theorem Holds.row {w : World} {B b : Nat} {cs : List Value} {xs : List U} (h : Holds w B b cs xs) {i : Nat} {v0 : Value} {T : TypeId} {m n : Nat} {us : List U} (hv : cs[i]? = some v0) (hx : xs[i]? = some (.sl T m n us)) :
    ∃ vs, w.ownsRow B T m v0 n vs ∧ LiesL (Free B b cs) w us vs := h.own i _ v0 hx hv
theorem OwnU.lies {B : Nat} {P Q : Nat → Prop} {w : World} {x : U} {v : Value} (h : OwnU B P w x v) (hp : ∀ k, P k → Q k) (hq : ∀ k, B ≤ k → Q k) : LiesU Q w x v := by
  cases x with
  | z i => unfold OwnU at h; rw [h]; exact liesU_z _
  | s b => unfold OwnU at h; rw [h]; exact liesU_s _
  | sl T m n cs =>
    obtain ⟨vs, hown, hl⟩ := h
    have hl2 := hl.next (Q := Q) (fun _ _ _ => rfl) (Nat.le_refl _) fun k hk _ => hp k hk
    have hlen := hl.length
    unfold LiesU
    rcases hown with ⟨e, ⟨rfl, rfl⟩ | ⟨g, cap, cur, rfl, hg, hgg, h1, h2, h3, h4⟩⟩
    · rw [Nat.zero_mul] at e
      exact ⟨none, 0, vs, rfl, Nat.le_refl _, by omega, by rw [Nat.zero_mul]; omega, hl2, .inl rfl⟩
    · unfold maxLen at h2
      refine ⟨_, cap, vs, rfl, h1, h2, by omega, hl2, .inr ⟨g, 0, rfl, hq g hg, (Array.getElem?_eq_some_iff.1 hgg).1, fun j u hj => ?_⟩⟩
      unfold World.cell?
      rw [hgg]
      show cur[0 + j]? = some u
      rw [Nat.zero_add, ← hj, ← h4, List.getElem?_take, if_pos, Array.getElem?_toList]
      have := (List.getElem?_eq_some_iff.1 hj).1
      omega
theorem liesL_of {P : Nat → Prop} {w : World} : ∀ {xs : List U} {cs : List Value}, cs.length = xs.length → (∀ (i : Nat) (x : U) (v : Value), xs[i]? = some x → cs[i]? = some v → LiesU P w x v) → LiesL P w xs cs
  | [], cs, hl, h => by
    have : cs = [] := List.length_eq_zero_iff.1 hl
    rw [this]
    exact .nil
  | x :: r, [], hl, h => by simp at hl
  | x :: r, v :: t, hl, h => .cons (h 0 x v rfl rfl) (liesL_of (by simpa using hl) fun i y u hy hu => h (i + 1) y u (by simpa using hy) (by simpa using hu))
/-- What was made lies in blocks from B on. -/
theorem Holds.lies {w : World} {B b : Nat} {cs : List Value} {xs : List U} (h : Holds w B b cs xs) : LiesL (B ≤ ·) w xs cs :=
  liesL_of h.len fun i x v hx hv => (h.own i x v hx hv).lies (fun _ hk => hk.1) fun _ hk => hk
/-- Plain cells and empty rows. -/
def plainU : U → Value → Prop
  | .z i, v => v = .int .i64 i
  | .s b, v => v = .string (strOfNums b)
  | .sl T m n cs, v => n = 0 ∧ cs = [] ∧ v = .slice none 0 0
theorem Holds.new {w : World} {B b : Nat} {cs : List Value} {xs : List U} (hl : cs.length = xs.length) (h : ∀ (i : Nat) (x : U) (v : Value), xs[i]? = some x → cs[i]? = some v → plainU x v) : Holds w B b cs xs := by
  have none_of : ∀ (i : Nat) (v : Value), cs[i]? = some v → v.ownBlock = none := by
    intro i v hv
    have hi : i < xs.length := by rw [← hl]; exact (List.getElem?_eq_some_iff.1 hv).1
    have := h i _ v (List.getElem?_eq_getElem hi) hv
    revert this
    cases xs[i] with
    | z i => intro h; unfold plainU at h; rw [h]; rfl
    | s b => intro h; unfold plainU at h; rw [h]; rfl
    | sl T m n us => rintro ⟨_, _, rfl⟩; rfl
  refine ⟨hl, ?_, ?_, ?_⟩
  · intro i x v hx hv
    have := h i x v hx hv
    revert this
    cases x with
    | z i => exact id
    | s b => exact id
    | sl T m n us =>
      rintro ⟨rfl, rfl, rfl⟩
      exact ⟨[], World.ownsRow_nil _ _ _ _, .nil⟩
  · intro i j u v k _ hu hv hk
    rw [none_of i u hu] at hk
    cases hk
  · intro v hv
    obtain ⟨i, hi, he⟩ := List.getElem_of_mem hv
    rw [none_of i v (by rw [List.getElem?_eq_getElem hi, he])]
    exact fun e => by cases e
end Go.Proofs.YtikgkjkgdlnekaaGreatDoor

/- ctype: types as trees of values; what is told of a row of them. -/
set_option linter.unusedVariables false
set_option linter.unusedSimpArgs false
namespace Go.Proofs.YtikgkjkgdlnekaaGreatDoor
open Go.RowKit
open Lex Ct

namespace Ct
abbrev strsU (l : List Nm) : U := .sl 9 1 l.length (l.map .s)
mutual
def encTy : Ty → List U
  | .mk k n l r => [.z k, strsU n, .sl 25 4 l.length (encTys l), .z r]
def encTys : List Ty → List U
  | [] => []
  | t :: r => encTy t ++ encTys r
end
abbrev tysU (l : List Ty) : U := .sl 25 4 l.length (encTys l)
theorem encTy_length (t : Ty) : (encTy t).length = 4 := by cases t; rfl
theorem encTys_length : ∀ (l : List Ty), (encTys l).length = l.length * 4
  | [] => rfl
  | t :: r => by
    show (encTy t ++ encTys r).length = _
    rw [List.length_append, encTy_length, encTys_length r, List.length_cons]
    omega
theorem encTys_flat : ∀ l : List Ty, encTys l = l.flatMap encTy
  | [] => rfl
  | t :: r => by rw [List.flatMap_cons, ← encTys_flat r]; rfl
theorem encTys_one (t : Ty) : encTys [t] = encTy t := by
  show encTy t ++ encTys [] = _
  exact List.append_nil _
theorem flat_strs : ∀ xs : List Nm, (xs.flatMap fun b => [U.s b]) = xs.map U.s
  | [] => rfl
  | y :: r => by rw [List.flatMap_cons, List.map_cons, flat_strs r]; rfl
def NmOk (b : Nm) : Prop := (∀ z ∈ b, 0 ≤ z ∧ z < 256) ∧ b.length ≤ maxLen
mutual
/-- Each text within is one of bytes. -/
def FineU : U → Prop
  | .z _ => True
  | .s b => NmOk b
  | .sl _ _ _ cs => FineL cs
def FineL : List U → Prop
  | [] => True
  | x :: r => FineU x ∧ FineL r
end
theorem FineL_append : ∀ {a b : List U}, FineL (a ++ b) ↔ FineL a ∧ FineL b
  | [], b => by show FineL b ↔ True ∧ FineL b; rw [true_and]
  | x :: r, b => by
    show FineU x ∧ FineL (r ++ b) ↔ (FineU x ∧ FineL r) ∧ FineL b
    rw [FineL_append, and_assoc]
theorem FineL_flat {α : Type} {enc : α → List U} : ∀ {xs : List α}, FineL (xs.flatMap enc) → ∀ x ∈ xs, FineL (enc x)
  | [], _, x, hx => absurd hx (by simp)
  | y :: r, h, x, hx => by
    rw [List.flatMap_cons, FineL_append] at h
    rcases List.mem_cons.1 hx with rfl | hx
    · exact h.1
    · exact FineL_flat h.2 x hx
/-- A type's texts are texts. -/
abbrev FineT (t : Ty) : Prop := FineL (encTy t)
theorem FineT.names {t : Ty} (h : FineT t) : ∀ b ∈ t.names, NmOk b := by
  cases t with
  | mk k n l r =>
    have h1 : FineL (n.map U.s) := h.2.1
    intro b hb
    rw [← flat_strs] at h1
    exact (FineL_flat (enc := fun b => [U.s b]) h1 b hb).1
theorem FineT.l {t : Ty} (h : FineT t) : ∀ x ∈ t.l, FineT x := by
  cases t with
  | mk k n l r =>
    have h1 : FineL (encTys l) := h.2.2.1
    intro x hx
    rw [encTys_flat] at h1
    exact FineL_flat h1 x hx
end Ct
/-- No block is too new to lean on. -/
abbrev AnyB : Nat → Prop := fun _ => True
theorem Kept.of {B : Nat} {w w' : World} (h : Below B w w') (hB : w.heap.size ≤ B) : Kept (fun _ => False) w w' := ⟨h.os, h.tape, h.output, h.size, fun k hk _ => h.block k (by omega)⟩
theorem Kept.any {F : Nat → Prop} {w w' : World} (h : Kept (fun _ => False) w w') : Kept F w w' := h.mono fun _ q => q.elim
theorem LiesL.kept {P : Nat → Prop} {w w' : World} {xs : List U} {vs : List Value} (h : LiesL P w xs vs) (k : Kept (fun _ => False) w w') : LiesL P w' xs vs := h.next (k.agree fun _ _ _ => id) k.size fun _ hk _ => hk
theorem LiesU.kept {P : Nat → Prop} {w w' : World} {x : U} {v : Value} (h : LiesU P w x v) (k : Kept (fun _ => False) w w') : LiesU P w' x v := LiesU.next (k.agree fun _ _ _ => id) k.size (fun _ hk _ => hk) h
/-- What leans on blocks below B alone bears what turns others. -/
theorem LiesL.past {B : Nat} {F : Nat → Prop} {w w' : World} {xs : List U} {vs : List Value} (h : LiesL (· < B) w xs vs) (k : Kept F w w') (hf : ∀ i, F i → B ≤ i) : LiesL (· < B) w' xs vs := h.next (k.agree fun i hi _ hF => by have := hf i hF; omega) k.size fun _ hk _ => hk
theorem LiesU.past {B : Nat} {F : Nat → Prop} {w w' : World} {x : U} {v : Value} (h : LiesU (· < B) w x v) (k : Kept F w w') (hf : ∀ i, F i → B ≤ i) : LiesU (· < B) w' x v := LiesU.next (k.agree fun i hi _ hF => by have := hf i hF; omega) k.size (fun _ hk _ => hk) h
theorem LiesL.now {w : World} {P : Nat → Prop} {xs : List U} {vs : List Value} (h : LiesL P w xs vs) : LiesL (· < w.heap.size) w xs vs := h.next (fun _ _ _ => rfl) (Nat.le_refl _) fun _ _ hk => hk
theorem LiesU.now {w : World} {P : Nat → Prop} {x : U} {v : Value} (h : LiesU P w x v) : LiesU (· < w.heap.size) w x v := LiesU.next (fun _ _ _ => rfl) (Nat.le_refl _) (fun _ _ hk => hk) h
theorem LiesL.wide {w : World} {P : Nat → Prop} {xs : List U} {vs : List Value} (h : LiesL P w xs vs) : LiesL AnyB w xs vs := h.next (fun _ _ _ => rfl) (Nat.le_refl _) fun _ _ _ => trivial
theorem LiesU.wide {w : World} {P : Nat → Prop} {x : U} {v : Value} (h : LiesU P w x v) : LiesU AnyB w x v := LiesU.next (fun _ _ _ => rfl) (Nat.le_refl _) (fun _ _ _ => trivial) h
theorem cell_box {w : World} {p : Addr} {v : Value} (h : w.cell? p = some v) (o : Obj) : (w.alloc o).cell? p = some v := (World.cell?_alloc_some w p o (by rw [h]; rfl)).trans h
theorem lies_slice {P : Nat → Prop} {w : World} {T : TypeId} {m n : Nat} {cs : List U} {v : Value} (h : LiesU P w (.sl T m n cs) v) : ∃ a cap, v = .slice a n cap := by
  unfold LiesU at h
  obtain ⟨a, cap, vs, e, _⟩ := h
  exact ⟨a, cap, e⟩
theorem row_at {α : Type} {enc : α → List U} {m : Nat} {P : Nat → Prop} {w : World} (hm : ∀ x, (enc x).length = m) : ∀ {xs : List α} {vs : List Value} {i : Nat} {x : α}, LiesL P w (xs.flatMap enc) vs → xs[i]? = some x → LiesL P w (enc x) ((vs.drop (i * m)).take m)
  | [], vs, i, x, h, hx => by simp at hx
  | y :: r, vs, i, x, h, hx => by
    rw [List.flatMap_cons] at h
    obtain ⟨a, b, rfl, h1, h2⟩ := LiesL.split h
    have ha : a.length = m := by rw [h1.length, hm]
    cases i with
    | zero =>
      simp at hx
      subst hx
      rw [Nat.zero_mul, List.drop_zero, ← ha, List.take_left]
      exact h1
    | succ i =>
      rw [List.getElem?_cons_succ] at hx
      have e : (i + 1) * m = a.length + i * m := by rw [ha, Nat.succ_mul]; omega
      rw [e, List.drop_append, List.drop_eq_nil_of_le (by omega), List.nil_append, Nat.add_sub_cancel_left]
      exact row_at hm h2 hx
/-- A type, as a struct of these cells. -/
structure TyAt (w : World) (t : Ty) (an : Option Addr) (cn : Nat) (al : Option Addr) (cl : Nat) : Prop where
  n : LiesU AnyB w (strsU t.names) (.slice an t.names.length cn)
  l : LiesU AnyB w (tysU t.l) (.slice al t.l.length cl)
theorem TyAt.kept {w w' : World} {t : Ty} {an : Option Addr} {cn : Nat} {al : Option Addr} {cl : Nat} (h : TyAt w t an cn al cl) (k : Kept (fun _ => False) w w') : TyAt w' t an cn al cl := ⟨h.n.kept k, h.l.kept k⟩
abbrev tyV (t : Ty) (an : Option Addr) (cn : Nat) (al : Option Addr) (cl : Nat) : Value := .agg #[.int .i64 t.kind, .slice an t.names.length cn, .slice al t.l.length cl, .int .i64 t.r]
theorem lies_ty {P : Nat → Prop} {w : World} {t : Ty} {vs : List Value} (h : LiesL P w (encTy t) vs) :
    ∃ an cn al cl, vs = [.int .i64 t.kind, .slice an t.names.length cn, .slice al t.l.length cl, .int .i64 t.r] ∧ TyAt w t an cn al cl := by
  cases t with
  | mk k n l r =>
    unfold encTy at h
    obtain ⟨v0, t0, rfl, h0, h⟩ := h.inv
    obtain ⟨v1, t1, rfl, h1, h⟩ := h.inv
    obtain ⟨v2, t2, rfl, h2, h⟩ := h.inv
    obtain ⟨v3, t3, rfl, h3, h⟩ := h.inv
    have e := h.inv_nil
    obtain ⟨an, cn, e1⟩ := lies_slice h1
    obtain ⟨al, cl, e2⟩ := lies_slice h2
    subst e e1 e2
    rw [h0.int, h3.int]
    exact ⟨an, cn, al, cl, rfl, h1.wide, h2.wide⟩
theorem ty_lies {P : Nat → Prop} {w : World} {t : Ty} {vn vl : Value} (h1 : LiesU P w (strsU t.names) vn) (h2 : LiesU P w (tysU t.l) vl) : LiesL P w (encTy t) [.int .i64 t.kind, vn, vl, .int .i64 t.r] := by
  cases t with
  | mk k n l r =>
    unfold encTy
    exact .cons (liesU_z _) (.cons h1 (.cons h2 (.cons (liesU_z _) .nil)))
theorem TyAt.zero {w : World} : TyAt w .zero none 0 none 0 := ⟨liesU_nil _ _, liesU_nil _ _⟩
/-- A row of types: what lies at a place of it. -/
structure RowAt (w : World) (l : List Ty) (a : Option Addr) (cap : Nat) : Prop where
  lies : LiesU AnyB w (tysU l) (.slice a l.length cap)
theorem RowAt.kept {w w' : World} {l : List Ty} {a : Option Addr} {cap : Nat} (h : RowAt w l a cap) (k : Kept (fun _ => False) w w') : RowAt w' l a cap := ⟨h.lies.kept k⟩
theorem RowAt.bound {w : World} {l : List Ty} {a : Option Addr} {cap : Nat} (h : RowAt w l a cap) : l.length ≤ cap ∧ cap ≤ 9223372036854775807 := by
  have h := h.lies
  unfold LiesU at h
  obtain ⟨a', cap', vs, hv, hc, hcm, _⟩ := h
  obtain ⟨rfl, _, rfl⟩ : a = a' ∧ l.length = l.length ∧ cap = cap' := by simpa using hv
  exact ⟨hc, hcm⟩
theorem RowAt.at {w : World} {l : List Ty} {a : Option Addr} {cap : Nat} (h : RowAt w l a cap) {i : Nat} {x : Ty} (hx : l[i]? = some x) :
    ∃ g o an cn al cl, a = some ⟨g, o, none⟩ ∧ g < w.heap.size ∧ TyAt w x an cn al cl ∧ w.cell? ⟨g, o + i * 4, none⟩ = some (.int .i64 x.kind) ∧ w.cell? ⟨g, o + i * 4 + 1, none⟩ = some (.slice an x.names.length cn) ∧ w.cell? ⟨g, o + i * 4 + 2, none⟩ = some (.slice al x.l.length cl) ∧ w.cell? ⟨g, o + i * 4 + 3, none⟩ = some (.int .i64 x.r) := by
  have h := h.lies
  unfold LiesU at h
  obtain ⟨a', cap', vs, hv, hc, hcm, hlen, hlv, hg⟩ := h
  obtain ⟨rfl, _, rfl⟩ : a = a' ∧ l.length = l.length ∧ cap = cap' := by simpa using hv
  have hi := (List.getElem?_eq_some_iff.1 hx).1
  rcases hg with hg | ⟨g, o, rfl, _, hgl, hcl⟩
  · omega
  · rw [encTys_flat] at hlv
    have hrow := row_at (enc := encTy) encTy_length hlv hx
    have hcs := hcl.sub (i * 4) 4
    generalize (vs.drop (i * 4)).take 4 = us at hrow hcs
    obtain ⟨an, cn, al, cl, rfl, hty⟩ := lies_ty hrow
    exact ⟨g, o, an, cn, al, cl, rfl, hgl, hty, hcs 0 _ rfl, hcs 1 _ rfl, hcs 2 _ rfl, hcs 3 _ rfl⟩
theorem TyAt.row {w : World} {t : Ty} {an : Option Addr} {cn : Nat} {al : Option Addr} {cl : Nat} (h : TyAt w t an cn al cl) : RowAt w t.l al cl := ⟨h.l⟩
/-- A row of texts. -/
structure NmsAt (w : World) (l : List Nm) (a : Option Addr) (cap : Nat) : Prop where
  lies : LiesU AnyB w (strsU l) (.slice a l.length cap)
theorem NmsAt.kept {w w' : World} {l : List Nm} {a : Option Addr} {cap : Nat} (h : NmsAt w l a cap) (k : Kept (fun _ => False) w w') : NmsAt w' l a cap := ⟨h.lies.kept k⟩
theorem TyAt.nms {w : World} {t : Ty} {an : Option Addr} {cn : Nat} {al : Option Addr} {cl : Nat} (h : TyAt w t an cn al cl) : NmsAt w t.names an cn := ⟨h.n⟩
theorem NmsAt.bound {w : World} {l : List Nm} {a : Option Addr} {cap : Nat} (h : NmsAt w l a cap) : l.length ≤ cap ∧ cap ≤ 9223372036854775807 := by
  have h := h.lies
  unfold LiesU at h
  obtain ⟨a', cap', vs, hv, hc, hcm, _⟩ := h
  obtain ⟨rfl, _, rfl⟩ : a = a' ∧ l.length = l.length ∧ cap = cap' := by simpa using hv
  exact ⟨hc, hcm⟩
theorem NmsAt.at {w : World} {l : List Nm} {a : Option Addr} {cap : Nat} (h : NmsAt w l a cap) {i : Nat} {x : Nm} (hx : l[i]? = some x) :
    ∃ g o, a = some ⟨g, o, none⟩ ∧ g < w.heap.size ∧ w.cell? ⟨g, o + i, none⟩ = some (.string (strOfNums x)) := by
  have h := h.lies
  unfold LiesU at h
  obtain ⟨a', cap', vs, hv, hc, hcm, hlen, hlv, hg⟩ := h
  obtain ⟨rfl, _, rfl⟩ : a = a' ∧ l.length = l.length ∧ cap = cap' := by simpa using hv
  have hi := (List.getElem?_eq_some_iff.1 hx).1
  rcases hg with hg | ⟨g, o, rfl, _, hgl, hcl⟩
  · omega
  · obtain ⟨v, h1, h2⟩ := LiesL.get hlv (i := i) (x := .s x) (by rw [List.getElem?_map, hx]; rfl)
    rw [h2.str] at h1
    exact ⟨g, o, rfl, hgl, hcl i _ h1⟩
/-- The first of a row of texts. -/
theorem NmsAt.take {w : World} {l : List Nm} {a : Option Addr} {cap : Nat} (h : NmsAt w l a cap) {i : Nat} (hi : i ≤ l.length) : NmsAt w (l.take i) a cap := by
  have h := h.lies
  unfold LiesU at h
  obtain ⟨a', cap', vs, hv, hc, hcm, hlen, hlv, hg⟩ := h
  obtain ⟨rfl, _, rfl⟩ : a = a' ∧ l.length = l.length ∧ cap = cap' := by simpa using hv
  have e : l.map U.s = (l.take i).map U.s ++ (l.drop i).map U.s := by rw [← List.map_append, List.take_append_drop]
  rw [e] at hlv
  obtain ⟨v1, v2, rfl, h1, h2⟩ := LiesL.split hlv
  have hl : (l.take i).length = i := by rw [List.length_take]; omega
  refine ⟨?_⟩
  unfold LiesU
  refine ⟨a, cap, v1, by simp [hl], by rw [hl]; omega, hcm, by rw [List.length_map, hl]; omega, h1, ?_⟩
  rcases hg with hg | ⟨g, o, rfl, hp, hgl, hcl⟩
  · exact .inl (by rw [hl]; omega)
  · refine .inr ⟨g, o, rfl, hp, hgl, fun j v hj => hcl j v ?_⟩
    have := (List.getElem?_eq_some_iff.1 hj).1
    rw [List.getElem?_append_left this]
    exact hj
theorem rdNm (b : Nm) (h : NmOk b) (w : World) : Calls Tryz.prog 86 #[.string (strOfNums b)] w fun e w' => e = .returned (.bool (nameL b)) ∧ Kept (fun _ => False) w w' := by
  have hs : (strOfNums b).size ≤ maxLen := by rw [← bl_length, bl_str b fun z hz => by have := h.1 z hz; omega]; exact h.2
  refine (Name_any (strOfNums b) hs w).mono ?_
  rintro e w' ⟨he, hb⟩
  rw [nameB_eq, bl_str b fun z hz => by have := h.1 z hz; omega] at he
  exact ⟨he, Kept.of hb (Nat.le_refl _)⟩
theorem rdRefNm (b : Nm) (h : NmOk b) (w : World) : Calls Tryz.prog 101 #[.string (strOfNums b)] w fun e w' => e = .returned (.bool (nameL b)) ∧ w = w' := by
  have hs : (strOfNums b).size ≤ maxLen := by rw [← bl_length, bl_str b fun z hz => by have := h.1 z hz; omega]; exact h.2
  refine (refName_any (strOfNums b) hs w).mono ?_
  rintro e w' ⟨he, hb⟩
  rw [bl_str b fun z hz => by have := h.1 z hz; omega] at he
  exact ⟨he, hb⟩
theorem nums_same {a b : Nm} (ha : NmOk a) (hb : NmOk b) : ((strOfNums a).toList == (strOfNums b).toList) = (a == b) := by
  have key : (strOfNums a).toList = (strOfNums b).toList → a = b := by
    intro h
    rw [ByteArray.toList_eq, ByteArray.toList_eq] at h
    have h2 : bl (strOfNums a) = bl (strOfNums b) := by unfold bl; rw [h]
    rw [bl_str a fun z hz => by have := ha.1 z hz; omega, bl_str b fun z hz => by have := hb.1 z hz; omega] at h2
    exact h2
  rw [Bool.eq_iff_iff, beq_iff_eq, beq_iff_eq]
  exact ⟨key, fun h => by rw [h]⟩
end Go.Proofs.YtikgkjkgdlnekaaGreatDoor
