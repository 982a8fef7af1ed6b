/- Trees of values, as they lie: numbers, texts, slices of structs; rows that a call makes. -/
import Derived.Test.YtlkbgdhlbdjbiaaDoorBlk
import Derived.Test.YtlkbgdhlbdjbiaaDoorCtS
import Derived.Deep.AppendLies
set_option linter.unusedVariables false
set_option linter.unusedSimpArgs false
namespace Go.Proofs.YtlkbgdhlbdjbiaaDoor
open Go.RowKit

/-- Of what was there, only these blocks may have turned. -/
structure Kept (F : Nat → Prop) (w w' : World) : Prop where
  os : w'.os = w.os
  tape : w'.tape = w.tape
  output : w'.output = w.output
  size : w.heap.size ≤ w'.heap.size
  block : ∀ k, k < w.heap.size → ¬ F k → w'.heap[k]? = w.heap[k]?
theorem Kept.refl (F : Nat → Prop) (w : World) : Kept F w w := ⟨rfl, rfl, rfl, Nat.le_refl _, fun _ _ _ => rfl⟩
theorem Kept.trans {F : Nat → Prop} {a b c : World} (h : Kept F a b) (k : Kept F b c) : Kept F a c :=
  ⟨k.os.trans h.os, k.tape.trans h.tape, k.output.trans h.output, Nat.le_trans h.size k.size, fun i hi hf => (k.block i (Nat.lt_of_lt_of_le hi h.size) hf).trans (h.block i hi hf)⟩
theorem Kept.of_below {F : Nat → Prop} {w w' : World} (h : Below w.heap.size w w') : Kept F w w' := ⟨h.os, h.tape, h.output, h.size, fun k hk _ => h.block k hk⟩
theorem Kept.set {F : Nat → Prop} {a w : World} (h : Kept F a w) {p : Addr} (hp : F p.block) (u : Value) : Kept F a (w.setCell p u) :=
  h.trans ⟨rfl, rfl, rfl, by simp [World.setCell], fun k _ hf => Below.heap_setCell _ _ _ _ (fun e => hf (e ▸ hp))⟩
theorem Kept.mono {F G : Nat → Prop} {w w' : World} (h : Kept F w w') (hf : ∀ k, F k → G k) : Kept G w w' := ⟨h.os, h.tape, h.output, h.size, fun k hk hg => h.block k hk (fun h => hg (hf k h))⟩
theorem Kept.below {F : Nat → Prop} {B : Nat} {w w' : World} (h : Kept F w w') (hB : B ≤ w.heap.size) (hf : ∀ k, F k → B ≤ k) : Below B w w' :=
  ⟨h.os, h.tape, h.output, h.size, fun k hk => h.block k (by omega) (fun hF => by have := hf k hF; omega)⟩
theorem Kept.cells {F : Nat → Prop} {w w' : World} (h : Kept F w w') {k : Nat} {o : Obj} (hk : w.heap[k]? = some o) (hf : ¬ F k) : w'.heap[k]? = some o := (h.block k (Array.getElem?_eq_some_iff.1 hk).1 hf).trans hk
/-- What a later step changes of what there was already. -/
theorem Kept.then {F G : Nat → Prop} {a b c : World} (h : Kept F a b) (k : Kept G b c) (hg : ∀ i, i < a.heap.size → G i → F i) : Kept F a c :=
  ⟨k.os.trans h.os, k.tape.trans h.tape, k.output.trans h.output, Nat.le_trans h.size k.size, fun i hi hf => (k.block i (Nat.lt_of_lt_of_le hi h.size) (fun q => hf (hg i hi q))).trans (h.block i hi hf)⟩
theorem Kept.new {F : Nat → Prop} {a w : World} (h : Kept F a w) (o : Obj) : Kept F a (w.alloc o) := h.trans (Kept.of_below ((Below.refl _ _).alloc (Nat.le_refl _) _))
theorem Kept.drew {F : Nat → Prop} {a w : World} (h : Kept F a w) : Kept F a w.drew := ⟨h.os, h.tape, h.output, h.size, h.block⟩
theorem Kept.clear {F G : Nat → Prop} {a b : World} (h : Kept F a b) (hg : ∀ i, i < a.heap.size → F i → G i) : Kept G a b :=
  ⟨h.os, h.tape, h.output, h.size, fun i hi hf => h.block i hi fun q => hf (hg i hi q)⟩
theorem Kept.grown {F : Nat → Prop} {a w w' : World} {r : Option Nat} (h : Kept F a w) (hg : w.grownBy w' r) (hf : ∀ k, k < a.heap.size → some k = r → F k) : Kept F a w' :=
  h.then (G := fun k => some k = r) ⟨hg.os, hg.tape, hg.output, hg.size, fun k hk hn => hg.block k hk hn⟩ hf
theorem Kept.grow {w w' : World} {r : Option Nat} (hg : w.grownBy w' r) : Kept (fun k => some k = r) w w' := ⟨hg.os, hg.tape, hg.output, hg.size, fun k hk hn => hg.block k hk hn⟩
theorem BlkAt.kept {F : Nat → Prop} {w w' : World} {b : Nat} {cs : Array Value} {T : TypeId} (h : BlkAt w b cs T) (hk : Kept F w w') (hf : ¬ F b) : BlkAt w' b cs T := hk.cells h hf
theorem bodyPost_void {P : Program} {fn : Func} {R : Ending → World → Prop} {a : Act} {w : World} (hr : fn.results = #[]) (hd : a.defers = []) (hR : R (.returned (.tuple #[])) w) : bodyPost P fn R .normal a w :=
  ⟨hd, .tuple #[], by simp [results, hr, go_sem], hR⟩
theorem bodyPost_voidr {P : Program} {fn : Func} {R : Ending → World → Prop} {a : Act} {w : World} (hr : fn.results = #[]) (hd : a.defers = []) (hR : R (.returned (.tuple #[])) w) : bodyPost P fn R .ret a w :=
  ⟨hd, .tuple #[], by simp [results, hr, go_sem], hR⟩
/-- These cells lie in a block, from o on. -/
def CellsAt (w : World) (b o : Nat) (cs : List Value) : Prop := ∀ j v, cs[j]? = some v → w.cell? ⟨b, o + j, none⟩ = some v
theorem cell_of {w w' : World} {g i : Nat} (h : w'.heap[g]? = w.heap[g]?) : w'.cell? ⟨g, i, none⟩ = w.cell? ⟨g, i, none⟩ := by
  unfold World.cell?
  rw [h]
theorem CellsAt.next {w w' : World} {b o : Nat} {cs : List Value} (h : CellsAt w b o cs) (hb : w'.heap[b]? = w.heap[b]?) : CellsAt w' b o cs := fun j v hj => (cell_of hb).trans (h j v hj)
theorem CellsAt.sub {w : World} {b o : Nat} {cs : List Value} (h : CellsAt w b o cs) (k n : Nat) : CellsAt w b (o + k) ((cs.drop k).take n) := by
  intro j v hj
  rw [List.getElem?_take] at hj
  split at hj
  · rw [List.getElem?_drop] at hj
    have := h (k + j) v hj
    rw [← Nat.add_assoc] at this
    exact this
  · cases hj
/-- Worlds that agree on these blocks. -/
def Agree (P : Nat → Prop) (w w' : World) : Prop := ∀ k, P k → k < w.heap.size → w'.heap[k]? = w.heap[k]?
theorem Kept.agree {F P : Nat → Prop} {w w' : World} (h : Kept F w w') (hp : ∀ k, P k → k < w.heap.size → ¬ F k) : Agree P w w' := fun k hk hl => h.block k hl (hp k hk hl)

/-- A value, and what it reaches: T the type of a slice's elements, m their cells, n how many. -/
inductive U where
  | z (i : Int)
  | s (b : List Int)
  | sl (T : TypeId) (m n : Nat) (cs : List U)
mutual
/-- A value that is this tree; it leans on these blocks alone. -/
def LiesU (P : Nat → Prop) (w : World) : U → Value → Prop
  | .z i, v => v = .int .i64 i
  | .s b, v => v = .string (strOfNums b)
  | .sl T m n cs, v => ∃ a cap vs, v = .slice a n cap ∧ n ≤ cap ∧ cap ≤ 9223372036854775807 ∧ cs.length = n * m ∧ LiesL P w cs vs ∧ (n = 0 ∨ ∃ g o, a = some ⟨g, o, none⟩ ∧ P g ∧ g < w.heap.size ∧ CellsAt w g o vs)
def LiesL (P : Nat → Prop) (w : World) : List U → List Value → Prop
  | [], vs => vs = []
  | x :: r, vs => ∃ v t, vs = v :: t ∧ LiesU P w x v ∧ LiesL P w r t
end
mutual
theorem LiesU.next {P Q : Nat → Prop} {w w' : World} (ha : Agree P w w') (hz : w.heap.size ≤ w'.heap.size) (hq : ∀ k, P k → k < w.heap.size → Q k) : ∀ {x : U} {v : Value}, LiesU P w x v → LiesU Q w' x v
  | .z i, v, h => by unfold LiesU at h ⊢; exact h
  | .s b, v, h => by unfold LiesU at h ⊢; exact h
  | .sl T m n cs, v, h => by
    unfold LiesU at h ⊢
    obtain ⟨a, cap, vs, e, h1, h2, h3, h4, h5⟩ := h
    refine ⟨a, cap, vs, e, h1, h2, h3, LiesL.next ha hz hq h4, ?_⟩
    rcases h5 with h5 | ⟨g, o, e2, hp, hl, hc⟩
    · exact .inl h5
    · exact .inr ⟨g, o, e2, hq g hp hl, by omega, hc.next (ha g hp hl)⟩
theorem LiesL.next {P Q : Nat → Prop} {w w' : World} (ha : Agree P w w') (hz : w.heap.size ≤ w'.heap.size) (hq : ∀ k, P k → k < w.heap.size → Q k) : ∀ {xs : List U} {vs : List Value}, LiesL P w xs vs → LiesL Q w' xs vs
  | [], vs, h => by unfold LiesL at h ⊢; exact h
  | x :: r, vs, h => by
    unfold LiesL at h ⊢
    obtain ⟨v, t, e, h1, h2⟩ := h
    exact ⟨v, t, e, LiesU.next ha hz hq h1, LiesL.next ha hz hq h2⟩
end
theorem LiesL.nil {P : Nat → Prop} {w : World} : LiesL P w [] [] := by unfold LiesL; rfl
theorem LiesL.cons {P : Nat → Prop} {w : World} {x : U} {v : Value} {xs : List U} {vs : List Value} (h : LiesU P w x v) (k : LiesL P w xs vs) : LiesL P w (x :: xs) (v :: vs) := by unfold LiesL; exact ⟨v, vs, rfl, h, k⟩
theorem LiesL.inv {P : Nat → Prop} {w : World} {x : U} {xs : List U} {vs : List Value} (h : LiesL P w (x :: xs) vs) : ∃ v t, vs = v :: t ∧ LiesU P w x v ∧ LiesL P w xs t := by unfold LiesL at h; exact h
theorem LiesL.inv_nil {P : Nat → Prop} {w : World} {vs : List Value} (h : LiesL P w [] vs) : vs = [] := by unfold LiesL at h; exact h
theorem LiesL.append {P : Nat → Prop} {w : World} : ∀ {xs ys : List U} {us vs : List Value}, LiesL P w xs us → LiesL P w ys vs → LiesL P w (xs ++ ys) (us ++ vs)
  | [], ys, us, vs, h, k => by rw [h.inv_nil]; exact k
  | x :: r, ys, us, vs, h, k => by
    obtain ⟨v, t, rfl, h1, h2⟩ := h.inv
    exact .cons h1 (h2.append k)
theorem LiesL.split {P : Nat → Prop} {w : World} : ∀ {xs ys : List U} {vs : List Value}, LiesL P w (xs ++ ys) vs → ∃ a b, vs = a ++ b ∧ LiesL P w xs a ∧ LiesL P w ys b
  | [], ys, vs, h => ⟨[], vs, rfl, .nil, h⟩
  | x :: r, ys, vs, h => by
    obtain ⟨v, t, rfl, h1, h2⟩ := LiesL.inv h
    obtain ⟨a, b, rfl, k1, k2⟩ := LiesL.split h2
    exact ⟨v :: a, b, rfl, .cons h1 k1, k2⟩
theorem LiesL.length {P : Nat → Prop} {w : World} : ∀ {xs : List U} {vs : List Value}, LiesL P w xs vs → vs.length = xs.length
  | [], vs, h => by rw [h.inv_nil]; rfl
  | x :: r, vs, h => by
    obtain ⟨v, t, rfl, _, h2⟩ := h.inv
    rw [List.length_cons, List.length_cons, h2.length]
theorem LiesL.get {P : Nat → Prop} {w : World} : ∀ {xs : List U} {vs : List Value}, LiesL P w xs vs → ∀ {i : Nat} {x : U}, xs[i]? = some x → ∃ v, vs[i]? = some v ∧ LiesU P w x v
  | [], vs, h, i, x, hi => by simp at hi
  | y :: r, vs, h, i, x, hi => by
    obtain ⟨v, t, rfl, h1, h2⟩ := h.inv
    cases i with
    | zero => simp at hi; subst hi; exact ⟨v, rfl, h1⟩
    | succ j => exact h2.get (i := j) (by simpa using hi)
theorem liesU_z {P : Nat → Prop} {w : World} (i : Int) : LiesU P w (.z i) (.int .i64 i) := by unfold LiesU; rfl
theorem liesU_s {P : Nat → Prop} {w : World} (b : List Int) : LiesU P w (.s b) (.string (strOfNums b)) := by unfold LiesU; rfl
theorem liesU_nil {P : Nat → Prop} {w : World} (T : TypeId) (m : Nat) : LiesU P w (.sl T m 0 []) (.slice none 0 0) := by
  unfold LiesU
  exact ⟨none, 0, [], rfl, by omega, by omega, by simp, .nil, .inl rfl⟩
theorem LiesU.int {P : Nat → Prop} {w : World} {i : Int} {v : Value} (h : LiesU P w (.z i) v) : v = .int .i64 i := by unfold LiesU at h; exact h
theorem LiesU.str {P : Nat → Prop} {w : World} {b : List Int} {v : Value} (h : LiesU P w (.s b) v) : v = .string (strOfNums b) := by unfold LiesU at h; exact h
/-- Cells of one cell each. -/
theorem LiesU.oneCell {P : Nat → Prop} {w : World} : ∀ {x : U} {v : Value}, LiesU P w x v → v.oneCell' = true
  | .z i, v, h => by rw [h.int]; rfl
  | .s b, v, h => by rw [h.str]; rfl
  | .sl T m n cs, v, h => by
    unfold LiesU at h
    obtain ⟨a, cap, vs, e, _⟩ := h
    rw [e]
    rfl
theorem LiesL.oneCell {P : Nat → Prop} {w : World} : ∀ {xs : List U} {vs : List Value}, LiesL P w xs vs → ∀ u ∈ vs, u.oneCell' = true
  | [], vs, h, u, hu => by rw [h.inv_nil] at hu; cases hu
  | x :: r, vs, h, u, hu => by
    obtain ⟨v, t, rfl, h1, h2⟩ := h.inv
    rcases List.mem_cons.1 hu with e | hu
    · rw [e]; exact h1.oneCell
    · exact h2.oneCell u hu

/-! Rows that a call makes. -/
/-- Blocks that nothing writes to any more: none of these, not block b. -/
def Free (B b : Nat) (cs : List Value) (k : Nat) : Prop := B ≤ k ∧ k ≠ b ∧ ∀ v ∈ cs, v.ownBlock ≠ some k
def OwnU (B : Nat) (P : Nat → Prop) (w : World) : U → Value → Prop
  | .z i, v => v = .int .i64 i
  | .s b, v => v = .string (strOfNums b)
  | .sl T m n cs, v => ∃ vs, w.ownsRow B T m v n vs ∧ LiesL P w cs vs
/-- Values of a struct in the making: each slice is a row of its own. -/
structure Holds (w : World) (B b : Nat) (cs : List Value) (xs : List U) : Prop where
  len : cs.length = xs.length
  own : ∀ (i : Nat) (x : U) (v : Value), xs[i]? = some x → cs[i]? = some v → OwnU B (Free B b cs) w x v
  apart : ∀ (i j : Nat) (u v : Value) (k : Nat), i ≠ j → cs[i]? = some u → cs[j]? = some v → u.ownBlock = some k → v.ownBlock ≠ some k
  notb : ∀ v ∈ cs, v.ownBlock ≠ some b
theorem ownsRow_kept {T : TypeId} {m : Nat} {F : Nat → Prop} {B : Nat} {v : Value} {n : Nat} {vs : List Value} {w w' : World} (h : w.ownsRow B T m v n vs) (hk : Kept F w w') (hf : ∀ k, v.ownBlock = some k → ¬ F k) : w'.ownsRow B T m v n vs := by
  refine ⟨h.1, ?_⟩
  rcases h.2 with hn | ⟨g, cap, cur, rfl, hg, hgg, rest⟩
  · exact .inl hn
  · exact .inr ⟨g, cap, cur, rfl, hg, hk.cells hgg (hf g rfl), rest⟩
theorem OwnU.lt {B : Nat} {P : Nat → Prop} {w : World} {x : U} {v : Value} (h : OwnU B P w x v) : ∀ k, v.ownBlock = some k → B ≤ k ∧ k < w.heap.size := by
  intro k hk
  cases x with
  | z i => unfold OwnU at h; rw [h] at hk; cases hk
  | s b => unfold OwnU at h; rw [h] at hk; cases hk
  | sl T m n cs =>
    obtain ⟨vs, hown, _⟩ := h
    exact World.ownsRow.lt hown k hk
theorem OwnU.next {B : Nat} {P Q F : Nat → Prop} {w w' : World} {x : U} {v : Value} (h : OwnU B P w x v) (k : Kept F w w') (hv : ∀ k, v.ownBlock = some k → ¬ F k) (hp : ∀ k, P k → k < w.heap.size → ¬ F k) (hq : ∀ k, P k → k < w.heap.size → Q k) : OwnU B Q w' x v := by
  cases x with
  | z i => exact h
  | s b => exact h
  | sl T m n cs =>
    obtain ⟨vs, hown, hl⟩ := h
    exact ⟨vs, ownsRow_kept hown k hv, hl.next (k.agree hp) k.size hq⟩
theorem Holds.lt {w : World} {B b : Nat} {cs : List Value} {xs : List U} (h : Holds w B b cs xs) {v : Value} (hv : v ∈ cs) : ∀ k, v.ownBlock = some k → B ≤ k ∧ k < w.heap.size := by
  obtain ⟨i, hi, he⟩ := List.getElem_of_mem hv
  have hx : i < xs.length := by rw [← h.len]; exact hi
  exact (h.own i _ v (List.getElem?_eq_getElem hx) (by rw [List.getElem?_eq_getElem hi, he])).lt
theorem Holds.kept {F : Nat → Prop} {w w' : World} {B b : Nat} {cs : List Value} {xs : List U} (h : Holds w B b cs xs) (k : Kept F w w') (hf : ∀ i, i < w.heap.size → F i → i < B ∨ i = b) : Holds w' B b cs xs := by
  refine ⟨h.len, fun i x v hx hv => (h.own i x v hx hv).next k ?_ ?_ fun _ hp _ => hp, h.apart, h.notb⟩
  · intro j hj hF
    have hm := List.mem_of_getElem? hv
    have h1 := h.lt hm j hj
    rcases hf j h1.2 hF with h2 | h2
    · omega
    · exact h.notb v hm (by rw [hj, h2])
  · intro j hp hl hF
    rcases hf j hl hF with h2 | h2
    · have := hp.1; omega
    · exact hp.2.1 h2
/-- One thing more in a row, behind those that there were. -/
theorem Holds.grow {w w5 : World} {B b : Nat} {cs : List Value} {xs : List U} (h : Holds w B b cs xs) {i : Nat} {v0 : Value} {T : TypeId} {m n : Nat} {us : List U} (hv : cs[i]? = some v0) (hx : xs[i]? = some (.sl T m n us))
    {vs vals : List Value} {ys : List U} (hl0 : LiesL (Free B b cs) w us vs) (k : Kept (fun k => k < B ∨ k = b ∨ some k = v0.ownBlock) w w5) (g cap : Nat) (hown : w5.ownsRow B T m (.slice (some ⟨g, 0, none⟩) (n + 1) cap) (n + 1) (vs ++ vals)) (hat : v0.ownBlock = some g ∨ w.heap.size ≤ g) (hb : b < w.heap.size) (hl : LiesL (Free B b cs) w ys vals) :
    Holds w5 B b (cs.set i (.slice (some ⟨g, 0, none⟩) (n + 1) cap)) (xs.set i (.sl T m (n + 1) (us ++ ys))) := by
  have hi : i < cs.length := (List.getElem?_eq_some_iff.1 hv).1
  have hix : i < xs.length := (List.getElem?_eq_some_iff.1 hx).1
  have hm0 := List.mem_of_getElem? hv
  have hfree : ∀ q, Free B b cs q → q < w.heap.size → Free B b (cs.set i (.slice (some ⟨g, 0, none⟩) (n + 1) cap)) q := by
    intro q hq hql
    refine ⟨hq.1, hq.2.1, fun u hu => ?_⟩
    rcases List.mem_or_eq_of_mem_set hu with hu | rfl
    · exact hq.2.2 u hu
    · intro e
      have e : g = q := Option.some.inj e
      rcases hat with h1 | h1
      · exact hq.2.2 v0 hm0 (by rw [h1, e])
      · omega
  have hnf : ∀ q, Free B b cs q → q < w.heap.size → ¬ (q < B ∨ q = b ∨ some q = v0.ownBlock) := by
    rintro q hq _ (h1 | h1 | h1)
    · have := hq.1; omega
    · exact hq.2.1 h1
    · exact hq.2.2 v0 hm0 h1.symm
  have hgb : g ≠ b := by
    intro e
    rcases hat with h1 | h1
    · exact h.notb v0 hm0 (by rw [h1, e])
    · omega
  refine ⟨by rw [List.length_set, List.length_set]; exact h.len, ?_, ?_, ?_⟩
  · intro j x v hxj hvj
    by_cases e : i = j
    · subst e
      rw [List.getElem?_set_self hi] at hvj
      rw [List.getElem?_set_self hix] at hxj
      cases hvj
      cases hxj
      exact ⟨_, hown, (hl0.next (k.agree hnf) k.size hfree).append (hl.next (k.agree hnf) k.size hfree)⟩
    · rw [List.getElem?_set_ne e] at hvj hxj
      refine (h.own j x v hxj hvj).next k ?_ hnf hfree
      intro q hq hF
      have hm := List.mem_of_getElem? hvj
      have h1 := h.lt hm q hq
      rcases hF with h2 | h2 | h2
      · omega
      · exact h.notb v hm (by rw [hq, h2])
      · exact h.apart i j v0 v q e hv hvj h2.symm hq
  · intro j l u v q hjl hu hv' hq
    by_cases e : i = j
    · subst e
      rw [List.getElem?_set_self hi] at hu
      rw [List.getElem?_set_ne hjl] at hv'
      cases hu
      have hq : g = q := Option.some.inj hq
      subst hq
      intro hc
      have h1 := h.lt (List.mem_of_getElem? hv') g hc
      rcases hat with h2 | h2
      · exact h.apart i l v0 v g hjl hv hv' h2 hc
      · omega
    · rw [List.getElem?_set_ne e] at hu
      by_cases e2 : i = l
      · subst e2
        rw [List.getElem?_set_self hi] at hv'
        cases hv'
        intro hc
        have hc : g = q := Option.some.inj hc
        subst hc
        have h1 := h.lt (List.mem_of_getElem? hu) g hq
        rcases hat with h2 | h2
        · exact h.apart j i u v0 g hjl hu hv hq h2
        · omega
      · rw [List.getElem?_set_ne e2] at hv'
        exact h.apart j l u v q hjl hu hv' hq
  · intro v hv'
    rcases List.mem_or_eq_of_mem_set hv' with hv' | rfl
    · exact h.notb v hv'
    · intro e
      exact hgb (Option.some.inj e)
/-- What is told of a row in the making. -/
theorem Holds.row {w : World} {B b : Nat} {cs : List Value} {xs : List U} (h : Holds w B b cs xs) {i : Nat} {v0 : Value} {T : TypeId} {m n : Nat} {us : List U} (hv : cs[i]? = some v0) (hx : xs[i]? = some (.sl T m n us)) :
    ∃ vs, w.ownsRow B T m v0 n vs ∧ LiesL (Free B b cs) w us vs := h.own i _ v0 hx hv
theorem OwnU.lies {B : Nat} {P Q : Nat → Prop} {w : World} {x : U} {v : Value} (h : OwnU B P w x v) (hp : ∀ k, P k → Q k) (hq : ∀ k, B ≤ k → Q k) : LiesU Q w x v := by
  cases x with
  | z i => unfold OwnU at h; rw [h]; exact liesU_z _
  | s b => unfold OwnU at h; rw [h]; exact liesU_s _
  | sl T m n cs =>
    obtain ⟨vs, hown, hl⟩ := h
    have hl2 := hl.next (Q := Q) (fun _ _ _ => rfl) (Nat.le_refl _) fun k hk _ => hp k hk
    have hlen := hl.length
    unfold LiesU
    rcases hown with ⟨e, ⟨rfl, rfl⟩ | ⟨g, cap, cur, rfl, hg, hgg, h1, h2, h3, h4⟩⟩
    · rw [Nat.zero_mul] at e
      exact ⟨none, 0, vs, rfl, Nat.le_refl _, by omega, by rw [Nat.zero_mul]; omega, hl2, .inl rfl⟩
    · unfold maxLen at h2
      refine ⟨_, cap, vs, rfl, h1, h2, by omega, hl2, .inr ⟨g, 0, rfl, hq g hg, (Array.getElem?_eq_some_iff.1 hgg).1, fun j u hj => ?_⟩⟩
      unfold World.cell?
      rw [hgg]
      show cur[0 + j]? = some u
      rw [Nat.zero_add, ← hj, ← h4, List.getElem?_take, if_pos, Array.getElem?_toList]
      have := (List.getElem?_eq_some_iff.1 hj).1
      omega
theorem liesL_of {P : Nat → Prop} {w : World} : ∀ {xs : List U} {cs : List Value}, cs.length = xs.length → (∀ (i : Nat) (x : U) (v : Value), xs[i]? = some x → cs[i]? = some v → LiesU P w x v) → LiesL P w xs cs
  | [], cs, hl, h => by
    have : cs = [] := List.length_eq_zero_iff.1 hl
    rw [this]
    exact .nil
  | x :: r, [], hl, h => by simp at hl
  | x :: r, v :: t, hl, h => .cons (h 0 x v rfl rfl) (liesL_of (by simpa using hl) fun i y u hy hu => h (i + 1) y u (by simpa using hy) (by simpa using hu))
/-- What was made lies in blocks from B on. -/
theorem Holds.lies {w : World} {B b : Nat} {cs : List Value} {xs : List U} (h : Holds w B b cs xs) : LiesL (B ≤ ·) w xs cs :=
  liesL_of h.len fun i x v hx hv => (h.own i x v hx hv).lies (fun _ hk => hk.1) fun _ hk => hk
/-- Plain cells and empty rows. -/
def plainU : U → Value → Prop
  | .z i, v => v = .int .i64 i
  | .s b, v => v = .string (strOfNums b)
  | .sl T m n cs, v => n = 0 ∧ cs = [] ∧ v = .slice none 0 0
theorem Holds.new {w : World} {B b : Nat} {cs : List Value} {xs : List U} (hl : cs.length = xs.length) (h : ∀ (i : Nat) (x : U) (v : Value), xs[i]? = some x → cs[i]? = some v → plainU x v) : Holds w B b cs xs := by
  have none_of : ∀ (i : Nat) (v : Value), cs[i]? = some v → v.ownBlock = none := by
    intro i v hv
    have hi : i < xs.length := by rw [← hl]; exact (List.getElem?_eq_some_iff.1 hv).1
    have := h i _ v (List.getElem?_eq_getElem hi) hv
    revert this
    cases xs[i] with
    | z i => intro h; unfold plainU at h; rw [h]; rfl
    | s b => intro h; unfold plainU at h; rw [h]; rfl
    | sl T m n us => rintro ⟨_, _, rfl⟩; rfl
  refine ⟨hl, ?_, ?_, ?_⟩
  · intro i x v hx hv
    have := h i x v hx hv
    revert this
    cases x with
    | z i => exact id
    | s b => exact id
    | sl T m n us =>
      rintro ⟨rfl, rfl, rfl⟩
      exact ⟨[], World.ownsRow_nil _ _ _ _, .nil⟩
  · intro i j u v k _ hu hv hk
    rw [none_of i u hu] at hk
    cases hk
  · intro v hv
    obtain ⟨i, hi, he⟩ := List.getElem_of_mem hv
    rw [none_of i v (by rw [List.getElem?_eq_getElem hi, he])]
    exact fun e => by cases e
end Go.Proofs.YtlkbgdhlbdjbiaaDoor
