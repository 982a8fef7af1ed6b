/- handles: a handle; a table of handles as a rising list, and as a map in a block. -/
import Derived.Test.YtglhfofofacekaaBlk
import Derived.Test.YtglhfofofacekaaKitI
import Derived.Maps.RangeWalk
import Derived.Maps.OwnSet
import Derived.Maps.AppendAt
set_option linter.unusedVariables false
set_option linter.unusedSimpArgs false
namespace Go.Proofs.Ytglhfofofacekaa
open Go.RowKit

/-- Of what was there, only these blocks may have turned. -/
structure Kept (F : Nat → Prop) (w w' : World) : Prop where
  os : w'.os = w.os
  tape : w'.tape = w.tape
  output : w'.output = w.output
  size : w.heap.size ≤ w'.heap.size
  block : ∀ k, k < w.heap.size → ¬ F k → w'.heap[k]? = w.heap[k]?
theorem Kept.refl (F : Nat → Prop) (w : World) : Kept F w w := ⟨rfl, rfl, rfl, Nat.le_refl _, fun _ _ _ => rfl⟩
theorem Kept.trans {F : Nat → Prop} {a b c : World} (h : Kept F a b) (k : Kept F b c) : Kept F a c :=
  ⟨k.os.trans h.os, k.tape.trans h.tape, k.output.trans h.output, Nat.le_trans h.size k.size, fun i hi hf => (k.block i (Nat.lt_of_lt_of_le hi h.size) hf).trans (h.block i hi hf)⟩
theorem Kept.of_below {F : Nat → Prop} {w w' : World} (h : Below w.heap.size w w') : Kept F w w' := ⟨h.os, h.tape, h.output, h.size, fun k hk _ => h.block k hk⟩
theorem Kept.set {F : Nat → Prop} {a w : World} (h : Kept F a w) {p : Addr} (hp : F p.block) (u : Value) : Kept F a (w.setCell p u) :=
  h.trans ⟨rfl, rfl, rfl, by simp [World.setCell], fun k _ hf => Below.heap_setCell _ _ _ _ (fun e => hf (e ▸ hp))⟩
theorem Kept.mono {F G : Nat → Prop} {w w' : World} (h : Kept F w w') (hf : ∀ k, F k → G k) : Kept G w w' := ⟨h.os, h.tape, h.output, h.size, fun k hk hg => h.block k hk (fun h => hg (hf k h))⟩
theorem Kept.below {F : Nat → Prop} {B : Nat} {w w' : World} (h : Kept F w w') (hB : B ≤ w.heap.size) (hf : ∀ k, F k → B ≤ k) : Below B w w' :=
  ⟨h.os, h.tape, h.output, h.size, fun k hk => h.block k (by omega) (fun hF => by have := hf k hF; omega)⟩
theorem Kept.cells {F : Nat → Prop} {w w' : World} (h : Kept F w w') {k : Nat} {o : Obj} (hk : w.heap[k]? = some o) (hf : ¬ F k) : w'.heap[k]? = some o := (h.block k (Array.getElem?_eq_some_iff.1 hk).1 hf).trans hk
/-- What a later step changes of what there was already. -/
theorem Kept.then {F G : Nat → Prop} {a b c : World} (h : Kept F a b) (k : Kept G b c) (hg : ∀ i, i < a.heap.size → G i → F i) : Kept F a c :=
  ⟨k.os.trans h.os, k.tape.trans h.tape, k.output.trans h.output, Nat.le_trans h.size k.size, fun i hi hf => (k.block i (Nat.lt_of_lt_of_le hi h.size) (fun q => hf (hg i hi q))).trans (h.block i hi hf)⟩
theorem Kept.new {F : Nat → Prop} {a w : World} (h : Kept F a w) (o : Obj) : Kept F a (w.alloc o) := h.trans (Kept.of_below ((Below.refl _ _).alloc (Nat.le_refl _) _))
theorem Kept.drew {F : Nat → Prop} {a w : World} (h : Kept F a w) : Kept F a w.drew := ⟨h.os, h.tape, h.output, h.size, h.block⟩
theorem Kept.clear {F G : Nat → Prop} {a b : World} (h : Kept F a b) (hg : ∀ i, i < a.heap.size → F i → G i) : Kept G a b :=
  ⟨h.os, h.tape, h.output, h.size, fun i hi hf => h.block i hi fun q => hf (hg i hi q)⟩
theorem Kept.grown {F : Nat → Prop} {a w w' : World} {r : Option Nat} (h : Kept F a w) (hg : w.grownBy w' r) (hf : ∀ k, k < a.heap.size → some k = r → F k) : Kept F a w' :=
  h.then (G := fun k => some k = r) ⟨hg.os, hg.tape, hg.output, hg.size, fun k hk hn => hg.block k hk hn⟩ hf
theorem Kept.grow {w w' : World} {r : Option Nat} (hg : w.grownBy w' r) : Kept (fun k => some k = r) w w' := ⟨hg.os, hg.tape, hg.output, hg.size, fun k hk hn => hg.block k hk hn⟩
theorem Kept.turned {w w' : World} {b : Nat} (h : w.mapTurned w' b) : Kept (· = b) w w' := (Kept.grow h.grown).mono fun k e => by cases e; rfl
theorem BlkAt.kept {F : Nat → Prop} {w w' : World} {b : Nat} {cs : Array Value} {T : TypeId} (h : BlkAt w b cs T) (hk : Kept F w w') (hf : ¬ F b) : BlkAt w' b cs T := hk.cells h hf
theorem bodyPost_void {P : Program} {fn : Func} {R : Ending → World → Prop} {a : Act} {w : World} (hr : fn.results = #[]) (hd : a.defers = []) (hR : R (.returned (.tuple #[])) w) : bodyPost P fn R .normal a w :=
  ⟨hd, .tuple #[], by simp [results, hr, go_sem], hR⟩
theorem bodyPost_voidr {P : Program} {fn : Func} {R : Ending → World → Prop} {a : Act} {w : World} (hr : fn.results = #[]) (hd : a.defers = []) (hR : R (.returned (.tuple #[])) w) : bodyPost P fn R .ret a w :=
  ⟨hd, .tuple #[], by simp [results, hr, go_sem], hR⟩
theorem ownsRow_kept {T : TypeId} {m : Nat} {F : Nat → Prop} {B : Nat} {v : Value} {n : Nat} {vs : List Value} {w w' : World} (h : w.ownsRow B T m v n vs) (hk : Kept F w w') (hf : ∀ k, v.ownBlock = some k → ¬ F k) : w'.ownsRow B T m v n vs := by
  refine ⟨h.1, ?_⟩
  rcases h.2 with hn | ⟨g, cap, cur, rfl, hg, hgg, rest⟩
  · exact .inl hn
  · exact .inr ⟨g, cap, cur, rfl, hg, hk.cells hgg (hf g rfl), rest⟩

/-- A handle. -/
structure Hd where
  h : Int
  r : Int
  rep : Int
  own : Bool
  lends : Int
  call : Int
namespace Hd
def zero : Hd := ⟨0, 0, 0, false, 0, 0⟩
instance : Inhabited Hd := ⟨zero⟩
/-- Its cells. -/
def cs (x : Hd) : List Value := [.int .i64 x.h, .int .i64 x.r, .int .i64 x.rep, .bool x.own, .int .i64 x.lends, .int .i64 x.call]
abbrev v (x : Hd) : Value := .agg #[.int .i64 x.h, .int .i64 x.r, .int .i64 x.rep, .bool x.own, .int .i64 x.lends, .int .i64 x.call]
end Hd

abbrev wf64 (k : Int) : Prop := (Lit.int .i64 k).wf = true
/-- A table of handles: the indices rise. -/
abbrev Rise (T : List Hd) : Prop := T.Pairwise (fun x y => x.h < y.h)
/-- The handle at an index. -/
def at? (T : List Hd) (k : Int) : Option Hd := T.find? (fun x => decide (x.h = k))
/-- A handle put at its index. -/
def putT (x : Hd) : List Hd → List Hd
  | [] => [x]
  | y :: r => if x.h < y.h then x :: y :: r else if x.h = y.h then x :: r else y :: putT x r
/-- The handle at an index struck. -/
def delT (k : Int) (T : List Hd) : List Hd := T.filter (fun x => decide (x.h ≠ k))

abbrev ent (x : Hd) : Lit × DataW Value := (.int .i64 x.h, .held x.v)
abbrev dT (T : List Hd) : DataW Value := .map (T.map ent)
abbrev RV : Value → Option (DataW Value × List MemPlace) := fun v => some (.held v, [])

theorem same_int (a b : Int) : (Lit.int .i64 a).sameKey (.int .i64 b) = decide (a = b) := by
  simp [Lit.sameKey]
theorem before_int (a b : Int) : (Lit.int .i64 a).before (.int .i64 b) = decide (a < b) := rfl

theorem has_dT (T : List Hd) (k : Int) : Maps.has (dT T) (.int .i64 k) = (at? T k).isSome := by
  unfold Maps.has at?
  simp only [dT]
  induction T with
  | nil => rfl
  | cons y r ih =>
    simp only [List.map_cons, List.any_cons, ent, same_int, List.find?_cons]
    by_cases h : y.h = k
    · simp [h]
    · simp only [h, decide_false, Bool.false_or]
      exact ih
theorem atKey_dT (T : List Hd) (k : Int) : (dT T).atKey (.int .i64 k) (.held Hd.zero.v) = .held ((at? T k).getD Hd.zero).v := by
  unfold DataW.atKey at?
  simp only [dT]
  induction T with
  | nil => rfl
  | cons y r ih =>
    simp only [List.map_cons, ent, same_int, List.find?_cons]
    by_cases h : y.h = k
    · simp [h]
    · simp only [h, decide_false]
      exact ih
theorem del_dT (T : List Hd) (k : Int) : (dT T).del (.int .i64 k) = dT (delT k T) := by
  unfold DataW.del delT
  simp only [dT, List.filter_map]
  congr 2
  apply List.filter_congr
  intro x _
  simp [ent, same_int]
theorem filter_all_gt {T : List Hd} {k : Int} (h : ∀ x ∈ T, k < x.h) : T.filter (fun x => decide (x.h ≠ k)) = T := by
  apply List.filter_eq_self.2
  intro x hx
  have := h x hx
  simp
  omega
theorem ins_head (x : Hd) : ∀ (T : List Hd), (∀ y ∈ T, x.h < y.h) → DataW.insert (ent x) (T.map ent) = ent x :: T.map ent
  | [], _ => rfl
  | y :: r, h => by
    show (if (ent x).1.before (ent y).1 = true then ent x :: ent y :: r.map ent else ent y :: DataW.insert (ent x) (r.map ent)) = _
    exact if_pos (decide_eq_true (h y (by simp)))
theorem put_dT (x : Hd) : ∀ (T : List Hd), Rise T → DataW.insert (ent x) ((T.filter (fun y => decide (y.h ≠ x.h))).map ent) = (putT x T).map ent
  | [], _ => rfl
  | y :: r, h => by
    have h1 := (List.pairwise_cons.1 h).1
    have h2 := (List.pairwise_cons.1 h).2
    unfold putT
    by_cases ha : x.h < y.h
    · rw [if_pos ha, filter_all_gt (T := y :: r) (k := x.h) (by
        intro z hz
        rcases List.mem_cons.1 hz with rfl | hz
        · exact ha
        · have := h1 z hz; omega)]
      exact ins_head x (y :: r) (by
        intro z hz
        rcases List.mem_cons.1 hz with rfl | hz
        · exact ha
        · have := h1 z hz; omega)
    · rw [if_neg ha]
      by_cases hb : x.h = y.h
      · rw [if_pos hb]
        rw [List.filter_cons_of_neg (by simp [hb]), filter_all_gt (by intro z hz; rw [hb]; exact h1 z hz)]
        exact ins_head x r (by intro z hz; rw [hb]; exact h1 z hz)
      · rw [if_neg hb, List.filter_cons_of_pos (by simp; omega)]
        show (if (ent x).1.before (ent y).1 = true then _ else ent y :: DataW.insert (ent x) ((r.filter (fun y => decide (y.h ≠ x.h))).map ent)) = _
        rw [put_dT x r h2]
        exact if_neg (by rw [show (ent x).1.before (ent y).1 = decide (x.h < y.h) from rfl]; simp; omega)
theorem put_dT' (x : Hd) (T : List Hd) (h : Rise T) : (dT T).put (.int .i64 x.h) (.held x.v) = dT (putT x T) := by
  unfold DataW.put
  simp only [dT, List.filter_map]
  rw [← put_dT x T h]
  congr 3
  apply List.filter_congr
  intro y _
  simp [ent, same_int]

/-! pure facts -/
theorem mem_putT (x : Hd) : ∀ (T : List Hd) (z : Hd), z ∈ putT x T → z = x ∨ z ∈ T
  | [], z, h => by simp [putT] at h; exact .inl h
  | y :: r, z, h => by
    unfold putT at h
    split at h
    · rcases List.mem_cons.1 h with h | h
      · exact .inl h
      · exact .inr h
    · split at h
      · rcases List.mem_cons.1 h with h | h
        · exact .inl h
        · exact .inr (List.mem_cons_of_mem _ h)
      · rcases List.mem_cons.1 h with h | h
        · exact .inr (h ▸ List.mem_cons_self)
        · rcases mem_putT x r z h with h | h
          · exact .inl h
          · exact .inr (List.mem_cons_of_mem _ h)
theorem rise_putT (x : Hd) : ∀ (T : List Hd), Rise T → Rise (putT x T)
  | [], _ => by simp [putT]
  | y :: r, h => by
    obtain ⟨h1, h2⟩ := List.pairwise_cons.1 h
    unfold putT
    split
    · rename_i ha
      exact List.pairwise_cons.2 ⟨fun z hz => by
        rcases List.mem_cons.1 hz with rfl | hz
        · exact ha
        · have := h1 z hz; omega, h⟩
    · split
      · rename_i hb
        exact List.pairwise_cons.2 ⟨fun z hz => by rw [hb]; exact h1 z hz, h2⟩
      · refine List.pairwise_cons.2 ⟨fun z hz => ?_, rise_putT x r h2⟩
        rcases mem_putT x r z hz with rfl | hz
        · omega
        · exact h1 z hz
theorem rise_delT (k : Int) (T : List Hd) (h : Rise T) : Rise (delT k T) := h.filter _
theorem at?_mem {T : List Hd} {k : Int} {x : Hd} (h : at? T k = some x) : x ∈ T ∧ x.h = k := by
  refine ⟨List.mem_of_find?_eq_some h, ?_⟩
  have := List.find?_some h
  simpa using this
theorem at?_of_mem : ∀ {T : List Hd}, Rise T → ∀ {x : Hd}, x ∈ T → at? T x.h = some x
  | [], _, x, hx => by simp at hx
  | y :: r, h, x, hx => by
    obtain ⟨h1, h2⟩ := List.pairwise_cons.1 h
    unfold at?
    rw [List.find?_cons]
    rcases List.mem_cons.1 hx with rfl | hx
    · simp
    · have := h1 x hx
      rw [show decide (y.h = x.h) = false by simp; omega]
      exact at?_of_mem h2 hx
theorem at?_none {T : List Hd} {k : Int} (h : at? T k = none) : ∀ x ∈ T, x.h ≠ k := by
  intro x hx
  have := List.find?_eq_none.1 h x hx
  simpa using this
theorem at?_putT (x : Hd) : ∀ (T : List Hd), Rise T → ∀ k, at? (putT x T) k = if k = x.h then some x else at? T k
  | [], _, k => by
    simp only [putT, at?, List.find?_cons, List.find?_nil]
    by_cases h : x.h = k
    · simp [h]
    · rw [if_neg (by omega)]; simp [h]
  | y :: r, h, k => by
    obtain ⟨h1, h2⟩ := List.pairwise_cons.1 h
    unfold putT
    split
    · rename_i ha
      unfold at?
      rw [List.find?_cons]
      by_cases h : x.h = k
      · simp [h]
      · rw [if_neg (by omega)]; simp [h]
    · split
      · rename_i ha hb
        unfold at?
        rw [List.find?_cons, List.find?_cons]
        by_cases h : x.h = k
        · simp [h]
        · rw [if_neg (by omega), show decide (y.h = k) = false by simp; omega]; simp [h]
      · rename_i ha hb
        have ih := at?_putT x r h2 k
        unfold at? at ih ⊢
        rw [List.find?_cons, List.find?_cons, ih]
        by_cases h : y.h = k
        · simp [h]; omega
        · simp [h]
theorem at?_delT {T : List Hd} (h : Rise T) (j k : Int) : at? (delT j T) k = if k = j then none else at? T k := by
  unfold at? delT
  rw [List.find?_filter]
  split
  · rename_i e
    subst e
    apply List.find?_eq_none.2
    intro x _
    simp
  · rename_i e
    congr 1
    funext x
    by_cases hx : x.h = k
    · simp [hx, e]
    · simp [hx]
theorem len_putT (x : Hd) : ∀ (T : List Hd), Rise T → (putT x T).length = if (at? T x.h).isSome then T.length else T.length + 1
  | [], _ => rfl
  | y :: r, h => by
    obtain ⟨h1, h2⟩ := List.pairwise_cons.1 h
    have ih := len_putT x r h2
    unfold putT
    split
    · rename_i ha
      have : at? (y :: r) x.h = none := by
        apply List.find?_eq_none.2
        intro z hz
        rcases List.mem_cons.1 hz with rfl | hz
        · simp; omega
        · have := h1 z hz
          simp; omega
      rw [this]
      rfl
    · split
      · rename_i ha hb
        have : at? (y :: r) x.h = some y := by unfold at?; rw [List.find?_cons]; simp [hb]
        rw [this]
        rfl
      · rename_i ha hb
        have : at? (y :: r) x.h = at? r x.h := by unfold at?; rw [List.find?_cons, show decide (y.h = x.h) = false by simp; omega]
        rw [this]
        simp only [List.length_cons, ih]
        split <;> rfl

/-! a table as a map -/
theorem under_map : Try.prog.underlying 56 = some (.map 3 68) := by kernel_rfl
theorem under_int : Try.prog.underlying 3 = some (.int .i64) := by kernel_rfl
theorem keyI : Maps.Keyed Try.prog 3 := Maps.int_keyed under_int
theorem zeroH (w : World) : (zeroValue 68).run Try.prog w = .ok Hd.zero.v w := by kernel_rfl
/-- A block that is a table. -/
def HMap (w : World) (b : Nat) (T : List Hd) : Prop := w.ownsMap Try.prog 3 RV b T.length (dT T)
theorem HMap.lt {w : World} {b : Nat} {T : List Hd} (h : HMap w b T) : b < w.heap.size := World.ownsMap.lt h
theorem HMap.next {w w' : World} {b : Nat} {T : List Hd} (h : HMap w b T) (e : w'.heap[b]? = w.heap[b]?) : HMap w' b T := by
  obtain ⟨es, clock, hb, r⟩ := h
  exact ⟨es, clock, e.trans hb, r⟩
theorem HMap.kept {F : Nat → Prop} {w w' : World} {b : Nat} {T : List Hd} (h : HMap w b T) (k : Kept F w w') (hf : ¬ F b) : HMap w' b T := h.next (k.block b h.lt hf)
theorem HMap.made (w : World) : HMap (w.alloc (.map #[] 0)) w.heap.size [] := World.ownsMap_made w _ _ _
theorem HMap.fit {w : World} {b n : Nat} {T : List Hd} (h : w.ownsMap Try.prog 3 RV b n (dT T)) : HMap w b T := by
  obtain ⟨es, clock, hb, F, hs, hD⟩ := h
  refine ⟨es, clock, hb, F, ?_, hD⟩
  have e1 : Maps.size (dT T) = es.size := by rw [hD]; simp [Maps.size, length_sorted]
  have e2 : Maps.size (dT T) = T.length := by simp [Maps.size]
  omega
theorem HMap.look {w : World} {b : Nat} {T : List Hd} (h : HMap w b T) {k : Int} (hk : wf64 k) :
    (Instr.lookup 56 (.map (some b)) (.int .i64 k) true).run Try.prog w = .ok (.tuple #[((at? T k).getD Hd.zero).v, .bool (at? T k).isSome]) w := by
  obtain ⟨v, ps, hrun, hv⟩ := World.ownsMap.look_ok h keyI under_map (zeroH w) (zd := .held Hd.zero.v) (zp := []) rfl (Maps.keyOf_int_mk under_int hk)
  rw [atKey_dT] at hv
  rw [has_dT] at hrun
  cases hv
  exact hrun
theorem HMap.look1 {w : World} {b : Nat} {T : List Hd} (h : HMap w b T) {k : Int} (hk : wf64 k) :
    (Instr.lookup 56 (.map (some b)) (.int .i64 k) false).run Try.prog w = .ok ((at? T k).getD Hd.zero).v w := by
  obtain ⟨v, ps, hrun, hv⟩ := World.ownsMap.lookup h keyI under_map (zeroH w) (zd := .held Hd.zero.v) (zp := []) rfl (Maps.keyOf_int_mk under_int hk)
  rw [atKey_dT] at hv
  cases hv
  exact hrun
theorem HMap.len {w : World} {b : Nat} {T : List Hd} (h : HMap w b T) (ty : TypeId) : (Builtin.len_ #[56] ty #[.map (some b)]).run Try.prog w = .ok (.int .i64 T.length) w := by
  have := World.ownsMap.len h under_map ty
  rwa [show Maps.size (dT T) = T.length by simp [Maps.size]] at this
theorem HMap.put {w : World} {b : Nat} {T : List Hd} (h : HMap w b T) (hr : Rise T) (hl : T.length ≤ 256) (x : Hd) (hk : wf64 x.h) :
    ∃ w', (Instr.mapUpdate 56 (.map (some b)) (.int .i64 x.h) x.v).run Try.prog w = .ok () w' ∧ HMap w' b (putT x T) ∧ w.mapTurned w' b := by
  obtain ⟨w', h1, h2, h3⟩ := World.ownsMap.store h keyI under_map (by unfold maxLen; omega) (Maps.keyOf_int_mk under_int hk) (val := x.v) (d := .held x.v) (ps := []) rfl
  rw [put_dT' x T hr] at h2
  exact ⟨w', h1, HMap.fit h2, h3⟩
theorem HMap.del {w : World} {b : Nat} {T : List Hd} (h : HMap w b T) {k : Int} (hk : wf64 k) (ty : TypeId) :
    ∃ w', (Builtin.delete_ #[56, 3] ty #[.map (some b), .int .i64 k]).run Try.prog w = .ok (.tuple #[]) w' ∧ HMap w' b (delT k T) ∧ w.mapTurned w' b := by
  obtain ⟨w', h1, h2, h3⟩ := World.ownsMap.drop h keyI under_map (Maps.keyOf_int_mk under_int hk) ty
  rw [del_dT] at h2
  exact ⟨w', h1, HMap.fit h2, h3⟩

end Go.Proofs.Ytglhfofofacekaa
