/- Instructions as trees: as they lie; what the form tells of those that came in. -/
import Derived.Test.YtfhifnkekegkkaaKitI
import Derived.Deep.Slices
import Derived.ChangeSame
import Derived.ChangeArms
namespace Go.Proofs.Ytfhifnkekegkkaa
open Go.RowKit Go.Deep

inductive Ins where
  | mk (op a b m : Int) (n : List Int) (l e : List Ins)
namespace Ins
def op : Ins → Int | mk x _ _ _ _ _ _ => x
def a : Ins → Int | mk _ x _ _ _ _ _ => x
def b : Ins → Int | mk _ _ x _ _ _ _ => x
def m : Ins → Int | mk _ _ _ x _ _ _ => x
def n : Ins → List Int | mk _ _ _ _ x _ _ => x
def l : Ins → List Ins | mk _ _ _ _ _ x _ => x
def e : Ins → List Ins | mk _ _ _ _ _ _ x => x
end Ins
mutual
/-- An instruction, as it lies in block b from off on. -/
def LiesI (w : World) (b off : Nat) : Ins → Prop
  | .mk op a b' m n l e => w.cell? ⟨b, off, none⟩ = some (.int .i64 op) ∧ w.cell? ⟨b, off + 1, none⟩ = some (.int .i64 a) ∧ w.cell? ⟨b, off + 2, none⟩ = some (.int .i64 b') ∧ w.cell? ⟨b, off + 3, none⟩ = some (.int .i64 m) ∧
      (∃ x c, w.cell? ⟨b, off + 4, none⟩ = some (.slice x n.length c) ∧ View w x n.length n ∧ n.length ≤ c ∧ c ≤ 9223372036854775807) ∧
      (∃ x c, w.cell? ⟨b, off + 5, none⟩ = some (.slice x l.length c) ∧ LiesL w x l ∧ l.length ≤ c ∧ c ≤ 9223372036854775807) ∧
      (∃ x c, w.cell? ⟨b, off + 6, none⟩ = some (.slice x e.length c) ∧ LiesL w x e ∧ e.length ≤ c ∧ c ≤ 9223372036854775807)
/-- Instructions, as they lie one behind the other. -/
def LiesL (w : World) (x : Option Addr) : List Ins → Prop
  | [] => True
  | i :: r => ∃ b off, x = some ⟨b, off, none⟩ ∧ LiesI w b off i ∧ LiesL w (some ⟨b, off + 7, none⟩) r
end
mutual
theorem LiesI.below {w w' : World} {b off : Nat} (h : Below w.heap.size w w') : ∀ {i : Ins}, LiesI w b off i → LiesI w' b off i
  | .mk op a b' m n l e, hi => by
    have key : ∀ o v, w.cell? ⟨b, o, none⟩ = some v → w'.cell? ⟨b, o, none⟩ = some v := fun o v hc => (h.cell (World.block_lt_of_cell? w _ hc)).trans hc
    unfold LiesI at hi ⊢
    obtain ⟨h0, h1, h2, h3, ⟨x4, c4, h4, v4, k4⟩, ⟨x5, c5, h5, v5, k5⟩, ⟨x6, c6, h6, v6, k6⟩⟩ := hi
    exact ⟨key _ _ h0, key _ _ h1, key _ _ h2, key _ _ h3, ⟨x4, c4, key _ _ h4, v4.below h, k4⟩, ⟨x5, c5, key _ _ h5, LiesL.below h v5, k5⟩, ⟨x6, c6, key _ _ h6, LiesL.below h v6, k6⟩⟩
theorem LiesL.below {w w' : World} {x : Option Addr} (h : Below w.heap.size w w') : ∀ {l : List Ins}, LiesL w x l → LiesL w' x l
  | [], _ => by unfold LiesL; trivial
  | i :: r, hl => by
    unfold LiesL at hl ⊢
    obtain ⟨b, off, hx, h1, h2⟩ := hl
    exact ⟨b, off, hx, LiesI.below h h1, LiesL.below h h2⟩
end
instance : Inhabited Ins := ⟨.mk 0 0 0 0 [] [] []⟩
theorem LiesL.at {w : World} {b off : Nat} {l : List Ins} (h : LiesL w (some ⟨b, off, none⟩) l) (i : Nat) (hi : i < l.length) : LiesI w b (off + i * 7) (l.getD i default) := by
  induction l generalizing off i with
  | nil => exact absurd hi (by simp)
  | cons j r ih =>
    unfold LiesL at h
    obtain ⟨b2, off2, hx, h1, h2⟩ := h
    cases hx
    cases i with
    | zero => simpa using h1
    | succ k =>
      have := ih h2 k (by rw [List.length_cons] at hi; omega)
      rw [show off + (k + 1) * 7 = off + 7 + k * 7 by omega]
      simpa using this
theorem LiesL.addr {w : World} {x : Option Addr} {l : List Ins} (h : LiesL w x l) (hl : 0 < l.length) : ∃ b off, x = some ⟨b, off, none⟩ := by
  cases l with
  | nil => exact absurd hl (by simp)
  | cons j r =>
    unfold LiesL at h
    obtain ⟨b, off, hx, _⟩ := h
    exact ⟨b, off, hx⟩
theorem LiesL.of {w : World} {b off : Nat} {l : List Ins} (h : ∀ i, i < l.length → LiesI w b (off + i * 7) (l.getD i default)) : LiesL w (some ⟨b, off, none⟩) l := by
  induction l generalizing off with
  | nil => unfold LiesL; trivial
  | cons j r ih =>
    unfold LiesL
    refine ⟨b, off, rfl, by simpa using h 0 (by simp), ih fun i hi => ?_⟩
    have := h (i + 1) (by rw [List.length_cons]; omega)
    rw [show off + (i + 1) * 7 = off + 7 + i * 7 by omega] at this
    simpa using this
/-- What is read of instructions that came in. -/
structure InsIn (w : World) (x : Option Addr) (len cap : Nat) (l : List Ins) : Prop where
  eq : len = l.length
  le : len ≤ cap
  top : cap ≤ 9223372036854775807
  lies : LiesL w x l
theorem ins_one_of {cs : List Value} {j : Nat} {v : Value} (h : (cs.drop j).take 1 = [v]) : cs[j]? = some v := by
  have h1 : ((cs.drop j).take 1)[0]? = some v := by rw [h]; rfl
  rw [List.getElem?_take, if_pos (by decide), List.getElem?_drop, Nat.add_zero] at h1
  exact h1
theorem cells_ins : Try.prog.cellsOf 47 = 7 := by kernel_rfl
theorem cells_ins_int : Try.prog.cellsOf 3 = 1 := by kernel_rfl
theorem cells_ins_ints : Try.prog.cellsOf 45 = 1 := by kernel_rfl
theorem cells_ins_l : Try.prog.cellsOf 22 = 1 := by kernel_rfl
section
variable {H : Type} {enc : TypeId × Value → H} {w : World} {base : Nat} {spare : Nat → Bool} {held : Bool}
theorem ints_of {fuel : Nat} {a : Option Addr} {len cap : Nat} {x : DataW H × List MemPlace} (h : DataW.trod enc Try.prog w base spare held fuel 45 [.slice a len cap] = some x) : ∃ n : List Int, len = n.length ∧ View w a len n ∧ len ≤ cap ∧ cap ≤ 9223372036854775807 := by
  rcases open_slice Try.underlying45 h with ⟨hcs, _⟩ | ⟨ad, l, c, m, n, D, Pl, hcs, _, hl, hm, hmm, _, hi⟩
  · simp only [List.cons.injEq, Value.slice.injEq, and_true] at hcs
    obtain ⟨rfl, rfl, rfl⟩ := hcs
    exact ⟨[], rfl, .inl rfl, Nat.le_refl _, by omega⟩
  · simp only [List.cons.injEq, Value.slice.injEq, and_true] at hcs
    obtain ⟨rfl, rfl, rfl⟩ := hcs
    have hlm : len ≤ m := by rw [hmm]; split <;> omega
    unfold maxLen at hm
    have key : ∀ i, i < len → ∃ z : Int, w.cell? (ad.add i) = some (.int .i64 z) := fun i hil => by
      obtain ⟨cs', h1, h2⟩ := hi i (by omega)
      rw [cells_ins_int, Nat.mul_one] at h1
      obtain ⟨z, hz, _, _⟩ := DataW.trod_int Try.underlying3 h2
      obtain ⟨_, _, hc⟩ := World.cells?_some h1
      refine ⟨z, ?_⟩
      have := hc 0 (by decide)
      rw [hz, add_add, Nat.add_zero] at this
      exact this
    obtain ⟨f, hf⟩ := choose_lt key
    refine ⟨(List.range len).map f, by simp, ?_, hl, by omega⟩
    by_cases h0 : len = 0
    · exact .inl h0
    · obtain ⟨b, off, spot⟩ := ad
      have hc0 := hf 0 (by omega)
      have hspot : spot = none := by simpa [Addr.add] using World.cell?_spot hc0
      subst hspot
      have hadd : ∀ i, (⟨b, off, none⟩ : Addr).add i = ⟨b, off + i, none⟩ := fun i => by unfold Addr.add; split <;> simp_all
      refine .inr ⟨b, off, rfl, fun i hi2 => ?_⟩
      have := hf i hi2
      rw [hadd] at this
      rw [this]
      congr 2
      rw [List.getD_eq_getElem?_getD, List.getElem?_map, List.getElem?_range hi2]
      rfl
theorem slice_of {t e : TypeId} {fuel : Nat} {cs : List Value} {x : DataW H × List MemPlace} (ht : Try.prog.underlying t = some (.slice e)) (h : DataW.trod enc Try.prog w base spare held fuel t cs = some x) : ∃ a len cap, cs = [.slice a len cap] := by
  rcases open_slice ht h with ⟨hcs, _⟩ | ⟨ad, l, c, m, n, D, Pl, hcs, _⟩
  · exact ⟨_, _, _, hcs⟩
  · exact ⟨_, _, _, hcs⟩
set_option maxRecDepth 100000 in
theorem ins_of (N : Nat) : ∀ {fuel : Nat} {a : Option Addr} {len cap : Nat} {x : DataW H × List MemPlace}, SizeOf.sizeOf x.1 < N → DataW.trod enc Try.prog w base spare held fuel 22 [.slice a len cap] = some x → ∃ l, InsIn w a len cap l := by
  induction N with
  | zero => exact fun h => absurd h (by omega)
  | succ N ih =>
    intro fuel a len cap x hN h
    rcases open_slice Try.underlying22 h with ⟨hcs, _⟩ | ⟨ad, l, c, m, n, D, Pl, hcs, _, hl, hm, hmm, hx, hi⟩
    · simp only [List.cons.injEq, Value.slice.injEq, and_true] at hcs
      obtain ⟨rfl, rfl, rfl⟩ := hcs
      exact ⟨[], rfl, Nat.le_refl _, by omega, by unfold LiesL; trivial⟩
    · simp only [List.cons.injEq, Value.slice.injEq, and_true] at hcs
      obtain ⟨rfl, rfl, rfl⟩ := hcs
      have hlm : len ≤ m := by rw [hmm]; split <;> omega
      unfold maxLen at hm
      have hsz : ∀ i, i < len → SizeOf.sizeOf (D i) < N := fun i hil => by
        have hx1 : x.1 = .slice ((List.range len).map D) ((List.range (m - len)).map fun j => D (len + j)) := by rw [hx]
        rw [hx1] at hN
        have hmem : D i ∈ (List.range len).map D := List.mem_map.2 ⟨i, List.mem_range.2 hil, rfl⟩
        have h1 := List.sizeOf_lt_of_mem hmem
        simp only [DataW.slice.sizeOf_spec] at hN
        omega
      have key : ∀ i, i < len → ∃ j : Ins, ∀ b off, ad = ⟨b, off, none⟩ → LiesI w b (off + i * 7) j := fun i hil => by
        obtain ⟨cs', h1, h2⟩ := hi i (by omega)
        rw [cells_ins] at h1
        obtain ⟨_, _, hc⟩ := World.cells?_some h1
        obtain ⟨xs, n', _, hxx, _, hl7, hf⟩ := DataW.trod_struct Try.underlying47 h2
        have h7 : xs.length = 7 := hl7
        have hag : D i = .agg (xs.map (·.1)) := congrArg Prod.fst hxx
        have hszi := hsz i hil
        rw [hag] at hszi
        simp only [DataW.agg.sizeOf_spec] at hszi
        have hsub : ∀ j (hj : j < xs.length), SizeOf.sizeOf (xs[j]).1 < N := fun j hj => by
          have hmem : (xs[j]).1 ∈ xs.map (·.1) := List.mem_map.2 ⟨xs[j], List.getElem_mem hj, rfl⟩
          have := List.sizeOf_lt_of_mem hmem
          omega
        have f0 : DataW.trod enc Try.prog w base spare held n' 3 ((cs'.drop 0).take (Try.prog.cellsOf 3)) = xs[0]? := hf 0 _ rfl
        have f1 : DataW.trod enc Try.prog w base spare held n' 3 ((cs'.drop 1).take (Try.prog.cellsOf 3)) = xs[1]? := hf 1 _ rfl
        have f2 : DataW.trod enc Try.prog w base spare held n' 3 ((cs'.drop 2).take (Try.prog.cellsOf 3)) = xs[2]? := hf 2 _ rfl
        have f3 : DataW.trod enc Try.prog w base spare held n' 3 ((cs'.drop 3).take (Try.prog.cellsOf 3)) = xs[3]? := hf 3 _ rfl
        have f4 : DataW.trod enc Try.prog w base spare held n' 45 ((cs'.drop 4).take (Try.prog.cellsOf 45)) = xs[4]? := hf 4 _ rfl
        have f5 : DataW.trod enc Try.prog w base spare held n' 22 ((cs'.drop 5).take (Try.prog.cellsOf 22)) = xs[5]? := hf 5 _ rfl
        have f6 : DataW.trod enc Try.prog w base spare held n' 22 ((cs'.drop 6).take (Try.prog.cellsOf 22)) = xs[6]? := hf 6 _ rfl
        rw [cells_ins_int] at f0 f1 f2 f3
        rw [cells_ins_ints] at f4
        rw [cells_ins_l] at f5 f6
        rw [List.getElem?_eq_getElem (by omega)] at f0 f1 f2 f3 f4 f5 f6
        obtain ⟨z0, g0, _, _⟩ := DataW.trod_int Try.underlying3 f0
        obtain ⟨z1, g1, _, _⟩ := DataW.trod_int Try.underlying3 f1
        obtain ⟨z2, g2, _, _⟩ := DataW.trod_int Try.underlying3 f2
        obtain ⟨z3, g3, _, _⟩ := DataW.trod_int Try.underlying3 f3
        obtain ⟨a4, l4, c4, g4⟩ := slice_of Try.underlying45 f4
        obtain ⟨a5, l5, c5, g5⟩ := slice_of Try.underlying22 f5
        obtain ⟨a6, l6, c6, g6⟩ := slice_of Try.underlying22 f6
        rw [g4] at f4
        rw [g5] at f5
        rw [g6] at f6
        obtain ⟨ns, rfl, v4, k4, t4⟩ := ints_of f4
        obtain ⟨ls, e5, k5, t5, v5⟩ := ih (hsub 5 (by omega)) f5
        obtain ⟨es, e6, k6, t6, v6⟩ := ih (hsub 6 (by omega)) f6
        subst e5 e6
        refine ⟨.mk z0 z1 z2 z3 ns ls es, fun b off hb => ?_⟩
        subst hb
        have hadd : ∀ i, (⟨b, off, none⟩ : Addr).add i = ⟨b, off + i, none⟩ := fun i => by unfold Addr.add; split <;> simp_all
        have cell : ∀ j v, j < 7 → cs'[j]? = some v → w.cell? ⟨b, off + i * 7 + j, none⟩ = some v := fun j v hj hv => by
          have := hc j hj
          rw [add_add, hadd, hv] at this
          rw [Nat.add_assoc]
          exact this
        unfold LiesI
        exact ⟨cell 0 _ (by decide) (ins_one_of g0), cell 1 _ (by decide) (ins_one_of g1), cell 2 _ (by decide) (ins_one_of g2), cell 3 _ (by decide) (ins_one_of g3),
          ⟨a4, c4, cell 4 _ (by decide) (ins_one_of g4), v4, k4, t4⟩, ⟨a5, c5, cell 5 _ (by decide) (ins_one_of g5), v5, k5, t5⟩, ⟨a6, c6, cell 6 _ (by decide) (ins_one_of g6), v6, k6, t6⟩⟩
      obtain ⟨f, hf⟩ := choose_lt key
      refine ⟨(List.range len).map f, by simp, hl, by omega, ?_⟩
      by_cases h0 : len = 0
      · subst h0
        show LiesL w _ []
        unfold LiesL
        trivial
      · obtain ⟨b, off, spot⟩ := ad
        obtain ⟨cs', h1, _⟩ := hi 0 (by omega)
        rw [cells_ins] at h1
        obtain ⟨_, hlc, hc⟩ := World.cells?_some h1
        have hc0 := hc 0 (by decide)
        rw [List.getElem?_eq_getElem (by omega)] at hc0
        have hspot : spot = none := by simpa [Addr.add] using World.cell?_spot hc0
        subst hspot
        refine LiesL.of fun i hi2 => ?_
        rw [List.length_map, List.length_range] at hi2
        have e : ((List.range len).map f).getD i default = f i := by
          rw [List.getD_eq_getElem?_getD, List.getElem?_map, List.getElem?_range hi2]
          rfl
        rw [e]
        exact hf i hi2 b off rfl
end
end Go.Proofs.Ytfhifnkekegkkaa
