/- What the form tells of instructions that came in: also that their numbers are numbers of an int. -/
import Derived.Test.YtfhifnkekegkkaaInsP8
import Derived.Test.YtfhifnkekegkkaaInsD
import Derived.Lib.SmallJoins
namespace Go.Proofs.Ytfhifnkekegkkaa
open Go.Joins Go.ChangeShapes Go.WideShapes Go.RowKit Go.Deep

theorem wf_row {f : Nat → Ins} : ∀ {n : Nat}, (∀ i, i < n → wfI (f i)) → wfL ((List.range n).map f) := by
  intro n h
  have key : ∀ l : List Nat, (∀ i ∈ l, wfI (f i)) → wfL (l.map f) := by
    intro l
    induction l with
    | nil => intro _; rw [List.map_nil, wfL]; trivial
    | cons a l ih => intro h; rw [List.map_cons, wfL]; exact ⟨h a (by simp), ih fun i hi => h i (by simp [hi])⟩
  exact key _ fun i hi => h i (List.mem_range.1 hi)
section
variable {H : Type} {enc : TypeId × Value → H} {w : World} {base : Nat} {spare : Nat → Bool} {held : Bool}
set_option maxRecDepth 100000 in
theorem ins_wf (N : Nat) : ∀ {fuel : Nat} {a : Option Addr} {len cap : Nat} {x : DataW H × List MemPlace}, SizeOf.sizeOf x.1 < N → DataW.trod enc Try.prog w base spare held fuel 22 [.slice a len cap] = some x → ∃ l, InsIn w a len cap l ∧ wfL l := by
  induction N with
  | zero => exact fun h => absurd h (by omega)
  | succ N ih =>
    intro fuel a len cap x hN h
    rcases open_slice Try.underlying22 h with ⟨hcs, _⟩ | ⟨ad, l, c, m, n, D, Pl, hcs, _, hl, hm, hmm, hx, hi⟩
    · simp only [List.cons.injEq, Value.slice.injEq, and_true] at hcs
      obtain ⟨rfl, rfl, rfl⟩ := hcs
      exact ⟨[], ⟨rfl, Nat.le_refl _, by omega, by unfold LiesL; trivial⟩, by rw [wfL]; trivial⟩
    · simp only [List.cons.injEq, Value.slice.injEq, and_true] at hcs
      obtain ⟨rfl, rfl, rfl⟩ := hcs
      have hlm : len ≤ m := by rw [hmm]; split <;> omega
      unfold maxLen at hm
      have hsz : ∀ i, i < len → SizeOf.sizeOf (D i) < N := fun i hil => by
        have hx1 : x.1 = .slice ((List.range len).map D) ((List.range (m - len)).map fun j => D (len + j)) := by rw [hx]
        rw [hx1] at hN
        have hmem : D i ∈ (List.range len).map D := List.mem_map.2 ⟨i, List.mem_range.2 hil, rfl⟩
        have h1 := List.sizeOf_lt_of_mem hmem
        simp only [DataW.slice.sizeOf_spec] at hN
        omega
      have key : ∀ i, i < len → ∃ j : Ins, wfI j ∧ ∀ b off, ad = ⟨b, off, none⟩ → LiesI w b (off + i * 7) j := fun i hil => by
        obtain ⟨cs', h1, h2⟩ := hi i (by omega)
        rw [cells_ins] at h1
        obtain ⟨_, _, hc⟩ := World.cells?_some h1
        obtain ⟨xs, n', _, hxx, _, hl7, hf⟩ := DataW.trod_struct Try.underlying47 h2
        have h7 : xs.length = 7 := hl7
        have hag : D i = .agg (xs.map (·.1)) := congrArg Prod.fst hxx
        have hszi := hsz i hil
        rw [hag] at hszi
        simp only [DataW.agg.sizeOf_spec] at hszi
        have hsub : ∀ j (hj : j < xs.length), SizeOf.sizeOf (xs[j]).1 < N := fun j hj => by
          have hmem : (xs[j]).1 ∈ xs.map (·.1) := List.mem_map.2 ⟨xs[j], List.getElem_mem hj, rfl⟩
          have := List.sizeOf_lt_of_mem hmem
          omega
        have f0 : DataW.trod enc Try.prog w base spare held n' 3 ((cs'.drop 0).take (Try.prog.cellsOf 3)) = xs[0]? := hf 0 _ rfl
        have f1 : DataW.trod enc Try.prog w base spare held n' 3 ((cs'.drop 1).take (Try.prog.cellsOf 3)) = xs[1]? := hf 1 _ rfl
        have f2 : DataW.trod enc Try.prog w base spare held n' 3 ((cs'.drop 2).take (Try.prog.cellsOf 3)) = xs[2]? := hf 2 _ rfl
        have f3 : DataW.trod enc Try.prog w base spare held n' 3 ((cs'.drop 3).take (Try.prog.cellsOf 3)) = xs[3]? := hf 3 _ rfl
        have f4 : DataW.trod enc Try.prog w base spare held n' 45 ((cs'.drop 4).take (Try.prog.cellsOf 45)) = xs[4]? := hf 4 _ rfl
        have f5 : DataW.trod enc Try.prog w base spare held n' 22 ((cs'.drop 5).take (Try.prog.cellsOf 22)) = xs[5]? := hf 5 _ rfl
        have f6 : DataW.trod enc Try.prog w base spare held n' 22 ((cs'.drop 6).take (Try.prog.cellsOf 22)) = xs[6]? := hf 6 _ rfl
        rw [cells_ins_int] at f0 f1 f2 f3
        rw [cells_ins_ints] at f4
        rw [cells_ins_l] at f5 f6
        rw [List.getElem?_eq_getElem (by omega)] at f0 f1 f2 f3 f4 f5 f6
        obtain ⟨z0, g0, _, _⟩ := DataW.trod_int Try.underlying3 f0
        obtain ⟨z1, g1, _, wf1⟩ := DataW.trod_int Try.underlying3 f1
        obtain ⟨z2, g2, _, _⟩ := DataW.trod_int Try.underlying3 f2
        obtain ⟨z3, g3, _, _⟩ := DataW.trod_int Try.underlying3 f3
        obtain ⟨a4, l4, c4, g4⟩ := slice_of Try.underlying45 f4
        obtain ⟨a5, l5, c5, g5⟩ := slice_of Try.underlying22 f5
        obtain ⟨a6, l6, c6, g6⟩ := slice_of Try.underlying22 f6
        rw [g4] at f4
        rw [g5] at f5
        rw [g6] at f6
        obtain ⟨ns, rfl, v4, k4, t4⟩ := ints_of f4
        obtain ⟨ls, ⟨e5, k5, t5, v5⟩, wf5⟩ := ih (hsub 5 (by omega)) f5
        obtain ⟨es, ⟨e6, k6, t6, v6⟩, wf6⟩ := ih (hsub 6 (by omega)) f6
        subst e5 e6
        refine ⟨.mk z0 z1 z2 z3 ns ls es, by rw [wfI]; exact ⟨i64_of_wf wf1, wf5, wf6⟩, fun b off hb => ?_⟩
        subst hb
        have hadd : ∀ i, (⟨b, off, none⟩ : Addr).add i = ⟨b, off + i, none⟩ := fun i => by unfold Addr.add; split <;> simp_all
        have cell : ∀ j v, j < 7 → cs'[j]? = some v → w.cell? ⟨b, off + i * 7 + j, none⟩ = some v := fun j v hj hv => by
          have := hc j hj
          rw [add_add, hadd, hv] at this
          rw [Nat.add_assoc]
          exact this
        unfold LiesI
        exact ⟨cell 0 _ (by decide) (ins_one_of g0), cell 1 _ (by decide) (ins_one_of g1), cell 2 _ (by decide) (ins_one_of g2), cell 3 _ (by decide) (ins_one_of g3),
          ⟨a4, c4, cell 4 _ (by decide) (ins_one_of g4), v4, k4, t4⟩, ⟨a5, c5, cell 5 _ (by decide) (ins_one_of g5), v5, k5, t5⟩, ⟨a6, c6, cell 6 _ (by decide) (ins_one_of g6), v6, k6, t6⟩⟩
      obtain ⟨f, hf⟩ := choose_lt key
      refine ⟨(List.range len).map f, ⟨by simp, hl, by omega, ?_⟩, wf_row fun i hi => (hf i hi).1⟩
      by_cases h0 : len = 0
      · subst h0
        show LiesL w _ []
        unfold LiesL
        trivial
      · obtain ⟨b, off, spot⟩ := ad
        obtain ⟨cs', h1, _⟩ := hi 0 (by omega)
        rw [cells_ins] at h1
        obtain ⟨_, hlc, hc⟩ := World.cells?_some h1
        have hc0 := hc 0 (by decide)
        rw [List.getElem?_eq_getElem (by omega)] at hc0
        have hspot : spot = none := by simpa [Addr.add] using World.cell?_spot hc0
        subst hspot
        refine LiesL.of fun i hi2 => ?_
        rw [List.length_map, List.length_range] at hi2
        have e : ((List.range len).map f).getD i default = f i := by
          rw [List.getD_eq_getElem?_getD, List.getElem?_map, List.getElem?_range hi2]
          rfl
        rw [e]
        exact (hf i hi2).2 b off rfl
end
end Go.Proofs.Ytfhifnkekegkkaa
