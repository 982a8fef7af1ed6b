/- value: values that came in: what the form tells of them. -/
import Derived.Test.YtikgkjkgdlnekaaGreatDoorVaE
import Derived.Test.YtikgkjkgdlnekaaGreatDoorCtIn
set_option linter.unusedVariables false
set_option linter.unusedSimpArgs false
set_option maxRecDepth 100000
namespace Go.Proofs.YtikgkjkgdlnekaaGreatDoor
open Go.RowKit Go.Deep Go.Joins Go.ChangeShapes Go.WideShapes
open Ct

namespace Ct
/-- A number of 64 bits. -/
def I64 (z : Int) : Prop := -9223372036854775808 ≤ z ∧ z ≤ 9223372036854775807
inductive FineV : Vl → Prop where
  | mk {n : Int} {s : List Int} {l : List Vl} (hn : I64 n) (hs : ∀ z ∈ s, I64 z) (hl : ∀ x ∈ l, FineV x) : FineV (.mk n s l)
theorem FineV.n {v : Vl} (h : FineV v) : I64 v.n := by cases h with | mk a b c => exact a
theorem FineV.s {v : Vl} (h : FineV v) : ∀ z ∈ v.s, I64 z := by cases h with | mk a b c => exact b
theorem FineV.l {v : Vl} (h : FineV v) : ∀ x ∈ v.l, FineV x := by cases h with | mk a b c => exact c
end Ct
theorem i64_of {z : Int} (h : (Lit.int .i64 z).wf = true) : I64 z := by
  unfold I64
  simp only [Lit.wf, Bool.and_eq_true, decide_eq_true_eq] at h
  have h1 : IntKind.i64.min = -9223372036854775808 := by decide
  have h2 : IntKind.i64.max = 9223372036854775807 := by decide
  rw [h1, h2] at h
  exact h
theorem cells_ints : Tryz.prog.cellsOf 26 = 1 := by kernel_rfl
theorem cells_vls : Tryz.prog.cellsOf 27 = 1 := by kernel_rfl
theorem cells_vl : Tryz.prog.cellsOf 29 = 3 := by kernel_rfl
section
variable {H : Type} {enc : TypeId × Value → H} {w : World} {base : Nat} {spare : Nat → Bool} {held : Bool}
theorem ints_of {fuel : Nat} {a : Option Addr} {len cap : Nat} {x : DataW H × List MemPlace} (h : DataW.trod enc Tryz.prog w base spare held fuel 26 [.slice a len cap] = some x) : ∃ l : List Int, len = l.length ∧ IRowAt w l a cap ∧ ∀ b ∈ l, I64 b := by
  rcases open_slice Tryz.underlying26 h with ⟨hcs, _⟩ | ⟨ad, l, c, m, n, D, Pl, hcs, _, hl, hm, hmm, _, hi⟩
  · simp only [List.cons.injEq, Value.slice.injEq, and_true] at hcs
    obtain ⟨rfl, rfl, rfl⟩ := hcs
    exact ⟨[], rfl, ⟨liesU_nil _ _⟩, fun b hb => by cases hb⟩
  · simp only [List.cons.injEq, Value.slice.injEq, and_true] at hcs
    obtain ⟨rfl, rfl, rfl⟩ := hcs
    have hlm : len ≤ m := by rw [hmm]; split <;> omega
    unfold maxLen at hm
    have key : ∀ i, i < len → ∃ z : Int, I64 z ∧ w.cell? (ad.add i) = some (.int .i64 z) := fun i hil => by
      obtain ⟨cs', h1, h2⟩ := hi i (by omega)
      rw [cells_int, Nat.mul_one] at h1
      obtain ⟨z, hz, _, hrg⟩ := DataW.trod_int Tryz.underlying3 h2
      obtain ⟨_, _, hc⟩ := World.cells?_some h1
      refine ⟨z, i64_of hrg, ?_⟩
      have := hc 0 (by decide)
      rw [hz, add_add, Nat.add_zero] at this
      exact this
    obtain ⟨f, hf⟩ := choose_lt key
    have hlen : ((List.range len).map f).length = len := by simp
    refine ⟨(List.range len).map f, hlen.symm, ⟨?_⟩, fun b hb => by obtain ⟨i, hi2, rfl⟩ := List.mem_map.1 hb; exact (hf i (List.mem_range.1 hi2)).1⟩
    unfold LiesU
    refine ⟨some ad, cap, (List.range len).map fun i => .int .i64 (f i), rfl, by rw [hlen]; exact hl, by omega, by simp, ?_, ?_⟩
    · have : ∀ l : List Nat, LiesL AnyB w ((l.map f).map .z) (l.map fun i => Value.int .i64 (f i)) := by
        intro l
        induction l with
        | nil => exact .nil
        | cons a r ih => exact .cons (liesU_z _) ih
      exact this _
    · by_cases h0 : len = 0
      · exact .inl (by rw [hlen]; exact h0)
      · obtain ⟨b, off, spot⟩ := ad
        have hc0 := (hf 0 (by omega)).2
        have hspot : spot = none := by simpa [Addr.add] using World.cell?_spot hc0
        subst hspot
        have hadd : ∀ i, (⟨b, off, none⟩ : Addr).add i = ⟨b, off + i, none⟩ := fun i => by unfold Addr.add; split <;> simp_all
        have hblk := World.block_lt_of_cell? w _ hc0
        rw [hadd] at hblk
        refine .inr ⟨b, off, rfl, trivial, hblk, fun j v hj => ?_⟩
        rw [List.getElem?_map] at hj
        have hjl : j < len := by
          apply Nat.lt_of_not_le
          intro hle
          rw [List.getElem?_eq_none (by simpa using hle)] at hj
          cases hj
        rw [List.getElem?_range hjl] at hj
        cases hj
        have := (hf j hjl).2
        rw [hadd] at this
        exact this
/-- A value's cells, and what they lead to. -/
structure Cell3 where
  v : Vl
  sa : Option Addr
  sc : Nat
  al : Option Addr
  cl : Nat
instance : Inhabited Cell3 := ⟨⟨.zero, none, 0, none, 0⟩⟩
def Cell3.vs (c : Cell3) : List Value := [.int .i64 c.v.n, .slice c.sa c.v.s.length c.sc, .slice c.al c.v.l.length c.cl]
theorem vl_step (N : Nat) (ih : ∀ {fuel : Nat} {a : Option Addr} {len cap : Nat} {x : DataW H × List MemPlace}, SizeOf.sizeOf x.1 < N → DataW.trod enc Tryz.prog w base spare held fuel 27 [.slice a len cap] = some x → ∃ l : List Vl, len = l.length ∧ VRowAt w l a cap ∧ ∀ t ∈ l, FineV t)
    {fuel : Nat} {cs : List Value} {x : DataW H × List MemPlace} (hN : SizeOf.sizeOf x.1 < N + 1) (h : DataW.trod enc Tryz.prog w base spare held fuel 29 cs = some x) : ∃ c : Cell3, cs = c.vs ∧ VlAt w c.v c.sa c.sc c.al c.cl ∧ FineV c.v := by
  obtain ⟨xs, n', _, hxx, hcl, hl4, hf⟩ := DataW.trod_struct Tryz.underlying29 h
  have h4 : xs.length = 3 := hl4
  have hcl4 : cs.length = 3 := by rw [hcl]; exact cells_vl
  have hag : x.1 = .agg (xs.map (·.1)) := congrArg Prod.fst hxx
  rw [hag] at hN
  simp only [DataW.agg.sizeOf_spec] at hN
  have hsub : ∀ j (hj : j < xs.length), SizeOf.sizeOf (xs[j]).1 < N := fun j hj => by
    have hmem : (xs[j]).1 ∈ xs.map (·.1) := List.mem_map.2 ⟨xs[j], List.getElem_mem hj, rfl⟩
    have := List.sizeOf_lt_of_mem hmem
    omega
  have f0 : DataW.trod enc Tryz.prog w base spare held n' 3 ((cs.drop 0).take (Tryz.prog.cellsOf 3)) = xs[0]? := hf 0 _ rfl
  have f1 : DataW.trod enc Tryz.prog w base spare held n' 26 ((cs.drop 1).take (Tryz.prog.cellsOf 26)) = xs[1]? := hf 1 _ rfl
  have f2 : DataW.trod enc Tryz.prog w base spare held n' 27 ((cs.drop 2).take (Tryz.prog.cellsOf 27)) = xs[2]? := hf 2 _ rfl
  rw [cells_int] at f0
  rw [cells_ints] at f1
  rw [cells_vls] at f2
  rw [List.getElem?_eq_getElem (by omega)] at f0 f1 f2
  obtain ⟨z0, g0, _, hrg⟩ := DataW.trod_int Tryz.underlying3 f0
  obtain ⟨a1, l1, c1, g1⟩ := slice_of Tryz.underlying26 f1
  obtain ⟨a2, l2, c2, g2⟩ := slice_of Tryz.underlying27 f2
  rw [g1] at f1
  rw [g2] at f2
  obtain ⟨ns, rfl, hns, hnf⟩ := ints_of f1
  obtain ⟨ts, rfl, hts, htf⟩ := ih (hsub 2 (by omega)) f2
  refine ⟨⟨.mk z0 ns ts, a1, c1, a2, c2⟩, ?_, ⟨hns.lies, hts.lies⟩, .mk (i64_of hrg) hnf htf⟩
  have e0 := one_at g0
  have e1 := one_at g1
  have e2 := one_at g2
  match cs, hcl4 with
  | [v0, v1, v2], _ =>
    simp at e0 e1 e2
    rw [e0, e1, e2]
    rfl
theorem vls_of (N : Nat) : ∀ {fuel : Nat} {a : Option Addr} {len cap : Nat} {x : DataW H × List MemPlace}, SizeOf.sizeOf x.1 < N → DataW.trod enc Tryz.prog w base spare held fuel 27 [.slice a len cap] = some x → ∃ l : List Vl, len = l.length ∧ VRowAt w l a cap ∧ ∀ t ∈ l, FineV t := by
  induction N with
  | zero => exact fun h => absurd h (by omega)
  | succ N ih =>
    intro fuel a len cap x hN h
    rcases open_slice Tryz.underlying27 h with ⟨hcs, _⟩ | ⟨ad, l, c, m, n, D, Pl, hcs, _, hl, hm, hmm, hx, hi⟩
    · simp only [List.cons.injEq, Value.slice.injEq, and_true] at hcs
      obtain ⟨rfl, rfl, rfl⟩ := hcs
      exact ⟨[], rfl, ⟨liesU_nil _ _⟩, fun b hb => by cases hb⟩
    · simp only [List.cons.injEq, Value.slice.injEq, and_true] at hcs
      obtain ⟨rfl, rfl, rfl⟩ := hcs
      have hlm : len ≤ m := by rw [hmm]; split <;> omega
      unfold maxLen at hm
      have hsz : ∀ i, i < len → SizeOf.sizeOf (D i) < N := fun i hil => by
        have hx1 : x.1 = .slice ((List.range len).map D) ((List.range (m - len)).map fun j => D (len + j)) := by rw [hx]
        rw [hx1] at hN
        have hmem : D i ∈ (List.range len).map D := List.mem_map.2 ⟨i, List.mem_range.2 hil, rfl⟩
        have h1 := List.sizeOf_lt_of_mem hmem
        simp only [DataW.slice.sizeOf_spec] at hN
        omega
      have key : ∀ i, i < len → ∃ c : Cell3, VlAt w c.v c.sa c.sc c.al c.cl ∧ FineV c.v ∧ ∀ j v, c.vs[j]? = some v → w.cell? (ad.add (i * 3 + j)) = some v := fun i hil => by
        obtain ⟨cs', h1, h2⟩ := hi i (by omega)
        rw [cells_vl] at h1
        obtain ⟨_, hlc, hc⟩ := World.cells?_some h1
        obtain ⟨c, rfl, hty, hfn⟩ := vl_step N ih (x := (D i, Pl i)) (Nat.lt_succ_of_lt (hsz i hil)) h2
        refine ⟨c, hty, hfn, fun j v hj => ?_⟩
        have hj3 : j < 3 := (List.getElem?_eq_some_iff.1 hj).1
        have := hc j hj3
        rw [add_add, hj] at this
        exact this
      obtain ⟨f, hf⟩ := choose_lt key
      have hlen : ((List.range len).map fun i => (f i).v).length = len := by simp
      refine ⟨(List.range len).map fun i => (f i).v, hlen.symm, ⟨?_⟩, fun b hb => by obtain ⟨i, hi2, rfl⟩ := List.mem_map.1 hb; exact (hf i (List.mem_range.1 hi2)).2.1⟩
      unfold LiesU
      refine ⟨some ad, cap, (List.range len).flatMap fun i => (f i).vs, rfl, by rw [hlen]; exact hl, by omega, by rw [encVs_length], ?_, ?_⟩
      · rw [encVs_flat]
        exact LiesL.flat _ fun i hi2 => vl_lies (hf i (List.mem_range.1 hi2)).1.s (hf i (List.mem_range.1 hi2)).1.l
      · by_cases h0 : len = 0
        · exact .inl (by rw [hlen]; exact h0)
        · obtain ⟨b, off, spot⟩ := ad
          have hc0 := (hf 0 (by omega)).2.2 0 _ rfl
          have hspot : spot = none := by simpa [Addr.add] using World.cell?_spot hc0
          subst hspot
          have hadd : ∀ i, (⟨b, off, none⟩ : Addr).add i = ⟨b, off + i, none⟩ := fun i => by unfold Addr.add; split <;> simp_all
          have hblk := World.block_lt_of_cell? w _ hc0
          rw [hadd] at hblk
          refine .inr ⟨b, off, rfl, trivial, hblk, CellsAt.flat (m := 3) (fun _ => rfl) _ _ fun i x hx2 j v hj => ?_⟩
          have hil : i < len := by
            apply Nat.lt_of_not_le
            intro hle
            rw [List.getElem?_eq_none (by simpa using hle)] at hx2
            cases hx2
          rw [List.getElem?_range hil] at hx2
          cases hx2
          have := (hf i hil).2.2 j v hj
          rw [hadd] at this
          rw [Nat.add_assoc]
          exact this
theorem vl_of {fuel : Nat} {cs : List Value} {x : DataW H × List MemPlace} (h : DataW.trod enc Tryz.prog w base spare held fuel 29 cs = some x) : ∃ c : Cell3, cs = c.vs ∧ VlAt w c.v c.sa c.sc c.al c.cl ∧ FineV c.v :=
  vl_step (SizeOf.sizeOf x.1) (vls_of _) (Nat.lt_succ_self _) h
end
end Go.Proofs.YtikgkjkgdlnekaaGreatDoor
