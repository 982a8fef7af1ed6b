/- ctype: types and functions' types that came in: what the form tells of them. -/
import Derived.Test.YtikgkjkgdlnekaaGreatDoorCtGG
import Derived.Deep.Slices
import Derived.ChangeSame
import Derived.ChangeArms
import Derived.Lib.SmallJoins
set_option linter.unusedVariables false
set_option linter.unusedSimpArgs false
set_option maxRecDepth 100000
namespace Go.Proofs.YtikgkjkgdlnekaaGreatDoor
open Go.RowKit Go.Deep Go.Joins Go.ChangeShapes Go.WideShapes
open Lex Ct

theorem one_at {cs : List Value} {j : Nat} {v : Value} (h : (cs.drop j).take 1 = [v]) : cs[j]? = some v := by
  have h1 : ((cs.drop j).take 1)[0]? = some v := by rw [h]; rfl
  rw [List.getElem?_take, if_pos (by decide), List.getElem?_drop, Nat.add_zero] at h1
  exact h1
theorem CellsAt.append {w : World} {b o : Nat} {xs ys : List Value} (h : CellsAt w b o xs) (k : CellsAt w b (o + xs.length) ys) : CellsAt w b o (xs ++ ys) := by
  intro j v hj
  by_cases hx : j < xs.length
  · rw [List.getElem?_append_left hx] at hj
    exact h j v hj
  · rw [List.getElem?_append_right (by omega)] at hj
    have := k _ v hj
    rw [show o + xs.length + (j - xs.length) = o + j by omega] at this
    exact this
theorem CellsAt.flat {w : World} {b : Nat} {α : Type} {f : α → List Value} {m : Nat} (hm : ∀ x, (f x).length = m) : ∀ (l : List α) (o : Nat), (∀ i x, l[i]? = some x → CellsAt w b (o + i * m) (f x)) → CellsAt w b o (l.flatMap f)
  | [], o, _ => fun j v hj => by simp at hj
  | y :: r, o, h => by
    rw [List.flatMap_cons]
    refine CellsAt.append (by have := h 0 y rfl; rw [Nat.zero_mul, Nat.add_zero] at this; exact this) ?_
    rw [hm]
    refine CellsAt.flat hm r (o + m) fun i x hx => ?_
    have := h (i + 1) x (by simpa using hx)
    rw [Nat.succ_mul, Nat.add_comm (i * m) m, ← Nat.add_assoc] at this
    exact this
theorem LiesL.flat {P : Nat → Prop} {w : World} {α β : Type} {f : α → List Value} {g : α → β} {enc : β → List U} : ∀ (l : List α), (∀ x ∈ l, LiesL P w (enc (g x)) (f x)) → LiesL P w ((l.map g).flatMap enc) (l.flatMap f)
  | [], _ => .nil
  | y :: r, h => by
    rw [List.map_cons, List.flatMap_cons, List.flatMap_cons]
    exact (h y List.mem_cons_self).append (LiesL.flat r fun x hx => h x (List.mem_cons_of_mem _ hx))
theorem cells_str : Tryz.prog.cellsOf 9 = 1 := by kernel_rfl
theorem cells_int : Tryz.prog.cellsOf 3 = 1 := by kernel_rfl
theorem cells_strs : Tryz.prog.cellsOf 22 = 1 := by kernel_rfl
theorem cells_tys : Tryz.prog.cellsOf 23 = 1 := by kernel_rfl
theorem cells_ty : Tryz.prog.cellsOf 25 = 4 := by kernel_rfl
section
variable {H : Type} {enc : TypeId × Value → H} {w : World} {base : Nat} {spare : Nat → Bool} {held : Bool}
theorem slice_of {t e : TypeId} {fuel : Nat} {cs : List Value} {x : DataW H × List MemPlace} (ht : Tryz.prog.underlying t = some (.slice e)) (h : DataW.trod enc Tryz.prog w base spare held fuel t cs = some x) : ∃ a len cap, cs = [.slice a len cap] := by
  rcases open_slice ht h with ⟨hcs, _⟩ | ⟨ad, l, c, m, n, D, Pl, hcs, _⟩
  · exact ⟨_, _, _, hcs⟩
  · exact ⟨_, _, _, hcs⟩
theorem nm_of (s : ByteArray) (h : s.size ≤ maxLen) : NmOk (bl s) ∧ strOfNums (bl s) = s := ⟨⟨bl_byte256 s, by rw [bl_length]; exact h⟩, bl_back s⟩
theorem nms_of {fuel : Nat} {a : Option Addr} {len cap : Nat} {x : DataW H × List MemPlace} (h : DataW.trod enc Tryz.prog w base spare held fuel 22 [.slice a len cap] = some x) : ∃ l : List Nm, len = l.length ∧ NmsAt w l a cap ∧ ∀ b ∈ l, NmOk b := by
  rcases open_slice Tryz.underlying22 h with ⟨hcs, _⟩ | ⟨ad, l, c, m, n, D, Pl, hcs, _, hl, hm, hmm, _, hi⟩
  · simp only [List.cons.injEq, Value.slice.injEq, and_true] at hcs
    obtain ⟨rfl, rfl, rfl⟩ := hcs
    exact ⟨[], rfl, ⟨liesU_nil _ _⟩, fun b hb => by cases hb⟩
  · simp only [List.cons.injEq, Value.slice.injEq, and_true] at hcs
    obtain ⟨rfl, rfl, rfl⟩ := hcs
    have hlm : len ≤ m := by rw [hmm]; split <;> omega
    unfold maxLen at hm
    have key : ∀ i, i < len → ∃ z : Nm, NmOk z ∧ w.cell? (ad.add i) = some (.string (strOfNums z)) := fun i hil => by
      obtain ⟨cs', h1, h2⟩ := hi i (by omega)
      rw [cells_str, Nat.mul_one] at h1
      obtain ⟨s, hz, _, hsz⟩ := DataW.trod_string Tryz.underlying9 h2
      obtain ⟨_, _, hc⟩ := World.cells?_some h1
      have hn := nm_of s hsz
      refine ⟨bl s, hn.1, ?_⟩
      rw [hn.2]
      have := hc 0 (by decide)
      rw [hz, add_add, Nat.add_zero] at this
      exact this
    obtain ⟨f, hf⟩ := choose_lt key
    have hlen : ((List.range len).map f).length = len := by simp
    refine ⟨(List.range len).map f, hlen.symm, ⟨?_⟩, fun b hb => by obtain ⟨i, hi2, rfl⟩ := List.mem_map.1 hb; exact (hf i (List.mem_range.1 hi2)).1⟩
    unfold LiesU
    refine ⟨some ad, cap, (List.range len).map fun i => .string (strOfNums (f i)), rfl, by rw [hlen]; exact hl, by omega, by simp, ?_, ?_⟩
    · have : ∀ l : List Nat, LiesL AnyB w ((l.map f).map .s) (l.map fun i => Value.string (strOfNums (f i))) := by
        intro l
        induction l with
        | nil => exact .nil
        | cons a r ih => exact .cons (liesU_s _) ih
      exact this _
    · by_cases h0 : len = 0
      · exact .inl (by rw [hlen]; exact h0)
      · obtain ⟨b, off, spot⟩ := ad
        have hc0 := (hf 0 (by omega)).2
        have hspot : spot = none := by simpa [Addr.add] using World.cell?_spot hc0
        subst hspot
        have hadd : ∀ i, (⟨b, off, none⟩ : Addr).add i = ⟨b, off + i, none⟩ := fun i => by unfold Addr.add; split <;> simp_all
        have hblk := World.block_lt_of_cell? w _ hc0
        rw [hadd] at hblk
        refine .inr ⟨b, off, rfl, trivial, hblk, fun j v hj => ?_⟩
        rw [List.getElem?_map] at hj
        have hjl : j < len := by
          apply Nat.lt_of_not_le
          intro hle
          rw [List.getElem?_eq_none (by simpa using hle)] at hj
          cases hj
        rw [List.getElem?_range hjl] at hj
        cases hj
        have := (hf j hjl).2
        rw [hadd] at this
        exact this
/-- A type's cells, and what they lead to. -/
structure Cell4 where
  t : Ty
  an : Option Addr
  cn : Nat
  al : Option Addr
  cl : Nat
instance : Inhabited Cell4 := ⟨⟨.zero, none, 0, none, 0⟩⟩
def Cell4.vs (c : Cell4) : List Value := [.int .i64 c.t.kind, .slice c.an c.t.names.length c.cn, .slice c.al c.t.l.length c.cl, .int .i64 c.t.r]
theorem ty_step (N : Nat) (ih : ∀ {fuel : Nat} {a : Option Addr} {len cap : Nat} {x : DataW H × List MemPlace}, SizeOf.sizeOf x.1 < N → DataW.trod enc Tryz.prog w base spare held fuel 23 [.slice a len cap] = some x → ∃ l : List Ty, len = l.length ∧ RowAt w l a cap ∧ ∀ t ∈ l, FineT t)
    {fuel : Nat} {cs : List Value} {x : DataW H × List MemPlace} (hN : SizeOf.sizeOf x.1 < N + 1) (h : DataW.trod enc Tryz.prog w base spare held fuel 25 cs = some x) : ∃ c : Cell4, cs = c.vs ∧ TyAt w c.t c.an c.cn c.al c.cl ∧ FineT c.t := by
  obtain ⟨xs, n', _, hxx, hcl, hl4, hf⟩ := DataW.trod_struct Tryz.underlying25 h
  have h4 : xs.length = 4 := hl4
  have hcl4 : cs.length = 4 := by rw [hcl]; exact cells_ty
  have hag : x.1 = .agg (xs.map (·.1)) := congrArg Prod.fst hxx
  rw [hag] at hN
  simp only [DataW.agg.sizeOf_spec] at hN
  have hsub : ∀ j (hj : j < xs.length), SizeOf.sizeOf (xs[j]).1 < N := fun j hj => by
    have hmem : (xs[j]).1 ∈ xs.map (·.1) := List.mem_map.2 ⟨xs[j], List.getElem_mem hj, rfl⟩
    have := List.sizeOf_lt_of_mem hmem
    omega
  have f0 : DataW.trod enc Tryz.prog w base spare held n' 3 ((cs.drop 0).take (Tryz.prog.cellsOf 3)) = xs[0]? := hf 0 _ rfl
  have f1 : DataW.trod enc Tryz.prog w base spare held n' 22 ((cs.drop 1).take (Tryz.prog.cellsOf 22)) = xs[1]? := hf 1 _ rfl
  have f2 : DataW.trod enc Tryz.prog w base spare held n' 23 ((cs.drop 2).take (Tryz.prog.cellsOf 23)) = xs[2]? := hf 2 _ rfl
  have f3 : DataW.trod enc Tryz.prog w base spare held n' 3 ((cs.drop 3).take (Tryz.prog.cellsOf 3)) = xs[3]? := hf 3 _ rfl
  rw [cells_int] at f0 f3
  rw [cells_strs] at f1
  rw [cells_tys] at f2
  rw [List.getElem?_eq_getElem (by omega)] at f0 f1 f2 f3
  obtain ⟨z0, g0, _, _⟩ := DataW.trod_int Tryz.underlying3 f0
  obtain ⟨z3, g3, _, _⟩ := DataW.trod_int Tryz.underlying3 f3
  obtain ⟨a1, l1, c1, g1⟩ := slice_of Tryz.underlying22 f1
  obtain ⟨a2, l2, c2, g2⟩ := slice_of Tryz.underlying23 f2
  rw [g1] at f1
  rw [g2] at f2
  obtain ⟨ns, rfl, hns, hnf⟩ := nms_of f1
  obtain ⟨ts, rfl, hts, htf⟩ := ih (hsub 2 (by omega)) f2
  refine ⟨⟨.mk z0 ns ts z3, a1, c1, a2, c2⟩, ?_, ⟨hns.lies, hts.lies⟩, fine_mk hnf htf⟩
  have e0 := one_at g0
  have e1 := one_at g1
  have e2 := one_at g2
  have e3 := one_at g3
  match cs, hcl4 with
  | [v0, v1, v2, v3], _ =>
    simp at e0 e1 e2 e3
    rw [e0, e1, e2, e3]
    rfl
theorem tys_of (N : Nat) : ∀ {fuel : Nat} {a : Option Addr} {len cap : Nat} {x : DataW H × List MemPlace}, SizeOf.sizeOf x.1 < N → DataW.trod enc Tryz.prog w base spare held fuel 23 [.slice a len cap] = some x → ∃ l : List Ty, len = l.length ∧ RowAt w l a cap ∧ ∀ t ∈ l, FineT t := by
  induction N with
  | zero => exact fun h => absurd h (by omega)
  | succ N ih =>
    intro fuel a len cap x hN h
    rcases open_slice Tryz.underlying23 h with ⟨hcs, _⟩ | ⟨ad, l, c, m, n, D, Pl, hcs, _, hl, hm, hmm, hx, hi⟩
    · simp only [List.cons.injEq, Value.slice.injEq, and_true] at hcs
      obtain ⟨rfl, rfl, rfl⟩ := hcs
      exact ⟨[], rfl, ⟨liesU_nil _ _⟩, fun b hb => by cases hb⟩
    · simp only [List.cons.injEq, Value.slice.injEq, and_true] at hcs
      obtain ⟨rfl, rfl, rfl⟩ := hcs
      have hlm : len ≤ m := by rw [hmm]; split <;> omega
      unfold maxLen at hm
      have hsz : ∀ i, i < len → SizeOf.sizeOf (D i) < N := fun i hil => by
        have hx1 : x.1 = .slice ((List.range len).map D) ((List.range (m - len)).map fun j => D (len + j)) := by rw [hx]
        rw [hx1] at hN
        have hmem : D i ∈ (List.range len).map D := List.mem_map.2 ⟨i, List.mem_range.2 hil, rfl⟩
        have h1 := List.sizeOf_lt_of_mem hmem
        simp only [DataW.slice.sizeOf_spec] at hN
        omega
      have key : ∀ i, i < len → ∃ c : Cell4, TyAt w c.t c.an c.cn c.al c.cl ∧ FineT c.t ∧ ∀ j v, c.vs[j]? = some v → w.cell? (ad.add (i * 4 + j)) = some v := fun i hil => by
        obtain ⟨cs', h1, h2⟩ := hi i (by omega)
        rw [cells_ty] at h1
        obtain ⟨_, hlc, hc⟩ := World.cells?_some h1
        obtain ⟨c, rfl, hty, hfn⟩ := ty_step N ih (x := (D i, Pl i)) (Nat.lt_succ_of_lt (hsz i hil)) h2
        refine ⟨c, hty, hfn, fun j v hj => ?_⟩
        have hj4 : j < 4 := (List.getElem?_eq_some_iff.1 hj).1
        have := hc j hj4
        rw [add_add, hj] at this
        exact this
      obtain ⟨f, hf⟩ := choose_lt key
      have hlen : ((List.range len).map fun i => (f i).t).length = len := by simp
      refine ⟨(List.range len).map fun i => (f i).t, hlen.symm, ⟨?_⟩, fun b hb => by obtain ⟨i, hi2, rfl⟩ := List.mem_map.1 hb; exact (hf i (List.mem_range.1 hi2)).2.1⟩
      unfold LiesU
      refine ⟨some ad, cap, (List.range len).flatMap fun i => (f i).vs, rfl, by rw [hlen]; exact hl, by omega, by rw [encTys_length], ?_, ?_⟩
      · rw [encTys_flat]
        exact LiesL.flat _ fun i hi2 => ty_lies (hf i (List.mem_range.1 hi2)).1.n (hf i (List.mem_range.1 hi2)).1.l
      · by_cases h0 : len = 0
        · exact .inl (by rw [hlen]; exact h0)
        · obtain ⟨b, off, spot⟩ := ad
          have hc0 := (hf 0 (by omega)).2.2 0 _ rfl
          have hspot : spot = none := by simpa [Addr.add] using World.cell?_spot hc0
          subst hspot
          have hadd : ∀ i, (⟨b, off, none⟩ : Addr).add i = ⟨b, off + i, none⟩ := fun i => by unfold Addr.add; split <;> simp_all
          have hblk := World.block_lt_of_cell? w _ hc0
          rw [hadd] at hblk
          refine .inr ⟨b, off, rfl, trivial, hblk, CellsAt.flat (m := 4) (fun _ => rfl) _ _ fun i x hx2 j v hj => ?_⟩
          have hil : i < len := by
            apply Nat.lt_of_not_le
            intro hle
            rw [List.getElem?_eq_none (by simpa using hle)] at hx2
            cases hx2
          rw [List.getElem?_range hil] at hx2
          cases hx2
          have := (hf i hil).2.2 j v hj
          rw [hadd] at this
          rw [Nat.add_assoc]
          exact this
theorem ty_of {fuel : Nat} {cs : List Value} {x : DataW H × List MemPlace} (h : DataW.trod enc Tryz.prog w base spare held fuel 25 cs = some x) : ∃ c : Cell4, cs = c.vs ∧ TyAt w c.t c.an c.cn c.al c.cl ∧ FineT c.t :=
  ty_step (SizeOf.sizeOf x.1) (tys_of _) (Nat.lt_succ_self _) h
structure Cell7 where
  s : Sg
  ap : Option Addr
  cp : Nat
  aq : Option Addr
  cq : Nat
  an : Option Addr
  cn : Nat
  al : Option Addr
  cl : Nat
end
end Go.Proofs.YtikgkjkgdlnekaaGreatDoor
