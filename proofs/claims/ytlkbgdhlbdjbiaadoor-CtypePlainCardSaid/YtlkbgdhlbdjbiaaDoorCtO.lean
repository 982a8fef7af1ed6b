/- ctype: the closure that is told a field's size. -/
import Derived.Test.YtlkbgdhlbdjbiaaDoorCtN
set_option linter.unusedVariables false
set_option linter.unusedSimpArgs false
namespace Go.Proofs.YtlkbgdhlbdjbiaaDoor
open Go.RowKit
open Lex Ct

theorem BlkAt.grown {w w' : World} {b : Nat} {cs : Array Value} {T : TypeId} {r : Option Nat} (h : BlkAt w b cs T) (hg : w.grownBy w' r) (hne : r ≠ some b) : BlkAt w' b cs T := (hg.block b h.lt (fun e => hne e.symm)).trans h
/-- What the closure of fields has told so far: where it ends, where the fields lie, the greatest alignment. -/
structure FldAt (B E A M : Nat) (w : World) (st : List Nat × Nat × Nat) : Prop where
  ex : ∃ av cap, BlkAt w E #[.int .i64 ((st.2.1 : Nat) : Int)] 3 ∧ BlkAt w A #[.slice av st.1.length cap] 31 ∧ BlkAt w M #[.int .i64 ((st.2.2 : Nat) : Int)] 3 ∧
    w.ownsRow B 3 1 (.slice av st.1.length cap) st.1.length (st.1.map fun n => Value.int .i64 (n : Nat)) ∧ (Value.slice av st.1.length cap).ownBlock ≠ some E ∧ (Value.slice av st.1.length cap).ownBlock ≠ some A ∧ (Value.slice av st.1.length cap).ownBlock ≠ some M
theorem FldAt.kept {B E A M : Nat} {w w' : World} {st : List Nat × Nat × Nat} (h : FldAt B E A M w st) (k : Kept (fun _ => False) w w') : FldAt B E A M w' st := by
  obtain ⟨av, cap, h1, h2, h3, h4, h5⟩ := h.ex
  exact ⟨av, cap, h1.kept k id, h2.kept k id, h3.kept k id, ownsRow_kept h4 k (fun _ _ => id), h5⟩
theorem info_int2 : ∃ i, Tryd.prog.info? 3 = some i ∧ i.zero = some (.int .i64 0) ∧ i.size = 1 ∧ i.bytes = 8 := by
  have := info_int
  cases h : Tryd.prog.info? 3 with
  | none => rw [h] at this; cases this
  | some i =>
    rw [h] at this
    simp at this
    exact ⟨i, rfl, this.1, this.2.1, this.2.2⟩
set_option maxRecDepth 100000 in
set_option maxHeartbeats 4000000 in
theorem rdFields1 (B E A M s a : Nat) (st : List Nat × Nat × Nat) (w : World) (h : FldAt B E A M w st) (hB : B ≤ w.heap.size) (hBE : B ≤ E) (hBA : B ≤ A) (hBM : B ≤ M) (hEA : E ≠ A) (hEM : E ≠ M) (hAM : A ≠ M) (ha : Al a) (hs : s ≤ 9000) (he : st.2.1 ≤ 90000) (hl : st.1.length ≤ 1000) :
    Calls Tryd.prog 46 (#[.int .i64 (s : Int), .int .i64 (a : Int)] ++ #[.pointer (some ⟨E, 0, none⟩), .pointer (some ⟨A, 0, none⟩), .pointer (some ⟨M, 0, none⟩)]) w fun y w' => y = .returned (.tuple #[]) ∧ Kept (B ≤ ·) w w' ∧ FldAt B E A M w' (fldOne st (s, a)) := by
  obtain ⟨av, cap, h1, h2, h3, h4, n1, n2, n3⟩ := h.ex
  obtain ⟨i0, hi, hz0, hz1, hz2⟩ := info_int2
  have hpl : nxt st.2.1 a ≤ 90007 := by have := (nxt_bound (n := st.2.1) ha).2; omega
  have HN := Lib.hid (rdNext st.2.1 a (by omega) ha)
  have e2 := max_cast st.2.2 a
  obtain ⟨p, hp⟩ : ∃ p, p = nxt st.2.1 a := ⟨_, rfl⟩
  have HP := Lib.hid hp
  rw [← hp] at HN hpl
  have hob : ∀ k, (Value.slice av st.1.length cap).ownBlock = some k → B ≤ k := fun k hk => (World.ownsRow.lt h4 k hk).1
  obtain ⟨k0, hk0⟩ : ∃ x, x = (Value.slice av st.1.length cap) := ⟨_, rfl⟩
  have m1 := h1.cell 0
  have m2 := h2.cell 0
  simp at m1 m2
  have q3 : st.1.length + 1 ≤ maxLen := by unfold maxLen; omega
  have q4 : (st.1.length + 1) * 8 ≤ 140737488355328 := by omega
  have HH := Lib.hid (And.intro h1 (And.intro h2 (And.intro h3 (And.intro n1 (And.intro n2 (And.intro n3 hob))))))
  have HNE := Lib.hid (And.intro hEA (And.intro hEM hAM))
  have HBB := Lib.hid (And.intro hBE (And.intro hBA hBM))
  clear h h1 h2 h3 n1 n2 n3 hob hEA hEM hAM hBE hBA hBM hp hk0 k0 ha
  show Calls _ _ #[_, _, _, _, _] _ _
  go_enter Tryd.func46, Tryd.ntmps46
  go_wp2_with (first
    | (go_at_call 47; refine (HN.out _).mono ?_; rintro y w1 ⟨rfl, rfl⟩; clear HN)
    | (at_builtin; refine wpList_append_lies _ rfl _ _ 31 rfl B 3 i0 (.int .i64 0) 1 8 Tryd.underlying31 hi hz0 hz1 hz2 rfl (by decide) _ st.1.length (st.1.map fun n => Value.int .i64 (n : Nat)) rfl (World.ownsRow.alloc h4 _) ⟨w.heap.size, 0, none⟩ 1 1 [.int .i64 (p : Int)] rfl rfl (cell_one_new _ _ _) (one_i64 _) (by decide) q3 q4 (le_alloc hB) _ rfl ?_; intro g cap3 w3 hown3 hg3 hat hgl
       have hnw := heap_alloc_new w
       have hE := HH.out.1.kept (F := fun _ => False) ((Kept.refl _ _).new (.cells #[.int .i64 (p : Int)] 3)) id
       have hA := HH.out.2.1.kept (F := fun _ => False) ((Kept.refl _ _).new (.cells #[.int .i64 (p : Int)] 3)) id
       have hM := HH.out.2.2.1.kept (F := fun _ => False) ((Kept.refl _ _).new (.cells #[.int .i64 (p : Int)] 3)) id
       have hE3 := hE.grown hg3 HH.out.2.2.2.1
       have hA3 := hA.grown hg3 HH.out.2.2.2.2.1
       have hM3 := hM.grown hg3 HH.out.2.2.2.2.2.1
       have hE4 := hE3.other HNE.out.1 0 (.slice (some ⟨g, 0, none⟩) (st.1.length + 1) cap3)
       have hM4 := hM3.other (Ne.symm HNE.out.2.2) 0 (.slice (some ⟨g, 0, none⟩) (st.1.length + 1) cap3)
       have hA4 := hA3.put 0 (.slice (some ⟨g, 0, none⟩) (st.1.length + 1) cap3)
       have hE5 := hE4.put 0 (.int .i64 ((p : Int) + (s : Int)))
       have hM5 := hM4.other (Ne.symm HNE.out.2.1) 0 (.int .i64 ((p : Int) + (s : Int)))
       have hA5 := hA4.other (Ne.symm HNE.out.1) 0 (.int .i64 ((p : Int) + (s : Int)))
       have hM6 := hM5.put 0 (.int .i64 ((max st.2.2 a : Nat) : Int))
       have hE6 := hE5.other HNE.out.2.1 0 (.int .i64 ((max st.2.2 a : Nat) : Int))
       have hA6 := hA5.other HNE.out.2.2 0 (.int .i64 ((max st.2.2 a : Nat) : Int))
       have zA := hA3.frozen 0
       have zE := hE4.frozen 0
       have zM := hM5.frozen 0
       have cA := hA3.cell 0
       have cE := hE4.cell 0
       have cM := hM5.cell 0
       simp at cA cE cM
       have HF := Lib.hid (And.intro hE6 (And.intro hA6 hM6))
       have HG := Lib.hid (And.intro hown3 (And.intro hg3 hat))
       clear hE hA hM hE3 hA3 hM3 hE4 hM4 hA4 hE5 hM5 hA5 hM6 hE6 hA6 hown3 hg3 hat hgl hnw h4))
  refine bodyPost_void rfl rfl ⟨rfl, ?_, ?_⟩
  · refine ((((Kept.refl (B ≤ ·) w).new _).grown HG.out.2.1 (fun k _ e => HH.out.2.2.2.2.2.2 k e.symm)).set (p := ⟨A, 0, none⟩) HBB.out.2.1 _).set (p := ⟨E, 0, none⟩) HBB.out.1 _ |>.set (p := ⟨M, 0, none⟩) HBB.out.2.2 _
  · have hne : ∀ X, X < w.heap.size → (Value.slice av st.1.length cap).ownBlock ≠ some X → g ≠ X := by
      rintro X hX hn rfl
      rcases HG.out.2.2 with h | h
      · exact hn h
      · rw [World.size_alloc] at h; omega
    have gE := hne E HH.out.1.lt HH.out.2.2.2.1
    have gA := hne A HH.out.2.1.lt HH.out.2.2.2.2.1
    have gM := hne M HH.out.2.2.1.lt HH.out.2.2.2.2.2.1
    have gg : ∀ X, g ≠ X → (Value.slice (some ⟨g, 0, none⟩) (st.1.length + 1) cap3).ownBlock ≠ some X := fun X h e => h (Option.some.inj e)
    have o1 := ownsRow_setCell_other HG.out.1 (a := ⟨A, 0, none⟩) (gg A gA) (.slice (some ⟨g, 0, none⟩) (st.1.length + 1) cap3)
    have o2 := ownsRow_setCell_other o1 (a := ⟨E, 0, none⟩) (gg E gE) (.int .i64 ((p : Int) + (s : Int)))
    have o3 := ownsRow_setCell_other o2 (a := ⟨M, 0, none⟩) (gg M gM) (.int .i64 ((max st.2.2 a : Nat) : Int))
    have e1 : fldOne st (s, a) = (st.1 ++ [p], p + s, max st.2.2 a) := by unfold fldOne; rw [HP.out]
    rw [e1]
    refine ⟨⟨some ⟨g, 0, none⟩, cap3, ?_⟩⟩
    simp only [List.length_append, List.length_cons, List.length_nil, Nat.zero_add, List.map_append, List.map_cons, List.map_nil]
    exact ⟨HF.out.1, HF.out.2.1, HF.out.2.2, o3, gg E gE, gg A gA, gg M gM⟩
end Go.Proofs.YtlkbgdhlbdjbiaaDoor
