/- handles: deeds that came in: what the form tells of them. -/
import Derived.Test.YtglhfofofacekaaHdZ
import Derived.Deep.Slices
import Derived.ChangeSame
import Derived.ChangeArms
set_option linter.unusedVariables false
namespace Go.Proofs.Ytglhfofofacekaa
open Go.RowKit Go.Deep

theorem one_of {cs : List Value} {j : Nat} {v : Value} (h : (cs.drop j).take 1 = [v]) : cs[j]? = some v := by
  have h1 : ((cs.drop j).take 1)[0]? = some v := by rw [h]; rfl
  rw [List.getElem?_take, if_pos (by decide), List.getElem?_drop, Nat.add_zero] at h1
  exact h1
section
variable {H : Type} {enc : TypeId × Value → H} {w : World} {base : Nat} {spare : Nat → Bool} {held : Bool}
theorem fld_int {fuel j : Nat} {cs : List Value} {xs : List (DataW H × List MemPlace)} (hx : j < xs.length)
    (h : DataW.trod enc Try.prog w base spare held fuel 3 ((cs.drop j).take 1) = xs[j]?) : ∃ z, cs[j]? = some (.int .i64 z) ∧ wf64 z := by
  rw [List.getElem?_eq_getElem hx] at h
  obtain ⟨z, hz, _, hw⟩ := DataW.trod_int Try.underlying3 h
  exact ⟨z, one_of hz, hw⟩
theorem fld_bool {fuel j : Nat} {cs : List Value} {xs : List (DataW H × List MemPlace)} (hx : j < xs.length)
    (h : DataW.trod enc Try.prog w base spare held fuel 4 ((cs.drop j).take 1) = xs[j]?) : ∃ b, cs[j]? = some (.bool b) := by
  rw [List.getElem?_eq_getElem hx] at h
  obtain ⟨b, hb, _⟩ := DataW.trod_bool Try.underlying4 h
  exact ⟨b, one_of hb⟩
theorem cells_deed : Try.prog.cellsOf 34 = 5 := by kernel_rfl
theorem cells_int : Try.prog.cellsOf 3 = 1 := by kernel_rfl
theorem cells_bool : Try.prog.cellsOf 4 = 1 := by kernel_rfl
/-- A deed out of its cells. -/
theorem deed_of {fuel : Nat} {cs : List Value} {x : DataW H × List MemPlace} (h : DataW.trod enc Try.prog w base spare held fuel 34 cs = some x) : ∃ d : Dh, (wf64 d.h ∧ wf64 d.kind) ∧ ∀ j, j < 5 → cs[j]? = d.cells[j]? := by
  obtain ⟨xs, n, _, _, _, hl, hf⟩ := DataW.trod_struct Try.underlying34 h
  have h8 : xs.length = 5 := hl
  have f0 : DataW.trod enc Try.prog w base spare held n 3 ((cs.drop 0).take (Try.prog.cellsOf 3)) = xs[0]? := hf 0 _ rfl
  have f1 : DataW.trod enc Try.prog w base spare held n 3 ((cs.drop 1).take (Try.prog.cellsOf 3)) = xs[1]? := hf 1 _ rfl
  have f2 : DataW.trod enc Try.prog w base spare held n 3 ((cs.drop 2).take (Try.prog.cellsOf 3)) = xs[2]? := hf 2 _ rfl
  have f3 : DataW.trod enc Try.prog w base spare held n 3 ((cs.drop 3).take (Try.prog.cellsOf 3)) = xs[3]? := hf 3 _ rfl
  have f4 : DataW.trod enc Try.prog w base spare held n 4 ((cs.drop 4).take (Try.prog.cellsOf 4)) = xs[4]? := hf 4 _ rfl
  rw [cells_int] at f0 f1 f2 f3
  rw [cells_bool] at f4
  obtain ⟨k, g0, w0⟩ := fld_int (by omega) f0
  obtain ⟨i, g1, _⟩ := fld_int (by omega) f1
  obtain ⟨r, g2, _⟩ := fld_int (by omega) f2
  obtain ⟨hh, g3, w3⟩ := fld_int (by omega) f3
  obtain ⟨b, g4⟩ := fld_bool (by omega) f4
  refine ⟨⟨k, i, r, hh, b⟩, ⟨w3, w0⟩, fun j hj => ?_⟩
  have hc : j = 0 ∨ j = 1 ∨ j = 2 ∨ j = 3 ∨ j = 4 := by omega
  rcases hc with rfl | rfl | rfl | rfl | rfl
  · exact g0
  · exact g1
  · exact g2
  · exact g3
  · exact g4
theorem deeds_of {fuel : Nat} {a : Option Addr} {len cap : Nat} {x : DataW H × List MemPlace} (h : DataW.trod enc Try.prog w base spare held fuel 23 [.slice a len cap] = some x) : ∃ ds, DhIn w a len cap ds := by
  rcases open_slice Try.underlying23 h with ⟨hcs, _⟩ | ⟨ad, l, c, m, n, D, Pl, hcs, _, hl, hm, hmm, _, hi⟩
  · simp only [List.cons.injEq, Value.slice.injEq, and_true] at hcs
    obtain ⟨rfl, rfl, rfl⟩ := hcs
    exact ⟨[], rfl, Nat.le_refl _, by omega, fun d hd => absurd hd (by simp), .inl rfl⟩
  · simp only [List.cons.injEq, Value.slice.injEq, and_true] at hcs
    obtain ⟨rfl, rfl, rfl⟩ := hcs
    have hlm : len ≤ m := by rw [hmm]; split <;> omega
    unfold maxLen at hm
    have key : ∀ i, i < len → ∃ d : Dh, wf64 d.h ∧ ∀ j, j < 5 → w.cell? (ad.add (i * 5 + j)) = d.cells[j]? := fun i hil => by
      obtain ⟨cs', h1, h2⟩ := hi i (by omega)
      rw [cells_deed] at h1
      obtain ⟨d, hok, hd⟩ := deed_of h2
      obtain ⟨_, _, hc⟩ := World.cells?_some h1
      refine ⟨d, hok.1, fun j hj => ?_⟩
      rw [← hd j hj, ← hc j hj, add_add]
    obtain ⟨f, hf⟩ := choose_lt key
    refine ⟨(List.range len).map f, by simp, hl, hm, ?_, ?_⟩
    · intro d hd
      obtain ⟨i, hi2, rfl⟩ := List.mem_map.1 hd
      exact (hf i (List.mem_range.1 hi2)).1
    · by_cases h0 : len = 0
      · exact .inl h0
      · obtain ⟨b, off, spot⟩ := ad
        have hc0 := (hf 0 (by omega)).2 0 (by decide)
        have hspot : spot = none := by simpa [Addr.add] using World.cell?_spot hc0
        subst hspot
        have hadd : ∀ i, (⟨b, off, none⟩ : Addr).add i = ⟨b, off + i, none⟩ := fun i => by unfold Addr.add; split <;> simp_all
        refine .inr ⟨b, off, rfl, fun i hi2 => ?_⟩
        have e : ((List.range len).map f).getD i default = f i := by
          rw [List.getD_eq_getElem?_getD, List.getElem?_map, List.getElem?_range hi2]
          rfl
        rw [e]
        have hc := (hf i hi2).2
        have key2 : ∀ j, j < 5 → w.cell? ⟨b, off + i * 5 + j, none⟩ = (f i).cells[j]? := fun j hj => by
          have := hc j hj
          rw [hadd] at this
          rw [Nat.add_assoc]
          exact this
        exact ⟨key2 0 (by decide), key2 1 (by decide), key2 2 (by decide), key2 3 (by decide), key2 4 (by decide)⟩
/-- A slice of numbers that came in. -/
theorem ints_of {fuel : Nat} {a : Option Addr} {len cap : Nat} {x : DataW H × List MemPlace} (h : DataW.trod enc Try.prog w base spare held fuel 22 [.slice a len cap] = some x) : ∃ ms : List Int, ms.length = len ∧ View w a len ms := by
  rcases open_slice Try.underlying22 h with ⟨hcs, _⟩ | ⟨ad, l, c, m, n, D, Pl, hcs, _, hl, hm, hmm, _, hi⟩
  · simp only [List.cons.injEq, Value.slice.injEq, and_true] at hcs
    obtain ⟨rfl, rfl, rfl⟩ := hcs
    exact ⟨[], rfl, .inl rfl⟩
  · simp only [List.cons.injEq, Value.slice.injEq, and_true] at hcs
    obtain ⟨rfl, rfl, rfl⟩ := hcs
    have hlm : len ≤ m := by rw [hmm]; split <;> omega
    have key : ∀ i, i < len → ∃ z : Int, w.cell? (ad.add i) = some (.int .i64 z) := fun i hil => by
      obtain ⟨cs', h1, h2⟩ := hi i (by omega)
      rw [cells_int, Nat.mul_one] at h1
      obtain ⟨z, hz, _, _⟩ := DataW.trod_int Try.underlying3 h2
      subst hz
      obtain ⟨_, _, hc⟩ := World.cells?_some h1
      have := hc 0 (by decide)
      refine ⟨z, ?_⟩
      rw [add_add, Nat.add_zero] at this
      exact this
    obtain ⟨f, hf⟩ := choose_lt key
    refine ⟨(List.range len).map f, by simp, ?_⟩
    by_cases h0 : len = 0
    · exact .inl h0
    · obtain ⟨b, off, spot⟩ := ad
      have hc0 := hf 0 (by omega)
      have hspot : spot = none := by simpa [Addr.add] using World.cell?_spot hc0
      subst hspot
      have hadd : ∀ i, (⟨b, off, none⟩ : Addr).add i = ⟨b, off + i, none⟩ := fun i => by unfold Addr.add; split <;> simp_all
      refine .inr ⟨b, off, rfl, fun i hi2 => ?_⟩
      have e : ((List.range len).map f).getD i 0 = f i := by
        rw [List.getD_eq_getElem?_getD, List.getElem?_map, List.getElem?_range hi2]
        rfl
      rw [e]
      have := hf i hi2
      rwa [hadd] at this
/-- A deed by value. -/
theorem deed_cells {fuel : Nat} {cs : Array Value} {x : DataW H × List MemPlace} (h : DataW.trod enc Try.prog w base spare held fuel 34 cs.toList = some x) : ∃ d : Dh, (Value.agg cs) = d.v ∧ wf64 d.h ∧ wf64 d.kind := by
  have hl : cs.toList.length = 5 := by
    obtain ⟨_, _, _, _, hcl, _⟩ := DataW.trod_struct Try.underlying34 h
    rw [hcl]
    exact cells_deed
  obtain ⟨d, hok, hc⟩ := deed_of h
  refine ⟨d, ?_, hok.1, hok.2⟩
  have e : cs.toList = d.cells := by
    apply List.ext_getElem?
    intro j
    by_cases hj : j < 5
    · exact hc j hj
    · rw [List.getElem?_eq_none (by omega), List.getElem?_eq_none (by show 5 ≤ j; omega)]
  obtain ⟨l⟩ := cs
  have e' : l = d.cells := e
  subst e'
  rfl
end
end Go.Proofs.Ytglhfofofacekaa
