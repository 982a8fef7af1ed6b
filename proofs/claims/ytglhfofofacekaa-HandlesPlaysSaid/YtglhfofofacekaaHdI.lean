/- handles: whether a call of an instance is under way: the closure, the search for it. -/
import Derived.Test.YtglhfofofacekaaHdH
set_option linter.unusedVariables false
set_option linter.unusedSimpArgs false
namespace Go.Proofs.Ytglhfofofacekaa
open Go.RowKit

/-- Cells of calls, two each. -/
theorem clC_at : ∀ (l : List ((Int × List (Int × Int)) × Nat)) (j : Nat), j < l.length →
    (l.flatMap clC)[j * 2]? = some (.int .i64 (l.getD j ((0, []), 0)).1.1) ∧ (l.flatMap clC)[j * 2 + 1]? = some (.map (some (l.getD j ((0, []), 0)).2))
  | [], j, h => by simp at h
  | p :: r, 0, _ => by simp [clC]
  | p :: r, j + 1, h => by
    have ih := clC_at r j (by simpa using h)
    rw [List.flatMap_cons]
    have e : (clC p).length = 2 := rfl
    refine ⟨?_, ?_⟩
    · rw [List.getElem?_append_right (by rw [e]; omega), show (j + 1) * 2 - (clC p).length = j * 2 by rw [e]; omega, ih.1]
      rfl
    · rw [List.getElem?_append_right (by rw [e]; omega), show (j + 1) * 2 + 1 - (clC p).length = j * 2 + 1 by rw [e]; omega, ih.2]
      rfl
theorem zip_getD (cl : List (Int × List (Int × Int))) (ls : List Nat) (hl : ls.length = cl.length) (j : Nat) (hj : j < cl.length) : (cl.zip ls).getD j ((0, []), 0) = (cl.getD j (0, []), ls.getD j 0) := by
  simp only [List.getD_eq_getElem?_getD]
  rw [List.getElem?_eq_getElem (by simp; omega), List.getElem?_eq_getElem hj, List.getElem?_eq_getElem (by omega)]
  simp
/-- The row of calls: where it lies. -/
structure ClRow (w : World) (n : Nat) (cl : List (Int × List (Int × Int))) (ls : List Nat) (g o : Nat) : Prop where
  at0 : ∀ j, j < n → w.cell? ⟨g, o + j * 2, none⟩ = some (.int .i64 (cl.getD j (0, [])).1)
  at1 : ∀ j, j < n → w.cell? ⟨g, o + j * 2 + 1, none⟩ = some (.map (some (ls.getD j 0)))
theorem ClRow.next {w w' : World} {n : Nat} {cl : List (Int × List (Int × Int))} {ls : List Nat} {g o : Nat} (h : ClRow w n cl ls g o) (hb : Below w.heap.size w w') : ClRow w' n cl ls g o := ⟨fun j hj => farB (h.at0 j hj) hb, fun j hj => farB (h.at1 j hj) hb⟩
theorem TbR.row {F : Nat → Prop} {a : Nat} {w : World} {S : Tb} {H : TbH} (h : TbR F a w S H) :
    ∃ ca cc, H.cv = .slice ca S.cl.length cc ∧ w.cell? ⟨a, 2, none⟩ = some (.slice ca S.cl.length cc) ∧ (S.cl.length = 0 ∨ ∃ g o, ca = some ⟨g, o, none⟩ ∧ ClRow w S.cl.length S.cl H.ls g o) := by
  rcases h.calls.2 with ⟨e, e0⟩ | ⟨g, cap, cur, e, hg0, hg, _⟩
  · exact ⟨none, 0, by rw [e, e0], by rw [h.cells.2.2, e, e0], .inl e0⟩
  · refine ⟨_, cap, e, by rw [h.cells.2.2, e], .inr ⟨g, 0, rfl, ?_⟩⟩
    have hc := h.calls
    rw [e] at hc
    have hz : (S.cl.zip H.ls).length = S.cl.length := by have := h.nl; simp; omega
    refine ⟨fun j hj => ?_, fun j hj => ?_⟩
    · rw [Nat.zero_add, World.ownsRow.cellAt hc (j * 2) (by omega), (clC_at _ j (by omega)).1, zip_getD _ _ h.nl j hj]
    · rw [Nat.zero_add, World.ownsRow.cellAt hc (j * 2 + 1) (by omega), (clC_at _ j (by omega)).2, zip_getD _ _ h.nl j hj]

set_option maxRecDepth 100000 in
set_option maxHeartbeats 1000000 in
theorem of_any (inst i : Int) (m : Value) (b : Nat) (w : World) (hm : m.oneCell' = true) (hb : w.cell? ⟨b, 0, none⟩ = some (.int .i64 i)) :
    Calls Try.prog 51 #[.agg #[.int .i64 inst, m], .pointer (some ⟨b, 0, none⟩)] w fun e w' => e = .returned (.bool (inst == i)) ∧ Below w.heap.size w w' := by
  have q := far hb (Below.refl _ w) (.cells #[.int .i64 inst, m] 83)
  clear hb hm
  go_enter Try.func51, Try.ntmps51
  go_wp2_with fail
  go_ret
  exact ⟨rfl, (Below.refl _ w).alloc (Nat.le_refl _) _⟩
theorem getD_map (cl : List (Int × List (Int × Int))) (k : Nat) (h : k < cl.length) : (cl.map (·.1)).getD k 0 = (cl.getD k (0, [])).1 := by
  simp only [List.getD_eq_getElem?_getD, List.getElem?_map]
  rw [List.getElem?_eq_getElem h]
  rfl
theorem getD_take (xs : List Int) (n k : Nat) (h : k < n) : (xs.take n).getD k 0 = xs.getD k 0 := by
  simp only [List.getD_eq_getElem?_getD]
  rw [List.getElem?_take_of_lt h]
theorem any_at {l : List Int} {i : Int} (k : Nat) (h : k < l.length) (e : (l.getD k 0 == i) = true) : l.any (fun c => c == i) = true := by
  rw [List.getD_eq_getElem?_getD, List.getElem?_eq_getElem h] at e
  exact List.any_eq_true.2 ⟨_, List.getElem_mem h, e⟩
theorem any_none {l : List Int} {i : Int} (h : ∀ j, j < l.length → l.getD j 0 ≠ i) : l.any (fun c => c == i) = false := by
  apply List.any_eq_false.2
  intro x hx
  obtain ⟨j, hj, rfl⟩ := List.getElem_of_mem hx
  have := h j hj
  rw [List.getD_eq_getElem?_getD, List.getElem?_eq_getElem hj] at this
  simpa using this
/-- A number that is not below 0 just if one of these is so. -/
def GivesIx (l : List Int) (i : Int) (e : Ending) : Prop := ∃ k : Int, e = .returned (.int .i64 k) ∧ decide (0 ≤ k) = l.any (fun c => c == i)
set_option maxRecDepth 100000 in
set_option maxHeartbeats 2000000 in
theorem indexOf_any (cl : List (Int × List (Int × Int))) (ls : List Nat) (n : Nat) (ca : Option Addr) (cc b : Nat) (i : Int) (w : World) (hn : n = cl.length) (h16 : n ≤ 16) (hr : n = 0 ∨ ∃ g o, ca = some ⟨g, o, none⟩ ∧ ClRow w n cl ls g o) (hb : w.cell? ⟨b, 0, none⟩ = some (.int .i64 i)) :
    Calls Try.prog 67 #[.slice ca n cc, .func (.func 51) #[] #[.pointer (some ⟨b, 0, none⟩)]] w fun e w' => GivesIx (cl.map (·.1)) i e ∧ Below w.heap.size w w' := by
  have HO := fun (w : World) (inst : Int) (m : Nat) (hb : w.cell? ⟨b, 0, none⟩ = some (.int .i64 i)) => of_any inst i (.map (some m)) b w rfl hb
  have HR := Lib.hid hr
  have HB := Lib.hid hb
  have HN := Lib.hid hn
  clear hr hb hn
  go_enter Try.func67, Try.ntmps67
  go_wp2_with fail
  go_loopw [8] (fun i' wr => ∃ k : Nat, i' = .int .i64 k ∧ k ≤ n ∧ Below w.heap.size w wr ∧ ∀ j, j < k → (cl.getD j (0, [])).1 ≠ i) (fun i' _ => n - (intOf i').toNat)
  case atStart => exact ⟨0, rfl, by omega, Below.refl _ _, fun j hj => by omega⟩
  case round =>
    obtain ⟨k, rfl, hk, hbw, hall⟩ := hrel
    by_cases hlt : k < n
    · obtain ⟨g, o, rfl, hrow⟩ := HR.out.resolve_left (by omega)
      have h1 := farB (hrow.at0 k hlt) hbw
      have h2 := farB (hrow.at1 k hlt) hbw
      have hbc := farB HB.out hbw
      have HX : (cl.getD k (0, [])).1 = (cl.getD k (0, [])).1 := rfl
      generalize hx : (cl.getD k (0, [])).1 = x at h1
      generalize ls.getD k 0 = m at h2
      have HXX := Lib.hid hx
      have HA := Lib.hid hall
      clear HX hx hall hrow
      cases hxi : (x == i)
      · go_wp2_with (go_at_call 51; refine (HO _ x m hbc).mono ?_; rw [hxi]; rintro e w1 ⟨rfl, hb1⟩)
        refine ⟨⟨k + 1, by simp, by omega, hbw.trans (hb1.mono hbw.size), fun j hj => ?_⟩, by simp [intOf]; omega⟩
        by_cases hjk : j = k
        · subst hjk
          rw [HXX.out]
          simpa using hxi
        · exact HA.out j (by omega)
      · go_wp2_with (go_at_call 51; refine (HO _ x m hbc).mono ?_; rw [hxi]; rintro e w1 ⟨rfl, hb1⟩)
        go_ret
        refine ⟨⟨k, rfl, ?_⟩, hbw.trans (hb1.mono hbw.size)⟩
        rw [any_at k (by rw [List.length_map, ← HN.out]; exact hlt) (by rw [getD_map _ _ (by rw [← HN.out]; exact hlt), HXX.out]; exact hxi)]
        simp
    · have hke : k = n := by omega
      subst hke
      have HA := Lib.hid hall
      clear hall
      go_wp2_with fail
      go_ret
      refine ⟨⟨-1, rfl, ?_⟩, hbw⟩
      rw [any_none (fun j hj => ?_)]
      · rfl
      · rw [List.length_map, ← HN.out] at hj
        rw [getD_map _ _ (by rw [← HN.out]; exact hj)]
        exact HA.out j hj
set_option maxRecDepth 100000 in
set_option maxHeartbeats 1000000 in
theorem contains_any (cl : List (Int × List (Int × Int))) (ls : List Nat) (n : Nat) (ca : Option Addr) (cc b : Nat) (i : Int) (w : World) (hn : n = cl.length) (h16 : n ≤ 16) (hr : n = 0 ∨ ∃ g o, ca = some ⟨g, o, none⟩ ∧ ClRow w n cl ls g o) (hb : w.cell? ⟨b, 0, none⟩ = some (.int .i64 i)) :
    Calls Try.prog 52 #[.slice ca n cc, .func (.func 51) #[] #[.pointer (some ⟨b, 0, none⟩)]] w fun e w' => e = .returned (.bool ((cl.map (·.1)).any (fun c => c == i))) ∧ Below w.heap.size w w' := by
  have HI := indexOf_any cl ls n ca cc b i w hn h16 hr hb
  clear hr hb hn
  go_enter Try.func52, Try.ntmps52
  go_wp2_with (go_at_call 67; refine HI.mono ?_; rintro e w1 ⟨⟨k, rfl, hk⟩, hb1⟩; have HK := Lib.hid hk; clear hk)
  go_ret
  exact ⟨by rw [← HK.out]; rfl, hb1⟩

/-! the makers of resources -/
set_option maxRecDepth 100000 in
set_option maxHeartbeats 1000000 in
theorem none_any (m i : Int) (b : Nat) (w : World) (hb : w.cell? ⟨b, 0, none⟩ = some (.int .i64 i)) :
    Calls Try.prog 18 #[.int .i64 m, .pointer (some ⟨b, 0, none⟩)] w fun e w' => e = .returned (.bool (decide (m < 0) || decide (i ≤ m))) ∧ w = w' := by
  go_enter Try.func18, Try.ntmps18
  go_wp2_with fail
  all_goals go_ret
  all_goals exact ⟨by (simp_all; try omega), rfl⟩
def GivesNo (l : List Int) (i : Int) (e : Ending) : Prop := ∃ k : Int, e = .returned (.int .i64 k) ∧ decide (0 ≤ k) = l.any (fun m => decide (m < 0) || decide (i ≤ m))
set_option maxRecDepth 100000 in
set_option maxHeartbeats 2000000 in
theorem indexNo_any (xs : List Int) (n : Nat) (ca : Option Addr) (cc b : Nat) (i : Int) (w : World) (hn : n ≤ xs.length) (h16 : n ≤ 16) (hr : View w ca n xs) (hb : w.cell? ⟨b, 0, none⟩ = some (.int .i64 i)) :
    Calls Try.prog 49 #[.slice ca n cc, .func (.func 18) #[] #[.pointer (some ⟨b, 0, none⟩)]] w fun e w' => GivesNo (xs.take n) i e ∧ w = w' := by
  have HO := fun (m : Int) => none_any m i b w hb
  have HR := Lib.hid hr
  have HN := Lib.hid hn
  clear hr hb hn
  go_enter Try.func49, Try.ntmps49
  go_wp2_with fail
  go_loopw [8] (fun i' wr => ∃ k : Nat, i' = .int .i64 k ∧ k ≤ n ∧ w = wr ∧ ∀ j, j < k → (decide (xs.getD j 0 < 0) || decide (i ≤ xs.getD j 0)) = false) (fun i' _ => n - (intOf i').toNat)
  case atStart => exact ⟨0, rfl, by omega, by first | rfl | trivial, fun j hj => by omega⟩
  case round =>
    obtain ⟨k, rfl, hk, rfl, hall⟩ := hrel
    by_cases hlt : k < n
    · obtain ⟨g, o, rfl, hrow⟩ := HR.out.resolve_left (by omega)
      have h1 := hrow k hlt
      generalize hx : xs.getD k 0 = x at h1
      have HXX := Lib.hid hx
      have HA := Lib.hid hall
      clear hx hall hrow
      cases hxi : (decide (x < 0) || decide (i ≤ x))
      · go_wp2_with (go_at_call 18; refine (HO x).mono ?_; rw [hxi]; rintro e w1 ⟨rfl, rfl⟩)
        refine ⟨⟨k + 1, by simp, by omega, by first | rfl | trivial, fun j hj => ?_⟩, by simp [intOf]; omega⟩
        by_cases hjk : j = k
        · subst hjk
          rw [HXX.out]
          exact hxi
        · exact HA.out j (by omega)
      · go_wp2_with (go_at_call 18; refine (HO x).mono ?_; rw [hxi]; rintro e w1 ⟨rfl, rfl⟩)
        go_ret
        refine ⟨⟨k, rfl, ?_⟩, rfl⟩
        have hk2 : k < (xs.take n).length := by rw [List.length_take]; have := HN.out; omega
        rw [List.any_eq_true.2 ⟨x, ?_, hxi⟩]
        · simp
        · rw [← HXX.out, ← getD_take _ _ _ hlt]
          rw [List.getD_eq_getElem?_getD, List.getElem?_eq_getElem hk2]
          exact List.getElem_mem _
    · have hke : k = n := by omega
      subst hke
      have HA := Lib.hid hall
      clear hall
      go_wp2_with fail
      go_ret
      refine ⟨⟨-1, rfl, ?_⟩, rfl⟩
      rw [List.any_eq_false.2 ?_]
      · rfl
      · intro m hm
        obtain ⟨j, hj, e⟩ := List.getElem_of_mem hm
        have hj2 : j < k := by rw [List.length_take] at hj; omega
        have := HA.out j hj2
        rw [← getD_take _ _ _ hj2, List.getD_eq_getElem?_getD, List.getElem?_eq_getElem hj] at this
        simp only [Option.getD_some, e] at this
        simp [this]
set_option maxRecDepth 100000 in
set_option maxHeartbeats 1000000 in
theorem containsNo_any (xs : List Int) (n : Nat) (ca : Option Addr) (cc b : Nat) (i : Int) (w : World) (hn : n ≤ xs.length) (h16 : n ≤ 16) (hr : View w ca n xs) (hb : w.cell? ⟨b, 0, none⟩ = some (.int .i64 i)) :
    Calls Try.prog 19 #[.slice ca n cc, .func (.func 18) #[] #[.pointer (some ⟨b, 0, none⟩)]] w fun e w' => e = .returned (.bool ((xs.take n).any (fun m => decide (m < 0) || decide (i ≤ m)))) ∧ w = w' := by
  have HI := indexNo_any xs n ca cc b i w hn h16 hr hb
  clear hr hb hn
  go_enter Try.func19, Try.ntmps19
  go_wp2_with (go_at_call 49; refine HI.mono ?_; rintro e w1 ⟨⟨k, rfl, hk⟩, rfl⟩; have HK := Lib.hid hk; clear hk)
  go_ret
  exact ⟨by rw [← HK.out]; rfl, rfl⟩
end Go.Proofs.Ytglhfofofacekaa
