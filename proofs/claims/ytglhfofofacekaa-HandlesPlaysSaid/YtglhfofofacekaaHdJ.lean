/- handles: Enter. -/
import Derived.Test.YtglhfofofacekaaHdI
import Derived.Deep.AppendLies
set_option linter.unusedVariables false
set_option linter.unusedSimpArgs false
namespace Go.Proofs.Ytglhfofofacekaa
open Go.RowKit

def enterS (S : Tb) (i : Int) : Int × Tb :=
  if hasB S.tb.length i && !((S.cl.map (·.1)).any (fun c => c == i)) = true then
    if 16 ≤ S.cl.length then (8, S) else (0, { S with cl := S.cl ++ [(i, [])] })
  else (19, S)
theorem info_call : (Try.prog.info? 83).map (fun i => (i.zero, i.size, i.bytes)) = some (some (.agg #[.int .i64 0, .map none]), 2, 16) := by kernel_rfl
theorem one_call (i : Int) (m : Nat) : ∀ u ∈ [Value.int .i64 i, .map (some m)], u.oneCell' = true := by
  intro u hu
  simp at hu
  rcases hu with rfl | rfl <;> rfl
theorem news_call (w : World) (i : Int) (m : Nat) (T : TypeId) : ∀ j u, [Value.int .i64 i, .map (some m)][j]? = some u → (w.alloc (.cells #[.int .i64 i, .map (some m)] T)).cell? ((⟨w.heap.size, 0, none⟩ : Addr).add j) = some u := by
  intro j u hj
  have hadd : (⟨w.heap.size, 0, none⟩ : Addr).add j = ⟨w.heap.size, j, none⟩ := by unfold Addr.add; split <;> simp_all
  rw [hadd, BlkAt.cell (BlkAt.new w _ T) j]
  simpa using hj
set_option maxRecDepth 100000 in
set_option maxHeartbeats 1000000 in
theorem enter_nil (i : Int) (w : World) : Calls Try.prog 22 #[.pointer none, .int .i64 i] w fun e w' => e = .returned (.int .i64 19) ∧ Below w.heap.size w w' := by
  have HH := fun w => has_nil i w
  go_enter Try.func22, Try.ntmps22
  go_wp2_with (go_at_call 44; refine (HH _).mono ?_; rintro e w' ⟨rfl, rfl⟩)
  go_ret
  exact ⟨rfl, (Below.refl _ w).alloc (Nat.le_refl _) _⟩
theorem row_kind {w : World} {B : Nat} {e : TypeId} {m : Nat} {v : Value} {n : Nat} {xs : List Value} (h : w.ownsRow B e m v n xs) : ∀ g, v.ownBlock = some g → ∃ c fz, w.heap[g]? = some (.cells c e fz) := by
  intro g hg
  rcases h.2 with ⟨rfl, _⟩ | ⟨g', cap, cur, rfl, _, hgg, _⟩
  · simp [Value.ownBlock] at hg
  · simp [Value.ownBlock] at hg
    subst hg
    exact ⟨cur, (0, 0), hgg⟩
theorem own_ne_cells {w : World} {B : Nat} {e T : TypeId} {m : Nat} {v : Value} {n : Nat} {xs : List Value} (h : w.ownsRow B e m v n xs) {a : Nat} {cs : Array Value} (ha : BlkAt w a cs T) (hT : e ≠ T) : v.ownBlock ≠ some a := by
  intro e1
  rcases h.2 with ⟨rfl, _⟩ | ⟨g, cap, cur, rfl, _, hg, _⟩
  · cases e1
  · simp [Value.ownBlock] at e1
    subst e1
    rw [show w.heap[g]? = some (.cells cs T (0, 0)) from ha] at hg
    injection hg with hg
    injection hg with _ h2
    exact hT h2.symm
theorem TbR.has {F : Nat → Prop} {a : Nat} {w : World} {S : Tb} {H : TbH} (h : TbR F a w S H) (i : Int) :
    Calls Try.prog 44 #[.pointer (some ⟨a, 0, none⟩), .int .i64 i] w fun e w' => e = .returned (.bool (hasB S.tb.length i)) ∧ w = w' := has_any a H.tg S.tb.length H.tcap i w h.cells.2.1
theorem TbR.contains {F : Nat → Prop} {a : Nat} {w : World} {S : Tb} {H : TbH} (h : TbR F a w S H) (h16 : S.cl.length ≤ 16) (i : Int) (b : Nat) (hb : w.cell? ⟨b, 0, none⟩ = some (.int .i64 i)) :
    Calls Try.prog 52 #[H.cv, .func (.func 51) #[] #[.pointer (some ⟨b, 0, none⟩)]] w fun e w' => e = .returned (.bool ((S.cl.map (·.1)).any (fun c => c == i))) ∧ Below w.heap.size w w' := by
  obtain ⟨ca, cc, e, _, hr⟩ := h.row
  rw [e]
  exact contains_any S.cl H.ls S.cl.length ca cc b i w rfl h16 hr hb
theorem len_of_own {w : World} {B : Nat} {e : TypeId} {m : Nat} {v : Value} {n : Nat} {xs : List Value} (h : w.ownsRow B e m v n xs) : ∃ a c, v = .slice a n c := by
  rcases h.2 with ⟨rfl, rfl⟩ | ⟨g, cap, cur, rfl, _⟩
  · exact ⟨none, 0, rfl⟩
  · exact ⟨_, cap, rfl⟩

set_option maxRecDepth 100000 in
set_option maxHeartbeats 1000000 in
theorem TbR.enter_no {F : Nat → Prop} {a : Nat} {w : World} {S : Tb} {H : TbH} (h : TbR F a w S H) (i : Int) (hi : hasB S.tb.length i = false) :
    Calls Try.prog 22 #[.pointer (some ⟨a, 0, none⟩), .int .i64 i] w fun e w' => e = .returned (.int .i64 19) ∧ Below w.heap.size w w' := by
  have B0 : Below w.heap.size w (w.alloc (.cells #[.int .i64 i] 3)) := (Below.refl _ w).alloc (Nat.le_refl _) _
  have HH := (h.below B0).has i
  rw [hi] at HH
  clear h hi
  go_enter Try.func22, Try.ntmps22
  go_wp2_with (go_at_call 44; refine HH.mono ?_; rintro e w' ⟨rfl, rfl⟩)
  go_ret
  exact ⟨rfl, B0⟩
set_option maxRecDepth 100000 in
set_option maxHeartbeats 1000000 in
theorem TbR.enter_in {F : Nat → Prop} {a : Nat} {w : World} {S : Tb} {H : TbH} (h : TbR F a w S H) (h16 : S.cl.length ≤ 16) (i : Int) (hi : hasB S.tb.length i = true) (hc : (S.cl.map (·.1)).any (fun c => c == i) = true) :
    Calls Try.prog 22 #[.pointer (some ⟨a, 0, none⟩), .int .i64 i] w fun e w' => e = .returned (.int .i64 19) ∧ Below w.heap.size w w' := by
  have B0 : Below w.heap.size w (w.alloc (.cells #[.int .i64 i] 3)) := (Below.refl _ w).alloc (Nat.le_refl _) _
  have h0 := h.below B0
  have HH := h0.has i
  have HC := h0.contains h16 i w.heap.size ((BlkAt.new w _ _).cell 0)
  have q2 := h0.cells.2.2
  obtain ⟨ca, cc, e⟩ := len_of_own h.calls
  rw [hi] at HH
  rw [hc] at HC
  rw [e] at HC q2
  generalize S.cl.length = n at HC q2
  clear h h0 hi hc e h16
  go_enter Try.func22, Try.ntmps22
  go_wp2_with (first
    | (go_at_call 44; refine HH.mono ?_; rintro e w' ⟨rfl, rfl⟩)
    | (go_at_call 52; refine HC.mono ?_; rintro e w1 ⟨rfl, hb1⟩))
  go_ret
  exact ⟨rfl, B0.trans (hb1.mono B0.size)⟩
set_option maxRecDepth 100000 in
set_option maxHeartbeats 1000000 in
theorem TbR.enter_full {F : Nat → Prop} {a : Nat} {w : World} {S : Tb} {H : TbH} (h : TbR F a w S H) (h16 : S.cl.length ≤ 16) (i : Int) (hi : hasB S.tb.length i = true) (hc : (S.cl.map (·.1)).any (fun c => c == i) = false) (hf : 16 ≤ S.cl.length) :
    Calls Try.prog 22 #[.pointer (some ⟨a, 0, none⟩), .int .i64 i] w fun e w' => e = .returned (.int .i64 8) ∧ Below w.heap.size w w' := by
  have B0 : Below w.heap.size w (w.alloc (.cells #[.int .i64 i] 3)) := (Below.refl _ w).alloc (Nat.le_refl _) _
  have h0 := h.below B0
  have HH := h0.has i
  have HC := h0.contains h16 i w.heap.size ((BlkAt.new w _ _).cell 0)
  have q2 := h0.cells.2.2
  obtain ⟨ca, cc, e⟩ := len_of_own h.calls
  rw [hi] at HH
  rw [hc] at HC
  rw [e] at HC q2
  have hl2 : decide ((16 : Int) ≤ S.cl.length) = true := by simp; omega
  generalize S.cl.length = n at HC q2 hl2
  clear h h0 hi hc e h16 hf
  go_enter Try.func22, Try.ntmps22
  go_wp2_with (first
    | (go_at_call 44; refine HH.mono ?_; rintro e w' ⟨rfl, rfl⟩)
    | (go_at_call 52; refine HC.mono ?_; rintro e w1 ⟨rfl, hb1⟩; have r2 := farB q2 hb1))
  go_ret
  exact ⟨rfl, B0.trans (hb1.mono B0.size)⟩
set_option maxRecDepth 100000 in
set_option maxHeartbeats 2000000 in
theorem TbR.enter_ok {F : Nat → Prop} {a : Nat} {w : World} {S : Tb} {H : TbH} (h : TbR F a w S H) (h16 : S.cl.length ≤ 16) (i : Int) (hi : hasB S.tb.length i = true) (hc : (S.cl.map (·.1)).any (fun c => c == i) = false) (hf : ¬ 16 ≤ S.cl.length) :
    Calls Try.prog 22 #[.pointer (some ⟨a, 0, none⟩), .int .i64 i] w fun e w' => e = .returned (.int .i64 0) ∧ ∃ m v w2 w5, Below w.heap.size w w2 ∧ w.heap.size ≤ m ∧ LMap w2 m [] ∧ w2.grownBy w5 H.cv.ownBlock ∧
      w5.ownsRow 0 83 2 v (S.cl.length + 1) ((S.cl.zip H.ls).flatMap clC ++ [.int .i64 i, .map (some m)]) ∧ (v.ownBlock = H.cv.ownBlock ∨ v.ownBlock = some w2.heap.size) ∧ w' = w5.setCell ⟨a, 2, none⟩ v := by
  have B0 : Below w.heap.size w (w.alloc (.cells #[.int .i64 i] 3)) := (Below.refl _ w).alloc (Nat.le_refl _) _
  have h0 := h.below B0
  have HH := h0.has i
  have HC := h0.contains h16 i w.heap.size ((BlkAt.new w _ _).cell 0)
  have q2 := h0.cells.2.2
  have qi : (w.alloc (.cells #[.int .i64 i] 3)).cell? ⟨w.heap.size, 0, none⟩ = some (.int .i64 i) := (BlkAt.new w _ _).cell 0
  obtain ⟨ca, cc, e⟩ := len_of_own h.calls
  have HT := Lib.hid h
  have HE := Lib.hid e
  have HF := Lib.hid hf
  rw [hi] at HH
  rw [hc] at HC
  rw [e] at HC q2
  have hl2 : decide ((16 : Int) ≤ S.cl.length) = false := by simp; omega
  have hmm := @run_makeMap Try.prog
  obtain ⟨i0, hti, hz0, hz1, hz2⟩ := info_parts info_call
  clear h h0 hi hc e h16 hf
  go_enter Try.func22, Try.ntmps22
  go_wp2_with (first
    | (go_at_call 44; refine HH.mono ?_; rintro e w' ⟨rfl, rfl⟩)
    | (go_at_call 52; refine HC.mono ?_; rintro e w1 ⟨rfl, hb1⟩; have r2 := farB q2 hb1; have ri := farB qi hb1))
  have B1 : Below w.heap.size w w1 := B0.trans (hb1.mono B0.size)
  have B2 : Below w.heap.size w (w1.alloc (.map #[] 0)) := B1.alloc B1.size _
  have B3 : Below w.heap.size w ((w1.alloc (.map #[] 0)).alloc (.cells #[.int .i64 i, .map (some w1.heap.size)] 83)).drew := (B2.alloc B2.size _).drew
  have HB3 := Lib.hid B3
  have HOWN : Hid (((w1.alloc (.map #[] 0)).alloc (.cells #[.int .i64 i, .map (some w1.heap.size)] 83)).drew.ownsRow 0 83 2 (.slice ca S.cl.length cc) S.cl.length ((S.cl.zip H.ls).flatMap clC)) := by
    refine Lib.hid ?_
    have := (HT.out.below B3).calls
    rw [HE.out] at this
    exact this
  have HAF : Hid (BlkAt ((w1.alloc (.map #[] 0)).alloc (.cells #[.int .i64 i, .map (some w1.heap.size)] 83)).drew a #[H.mv, .slice (some ⟨H.tg, 0, none⟩) S.tb.length H.tcap, H.cv] 55) := Lib.hid (HT.out.below B3).head
  have HR1 : Hid (S.cl.length + 1 ≤ maxLen) := Lib.hid (by unfold maxLen; have := HF.out; omega)
  have HR2 : Hid ((S.cl.length + 1) * 16 ≤ 140737488355328) := Lib.hid (by have := HF.out; omega)
  have NEWS : Hid (∀ j u, [Value.int .i64 i, .map (some w1.heap.size)][j]? = some u → ((w1.alloc (.map #[] 0)).alloc (.cells #[.int .i64 i, .map (some w1.heap.size)] 83)).drew.cell? ((⟨w1.heap.size + 1, 0, none⟩ : Addr).add j) = some u) := by
    refine Lib.hid ?_
    have := news_call (w1.alloc (.map #[] 0)) i w1.heap.size 83
    rw [show (w1.alloc (.map #[] 0)).heap.size = w1.heap.size + 1 by simp] at this
    exact this
  have HMD : Hid (LMap ((w1.alloc (.map #[] 0)).alloc (.cells #[.int .i64 i, .map (some w1.heap.size)] 83)).drew w1.heap.size []) := Lib.hid ((LMap.made w1).next (by rw [show ((w1.alloc (.map #[] 0)).alloc (.cells #[.int .i64 i, .map (some w1.heap.size)] 83)).drew.heap = ((w1.alloc (.map #[] 0)).alloc (.cells #[.int .i64 i, .map (some w1.heap.size)] 83)).heap from rfl]; exact heap_alloc_old _ _ (by simp)))
  have HSZ : Hid (w.heap.size ≤ w1.heap.size) := Lib.hid B1.size
  have r2' : (w1.alloc (.map #[] 0)).cell? ⟨a, 2, none⟩ = some (.slice ca S.cl.length cc) := far r2 (Below.refl _ _) _
  have ri' : (w1.alloc (.map #[] 0)).cell? ⟨w.heap.size, 0, none⟩ = some (.int .i64 i) := far ri (Below.refl _ _) _
  have r2'' : ((w1.alloc (.map #[] 0)).alloc (.cells #[.int .i64 i, .map (some w1.heap.size)] 83)).cell? ⟨a, 2, none⟩ = some (.slice ca S.cl.length cc) := far r2' (Below.refl _ _) _
  clear B1 B2 B3 q2 qi HH HC B0 hb1
  go_region_law (first
      | (refine step_append_lies _ (by rfl) _ _ 53 (by rfl) 0 83 i0 (.agg #[.int .i64 0, .map none]) 2 16 Try.underlying53 hti hz0 hz1 hz2 rfl (by decide) (.slice ca S.cl.length cc) S.cl.length ((S.cl.zip H.ls).flatMap clC) (by rfl) HOWN.out ⟨w1.heap.size + 1, 0, none⟩ 1 1 [.int .i64 i, .map (some w1.heap.size)] (by rfl) rfl NEWS.out (one_call _ _) (by decide) HR1.out HR2.out (Nat.zero_le _) _ (by rfl) ?_
         intro g cap5 w5 hown5 hg5 hat5 hlt5
         have q5 : BlkAt w5 a #[H.mv, .slice (some ⟨H.tg, 0, none⟩) S.tb.length H.tcap, H.cv] 55 := HAF.out.kept (Kept.grow hg5) (fun e => own_ne_cells HOWN.out HAF.out (by decide) e.symm)
         have q52 := q5.cell 2
         have f52 := q5.frozen 2
         simp at q52
         clear q5))
  all_goals go_wp2
  all_goals go_ret
  all_goals exact ⟨rfl, w1.heap.size, _, _, w5, HB3.out, HSZ.out, HMD.out, by rw [HE.out]; exact hg5, hown5, hat5.elim (fun e => .inl (by rw [HE.out]; exact e.symm)) (fun e => .inr (congrArg some e)), rfl⟩

end Go.Proofs.Ytglhfofofacekaa
