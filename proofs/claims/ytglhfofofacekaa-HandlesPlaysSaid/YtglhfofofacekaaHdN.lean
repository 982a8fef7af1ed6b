/- handles: what was lent is given back. -/
import Derived.Test.YtglhfofofacekaaHdM
set_option linter.unusedVariables false
set_option linter.unusedSimpArgs false
namespace Go.Proofs.Ytglhfofofacekaa
open Go.RowKit

/-- A loop over what is lent for a call. -/
structure LRange (w : World) (b r : Nat) (L : List (Int × Int)) (left : Lit → Bool) (cnt : Nat) : Prop where
  wf : ∀ p ∈ L, plcWf p
  own : ∃ D, w.ranges Try.prog 86 RV b r L.length D left cnt ∧ (∀ p, plcWf p → D.atKey (plcL p) (.held (.int .i64 0)) = .held (.int .i64 (L.count p))) ∧ (∀ kl, Maps.has D kl = true → ∃ p ∈ L, kl = plcL p)
  sub : ∀ kl, left kl = true → ∃ p ∈ L, kl = plcL p
theorem LMap.range {w : World} {b : Nat} {L : List (Int × Int)} (h : LMap w b L) :
    ∃ w' left cnt, (Instr.range 81 (.map (some b))).run Try.prog w = .ok (.pointer (some ⟨w.heap.size, 0, none⟩)) w' ∧ LRange w' b w.heap.size L left cnt ∧ (∀ p ∈ L, left (plcL p) = true) ∧ w.grownBy w' none ∧ w'.heap.size = w.heap.size + 1 := by
  obtain ⟨D, ho, hat, hhas⟩ := h.own
  obtain ⟨w', h1, h2, h3, h4⟩ := World.ownsMap.range ho keyP under_mapP
  refine ⟨w', _, _, h1, ⟨h.wf, ⟨D, h2, hat, hhas⟩, hhas⟩, fun p hp => ?_, h3, h4⟩
  · cases hh : Maps.has D (plcL p)
    · have := Maps.atKey_of_not_has hh (.held (.int .i64 0))
      rw [hat p (h.wf p hp)] at this
      simp only [DataW.held.injEq, Value.int.injEq, true_and] at this
      have hc : 0 < L.count p := List.count_pos_iff.2 hp
      omega
    · rfl
theorem LRange.next {w : World} {b r : Nat} {L : List (Int × Int)} {left : Lit → Bool} {cnt : Nat} (h : LRange w b r L left cnt) (ty : TypeId) :
    (cnt = 0 ∧ (∀ kl, left kl = false) ∧ (Instr.next (.pointer (some ⟨r, 0, none⟩)) false ty).run Try.prog w = .ok (.tuple #[.bool false]) w) ∨
    ∃ p w' cnt', p ∈ L ∧ left (plcL p) = true ∧ (Instr.next (.pointer (some ⟨r, 0, none⟩)) false ty).run Try.prog w = .ok (.tuple #[.bool true, plc p, .int .i64 (L.count p)]) w' ∧
      LRange w' b r L (fun kl => left kl && !kl.sameKey (plcL p)) cnt' ∧ cnt' < cnt ∧ w.grownBy w' (some r) ∧ w'.heap.size = w.heap.size ∧ (Instr.entry (.pointer (some ⟨r, 0, none⟩))).run Try.prog w' = .ok (.tuple #[plc p, .int .i64 (L.count p)]) w' := by
  obtain ⟨D, hr, hat, hhas⟩ := h.own
  rcases World.ranges.next hr keyP ty with h1 | ⟨key, v, kl, y, w', cnt', hkey, hlk, hv, ha, hrun, hrg, hlt, hgr, hsz, hen⟩
  · exact .inl h1
  · obtain ⟨p, hp, rfl⟩ := h.sub kl hlk
    obtain rfl := keyP.inj hkey (keyOf_place p (h.wf p hp))
    have ha' := ha (.held (.int .i64 0))
    rw [hat p (h.wf p hp)] at ha'
    cases hv
    injection ha' with ha'
    subst ha'
    refine .inr ⟨p, w', cnt', hp, hlk, hrun, ⟨h.wf, ⟨D, hrg, hat, hhas⟩, fun kl hk => h.sub kl ?_⟩, hlt, hgr, hsz, hen⟩
    simp at hk
    exact hk.1
theorem LRange.kept {w w' : World} {b r : Nat} {L : List (Int × Int)} {left : Lit → Bool} {cnt : Nat} {row : Option Nat} (h : LRange w b r L left cnt) (hg : w.grownBy w' row) (h1 : some b ≠ row) (h2 : some r ≠ row) : LRange w' b r L left cnt := by
  obtain ⟨D, hr, x⟩ := h.own
  exact ⟨h.wf, ⟨D, World.ranges.kept hr hg h1 h2, x⟩, h.sub⟩
theorem LRange.left_eq {w : World} {b r : Nat} {L : List (Int × Int)} {left : Lit → Bool} {cnt : Nat} (h : LRange w b r L left cnt) : w.rangeLeft b r = cnt := by
  obtain ⟨D, hr, x⟩ := h.own
  exact World.ranges.left_eq hr
section
variable {ops : Array Oper} {rest : List Oper} {o : Oper} {a : Act} {Q : Exit → Act → World → Prop}
theorem wpList_range_L (w : World) (hg : o.guard = none) (m : Operand) (hop : o.op = Op.range 81 m) (b : Nat) (L : List (Int × Int)) (hm : a.eval m = .map (some b)) (h : LMap w b L)
    (hK : ∀ w' left cnt, LRange w' b w.heap.size L left cnt → (∀ p ∈ L, left (plcL p) = true) → w.grownBy w' none → w'.heap.size = w.heap.size + 1 → wpList Try.prog ops Q rest (a.put o.dst (.pointer (some ⟨w.heap.size, 0, none⟩))) w') :
    wpList Try.prog ops Q (o :: rest) a w := by
  refine wpList_plain hg fun K' hK' => ?_
  obtain ⟨w', left, cnt, hrun, r1, r2, r3, r4⟩ := h.range
  unfold Oper.wp
  simp [execOp, hop, hm, hrun, Result.andThen]
  exact hK' _ _ (hK w' left cnt r1 r2 r3 r4)
theorem wpList_next_L (w : World) (hg : o.guard = none) (it : Operand) (hop : o.op = Op.next it false) (b r : Nat) (L : List (Int × Int)) (left : Lit → Bool) (cnt : Nat) (hit : a.eval it = .pointer (some ⟨r, 0, none⟩)) (h : LRange w b r L left cnt)
    (hDone : cnt = 0 → (∀ kl, left kl = false) → wpList Try.prog ops Q rest (a.put o.dst (.tuple #[.bool false])) w)
    (hMore : ∀ (p : Int × Int) (w' : World) (cnt' : Nat), p ∈ L → left (plcL p) = true → LRange w' b r L (fun kl => left kl && !kl.sameKey (plcL p)) cnt' → cnt' < cnt → w.grownBy w' (some r) → w'.heap.size = w.heap.size →
      (Instr.entry (.pointer (some ⟨r, 0, none⟩))).run Try.prog w' = .ok (.tuple #[.agg #[.int .i64 p.1, .int .i64 p.2], .int .i64 (L.count p)]) w' →
      wpList Try.prog ops Q rest (a.put o.dst (.tuple #[.bool true, .agg #[.int .i64 p.1, .int .i64 p.2], .int .i64 (L.count p)])) w') :
    wpList Try.prog ops Q (o :: rest) a w := by
  refine wpList_plain hg fun K' hK' => ?_
  unfold Oper.wp
  rcases h.next o.type with ⟨h0, hl, hrun⟩ | ⟨p, w', cnt', hx, hlk, hrun, hrg, hlt, hgr, hsz, hen⟩
  · simp [execOp, hop, hit, hrun, Result.andThen]
    exact hK' _ _ (hDone h0 hl)
  · simp [execOp, hop, hit, hrun, Result.andThen]
    exact hK' _ _ (hMore p w' cnt' hx hlk hrg hlt hgr hsz hen)
end

/-- A table behind what was given back of it. -/
def backT (L : List (Int × Int)) (left : Lit → Bool) (i : Int) (T : List Hd) : List Hd := T.map fun x => cond (left (plcL (i, x.h))) x { x with lends := x.lends - L.count (i, x.h) }
theorem backT_h (L : List (Int × Int)) (left : Lit → Bool) (i : Int) (T : List Hd) : (backT L left i T).map (·.h) = T.map (·.h) := by
  unfold backT
  rw [List.map_map]
  apply List.map_congr_left
  intro x _
  simp only [Function.comp_apply]
  cases left (plcL (i, x.h)) <;> rfl
theorem rise_of_h {T T' : List Hd} (h : T'.map (·.h) = T.map (·.h)) (hr : Rise T) : Rise T' := by
  have h1 : (T.map (·.h)).Pairwise (· < ·) := List.pairwise_map.2 hr
  rw [← h] at h1
  exact List.pairwise_map.1 h1
theorem putT_map (x : Hd) : ∀ (T : List Hd), Rise T → (∃ y ∈ T, y.h = x.h) → putT x T = T.map (fun y => if y.h = x.h then x else y)
  | [], _, h => by obtain ⟨y, hy, _⟩ := h; simp at hy
  | y :: r, hr, h => by
    obtain ⟨h1, h2⟩ := List.pairwise_cons.1 hr
    have same : ∀ r' : List Hd, (∀ z ∈ r', x.h < z.h) → r'.map (fun y => if y.h = x.h then x else y) = r' := by
      intro r' hr'
      rw [List.map_congr_left (g := id) (fun z hz => by rw [if_neg (by have := hr' z hz; omega)]; rfl), List.map_id]
    unfold putT
    obtain ⟨z, hz, hzx⟩ := h
    rcases List.mem_cons.1 hz with rfl | hz'
    · rw [if_neg (by omega), if_pos hzx.symm, List.map_cons, if_pos hzx, same r (fun u hu => by have := h1 u hu; omega)]
    · have := h1 z hz'
      rw [if_neg (by omega), if_neg (by omega), List.map_cons, if_neg (by omega), putT_map x r h2 ⟨z, hz', hzx⟩]
theorem backT_start (L : List (Int × Int)) (left : Lit → Bool) (i : Int) (T : List Hd) (h : ∀ p ∈ L, left (plcL p) = true) : backT L left i T = T := by
  unfold backT
  rw [List.map_congr_left (g := id), List.map_id]
  intro x _
  by_cases hm : (i, x.h) ∈ L
  · rw [h _ hm]; rfl
  · rw [List.count_eq_zero_of_not_mem hm]
    cases left (plcL (i, x.h)) <;> simp
theorem backT_step (L : List (Int × Int)) (left : Lit → Bool) (i : Int) (T : List Hd) (hr : Rise T) (hw : ∀ y ∈ T, wf64 y.h) (hi : wf64 i) (x : Hd) (hx : x ∈ T) (hl : left (plcL (i, x.h)) = true) :
    putT { x with lends := x.lends - L.count (i, x.h) } (backT L left i T) = backT L (fun kl => left kl && !kl.sameKey (plcL (i, x.h))) i T := by
  rw [putT_map _ _ (rise_of_h (backT_h L left i T) hr) ?_]
  · unfold backT
    rw [List.map_map]
    apply List.map_congr_left
    intro y hy
    simp only [Function.comp_apply]
    by_cases e : y.h = x.h
    · have hyx : y = x := by
        have h1 := at?_of_mem hr hx
        have h2 := at?_of_mem hr hy
        rw [e] at h2
        exact Option.some.inj (h2.symm.trans h1)
      subst hyx
      rw [hl, WideAt.sameKey_self (keyP.key (keyOf_place _ ⟨hi, hw y hy⟩))]
      simp
    · have hne : (plcL (i, y.h)).sameKey (plcL (i, x.h)) = false := Maps.sameKey_ne (fun h => e (by have := plcL_inj ⟨hi, hw y hy⟩ ⟨hi, hw x hx⟩ h; injection this))
      rw [hne]
      simp only [Bool.not_false, Bool.and_true]
      cases left (plcL (i, y.h)) <;> simp [e]
  · refine ⟨x, ?_, rfl⟩
    unfold backT
    exact List.mem_map.2 ⟨x, hx, by rw [hl]; rfl⟩
theorem backT_other (L : List (Int × Int)) (left : Lit → Bool) (i j h : Int) (T : List Hd) (hw : ∀ y ∈ T, wf64 y.h) (hi : wf64 i) (hj : wf64 j) (hh : wf64 h) (hne : j ≠ i) : backT L (fun kl => left kl && !kl.sameKey (plcL (i, h))) j T = backT L left j T := by
  unfold backT
  apply List.map_congr_left
  intro y hy
  have hn : (plcL (j, y.h)).sameKey (plcL (i, h)) = false := Maps.sameKey_ne (fun e => hne (by have := plcL_inj ⟨hj, hw y hy⟩ ⟨hi, hh⟩ e; injection this))
  simp [hn]
theorem at?_backT (L : List (Int × Int)) (left : Lit → Bool) (i : Int) (T : List Hd) (hr : Rise T) (x : Hd) (hx : x ∈ T) (hl : left (plcL (i, x.h)) = true) : at? (backT L left i T) x.h = some x := by
  have : x ∈ backT L left i T := by
    unfold backT
    exact List.mem_map.2 ⟨x, hx, by rw [hl]; rfl⟩
  exact at?_of_mem (rise_of_h (backT_h L left i T) hr) this

/-- Tables lie among the blocks that there are. -/
theorem TbR.low {F : Nat → Prop} {a : Nat} {w : World} {S : Tb} {H : TbH} (h : TbR F a w S H) : TbR (fun b => F b ∧ b < w.heap.size) a w S H :=
  { h with
    fa := ⟨h.fa, h.head.lt⟩
    ft := ⟨h.ft, h.tbl.lt⟩
    fm := fun g hg => ⟨h.fm g hg, by obtain ⟨c, f, q⟩ := row_kind h.mks g hg; exact (Array.getElem?_eq_some_iff.1 q).1⟩
    fc := fun g hg => ⟨h.fc g hg, by obtain ⟨c, f, q⟩ := row_kind h.calls g hg; exact (Array.getElem?_eq_some_iff.1 q).1⟩
    fb := fun b hb => ⟨h.fb b hb, by
      rcases List.mem_append.1 hb with hb1 | hb1
      · obtain ⟨j, hj, rfl⟩ := List.getElem_of_mem hb1
        have := (h.maps j (by rw [← h.nb]; exact hj)).lt
        rwa [List.getD_eq_getElem?_getD, List.getElem?_eq_getElem hj] at this
      · obtain ⟨j, hj, rfl⟩ := List.getElem_of_mem hb1
        have := (h.lents j (by rw [← h.nl]; exact hj)).lt
        rwa [List.getD_eq_getElem?_getD, List.getElem?_eq_getElem hj] at this⟩ }
end Go.Proofs.Ytglhfofofacekaa
