/- handles: a table's handles, gone over by the library's iterator; collected. -/
import Derived.Test.YtglhfofofacekaaHdM
import Derived.RangeFuncBox
import Derived.RangeFuncLeaves
import Derived.RangeFuncMany
import Derived.RangeFuncNested
import Derived.RangeFuncCalls
import Derived.Shelf.Abstract
import Derived.OwnWalkIn
import Derived.TacticsInMore
import Derived.LoopNIn
import Derived.LoopIn
import Derived.RegionIn
import Derived.Sort.MapsRangeIn
import Derived.Maps.AppendAt
set_option linter.unusedVariables false
set_option linter.unusedSimpArgs false
namespace Go.Proofs.Ytglhfofofacekaa
open Go.RowKit Go.Shelf
attribute [local go_sem] Oper.semAt_some

section
variable {F : Fence} {n : Nat} {ops : Array Oper} {rest : List Oper} {o : Oper} {a : Act} {Q : Exit → Act → World → Prop}
theorem wpListIn_range_H (w : World) (hg : o.guard = none) (m : Operand) (hop : o.op = Op.range 56 m) (b : Nat) (T : List Hd) (hm : a.eval m = .map (some b)) (h : HMap w b T)
    (hK : ∀ w', HRange w' b w.heap.size T (Maps.has (dT T)) (Maps.size (dT T)) → w.grownBy w' none → w'.heap.size = w.heap.size + 1 → wpListIn F n Try.prog ops Q rest (a.put o.dst (.pointer (some ⟨w.heap.size, 0, none⟩))) w') :
    wpListIn F n Try.prog ops Q (o :: rest) a w := by
  refine wpListIn_plain hg fun K' hK' => ?_
  obtain ⟨w', hrun, r1, r2, r3⟩ := h.range
  unfold Oper.wpIn
  refine ⟨by simp [Oper.about, hop], ?_⟩
  rw [Oper.semAt_plain F _ _ (by rw [hop]; intro c hc'; cases hc')]
  simp [execOp, hop, hm, hrun, Result.andThen]
  exact hK' _ _ (hK w' r1 r2 r3)
theorem wpListIn_next_H (w : World) (hg : o.guard = none) (it : Operand) (hop : o.op = Op.next it false) (b r : Nat) (T : List Hd) (left : Lit → Bool) (cnt : Nat) (hit : a.eval it = .pointer (some ⟨r, 0, none⟩)) (h : HRange w b r T left cnt) (hT : Rise T)
    (hDone : cnt = 0 → (∀ kl, left kl = false) → wpListIn F n Try.prog ops Q rest (a.put o.dst (.tuple #[.bool false])) w)
    (hMore : ∀ (x : Hd) (w' : World) (cnt' : Nat), x ∈ T → left (.int .i64 x.h) = true → HRange w' b r T (fun kl => left kl && !kl.sameKey (.int .i64 x.h)) cnt' → cnt' < cnt → w.grownBy w' (some r) → w'.heap.size = w.heap.size →
      (Instr.entry (.pointer (some ⟨r, 0, none⟩))).run Try.prog w' = .ok (.tuple #[.int .i64 x.h, x.v]) w' →
      wpListIn F n Try.prog ops Q rest (a.put o.dst (.tuple #[.bool true, .int .i64 x.h, x.v])) w') :
    wpListIn F n Try.prog ops Q (o :: rest) a w := by
  refine wpListIn_plain hg fun K' hK' => ?_
  unfold Oper.wpIn
  refine ⟨by simp [Oper.about, hop], ?_⟩
  rw [Oper.semAt_plain F _ _ (by rw [hop]; intro c hc'; cases hc')]
  rcases h.next hT o.type with ⟨h0, hl, hrun⟩ | ⟨x, w', cnt', hx, hlk, hrun, hrg, hlt, hgr, hsz, hen⟩
  · simp [execOp, hop, hit, hrun, Result.andThen]
    exact hK' _ _ (hDone h0 hl)
  · simp [execOp, hop, hit, hrun, Result.andThen]
    exact hK' _ _ (hMore x w' cnt' hx hlk hrg hlt hgr hsz hen)
end

/-- Those that have come. -/
def came (left : Lit → Bool) (T : List Hd) : List Hd := T.filter fun x => !left (.int .i64 x.h)
theorem came_start {T : List Hd} (hr : Rise T) : came (Maps.has (dT T)) T = [] := by
  apply List.filter_eq_nil_iff.2
  intro x hx
  rw [has_dT, at?_of_mem hr hx]
  simp
theorem came_end {left : Lit → Bool} (T : List Hd) (h : ∀ kl, left kl = false) : came left T = T := by
  apply List.filter_eq_self.2
  intro x _
  rw [h]
  rfl
theorem came_step (left : Lit → Bool) (x : Hd) (hl : left (.int .i64 x.h) = true) : ∀ (T : List Hd), Rise T → x ∈ T → (came (fun kl => left kl && !kl.sameKey (.int .i64 x.h)) T).Perm (x :: came left T)
  | [], _, hx => by simp at hx
  | y :: r, hr, hx => by
    obtain ⟨h1, h2⟩ := List.pairwise_cons.1 hr
    unfold came
    by_cases e : y.h = x.h
    · have hy : y = x := by
        have e1 := at?_of_mem hr hx
        have e2 := at?_of_mem hr (show y ∈ y :: r by simp)
        rw [e] at e2
        exact Option.some.inj (e2.symm.trans e1)
      subst hy
      rw [List.filter_cons_of_pos (by simp [same_int]), List.filter_cons_of_neg (by simp [hl])]
      refine List.Perm.of_eq ?_
      congr 1
      apply List.filter_congr
      intro z hz
      have := h1 z hz
      have hne : ¬ z.h = y.h := by omega
      simp [same_int, hne]
    · have hx' : x ∈ r := by
        rcases List.mem_cons.1 hx with rfl | hx
        · exact absurd rfl e
        · exact hx
      have ih := came_step left x hl r h2 hx'
      unfold came at ih
      cases hy : left (.int .i64 y.h)
      · rw [List.filter_cons_of_pos (by simp [hy]), List.filter_cons_of_pos (by simp [hy])]
        exact (ih.cons y).trans (List.Perm.swap x y _)
      · rw [List.filter_cons_of_neg (by simp [hy, same_int, e]), List.filter_cons_of_neg (by simp [hy])]
        exact ih

set_option maxRecDepth 100000 in
set_option maxHeartbeats 1000000 in
theorem values1_in (F : Fence) (n : Nat) (hf : F.fn 66) (hro : F.round = none) (hn : 1 ≤ n) (l Bm b : Nat) (T : List Hd) (hT : Rise T) (J Jx : List Hd → World → Prop)
    (hY : ∀ pre x W, J pre W → pre.length < T.length → YieldAt F (n - 1) Try.prog l #[Hd.v x] W fun e W' =>
      (e = .returned (.bool true) ∧ J (pre ++ [x]) W' ∧ KeepsWalks W W') ∨ (e = .returned (.bool false) ∧ Jx (pre ++ [x]) W'))
    (W : World) (hJ : AbidesFrom W.heap.size J) (hm : W.cell? ⟨Bm, 0, none⟩ = some (.map (some b))) (hown : HMap W b T) (h0 : J [] W) :
    CallsIn F n Try.prog 66 #[.func (.yield l) #[] #[], .pointer (some ⟨Bm, 0, none⟩)] W fun e W' => (∃ v, e = .returned v) ∧
      ((∃ xs, xs.Perm T ∧ J xs W') ∨ (∃ pre, True ∧ Jx pre W')) := by
  have hTl : Maps.size (dT T) = T.length := by simp [Maps.size]
  refine callsIn_of_wp Try.func66 rfl hf ?_ hro
  simp only [Try.ntmps66, List.size_toArray, List.length_cons, List.length_nil, Nat.reduceAdd, Nat.reduceSub, Array.replicate_succ, Array.replicate_zero, List.push_toArray, List.append_toArray, List.nil_append, List.cons_append]
  gi_wp2_with (first
    | (gi_at_range; refine wpListIn_range_H _ rfl _ rfl b T rfl hown ?_; intro w0 hrg0 hg0 hs0)
    | gi_in)
  go_frame
  gi_loopw [4] (fun _ wr => ∃ (left : Lit → Bool) (cnt : Nat) (ps : List Hd), HRange wr b W.heap.size T left cnt ∧ ps.length + cnt ≤ T.length ∧ ps.Perm (came left T) ∧ J ps wr)
    (fun _ wr => wr.rangeLeft b W.heap.size)
  case atStart =>
    exact ⟨_, _, [], hrg0, by rw [hTl]; simp, by rw [came_start hT], hJ [] W w0 none h0 hg0 (fun r e => by cases e)⟩
  case round =>
    obtain ⟨left, cnt, ps, hrg, hcs, hC, hJs⟩ := hrel
    gi_wp2_with (first
      | (gi_at_next; refine wpListIn_next_H _ rfl _ rfl b W.heap.size T left cnt rfl hrg hT ?_ ?_)
      | gi_in)
    · intro hc0 hl0
      gi_wp2
      go_end0
      exact ⟨⟨_, rfl⟩, .inl ⟨ps, by rw [came_end T hl0] at hC; exact hC, hJs⟩⟩
    · rintro ⟨xh, xr, xrep, xown, xlends, xcall⟩ w2 cnt2 hx hlk hrg2 hlt hg2 hs2 hen
      have hJ2 : J ps w2 := hJ _ wr w2 (some W.heap.size) hJs hg2 (fun r e => by cases e; exact ⟨Nat.le_refl _, World.ranges.iter_walk hrg⟩)
      have hJ3' : J ps (w2.alloc (.cells #[.int .i64 xh, .int .i64 xr, .int .i64 xrep, .bool xown, .int .i64 xlends, .int .i64 xcall] 68)) := hJ _ w2 _ none hJ2 (World.grownBy_alloc w2 _ none) (fun r e => by cases e)
      obtain ⟨fn, tmps, assign, body, hy, hR⟩ := hY ps ⟨xh, xr, xrep, xown, xlends, xcall⟩ _ hJ3' (by omega)
      dsimp only [Hd.v] at hy
      have HP := Lib.hid (And.intro hx (And.intro hlk (And.intro hrg2 (And.intro hcs hC))))
      clear hs2 hx hlk hcs hC hJ2 hJ3' hJs hg2
      gi_wp2
      refine hR.mono ?_
      have hC2 : (ps ++ [(⟨xh, xr, xrep, xown, xlends, xcall⟩ : Hd)]).Perm (came (fun kl => left kl && !kl.sameKey (.int .i64 xh)) T) := ((List.perm_append_comm).trans (HP.out.2.2.2.2.cons _)).trans (came_step left _ HP.out.2.1 T hT HP.out.1).symm
      have hrg3' := World.ranges.alloc HP.out.2.2.1 (.cells #[.int .i64 xh, .int .i64 xr, .int .i64 xrep, .bool xown, .int .i64 xlends, .int .i64 xcall] 68)
      rintro e W3 (⟨rfl, hJ3, hk3⟩ | ⟨rfl, hJx3⟩)
      · gi_wp2
        have hrg3 := hrg3'.of_walks hk3
        go_roundw
        case rel => exact ⟨_, cnt2, _, hrg3, by have := HP.out.2.2.2.1; simp; omega, hC2, hJ3⟩
        case measure => rw [World.ranges.left_eq hrg3, World.ranges.left_eq hrg]; exact hlt
      · gi_wp2
        refine bodyPost_ret (results_none rfl _ _ _) rfl ?_
        exact ⟨⟨_, rfl⟩, .inr ⟨_, trivial, hJx3⟩⟩
end Go.Proofs.Ytglhfofofacekaa
