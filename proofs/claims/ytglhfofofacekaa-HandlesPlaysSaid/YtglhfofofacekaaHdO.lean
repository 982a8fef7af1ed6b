/- handles: what was lent is given back, walked. -/
import Derived.Test.YtglhfofofacekaaHdN
set_option linter.unusedVariables false
set_option linter.unusedSimpArgs false
namespace Go.Proofs.Ytglhfofofacekaa
open Go.RowKit

/-- The tables as the loop leaves them. -/
def BackRel (F : Nat → Prop) (a : Nat) (w : World) (S : Tb) (H : TbH) (L : List (Int × Int)) (lb r : Nat) (wr : World) : Prop :=
  ∃ left cnt tb', LRange wr lb r L left cnt ∧ TbR F a wr { S with tb := tb' } H ∧ Kept F w wr ∧ tb'.length = S.tb.length ∧ ∀ i, i < S.tb.length → tb'.getD i [] = backT L left i (S.tb.getD i [])
/-- The tables behind it. -/
def BackEnd (F : Nat → Prop) (a : Nat) (w : World) (S : Tb) (H : TbH) (L : List (Int × Int)) (w' : World) : Prop :=
  ∃ tb', TbR F a w' { S with tb := tb' } H ∧ Kept F w w' ∧ tb'.length = S.tb.length ∧ ∀ i, i < S.tb.length → tb'.getD i [] = (S.tb.getD i []).map fun x => { x with lends := x.lends - L.count ((i : Int), x.h) }
theorem LRange.same {w w' : World} {b r : Nat} {L : List (Int × Int)} {left : Lit → Bool} {cnt : Nat} (h : LRange w b r L left cnt) (e1 : w'.heap[b]? = w.heap[b]?) (e2 : w'.heap[r]? = w.heap[r]?) : LRange w' b r L left cnt := by
  obtain ⟨D, ⟨es, clock, since, seen, c0, hb, F, hs, hD, hr, rest⟩, x⟩ := h.own
  exact ⟨h.wf, ⟨D, ⟨es, clock, since, seen, c0, e1.trans hb, F, hs, hD, e2.trans hr, rest⟩, x⟩, h.sub⟩
theorem LRange.lts {w : World} {b r : Nat} {L : List (Int × Int)} {left : Lit → Bool} {cnt : Nat} (h : LRange w b r L left cnt) : b < w.heap.size ∧ r < w.heap.size := by
  obtain ⟨D, hr, x⟩ := h.own
  exact ⟨(World.ranges.owns hr).lt, World.ranges.lt hr⟩
/-- A round of it, behind its walk. -/
theorem back_close {F : Nat → Prop} {a : Nat} {w wr w2 w4 w5 : World} {S : Tb} {H : TbH} {L : List (Int × Int)} {lb bk : Nat} {left : Lit → Bool} {cnt cnt2 N : Nat} {tb' : List (List Hd)} {i cn : Nat} {xh xr xrep : Int} {xown : Bool} {xlends xcall : Int}
    (HK : Kept F w wr) (HG : LRange wr lb w.heap.size L left cnt) (HTB : ∀ i, i < S.tb.length → tb'.getD i [] = backT L left i (S.tb.getD i [])) (HLEN : tb'.length = S.tb.length) (HO : TbOk N S) (HFF : ∀ b, F b → b < w.heap.size)
    (HYY : ((i : Int), xh) ∈ L ∧ left (plcL ((i : Int), xh)) = true ∧ LRange w2 lb w.heap.size L (fun kl => left kl && !kl.sameKey (plcL ((i : Int), xh))) cnt2 ∧ cnt2 < cnt ∧ wr.grownBy w2 (some w.heap.size) ∧ (⟨xh, xr, xrep, xown, xlends, xcall⟩ : Hd) ∈ S.tb.getD i [])
    (HCN : L.count ((i : Int), xh) = cn) (HIN : i < tb'.length) (HBK : F bk ∧ bk ≠ lb) (hb5 : Below w2.heap.size w2 w4) (U2 : TbR F a w5 { S with tb := tb'.set i (putT ⟨xh, xr, xrep, xown, xlends - cn, xcall⟩ (tb'.getD i [])) } H) (U3 : Kept (fun b => b = bk) w4.drew.drew w5) :
    BackRel F a w S H L lb w.heap.size w5 ∧ w5.rangeLeft lb w.heap.size < wr.rangeLeft lb w.heap.size := by
  obtain ⟨y1, y2, y3, y4, y5, y6⟩ := HYY
  have l2 := y3.lts
  have e4 : ∀ b, b < w2.heap.size → b ≠ bk → w5.heap[b]? = w2.heap[b]? := fun b hb hn =>
    (U3.block b (Nat.lt_of_lt_of_le hb hb5.size) hn).trans (hb5.block b hb)
  have hbkw := HFF bk HBK.1
  have y5' : LRange w5 lb w.heap.size L (fun kl => left kl && !kl.sameKey (plcL ((i : Int), xh))) cnt2 := y3.same (e4 lb l2.1 (fun e => HBK.2 e.symm)) (e4 _ l2.2 (by omega))
  refine ⟨⟨_, _, _, y5', U2, ?_, ?_, ?_⟩, by rw [y5'.left_eq, HG.left_eq]; exact y4⟩
  · refine ((HK.then (Kept.grow y5) (fun b hb e => by injection e with e; omega)).trans (Kept.of_below hb5)).trans ?_
    exact (((Kept.refl F w4).drew).drew).trans (U3.mono (fun b e => by rw [e]; exact HBK.1))
  · rw [List.length_set]; exact HLEN
  · intro j hj
    have hi : i < S.tb.length := by rw [← HLEN]; exact HIN
    have wfh : ∀ j, j < S.tb.length → ∀ y ∈ S.tb.getD j [], wf64 y.h := fun j hj y hy => WalkArith.wf_i64 (by have := HO.hd j hj y hy; have := this.h1; have := (HO.hd j hj y hy).h2; omega)
    have wfi : ∀ j, j < S.tb.length → wf64 (j : Int) := fun j hj => WalkArith.wf_i64 (by have := HO.n2; omega)
    by_cases e : j = i
    · subst e
      rw [show (tb'.set j (putT ⟨xh, xr, xrep, xown, xlends - cn, xcall⟩ (tb'.getD j []))).getD j [] = putT ⟨xh, xr, xrep, xown, xlends - cn, xcall⟩ (tb'.getD j []) by
        rw [List.getD_eq_getElem?_getD, List.getElem?_set_self HIN]; rfl]
      rw [HTB j hj]
      have := backT_step L left j (S.tb.getD j []) (HO.rise j hj) (wfh j hj) (wfi j hj) ⟨xh, xr, xrep, xown, xlends, xcall⟩ y6 y2
      simp only at this
      rw [HCN] at this
      exact this
    · rw [show (tb'.set i (putT ⟨xh, xr, xrep, xown, xlends - cn, xcall⟩ (tb'.getD i []))).getD j [] = tb'.getD j [] by
        simp only [List.getD_eq_getElem?_getD]; rw [List.getElem?_set_ne (fun e' => e e'.symm)]]
      rw [HTB j hj]
      exact (backT_other L left i j xh _ (wfh j hj) (wfi i hi) (wfi j hj) (wfh i hi _ y6) (by omega)).symm
set_option maxRecDepth 100000 in
set_option maxHeartbeats 4000000 in
theorem TbR.back {F : Nat → Prop} {a : Nat} {w : World} {S : Tb} {H : TbH} (h : TbR F a w S H) {N : Nat} (ok : TbOk N S) (hN : N ≤ 100000) (j : Nat) (hj : j < S.cl.length) (hF : ∀ b, F b → b < w.heap.size) :
    Calls Try.prog 56 #[.pointer (some ⟨a, 0, none⟩), .map (some (H.ls.getD j 0))] w fun e w' => e = .returned (.tuple #[]) ∧ BackEnd F a w S H (S.cl.getD j (0, [])).2 w' := by
  have HL := Lib.hid (h.lents j hj)
  have HLW := Lib.hid (ok.lw j hj)
  have HLN := Lib.hid (ok.ln j hj)
  have HT := Lib.hid h
  have HO := Lib.hid ok
  have HFF := Lib.hid hF
  have HMEM := Lib.hid (getD_mem (l := H.ls) (i := j) (by rw [h.nl]; exact hj))
  generalize hlb : H.ls.getD j 0 = lb at HL HMEM ⊢
  generalize hLn : (S.cl.getD j (0, [])).2 = L at HL HLW HLN ⊢
  have HLB := Lib.hid hlb
  clear h ok hF hj hlb hLn
  go_enter Try.func56, Try.ntmps56
  go_wp2_with (first
    | (at_range; refine wpList_range_L _ rfl _ rfl lb L rfl HL.out ?_; intro w0 left0 cnt0 hrg0 hall0 hg0 hs0))
  go_frame
  have H0 : Hid (BackRel F a w S H L lb w.heap.size w0) := Lib.hid ⟨left0, cnt0, S.tb, hrg0, HT.out.kept (G := fun b => False) ⟨hg0.os, hg0.tape, hg0.output, hg0.size, fun k hk _ => hg0.block k hk (by simp)⟩ (fun _ _ e => e), ⟨hg0.os, hg0.tape, hg0.output, hg0.size, fun k hk _ => hg0.block k hk (by simp)⟩, rfl, fun i hi => (backT_start L left0 i _ hall0).symm⟩
  clear hrg0 hall0 hg0 hs0
  go_loopw [] (fun wr => BackRel F a w S H L lb w.heap.size wr) (fun wr => wr.rangeLeft lb w.heap.size)
  case atStart => exact H0.out
  case round =>
    obtain ⟨left, cnt, tb', hrg, hT, hk, hlen, htb⟩ := hrel
    have HG := Lib.hid hrg
    have HTT := Lib.hid hT
    have HK := Lib.hid hk
    have HLEN := Lib.hid hlen
    have HTB := Lib.hid htb
    clear hrg hT hk hlen htb
    go_wp2_with (first
      | (at_next; refine wpList_next_L _ rfl _ rfl lb w.heap.size L left cnt rfl HG.out ?_ ?_))
    · intro _ hl0
      have HL0 := Lib.hid hl0
      clear hl0
      go_wp2_with fail
      refine bodyPost_void rfl rfl ⟨rfl, tb', HTT.out, HK.out, HLEN.out, fun i hi => ?_⟩
      rw [HTB.out i hi]
      unfold backT
      apply List.map_congr_left
      intro x _
      rw [HL0.out]
      rfl
    · intro p1 p2 w2 cnt2 hp hlp hrg2 hlt2 hg2 hs2 hen
      obtain ⟨i, hi1, hi, x, hx⟩ := HLW.out _ hp
      obtain rfl : p1 = (i : Int) := hi1
      have hx : at? (S.tb.getD i []) p2 = some x := hx
      have hin : i < tb'.length := by rw [HLEN.out]; exact hi
      have hTw : TbR F a w2 { S with tb := tb' } H := HTT.out.kept (G := (fun b => some b = some w.heap.size)) (Kept.grow hg2) (fun b hb e => by injection e with e; have := HFF.out b hb; omega)
      have hxm := at?_mem hx
      have hxh := HO.out.hd i hi x hxm.1
      have hlook : at? (tb'.getD i []) p2 = some x := by
        rw [HTB.out i hi]
        have := at?_backT L left i _ (HO.out.rise i hi) x hxm.1 (by rw [hxm.2]; exact hlp)
        rw [hxm.2] at this
        exact this
      have hp2 : wf64 p2 := WalkArith.wf_i64 (by have := hxh.h1; have := hxh.h2; have := hxm.2; omega)
      have hcn : L.count ((i : Int), p2) ≤ 100000 := by have h1 := List.count_le_length (a := ((i : Int), p2)) (l := L); have h2 := HLN.out; omega
      have hwr : wrap64 (x.lends - (L.count ((i : Int), p2) : Int)) = x.lends - (L.count ((i : Int), p2) : Int) := by have h1 := hxh.l1; have h2 := hxh.l2; unfold wrap64; omega
      obtain ⟨xh, xr, xrep, xown, xlends, xcall⟩ := x
      obtain rfl : xh = p2 := hxm.2
      generalize hcnn : L.count ((i : Int), xh) = cn at hcn hwr hen
      have HCN := Lib.hid hcnn
      -- the world behind 'p' and 'n'
      have HS : ∀ W, Below w2.heap.size w2 W → TbR F a W { S with tb := tb' } H := fun W hb => hTw.below hb
      have HLK : Hid (∀ W, Below w2.heap.size w2 W → W.cell? ⟨a, 1, none⟩ = some (.slice (some ⟨H.tg, 0, none⟩) tb'.length H.tcap) ∧ W.cell? ⟨H.tg, i, none⟩ = some (.map (some (H.bs.getD i 0))) ∧ (Instr.lookup 56 (.map (some (H.bs.getD i 0))) (.int .i64 xh) false).run Try.prog W = .ok (⟨xh, xr, xrep, xown, xlends, xcall⟩ : Hd).v W) := by
        refine Lib.hid ?_
        intro W hb
        have h3 := HS W hb
        have h4 := (h3.maps i hin).look1 hp2
        rw [hlook] at h4
        exact ⟨h3.cells.2.1, h3.slotCell hin, h4⟩
      have hrise : Rise (tb'.getD i []) := by rw [HTB.out i hi]; exact rise_of_h (backT_h L left i _) (HO.out.rise i hi)
      have hlen' : (tb'.getD i []).length ≤ 256 := by
        rw [HTB.out i hi]
        unfold backT
        rw [List.length_map]
        exact HO.out.len i hi
      have HUP : Hid (∀ W, Below w2.heap.size w2 W → ∃ w5, (Instr.mapUpdate 56 (.map (some (H.bs.getD i 0))) (.int .i64 xh) (⟨xh, xr, xrep, xown, xlends - cn, xcall⟩ : Hd).v).run Try.prog W = .ok () w5 ∧ TbR F a w5 { S with tb := tb'.set i (putT ⟨xh, xr, xrep, xown, xlends - cn, xcall⟩ (tb'.getD i [])) } H ∧ Kept (· = H.bs.getD i 0) W w5) := by
        refine Lib.hid ?_
        intro W hb
        have h3 := HS W hb
        obtain ⟨w5, u1, u2, u3⟩ := (h3.maps i hin).put hrise hlen' ⟨xh, xr, xrep, xown, xlends - cn, xcall⟩ hp2
        exact ⟨w5, u1, h3.turned hin (Kept.turned u3) u2, Kept.turned u3⟩
      have HBK : Hid (F (H.bs.getD i 0) ∧ H.bs.getD i 0 ≠ lb) := Lib.hid ⟨hTw.bsF hin, fun e => by
        rw [← HLB.out] at e
        exact (List.nodup_append.1 hTw.apart).2.2 _ (getD_mem (by rw [hTw.nb]; exact hin)) _ (by rw [HLB.out]; exact HMEM.out) e⟩
      have HYY := Lib.hid (And.intro hp (And.intro hlp (And.intro hrg2 (And.intro hlt2 (And.intro hg2 hxm.1)))))
      generalize H.bs.getD i 0 = bk at HLK HUP HBK
      obtain ⟨a1, a2, a3⟩ := HLK.out (w2.alloc (.cells #[.int .i64 (i : Int), .int .i64 xh] 86)) ((Below.refl _ _).alloc (Nat.le_refl _) _)
      obtain ⟨_, _, a4⟩ := HLK.out (w2.alloc (.cells #[.int .i64 (i : Int), .int .i64 xh] 86)).drew ((Below.refl _ _).alloc (Nat.le_refl _) _).drew
      have hbz : Below w2.heap.size w2 ((w2.alloc (.cells #[.int .i64 (i : Int), .int .i64 xh] 86)).alloc (boxV 0 0 0 false 0 0)) := ((Below.refl _ _).alloc (Nat.le_refl _) _).alloc (by simp) _
      obtain ⟨b1, b2, _⟩ := HLK.out _ hbz
      obtain ⟨_, _, b4⟩ := HLK.out _ hbz.drew
      have HIN := Lib.hid hin
      have htbl : tb'.length ≤ 4 := by rw [HLEN.out]; exact HO.out.n2
      clear hp hlp hrg2 hlt2 hg2 hs2 hx hxm hxh hlook hTw HS hrise hlen' hcnn hbz hi hcn
      go_wp2_with fail
      go_region
      all_goals clear a1 a2 a3 a4 b1 b2 b4
      all_goals have hb5 : Below w2.heap.size w2 ((w2.alloc (.cells #[.int .i64 (i : Int), .int .i64 xh] 86)).alloc (boxV xh xr xrep xown (xlends - cn) xcall)) := ((Below.refl _ _).alloc (Nat.le_refl _) _).alloc (by simp) _
      all_goals obtain ⟨a1, a2, _⟩ := HLK.out _ hb5
      all_goals obtain ⟨w5, u1, u2, u3⟩ := HUP.out _ hb5.drew.drew
      all_goals have U2 := Lib.hid u2
      all_goals have U3 := Lib.hid u3
      all_goals clear u2 u3
      all_goals go_wp2
      all_goals go_region
      all_goals go_wp2
      all_goals exact back_close HK.out HG.out HTB.out HLEN.out HO.out HFF.out HYY.out HCN.out HIN.out HBK.out hb5 U2.out U3.out
end Go.Proofs.Ytglhfofofacekaa
