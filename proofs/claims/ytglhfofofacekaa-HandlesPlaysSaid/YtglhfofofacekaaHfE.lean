/- handles: the reference's fresh. -/
import Derived.Test.YtglhfofofacekaaHfAD
set_option linter.unusedVariables false
set_option linter.unusedSimpArgs false
namespace Go.Proofs.Ytglhfofofacekaa
open Go.RowKit

/-- What the reference's row of handles grew by. -/
theorem RfF.added {w0 : World} {G : Nat → Prop} {b : Nat} {w W w5 : World} {S : Tb} {N : Nat} {R : Rf} {J : RfH} (h : RfF w0 G b w S N) (hR : RfR w0 G b w R J) (hrel : Rel N S R) {k : Nat} (hk : k < S.tb.length) (x : Hd)
    (hr : 0 ≤ x.r ∧ x.r < S.ms.length) (hp : 0 ≤ x.rep ∧ x.rep ≤ 4294967295) (hl : x.lends = 0) (ho : x.own = decide (x.call = 0)) (hc : 0 ≤ x.call ∧ x.call ≤ S.cl.length) (hN : N < 1000) (hfull : (S.tb.getD k []).length ≠ 256)
    {bx : Nat} (hbx : w.heap.size ≤ bx) (hW : Kept (fun y => w.heap.size ≤ y) w W) {v : Value} (hg : W.grownBy w5 J.lv.ownBlock)
    (hown : w5.ownsRow 0 70 7 v (R.L.length + 1) (R.L.flatMap oneC ++ oneC ((k : Int), { x with h := freeT (S.tb.getD k []) }))) (hat : v.ownBlock = J.lv.ownBlock ∨ v.ownBlock = some W.heap.size) :
    RfF w0 G b (w5.setCell ⟨b, 2, none⟩ v) (addS S k x).2.2 (N + 1) ∧ Kept G w (w5.setCell ⟨b, 2, none⟩ v) := by
  have hRW : RfR w0 (fun y => G y ∧ y < w.heap.size) b W R J := hR.low.kept hW (fun y hy e => by have := hy.2; omega) (fun y hy => Nat.le_trans hR.base.size hy)
  have hRG : RfR w0 G b W R J := hRW.mono (fun y hy => hy.1) hR.gB
  have hnewW : ∀ y, W.heap.size ≤ y → G y := fun y hy => h.new y (Nat.le_trans hW.size hy)
  have z := hRG.putL hnewW (v := v) (L' := R.L ++ [((k : Int), { x with h := freeT (S.tb.getD k []) })]) hg (by rw [List.length_append, List.flatMap_append]; simpa using hown) hat
  have hK : Kept G w (w5.setCell ⟨b, 2, none⟩ v) := (hW.mono (fun y hy => h.new y hy)).trans z.2
  have hadd : (addS S k x).2.2 = { S with tb := S.tb.set k (putT { x with h := freeT (S.tb.getD k []) } (S.tb.getD k [])) } := by
    unfold addS
    rw [if_neg hfull]
  refine ⟨⟨?_, ?_, fun y hy => h.new y (Nat.le_trans hK.size hy), by omega⟩, hK⟩
  · rw [hadd]
    exact ⟨_, _, z.1, hrel.add h.ok hk x⟩
  · exact (h.ok.add hk x hr hp hl ho hc).mono (Nat.le_succ _)

set_option maxRecDepth 100000 in
set_option maxHeartbeats 8000000 in
theorem RfF.fresh {w0 : World} {G : Nat → Prop} {b : Nat} {w : World} {S : Tb} {N : Nat} (h : RfF w0 G b w S N) {k : Nat} (hk : k < S.tb.length) (x : Hd)
    (hr : 0 ≤ x.r ∧ x.r < S.ms.length) (hp : 0 ≤ x.rep ∧ x.rep ≤ 4294967295) (hl : x.lends = 0) (ho : x.own = decide (x.call = 0)) (hc : 0 ≤ x.call ∧ x.call ≤ S.cl.length) (hN : N < 1000) :
    Calls Try.prog 59 #[.pointer (some ⟨b, 0, none⟩), .int .i64 (k : Int), x.v] w fun e w' => e = .returned (.tuple #[.int .i64 (addS S k x).1, .int .i64 (addS S k x).2.1]) ∧ RfF w0 G b w' (addS S k x).2.2 (N + 1) ∧ Kept G w w' := by
  obtain ⟨R, J, hR, hrel⟩ := h.at'
  have hhs : handlesS S k = S.tb.getD k [] := by unfold handlesS; rw [if_pos (by simp [hasB, hk])]; rfl
  have hfr : (addS S k x).1 = (if (S.tb.getD k []).length = 256 then 0 else freeT (S.tb.getD k [])) ∧ (addS S k x).2.1 = (if (S.tb.getD k []).length = 256 then 5 else 0) := by
    unfold addS
    by_cases e : (S.tb.getD k []).length = 256
    · rw [if_pos e, if_pos e, if_pos e]; exact ⟨rfl, rfl⟩
    · rw [if_neg e, if_neg e, if_neg e]; exact ⟨rfl, rfl⟩
  rw [hfr.1, hfr.2]
  have hADD := Lib.hid (fun hfull => fun (W w5 : World) (v : Value) => fun (hW : Kept (fun y => w.heap.size ≤ y) w W) hg hown hat => h.added hR hrel hk x hr hp hl ho hc hN hfull (bx := w.heap.size) (W := W) (w5 := w5) (v := v) (Nat.le_refl _) hW hg hown hat)
  have hNO := Lib.hid (fun (hfull : (S.tb.getD k []).length = 256) (w' : World) (hb : Below w.heap.size w w') => (show RfF w0 G b w' (addS S k x).2.2 (N + 1) ∧ Kept G w w' from by
    have e : (addS S k x).2.2 = S := by unfold addS; rw [if_pos hfull]
    rw [e]
    exact ⟨(h.below hb).more (Nat.le_succ _) (by omega), Kept.of_below hb⟩))
  obtain ⟨xh, xr, xrep, xown, xl, xc⟩ := x
  dsimp only at hADD hNO ⊢
  have B0 : Below w.heap.size w (w.alloc (.cells #[.int .i64 xh, .int .i64 xr, .int .i64 xrep, .bool xown, .int .i64 xl, .int .i64 xc] 68)) := (Below.refl _ w).alloc (Nat.le_refl _) _
  have HOF := (hR.below B0).ofT hrel h.ok h.few (k : Int)
  rw [hhs] at HOF
  have hT := handlesS_ok h.ok (k : Int)
  rw [hhs] at hT
  obtain ⟨la, lc, elv⟩ := len_of_own hR.lr
  have c2 := hR.cells.2.2.1
  rw [elv] at c2
  have HLV := Lib.hid elv
  have HLR := Lib.hid hR
  have HLL := Lib.hid (Nat.le_trans hrel.ll h.few)
  clear h hrel hfr hhs hr hp hl ho hc elv hR
  generalize S.tb.getD k [] = T at hADD hNO HOF hT ⊢
  have HT := Lib.hid hT
  have Q0 := Lib.hid (BlkAt.new w #[.int .i64 xh, .int .i64 xr, .int .i64 xrep, .bool xown, .int .i64 xl, .int .i64 xc] 68)
  have HB0 := Lib.hid B0
  have hsz : (w.alloc (.cells #[.int .i64 xh, .int .i64 xr, .int .i64 xrep, .bool xown, .int .i64 xl, .int .i64 xc] 68)).heap.size = w.heap.size + 1 := by simp
  rw [hsz] at HOF
  have HS0 := Lib.hid hsz
  clear hT B0 hsz
  have HFUL : Hid (∀ n : Nat, T.length = n → (n = 256 → (if T.length = 256 then (0 : Int) else freeT T) = 0 ∧ (if T.length = 256 then (5 : Int) else 0) = 5) ∧ (n ≠ 256 → (if T.length = 256 then (0 : Int) else freeT T) = freeT T ∧ (if T.length = 256 then (5 : Int) else 0) = 0)) := Lib.hid (fun n hn => ⟨fun e => by rw [if_pos (by omega), if_pos (by omega)]; exact ⟨rfl, rfl⟩, fun e => by rw [if_neg (by omega), if_neg (by omega)]; exact ⟨rfl, rfl⟩⟩)
  generalize (if T.length = 256 then (0 : Int) else freeT T) = r1 at HFUL ⊢
  generalize (if T.length = 256 then (5 : Int) else 0) = r2 at HFUL ⊢
  show Calls Try.prog 59 #[.pointer (some ⟨b, 0, none⟩), .int .i64 (k : Int), .agg #[.int .i64 xh, .int .i64 xr, .int .i64 xrep, .bool xown, .int .i64 xl, .int .i64 xc]] w _
  go_enter Try.func59, Try.ntmps59
  by_cases hf : T.length = 256
  · obtain ⟨rfl, rfl⟩ := (HFUL.out _ rfl).1 hf
    have HF := Lib.hid hf
    have hf' : (((T.length : Nat) : Int) == 256) = true := by simp [hf]
    clear hf HFUL
    go_wp2_with (go_at_call 10; refine HOF.mono ?_; rintro e w1 ⟨v, rfl, hv, hb⟩; obtain ⟨va, vc, rfl⟩ := hv.len; have HB1 := Lib.hid (HB0.out.trans (hb.mono (by omega))))
    go_ret2
    have := hNO.out HF.out _ HB1.out
    exact ⟨rfl, this.1, this.2⟩
  · obtain ⟨rfl, rfl⟩ := (HFUL.out _ rfl).2 hf
    have HF := Lib.hid hf
    have hf' : (((T.length : Nat) : Int) == 256) = false := by simp; omega
    have HW1 : Hid (wrap64 ((T.length : Int) + 1) = (T.length : Int) + 1) := Lib.hid (by have := HT.out.1; unfold wrap64; omega)
    have HW2 : Hid (wrap64 ((T.length : Int) - 1) = (T.length : Int) - 1) := Lib.hid (by have := HT.out.1; unfold wrap64; omega)
    clear hf HFUL
    go_wp2_with (go_at_call 10; refine HOF.mono ?_; rintro e w1 ⟨v, rfl, hv, hb⟩; obtain ⟨va, vc, rfl⟩ := hv.len; have HV := Lib.hid hv; have HB1 := Lib.hid (HB0.out.trans (hb.mono (by omega))); have Q1 := Lib.hid (BlkAt.kept Q0.out (Kept.of_below (F := fun y => w.heap.size + 1 ≤ y) (by rw [HS0.out]; exact hb)) (by omega)); have y0 := Q1.out.cell 0; have f0 := Q1.out.frozen 0; simp at y0; have HS1 : Hid (w.heap.size + 1 ≤ w1.heap.size) := Lib.hid (by have := hb.size; have := HS0.out; omega); clear hv hb)
    go_loopw [9] (fun kv wr => ∃ (j : Nat) (z : Int), kv = .int .i64 z ∧ Hid (z = (j : Int) - 1 ∧ j ≤ T.length ∧ BlkAt wr w.heap.size #[.int .i64 (freeIn ((j : Int) + 1) (T.drop j)), .int .i64 xr, .int .i64 xrep, .bool xown, .int .i64 xl, .int .i64 xc] 68 ∧ Kept (· = w.heap.size) w1 wr)) (fun kv _ => (intOf kv + 1).toNat)
    case atStart =>
      refine ⟨T.length, _, rfl, Lib.hid ⟨HW2.out, Nat.le_refl _, ?_, (Kept.refl (· = w.heap.size) w1).set (p := ⟨w.heap.size, 0, none⟩) rfl _⟩⟩
      have := Q1.out.put 0 (.int .i64 ((T.length : Int) + 1))
      rw [List.drop_length, HW1.out]
      exact this
    case round =>
      clear y0 f0 HOF
      obtain ⟨j, z, rfl, HZ⟩ := hrel
      by_cases hz : 0 ≤ z
      · obtain ⟨m, rfl⟩ : ∃ m : Nat, z = m := ⟨z.toNat, by omega⟩
        have hd : decide ((0 : Int) ≤ (m : Int)) = true := decide_eq_true hz
        have HM : Hid (j = m + 1 ∧ m < T.length) := Lib.hid (by have h1 := HZ.out.1; have h2 := HZ.out.2.1; omega)
        have hrow : Hds (w.heap.size + 1) (.slice va T.length vc) T wr := ownsRow_kept HV.out HZ.out.2.2.2 (fun g hg e => by have := (World.ownsRow.lt HV.out g hg).1; omega)
        obtain ⟨ta, tc, etv, hor⟩ := hrow.row
        obtain ⟨rfl, rfl⟩ : va = ta ∧ vc = tc := by simpa using etv
        obtain ⟨g, o, rfl, hca⟩ := hor.resolve_left (by have := HM.out.2; omega)
        have c0 := (hca m HM.out.2).c0
        have hq := HZ.out.2.2.1
        have hst := free_step T m HM.out.2
        rw [HM.out.1] at hq
        generalize (T.getD m Hd.zero).h = yh at c0 hst
        have y0 := hq.cell 0
        have f0 := hq.frozen 0
        simp at y0
        have HQ := Lib.hid hq
        have HST := Lib.hid hst
        have hwm : wrap64 ((m : Int) + 1) = (m : Int) + 1 := by have h1 := HM.out.2; have h2 := HT.out.1; unfold wrap64; omega
        have hwn : wrap64 ((m : Int) - 1) = (m : Int) - 1 := by have h1 := HM.out.2; have h2 := HT.out.1; unfold wrap64; omega
        have hmT : m < T.length := HM.out.2
        clear hz hrow etv hor hca hq hst
        by_cases e1 : yh = (m : Int) + 1
        · have e1' : (yh != (m : Int) + 1) = false := by simp [e1]
          have E1 := Lib.hid e1
          clear e1
          go_wp2_with fail
          refine ⟨⟨m, _, rfl, Lib.hid ⟨by first | rfl | exact hwn, Nat.le_of_lt HM.out.2, ?_, HZ.out.2.2.2⟩⟩, by simp [intOf]; omega⟩
          rw [HST.out, if_pos E1.out]
          exact HQ.out
        · have e1' : (yh != (m : Int) + 1) = true := by simp [e1]
          have E1 := Lib.hid e1
          clear e1
          go_wp2_with fail
          refine ⟨⟨m, _, rfl, Lib.hid ⟨by first | rfl | exact hwn, Nat.le_of_lt HM.out.2, ?_, HZ.out.2.2.2.set (p := ⟨w.heap.size, 0, none⟩) rfl _⟩⟩, by simp [intOf]; omega⟩
          rw [HST.out, if_neg E1.out]
          exact HQ.out.put 0 (.int .i64 ((m : Int) + 1))
      · have HJ : Hid (j = 0) := Lib.hid (by have h1 := HZ.out.1; omega)
        have hd : decide ((0 : Int) ≤ z) = false := decide_eq_false hz
        have hq := HZ.out.2.2.1
        rw [HJ.out] at hq
        have HQ : Hid (BlkAt wr w.heap.size #[.int .i64 (freeT T), .int .i64 xr, .int .i64 xrep, .bool xown, .int .i64 xl, .int .i64 xc] 68) := Lib.hid hq
        have hlt := HQ.out.lt
        have y0 := HQ.out.cell 0
        have y1 := HQ.out.cell 1
        have y2 := HQ.out.cell 2
        have y3 := HQ.out.cell 3
        have y4 := HQ.out.cell 4
        have y5 := HQ.out.cell 5
        simp at y0 y1 y2 y3 y4 y5
        have HKW : Hid (Kept (fun y => w.heap.size ≤ y) w wr) := Lib.hid ((Kept.of_below HB1.out).trans (HZ.out.2.2.2.mono (fun y e => Nat.le_of_eq e.symm)))
        have HRW : Hid (RfR w0 (fun y => G y ∧ y < w.heap.size) b wr R J) := Lib.hid (HLR.out.low.kept HKW.out (fun y hy e => by have := hy.2; omega) (fun y hy => Nat.le_trans HLR.out.base.size hy))
        have d2 := HRW.out.cells.2.2.1
        rw [HLV.out] at d2
        have pZ := far d2 (Below.refl _ wr) (.cells #[.int .i64 (k : Int), .int .i64 (freeT T), .int .i64 xr, .int .i64 xrep, .bool xown, .int .i64 xl, .int .i64 xc] 70)
        have pY := far y0 (Below.refl _ wr) (.cells #[.int .i64 (k : Int), .int .i64 (freeT T), .int .i64 xr, .int .i64 xrep, .bool xown, .int .i64 xl, .int .i64 xc] 70)
        obtain ⟨i0, hti, hz0, hz1, hz2⟩ := info_parts info_one
        have HBW : Hid (Kept (fun y => w.heap.size ≤ y) w (wr.alloc (.cells #[.int .i64 (k : Int), .int .i64 (freeT T), .int .i64 xr, .int .i64 xrep, .bool xown, .int .i64 xl, .int .i64 xc] 70)).drew) := Lib.hid (HKW.out.new _).drew
        have HR1 : Hid (R.L.length + 1 ≤ maxLen) := Lib.hid (by have := HLL.out; unfold maxLen; omega)
        have HR2 : Hid ((R.L.length + 1) * 56 ≤ 140737488355328) := Lib.hid (by have := HLL.out; omega)
        have NEWS : Hid (∀ j u, (oneC ((k : Int), ⟨freeT T, xr, xrep, xown, xl, xc⟩))[j]? = some u → (wr.alloc (.cells #[.int .i64 (k : Int), .int .i64 (freeT T), .int .i64 xr, .int .i64 xrep, .bool xown, .int .i64 xl, .int .i64 xc] 70)).drew.cell? ((⟨wr.heap.size, 0, none⟩ : Addr).add j) = some u) := Lib.hid (news_one wr ((k : Int), ⟨freeT T, xr, xrep, xown, xl, xc⟩) 70)
        have HRA : Hid (RfR w0 (fun y => G y ∧ y < w.heap.size) b (wr.alloc (.cells #[.int .i64 (k : Int), .int .i64 (freeT T), .int .i64 xr, .int .i64 xrep, .bool xown, .int .i64 xl, .int .i64 xc] 70)).drew R J) := Lib.hid (HRW.out.kept (F := fun _ => False) ((Kept.refl _ wr).new _).drew (fun _ _ e => e) (fun _ e => e.elim))
        have HOWN : Hid ((wr.alloc (.cells #[.int .i64 (k : Int), .int .i64 (freeT T), .int .i64 xr, .int .i64 xrep, .bool xown, .int .i64 xl, .int .i64 xc] 70)).drew.ownsRow 0 70 7 (.slice la R.L.length lc) R.L.length (R.L.flatMap oneC)) := Lib.hid (by
          have := HRA.out.lr
          rw [HLV.out] at this
          exact this)
        have HAF : Hid (BlkAt (wr.alloc (.cells #[.int .i64 (k : Int), .int .i64 (freeT T), .int .i64 xr, .int .i64 xrep, .bool xown, .int .i64 xl, .int .i64 xc] 70)).drew b #[.int .i64 R.n, .slice J.ma R.ms.length J.mc, J.lv, J.cv, J.ev] 60) := Lib.hid HRA.out.head
        have HQA : Hid (BlkAt (wr.alloc (.cells #[.int .i64 (k : Int), .int .i64 (freeT T), .int .i64 xr, .int .i64 xrep, .bool xown, .int .i64 xl, .int .i64 xc] 70)).drew w.heap.size #[.int .i64 (freeT T), .int .i64 xr, .int .i64 xrep, .bool xown, .int .i64 xl, .int .i64 xc] 68) := Lib.hid (HQ.out.kept ((Kept.refl (fun _ => False) wr).new _).drew (fun e => e))
        have HNB : Hid (w.heap.size ≠ b) := Lib.hid (by have := HLR.out.head.lt; omega)
        clear hz hq hlt
        go_wp2_with fail
        go_region_law (first
          | (refine step_append_lies _ (by rfl) _ _ 57 (by rfl) 0 70 i0 (.agg #[.int .i64 0, .int .i64 0, .int .i64 0, .int .i64 0, .bool false, .int .i64 0, .int .i64 0]) 7 56 Try.underlying57 hti hz0 hz1 hz2 rfl (by decide) (.slice la R.L.length lc) R.L.length (R.L.flatMap oneC) (by rfl) HOWN.out ⟨wr.heap.size, 0, none⟩ 1 1 (oneC ((k : Int), ⟨freeT T, xr, xrep, xown, xl, xc⟩)) (by rfl) rfl NEWS.out (one_one _) (by decide) HR1.out HR2.out (Nat.zero_le _) _ (by rfl) ?_
             intro g5 cap5 w5 hown5 hg5 hat5 hlt5
             have q5 : BlkAt w5 b #[.int .i64 R.n, .slice J.ma R.ms.length J.mc, J.lv, J.cv, J.ev] 60 := HAF.out.kept (Kept.grow hg5) (fun e => own_ne_cells HOWN.out HAF.out (by decide) e.symm)
             have q52 := q5.cell 2
             have f52 := q5.frozen 2
             simp at q52
             have r5 : BlkAt (w5.setCell ⟨b, 2, none⟩ (.slice (some ⟨g5, 0, none⟩) (R.L.length + 1) cap5)) w.heap.size #[.int .i64 (freeT T), .int .i64 xr, .int .i64 xrep, .bool xown, .int .i64 xl, .int .i64 xc] 68 := (HQA.out.kept (Kept.grow hg5) (fun e => own_ne_cells HOWN.out HQA.out (by decide) e.symm)).kept ((Kept.refl (· = b) w5).set (p := ⟨b, 2, none⟩) rfl _) HNB.out
             have z0 := r5.cell 0
             simp at z0
             have Q5 := Lib.hid (And.intro hown5 (And.intro hg5 hat5))
             clear q5 hown5 hg5 hat5 hlt5 r5))
        all_goals go_wp2_with fail
        all_goals go_ret2
        all_goals have hh := hADD.out HF.out _ _ _ HBW.out (by rw [HLV.out]; exact Q5.out.2.1) Q5.out.1 (by rw [HLV.out]; exact Q5.out.2.2.elim (fun e => .inl e.symm) (fun e => .inr (congrArg some e)))
        all_goals exact ⟨rfl, hh.1, hh.2⟩
end Go.Proofs.Ytglhfofofacekaa
