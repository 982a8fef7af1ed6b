/- handles: the reference's Lend, walked. -/
import Derived.Test.YtglhfofofacekaaHfI
set_option linter.unusedVariables false
set_option linter.unusedSimpArgs false
namespace Go.Proofs.Ytglhfofofacekaa
open Go.RowKit

theorem info_len : (Try.prog.info? 106).map (fun i => (i.zero, i.size, i.bytes)) = some (some (.agg #[.int .i64 0, .int .i64 0, .int .i64 0]), 3, 24) := by kernel_rfl
theorem one_len (t : Int × (Int × Int)) : ∀ u ∈ lenC t, u.oneCell' = true := by
  intro u hu
  simp [lenC] at hu
  rcases hu with rfl | rfl | rfl <;> rfl
theorem news_len (w : World) (t : Int × (Int × Int)) (T : TypeId) : ∀ j u, (lenC t)[j]? = some u → (w.alloc (.cells (lenC t).toArray T)).cell? ((⟨w.heap.size, 0, none⟩ : Addr).add j) = some u := by
  intro j u hj
  have hadd : (⟨w.heap.size, 0, none⟩ : Addr).add j = ⟨w.heap.size, j, none⟩ := by unfold Addr.add; split <;> simp_all
  rw [hadd, BlkAt.cell (BlkAt.new w _ T) j]
  simpa using hj
set_option maxRecDepth 100000 in
set_option maxHeartbeats 8000000 in
theorem RfF.lend {w0 : World} {G : Nat → Prop} {b : Nat} {w : World} {S : Tb} {N : Nat} (h : RfF w0 G b w S N) (hN : N < 1000) (i r hh : Int) :
    Calls Try.prog 35 #[.pointer (some ⟨b, 0, none⟩), .int .i64 i, .int .i64 r, .int .i64 hh] w fun e w' => e = .returned (.tuple #[.int .i64 (lendS S i r hh).1, .int .i64 (lendS S i r hh).2.1]) ∧ RfF w0 G b w' (lendS S i r hh).2.2 (N + 1) ∧ Kept G w w' := by
  obtain ⟨R, J, hR, hrel⟩ := h.at'
  have HF := hR.find (Nat.le_trans hrel.ll (Nat.le_trans h.few (by decide))) i r hh
  have hfo := fun z hz => hrel.found h.ok (i := i) (r := r) (hh := hh) (z := z) hz
  have HDR := Lib.hid (h.ok.lend i r hh)
  have HST := Lib.hid (h.stay hN)
  obtain ⟨ca, cc, ecv⟩ := len_of_own hR.cr
  have c3 := hR.cells.2.2.2.1
  have hcl : R.cs.length = S.cl.length := by rw [hrel.cs, List.length_map]
  rw [ecv, hcl] at c3
  unfold lendS at HDR ⊢
  cases hf : (findT S.tb i r hh).2
  · rw [hf] at hfo
    have HFO := Lib.hid hfo
    clear h hR hrel hfo HDR hcl
    simp only [Bool.false_and, Bool.false_eq_true, if_false]
    generalize S.cl.length = cn at c3
    go_enter Try.func35, Try.ntmps35
    go_wp2_with (go_at_call 60; refine HF.mono ?_; rintro e w' ⟨⟨z, rfl, hz⟩, rfl⟩; obtain rfl := (HFO.out z hz).2 rfl; clear hz)
    go_ret2
    exact ⟨rfl, HST.out⟩
  · obtain ⟨k, x, rfl, hk, ha, hr, he⟩ := findT_yes hf
    rw [hf] at hfo HDR
    rw [he] at hfo HDR ⊢
    obtain ⟨hxT, hxh⟩ := at?_mem ha
    by_cases e0 : S.cl.length = 0
    · have e0' : (((S.cl.length : Nat) : Int) == 0) = true := by rw [e0]; rfl
      rw [decide_eq_false (show ¬ S.cl.length ≠ 0 by omega)]
      have HFO := Lib.hid hfo
      clear h hR hrel hfo HDR hcl e0 hf ha he hr
      simp only [Bool.and_false, Bool.false_eq_true, if_false]
      generalize S.cl.length = cn at c3 e0'
      go_enter Try.func35, Try.ntmps35
      go_wp2_with (go_at_call 60; refine HF.mono ?_; rintro e w' ⟨⟨z, rfl, hz⟩, rfl⟩; obtain ⟨q, rfl, hq, hp⟩ := (HFO.out z hz).1 rfl; clear hz hp)
      go_ret2
      exact ⟨rfl, HST.out⟩
    · have e0' : (((S.cl.length : Nat) : Int) == 0) = false := beq_eq_false_iff_ne.2 (fun q => e0 (by exact_mod_cast q))
      rw [decide_eq_true (show S.cl.length ≠ 0 from e0)] at HDR ⊢
      simp only [Bool.and_self, if_true, Int.toNat_natCast] at HDR ⊢
      have hxo := h.ok.hd k hk x hxT
      have HXB := Lib.hid (show 0 ≤ x.lends ∧ x.lends ≤ 1000 from ⟨hxo.l1, by have h1 := hxo.l2; have h2 := h.few; omega⟩)
      obtain ⟨la, lc, elv, hrow⟩ := one_row hR.lr
      obtain ⟨va, vc, eev⟩ := len_of_own hR.er
      have HEV := Lib.hid eev
      have HLV := Lib.hid elv
      have c2 := hR.cells.2.2.1
      rw [elv] at c2
      have HFO := Lib.hid hfo
      have HRO := Lib.hid hrow
      have HR := Lib.hid hR
      have HNEW := Lib.hid h.new
      have HLE := Lib.hid (And.intro (Nat.le_trans hrel.ll h.few) (Nat.le_trans hrel.le h.few))
      have HEND : Hid (∀ (w2 : World) (q : Nat) (J' : RfH), q < R.L.length → R.L.getD q one0 = ((k : Int), x) → RfR w0 G b w2 { R with L := R.L.set q (lentZ (R.L.getD q one0) (x.lends + 1)), ev := R.ev ++ [((S.cl.length : Int), ((k : Int), hh))] } J' → Kept G w w2 → RfF w0 G b w2 { S with tb := S.tb.set k (putT { x with h := hh, lends := x.lends + 1 } (S.tb.getD k [])), cl := S.cl.set (S.cl.length - 1) ((S.cl.getD (S.cl.length - 1) (0, [])).1, ((k : Int), hh) :: (S.cl.getD (S.cl.length - 1) (0, [])).2) } (N + 1) ∧ Kept G w w2) := Lib.hid (fun w2 q J' hq hp hJ hK =>
        ⟨⟨⟨_, _, hJ, hrel.lend h.ok hk hq hp hxh hxT e0⟩, HDR.out, fun y hy => h.new y (Nat.le_trans hK.size hy), by omega⟩, hK⟩)
      generalize ({ S with tb := S.tb.set k (putT { x with h := hh, lends := x.lends + 1 } (S.tb.getD k [])), cl := S.cl.set (S.cl.length - 1) ((S.cl.getD (S.cl.length - 1) (0, [])).1, ((k : Int), hh) :: (S.cl.getD (S.cl.length - 1) (0, [])).2) } : Tb) = S' at HEND ⊢
      obtain ⟨xh, xr, xrep, xown, xl, xc⟩ := x
      dsimp only at HXB HEND ⊢
      have hwl : wrap64 (xl + 1) = xl + 1 := by have h1 := HXB.out; unfold wrap64; omega
      clear h hR hrel hfo hf ha he hr hrow HDR hxh hxT hcl e0 hxo elv eev
      go_enter Try.func35, Try.ntmps35
      go_wp2_with (go_at_call 60; refine HF.mono ?_; rintro e w' ⟨⟨z, rfl, hz⟩, rfl⟩; obtain ⟨q, rfl, hq, hp⟩ := (HFO.out z hz).1 rfl; obtain ⟨g, rfl, hcs⟩ := HRO.out.resolve_left (by omega); have HCS := Lib.hid hcs; have x5 := (hcs q hq).c5; rw [hp] at x5; dsimp only at x5; have HP := Lib.hid hp; clear hz hcs hp)
      have f5 : w.frozen? ⟨g, q * 7 + 5, none⟩ = false := by
        have hlr := HR.out.lr
        rw [HLV.out] at hlr
        exact hlr.frozenAt _
      have ZZ := HR.out.setLends HLV.out hq (xl + 1)
      go_region
      have HR1 : Hid (RfR w0 G b (w.setCell ⟨g, q * 7 + 1 + 4, none⟩ (.int .i64 (xl + 1))).drew { R with L := R.L.set q (lentZ (R.L.getD q one0) (xl + 1)) } J) := Lib.hid (ZZ.1.kept (F := fun _ => False) (Kept.refl _ _).drew (fun _ _ e => e) (fun _ e => e.elim))
      have HK1 : Hid (Kept G w (w.setCell ⟨g, q * 7 + 1 + 4, none⟩ (.int .i64 (xl + 1))).drew) := Lib.hid ZZ.2.drew
      generalize (w.setCell ⟨g, q * 7 + 1 + 4, none⟩ (.int .i64 (xl + 1))).drew = wr1 at HR1 HK1 ⊢
      have p2 := HR1.out.cells.2.2.1
      have p3 := HR1.out.cells.2.2.2.1
      have p4 := HR1.out.cells.2.2.2.2
      rw [HLV.out] at p2
      rw [ecv] at p3
      rw [HEV.out] at p4
      have hcsl : R.cs.length = S.cl.length := by
        have h1 := HR.out.cells.2.2.2.1
        rw [c3, ecv] at h1
        injection h1 with h1
        injection h1 with _ h1
        exact h1.symm
      rw [hcsl] at p3
      try rw [List.length_set] at p2
      have s3 := far p3 (Below.refl _ wr1) (.cells #[.int .i64 (S.cl.length : Int), .int .i64 (k : Int), .int .i64 hh] 106)
      have s4 := far p4 (Below.refl _ wr1) (.cells #[.int .i64 (S.cl.length : Int), .int .i64 (k : Int), .int .i64 hh] 106)
      obtain ⟨i0, hti, hz0, hz1, hz2⟩ := info_parts info_len
      have HRA : Hid (RfR w0 G b (wr1.alloc (.cells #[.int .i64 (S.cl.length : Int), .int .i64 (k : Int), .int .i64 hh] 106)).drew { R with L := R.L.set q (lentZ (R.L.getD q one0) (xl + 1)) } J) := Lib.hid (HR1.out.kept (F := fun _ => False) ((Kept.refl _ wr1).new _).drew (fun _ _ e => e) (fun _ e => e.elim))
      have HKA : Hid (Kept G w (wr1.alloc (.cells #[.int .i64 (S.cl.length : Int), .int .i64 (k : Int), .int .i64 hh] 106)).drew) := Lib.hid (HK1.out.new _).drew
      have HOWN : Hid ((wr1.alloc (.cells #[.int .i64 (S.cl.length : Int), .int .i64 (k : Int), .int .i64 hh] 106)).drew.ownsRow 0 106 3 (.slice va R.ev.length vc) R.ev.length (R.ev.flatMap lenC)) := Lib.hid (by
        have := HRA.out.er
        rw [HEV.out] at this
        exact this)
      have NEWS : Hid (∀ j u, (lenC ((S.cl.length : Int), ((k : Int), hh)))[j]? = some u → (wr1.alloc (.cells #[.int .i64 (S.cl.length : Int), .int .i64 (k : Int), .int .i64 hh] 106)).drew.cell? ((⟨wr1.heap.size, 0, none⟩ : Addr).add j) = some u) := Lib.hid (news_len wr1 ((S.cl.length : Int), ((k : Int), hh)) 106)
      have HR1L : Hid (R.ev.length + 1 ≤ maxLen) := Lib.hid (by have := HLE.out.2; unfold maxLen; omega)
      have HR2L : Hid ((R.ev.length + 1) * 24 ≤ 140737488355328) := Lib.hid (by have := HLE.out.2; omega)
      clear ZZ f5 x5 hcsl c2 c3 hwl
      generalize S.cl.length = cn at p3 s3 s4 HRA HKA HOWN NEWS HEND e0'
      go_wp2_with fail
      go_region_law (first
        | (refine step_append_lies _ (by rfl) _ _ 58 (by rfl) 0 106 i0 (.agg #[.int .i64 0, .int .i64 0, .int .i64 0]) 3 24 Try.underlying58 hti hz0 hz1 hz2 rfl (by decide) (.slice va R.ev.length vc) R.ev.length (R.ev.flatMap lenC) (by rfl) HOWN.out ⟨wr1.heap.size, 0, none⟩ 1 1 (lenC ((cn : Int), ((k : Int), hh))) (by rfl) rfl NEWS.out (one_len _) (by decide) HR1L.out HR2L.out (Nat.zero_le _) _ (by rfl) ?_
           intro g5 cap5 w5 hown5 hg5 hat5 hlt5
           have q5 : BlkAt w5 b _ _ := HRA.out.head.kept (Kept.grow hg5) (fun e => own_ne_cells HOWN.out HRA.out.head (by decide) e.symm)
           have q54 := q5.cell 4
           have f54 := q5.frozen 4
           simp at q54
           rw [HEV.out] at q54
           have zz := HRA.out.putE (fun y hy => HNEW.out y (Nat.le_trans HKA.out.size hy)) (v := .slice (some ⟨g5, 0, none⟩) (R.ev.length + 1) cap5) (L' := R.ev ++ [((cn : Int), ((k : Int), hh))]) (by rw [HEV.out]; exact hg5) (by rw [List.length_append, List.flatMap_append]; simpa using hown5) (by rw [HEV.out]; exact hat5.elim (fun e => .inl e.symm) (fun e => .inr (congrArg some e)))
           have HZ := Lib.hid (And.intro zz.1 (HKA.out.trans zz.2))
           have t2 := zz.1.cells.2.2.1
           rw [HLV.out] at t2
           obtain ⟨la7, lc7, elv7, hrow7⟩ := one_row zz.1.lr
           try dsimp only at elv7
           try dsimp only at hrow7
           rw [HLV.out, List.length_set] at elv7
           injection elv7 with ea7 _ elc7
           clear elc7
           obtain ⟨g7, eg7, hcs7⟩ := hrow7.resolve_left (by rw [List.length_set]; omega)
           rw [eg7] at ea7
           injection ea7 with ea7
           injection ea7 with ea7 _ _
           have y3 := (hcs7 q (by rw [List.length_set]; exact hq)).c3
           subst ea7
           rw [set_self _ _ _ _ hq] at y3
           have y3' : (w5.setCell ⟨b, 4, none⟩ (.slice (some ⟨g5, 0, none⟩) (R.ev.length + 1) cap5)).cell? ⟨g, q * 7 + 3, none⟩ = some (.int .i64 xrep) := by
             rw [y3]
             unfold lentZ
             rw [HP.out]
           clear q5 hown5 hg5 hat5 hlt5 zz hcs7 hrow7 y3))
      all_goals go_wp2_with fail
      all_goals go_ret2
      all_goals have hh2 := HEND.out _ q _ hq HP.out HZ.out.1 HZ.out.2
      all_goals exact ⟨rfl, hh2.1, hh2.2⟩
end Go.Proofs.Ytglhfofofacekaa
