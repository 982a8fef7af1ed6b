/- handles: the reference's Leave, walked. -/
import Derived.Test.YtglhfofofacekaaHfL
set_option linter.unusedVariables false
set_option linter.unusedSimpArgs false
namespace Go.Proofs.Ytglhfofofacekaa
open Go.RowKit

theorem RfR.oneAt {w0 : World} {G : Nat → Prop} {b : Nat} {w : World} {R : Rf} {J : RfH} (h : RfR w0 G b w R J) {g lc : Nat} (e : J.lv = .slice (some ⟨g, 0, none⟩) R.L.length lc) {q : Nat} (hq : q < R.L.length) : OneAt w g (q * 7) (R.L.getD q one0) := by
  obtain ⟨la, lc', e1, hrow⟩ := one_row h.lr
  obtain ⟨g', rfl, hc⟩ := hrow.resolve_left (by omega)
  rw [e] at e1
  injection e1 with e1 _ _
  injection e1 with e1
  injection e1 with e1 _ _
  subst e1
  exact hc q hq
theorem RfR.lenAt {w0 : World} {G : Nat → Prop} {b : Nat} {w : World} {R : Rf} {J : RfH} (h : RfR w0 G b w R J) {g lc : Nat} (e : J.ev = .slice (some ⟨g, 0, none⟩) R.ev.length lc) {q : Nat} (hq : q < R.ev.length) : LenAt w g (q * 3) (R.ev.getD q len0) := by
  obtain ⟨la, lc', e1, hrow⟩ := len_row h.er
  obtain ⟨g', rfl, hc⟩ := hrow.resolve_left (by omega)
  rw [e] at e1
  injection e1 with e1 _ _
  injection e1 with e1
  injection e1 with e1 _ _
  subst e1
  exact hc q hq
set_option maxRecDepth 100000 in
set_option maxHeartbeats 16000000 in
theorem RfF.leave {w0 : World} {G : Nat → Prop} {b : Nat} {w : World} {S : Tb} {N : Nat} (h : RfF w0 G b w S N) (hN : N < 1000) :
    Calls Try.prog 38 #[.pointer (some ⟨b, 0, none⟩)] w fun e w' => e = .returned (.int .i64 (leaveS S).1) ∧ RfF w0 G b w' (leaveS S).2 (N + 1) ∧ Kept G w w' := by
  obtain ⟨R, J, hR, hrel⟩ := h.at'
  have HST := Lib.hid (h.stay hN)
  have HOK := Lib.hid h.ok.leave
  obtain ⟨ca, cc, ecv, hcrow⟩ := int_row hR.cr
  obtain ⟨la, lc, elv, hlrow⟩ := one_row hR.lr
  obtain ⟨va, vc, eev, herow⟩ := len_row hR.er
  have c2 := hR.cells.2.2.1
  have c3 := hR.cells.2.2.2.1
  have c4 := hR.cells.2.2.2.2
  have hcl : R.cs.length = S.cl.length := by rw [hrel.cs, List.length_map]
  rw [ecv, hcl] at c3
  rw [elv] at c2
  rw [eev] at c4
  by_cases h0 : S.cl.length = 0
  · have e : leaveS S = (20, S) := by unfold leaveS; rw [if_pos h0]
    have h0' : (((S.cl.length : Nat) : Int) == 0) = true := by rw [h0]; rfl
    rw [e]
    clear h hR hrel hcl ecv elv eev h0 HOK hcrow hlrow herow e
    generalize S.cl.length = cn at c3 h0'
    generalize R.L.length = ln at c2
    generalize R.ev.length = en at c4
    go_enter Try.func38, Try.ntmps38
    go_wp2_with fail
    go_ret
    exact ⟨rfl, HST.out⟩
  · obtain ⟨p, hp⟩ : ∃ p, S.cl.length = p + 1 := ⟨S.cl.length - 1, by omega⟩
    have h0' : (((S.cl.length : Nat) : Int) == 0) = false := beq_eq_false_iff_ne.2 (by omega)
    have HNO : Hid (borB S.tb ((p + 1 : Nat) : Int) = true → leaveS S = (18, S)) := Lib.hid (fun hb => by unfold leaveS; rw [if_neg h0, hp, if_pos hb])
    have HEND : Hid (borB S.tb ((p + 1 : Nat) : Int) = false → (leaveS S).1 = 0 ∧ ∀ (w2 : World) (J' : RfH), RfR w0 G b w2 { R with L := R.L.map (decH R.ev ((p + 1 : Nat) : Int)), cs := R.cs.take p, ev := leftE R.ev ((p + 1 : Nat) : Int) } J' → Kept G w w2 → RfF w0 G b w2 (leaveS S).2 (N + 1) ∧ Kept G w w2) := Lib.hid (fun hb => by
      have e : leaveS S = (0, { S with tb := givenT (S.cl.getD p (0, [])).2 S.tb, cl := S.cl.take p }) := by
        unfold leaveS
        rw [if_neg h0, hp, if_neg (by rw [hb]; decide)]
        rfl
      have hok := HOK.out
      rw [e] at hok ⊢
      exact ⟨rfl, fun w2 J' hJ hK => ⟨⟨⟨_, _, hJ, (hrel.leave hp).mono (Nat.le_succ _)⟩, hok.mono (Nat.le_succ _), fun y hy => h.new y (Nat.le_trans hK.size hy), by omega⟩, hK⟩⟩)
    have HBOR := Lib.hid (hrel.bor ((p + 1 : Nat) : Int))
    have HLD : Hid (∀ q ∈ R.L, 0 ≤ q.2.lends ∧ q.2.lends ≤ 1000) := Lib.hid (fun q hq => by
      obtain ⟨k, k1, k2, k3⟩ := hrel.a1 q hq
      have h1 := h.ok.hd k k2 _ k3
      have h2 := h1.l1
      have h3 := h1.l2
      have h4 := h.few
      omega)
    have HLE := Lib.hid (And.intro (Nat.le_trans hrel.ll h.few) (Nat.le_trans hrel.le h.few))
    have HP16 : Hid (p ≤ 16) := Lib.hid (by have := h.ok.k1; omega)
    have HNEW := Lib.hid h.new
    have HR := Lib.hid hR
    have HCV := Lib.hid ecv
    have HLV := Lib.hid elv
    have HEV := Lib.hid eev
    have HCS : Hid (R.cs.length = p + 1) := Lib.hid (by omega)
    rw [← hp] at HNO HEND HBOR
    have HCP := Lib.hid hp
    have HLROW := Lib.hid hlrow
    generalize leaveS S = es at HNO HEND ⊢
    generalize borB S.tb ((S.cl.length : Nat) : Int) = bb at HNO HEND HBOR
    clear h hR hrel hcl ecv elv eev h0 HOK hcrow hlrow herow hp
    generalize hln : R.L.length = ln at c2 HLROW HLE
    generalize hen : R.ev.length = en at c4 HLE
    have HLN := Lib.hid hln
    have HEN := Lib.hid hen
    clear hln hen
    generalize S.cl.length = cn at h0' HBOR HEND HNO c3 HCP
    go_enter Try.func38, Try.ntmps38
    go_wp2_with fail
    go_loopw [4] (fun kv wr => ∃ k : Nat, kv = .int .i64 k ∧ k ≤ ln ∧ w = wr ∧ Hid (∀ j, j < k → (R.L.getD j one0).2.call ≠ (cn : Int))) (fun kv _ => ln - (intOf kv).toNat)
    case atStart => exact ⟨0, rfl, Nat.zero_le _, rfl, Lib.hid (fun j hj => absurd hj (Nat.not_lt_zero _))⟩
    case round =>
      obtain ⟨k, rfl, hk, rfl, HA⟩ := hrel
      by_cases hlt : k < ln
      · obtain ⟨g, rfl, hc⟩ := HLROW.out.resolve_left (by omega)
        have x6 := (hc k hlt).c6
        generalize hx : (R.L.getD k one0).2.call = x at x6
        have HX := Lib.hid hx
        have HLT := Lib.hid hlt
        clear hc hk hx
        by_cases e1 : x = (cn : Int)
        · have e1' : (x == (cn : Int)) = true := by simp [e1]
          obtain rfl := HNO.out (HBOR.out.1 ⟨_, mem_getD (d := one0) (by rw [HLN.out]; exact hlt), by rw [HX.out]; exact e1⟩)
          clear e1 HEND HNO
          go_wp2_with fail
          go_ret
          exact ⟨rfl, HST.out⟩
        · have e1' : (x == (cn : Int)) = false := by simp [e1]
          have E1 := Lib.hid e1
          clear e1
          go_wp2_with fail
          rw [show wrap64 ((k : Int) + 1) = (k : Int) + 1 by have := HLE.out.1; have := HLT.out; unfold wrap64; omega]
          refine ⟨⟨k + 1, by simp, HLT.out, trivial, Lib.hid (fun j hj => ?_)⟩, by have := HLT.out; simp [intOf]; omega⟩
          by_cases hjk : j = k
          · subst hjk
            rw [HX.out]
            exact E1.out
          · exact HA.out j (by omega)
      · have hke : k = ln := by omega
        subst hke
        have hbb : bb = false := by
          cases hb : bb
          · rfl
          · obtain ⟨q, hq, e⟩ := HBOR.out.2 hb
            obtain ⟨j, hj, rfl⟩ := getD_of_mem (d := one0) hq
            exact absurd e (HA.out j (by rw [← HLN.out]; exact hj))
        have HFIN := Lib.hid (HEND.out hbb)
        clear hlt hk HEND HNO HBOR hbb HA HLROW HST
        go_wp2_with fail
        go_loopw [5, 6] (fun lv kv wr => ∃ (q : Nat) (av : Option Addr) (cp : Nat) (LE : List (Int × (Int × Int))), kv = .int .i64 q ∧ lv = .slice av LE.length cp ∧ q ≤ en ∧ Hid (LE = leftE (R.ev.take q) cn ∧ RfR w0 (fun y => G y ∧ y < w.heap.size) b wr { R with L := R.L.map (decH (R.ev.take q) cn) } J ∧ Kept G w wr ∧ wr.ownsRow w.heap.size 106 3 (.slice av LE.length cp) LE.length (LE.flatMap lenC))) (fun _ kv _ => en - (intOf kv).toNat)
        case atStart =>
          refine ⟨0, none, 0, [], rfl, rfl, Nat.zero_le _, Lib.hid ⟨rfl, ?_, Kept.refl _ _, World.ownsRow_nil _ _ _ _⟩⟩
          have := HR.out.low
          rw [List.take_zero, dec_zero]
          exact this
        case round =>
          obtain ⟨q, av, cp, LE, rfl, rfl, hq, HO⟩ := hrel
          by_cases hqt : q < en
          · obtain ⟨ge, rfl⟩ : ∃ ge, va = some ⟨ge, 0, none⟩ := by
              obtain ⟨va', vc', e1, hrow⟩ := len_row HR.out.er
              obtain ⟨ge, e2, _⟩ := hrow.resolve_left (by have := HEN.out; omega)
              rw [HEV.out] at e1
              injection e1 with e1 _ _
              exact ⟨ge, e1.trans e2⟩
            have d4 := HO.out.2.1.cells.2.2.2.2
            rw [HEV.out, HEN.out] at d4
            obtain ⟨t0, t1, t2⟩ := HO.out.2.1.lenAt (g := ge) (lc := vc) HEV.out (q := q) (by show q < R.ev.length; rw [HEN.out]; exact hqt)
            have hqe : q < R.ev.length := by rw [HEN.out]; exact hqt
            have HYES := Lib.hid (fun h => left_yes R.ev cn q hqe h)
            have HLNO := Lib.hid (fun h => left_no R.ev cn q hqe h)
            have HSKIP := Lib.hid (fun h => dec_skip R.ev cn q hqe h R.L)
            have HSTEP := Lib.hid (fun h => dec_step R.ev cn q hqe h R.L)
            dsimp only at t0 t1 t2
            generalize htq : R.ev.getD q len0 = t at t0 t1 t2 HYES HLNO HSKIP HSTEP
            have HTQ := Lib.hid htq
            clear htq
            obtain ⟨ti, ⟨tj, th⟩⟩ := t
            dsimp only at t0 t1 t2 HYES HLNO HSKIP HSTEP
            have HQT := Lib.hid hqt
            have hwq : wrap64 ((q : Int) + 1) = (q : Int) + 1 := by have h1 := HLE.out.2; unfold wrap64; omega
            have HWQ := Lib.hid hwq
            clear hq hqe hwq c4
            by_cases e1 : ti = (cn : Int)
            · have e1' : (ti != (cn : Int)) = false := by simp [e1]
              have E1 := Lib.hid e1
              have HLD2 : Hid (∀ j, j < R.L.length → -1000 ≤ ((R.L.map (decH (R.ev.take q) cn)).getD j one0).2.lends ∧ ((R.L.map (decH (R.ev.take q) cn)).getD j one0).2.lends ≤ 1000) := Lib.hid (fun j hj => dec_lends hj (by rw [List.length_take]; have := HEN.out; have := HLE.out.2; omega) HLD.out)
              have HT := HTQ
              clear e1
              go_wp2_with fail
              have HLML : Hid ((R.L.map (decH (R.ev.take q) cn)).length = k) := Lib.hid (by rw [List.length_map]; exact HLN.out)
              generalize hLM : R.L.map (decH (R.ev.take q) cn) = LM at HLD2 HLML HSTEP HO
              have HLMQ := Lib.hid hLM
              clear hLM t0 t1 t2 d4
              go_loopw [7] (fun jv wi => ∃ j : Nat, jv = .int .i64 j ∧ j ≤ k ∧ Hid (RfR w0 (fun y => G y ∧ y < w.heap.size) b wi { R with L := updN (ti, (tj, th)) j LM } J ∧ Kept G w wi ∧ wi.ownsRow w.heap.size 106 3 (.slice av LE.length cp) LE.length (LE.flatMap lenC))) (fun jv _ => k - (intOf jv).toNat)
              case atStart => exact ⟨0, rfl, Nat.zero_le _, Lib.hid ⟨by rw [updN_zero]; exact HO.out.2.1, HO.out.2.2.1, HO.out.2.2.2⟩⟩
              case round =>
                obtain ⟨j, rfl, hj, HJ⟩ := hrel
                have d2 := HJ.out.1.cells.2.2.1
                rw [HLV.out, HLN.out] at d2
                by_cases hjt : j < k
                · obtain ⟨g, rfl⟩ : ∃ g, la = some ⟨g, 0, none⟩ := by
                    obtain ⟨la', lc', e2, hrow⟩ := one_row HR.out.lr
                    obtain ⟨g, e3, _⟩ := hrow.resolve_left (by have := HLN.out; omega)
                    rw [HLV.out] at e2
                    injection e2 with e2 _ _
                    exact ⟨g, e2.trans e3⟩
                  have d4 := HJ.out.1.cells.2.2.2.2
                  rw [HEV.out, HEN.out] at d4
                  have hlenU : (updN (ti, (tj, th)) j LM).length = R.L.length := by rw [updN_len, HLML.out, HLN.out]
                  have HELV : Hid (J.lv = .slice (some ⟨g, 0, none⟩) (updN (ti, (tj, th)) j LM).length lc) := Lib.hid (by rw [hlenU]; exact HLV.out)
                  have HJU : Hid (j < (updN (ti, (tj, th)) j LM).length) := Lib.hid (by rw [hlenU, HLN.out]; exact hjt)
                  have HJL : Hid (j < LM.length) := Lib.hid (by rw [HLML.out]; exact hjt)
                  obtain ⟨x0, x1, x2, x3, x4, x5, x6⟩ := HJ.out.1.oneAt HELV.out HJU.out
                  have t0 := HJ.out.1.lenAt (g := ge) (lc := vc) HEV.out (q := q) (by show q < R.ev.length; rw [HEN.out]; exact HQT.out)
                  have t1 := t0.c1
                  have t2 := t0.c2
                  dsimp only at x0 x1 x5 t1 t2
                  rw [updN_at HJL.out] at x0 x1 x5
                  rw [HT.out] at t1 t2
                  have HB := HLD2.out j (by rw [HLN.out]; exact hjt)
                  have HNO := Lib.hid (fun h => updN_no (t := (ti, (tj, th))) HJL.out h)
                  have HYE := Lib.hid (fun h => updN_yes (t := (ti, (tj, th))) HJL.out h)
                  dsimp only at t1 t2 HB HNO HYE
                  generalize LM.getD j one0 = pp at x0 x1 x5 HB HNO HYE
                  obtain ⟨pi, ⟨ph, pr, prep, pown, pl, pc⟩⟩ := pp
                  dsimp only at x0 x1 x5 HB HNO HYE
                  have HJT := Lib.hid hjt
                  have hqe2 : q < en := HQT.out
                  have HWJ : Hid (wrap64 ((j : Int) + 1) = (j : Int) + 1) := Lib.hid (by have h1 := HLE.out.1; unfold wrap64; omega)
                  have hwl : wrap64 (pl - 1) = pl - 1 := by unfold wrap64; omega
                  clear hj t0 x2 x3 x4 x6 hlenU HB
                  by_cases m1 : pi = tj
                  · by_cases m2 : ph = th
                    · have m1' : (pi == tj) = true := by simp [m1]
                      have m2' : (ph == th) = true := by simp [m2]
                      have HM := Lib.hid (And.intro m1 m2)
                      clear m1 m2
                      go_wp2_with fail
                      go_quiet (fail)
                      have HJ2 : Hid (RfR w0 (fun y => G y ∧ y < w.heap.size) b (wr.drewN nq) { R with L := updN (ti, (tj, th)) j LM } J ∧ Kept G w (wr.drewN nq) ∧ (wr.drewN nq).ownsRow w.heap.size 106 3 (.slice av LE.length cp) LE.length (LE.flatMap lenC)) := Lib.hid ⟨HJ.out.1.kept (F := fun _ => False) (Kept.of_below (below_drewN (Below.refl _ _) _)) (fun _ _ e => e) (fun _ e => e.elim), HJ.out.2.1.trans (Kept.of_below (below_drewN (Below.refl _ _) _)), ownsRow_kept HJ.out.2.2 (Kept.of_below (F := fun _ => False) (below_drewN (Below.refl _ _) _)) (fun _ _ e => e)⟩
                      have HX5 : Hid ((wr.drewN nq).cell? ⟨g, j * 7 + 5, none⟩ = some (.int .i64 pl)) := Lib.hid x5
                      clear x0 x1 x5 d2 d4 t1 t2 HJ
                      generalize wr.drewN nq = wi at HJ2 HX5 ⊢
                      have x5 := HX5.out
                      have d2 := HJ2.out.1.cells.2.2.1
                      rw [HLV.out, HLN.out] at d2
                      have f5 : wi.frozen? ⟨g, j * 7 + 5, none⟩ = false := by
                        have hlr := HJ2.out.1.lr
                        rw [HELV.out] at hlr
                        exact hlr.frozenAt _
                      have HZ := Lib.hid (HJ2.out.1.setLends HELV.out HJU.out (pl - 1))
                      go_wp2
                      go_region
                      have HR3 : Hid (RfR w0 (fun y => G y ∧ y < w.heap.size) b (wi.setCell ⟨g, j * 7 + 1 + 4, none⟩ (.int .i64 (pl - 1))).drew { R with L := updN (ti, (tj, th)) (j + 1) LM } J) := Lib.hid (by
                        rw [HYE.out HM.out]
                        exact HZ.out.1.kept (F := fun _ => False) (Kept.refl _ _).drew (fun _ _ e => e) (fun _ e => e.elim))
                      have HK3 : Hid (Kept G w (wi.setCell ⟨g, j * 7 + 1 + 4, none⟩ (.int .i64 (pl - 1))).drew) := Lib.hid ((HJ2.out.2.1.trans (HZ.out.2.mono (fun y hy => hy.1))).drew)
                      have HE3 : Hid ((wi.setCell ⟨g, j * 7 + 1 + 4, none⟩ (.int .i64 (pl - 1))).drew.ownsRow w.heap.size 106 3 (.slice av LE.length cp) LE.length (LE.flatMap lenC)) := Lib.hid (ownsRow_kept HJ2.out.2.2 HZ.out.2.drew (fun y hy e => by have h1 := (World.ownsRow.lt HJ2.out.2.2 y hy).1; have h2 := e.2; omega))
                      generalize (wi.setCell ⟨g, j * 7 + 1 + 4, none⟩ (.int .i64 (pl - 1))).drew = wz at HR3 HK3 HE3 ⊢
                      go_wp2
                      rw [HWJ.out]
                      exact ⟨⟨j + 1, by simp, HJT.out, Lib.hid ⟨HR3.out, HK3.out, HE3.out⟩⟩, by have := HJT.out; simp [intOf]; omega⟩
                    · have m1' : (pi == tj) = true := by simp [m1]
                      have m2' : (ph == th) = false := by simp [m2]
                      have M2 := Lib.hid m2
                      clear m1 m2
                      go_wp2_with fail
                      go_quiet (fail)
                      go_wp2
                      rw [HWJ.out]
                      exact ⟨⟨j + 1, by simp, HJT.out, Lib.hid ⟨by rw [HNO.out (fun q => M2.out q.2)]; exact HJ.out.1.kept (F := fun _ => False) (Kept.of_below (below_drewN (Below.refl _ _) _)) (fun _ _ e => e) (fun _ e => e.elim), HJ.out.2.1.trans (Kept.of_below (below_drewN (Below.refl _ _) _)), ownsRow_kept HJ.out.2.2 (Kept.of_below (F := fun _ => False) (below_drewN (Below.refl _ _) _)) (fun _ _ e => e)⟩⟩, by have := HJT.out; simp [intOf]; omega⟩
                  · have m1' : (pi == tj) = false := by simp [m1]
                    have M1 := Lib.hid m1
                    clear m1
                    go_wp2_with fail
                    go_quiet (fail)
                    go_wp2
                    rw [HWJ.out]
                    exact ⟨⟨j + 1, by simp, HJT.out, Lib.hid ⟨by rw [HNO.out (fun q => M1.out q.1)]; exact HJ.out.1.kept (F := fun _ => False) (Kept.of_below (below_drewN (Below.refl _ _) _)) (fun _ _ e => e) (fun _ e => e.elim), HJ.out.2.1.trans (Kept.of_below (below_drewN (Below.refl _ _) _)), ownsRow_kept HJ.out.2.2 (Kept.of_below (F := fun _ => False) (below_drewN (Below.refl _ _) _)) (fun _ _ e => e)⟩⟩, by have := HJT.out; simp [intOf]; omega⟩
                · have hje : j = k := by omega
                  subst hje
                  clear hjt hj
                  go_wp2_with fail
                  rw [HWQ.out]
                  refine ⟨⟨q + 1, av, cp, LE, by simp, rfl, HQT.out, Lib.hid ⟨?_, ?_, HJ.out.2.1, HJ.out.2.2⟩⟩, by have := HQT.out; simp [intOf]; omega⟩
                  · rw [HLNO.out E1.out]; exact HO.out.1
                  · rw [← HSTEP.out E1.out, ← updN_all, HLML.out]
                    exact HJ.out.1
            · have e1' : (ti != (cn : Int)) = true := by simp [e1]
              have E1 := Lib.hid e1
              obtain ⟨i0, hti, hz0, hz1, hz2⟩ := info_parts info_len
              have HBN : Hid (Below wr.heap.size wr (wr.alloc (.cells #[.int .i64 ti, .int .i64 tj, .int .i64 th] 106))) := Lib.hid ((Below.refl _ wr).alloc (Nat.le_refl _) _)
              have HOWN : Hid ((wr.alloc (.cells #[.int .i64 ti, .int .i64 tj, .int .i64 th] 106)).ownsRow w.heap.size 106 3 (.slice av LE.length cp) LE.length (LE.flatMap lenC)) := Lib.hid (HO.out.2.2.2.alloc _)
              have HSZ : Hid (w.heap.size ≤ (wr.alloc (.cells #[.int .i64 ti, .int .i64 tj, .int .i64 th] 106)).heap.size) := Lib.hid (Nat.le_trans HO.out.2.2.1.size HBN.out.size)
              have NEWS := Lib.hid (news_len wr (ti, (tj, th)) 106)
              have HLL : Hid (LE.length ≤ 1000) := Lib.hid (by
                rw [HO.out.1]
                exact Nat.le_trans (List.length_filter_le _ _) (Nat.le_trans (by rw [List.length_take]; omega) (Nat.le_trans (Nat.le_of_eq HEN.out) HLE.out.2)))
              have HR1 : Hid (LE.length + 1 ≤ maxLen) := Lib.hid (by have := HLL.out; unfold maxLen; omega)
              have HR2 : Hid ((LE.length + 1) * 24 ≤ 140737488355328) := Lib.hid (by have := HLL.out; omega)
              clear e1
              go_wp2_with (first
                | (at_builtin; refine wpList_append_lies _ rfl _ _ 58 rfl w.heap.size 106 i0 (.agg #[.int .i64 0, .int .i64 0, .int .i64 0]) 3 24 Try.underlying58 hti hz0 hz1 hz2 rfl (by decide) _ LE.length (LE.flatMap lenC) rfl HOWN.out ⟨wr.heap.size, 0, none⟩ 1 1 (lenC (ti, (tj, th))) rfl rfl NEWS.out (one_len _) (by decide) HR1.out HR2.out HSZ.out _ rfl ?_; intro g5 cap5 w5 hown5 hg5 hat5 hlt5; have Q5 := Lib.hid (And.intro hown5 hg5); clear hown5 hg5 hat5 hlt5))
              rw [HWQ.out]
              refine ⟨⟨q + 1, some ⟨g5, 0, none⟩, cap5, LE ++ [(ti, (tj, th))], by simp, by simp, HQT.out, Lib.hid ⟨?_, ?_, ?_, ?_⟩⟩, by have := HQT.out; simp [intOf]; omega⟩
              · rw [HYES.out E1.out, HO.out.1]
              · rw [HSKIP.out E1.out]
                exact (HO.out.2.1.below HBN.out).kept (Kept.grow Q5.out.2) (fun y hy e => by have := (World.ownsRow.lt HOWN.out y e.symm).1; have := hy.2; omega) (fun y e => Nat.le_trans HR.out.base.size (World.ownsRow.lt HOWN.out y e.symm).1)
              · exact (HO.out.2.2.1.new _).grown Q5.out.2 (fun y hy e => by have := (World.ownsRow.lt HOWN.out y e.symm).1; omega)
              · have := Q5.out.1
                rw [List.flatMap_append, List.length_append]
                simpa using this
          · have hqe : q = en := by omega
            subst hqe
            have HN2 : Hid (Below w0.heap.size w0 w) := Lib.hid HR.out.base
            have d4 := HO.out.2.1.cells.2.2.2.2
            rw [HEV.out, HEN.out] at d4
            have hLE := HO.out.1
            have hRX := HO.out.2.1
            rw [show R.ev.take q = R.ev from List.take_of_length_le (by rw [HEN.out]; exact Nat.le_refl _)] at hLE hRX
            have hRG : RfR w0 G b wr { R with L := R.L.map (decH R.ev cn) } J := hRX.mono (fun y hy => hy.1) HR.out.gB
            have zE := hRG.newE (C := w.heap.size) HR.out.head.lt HNEW.out (L' := LE) HO.out.2.2.2
            have HZE := Lib.hid zE
            have q4 := hRG.head.cell 4
            have f4 := hRG.head.frozen 4
            simp at q4
            rw [HEV.out, HEN.out] at q4
            have q3 := zE.1.cells.2.2.2.1
            rw [HCV.out, HCS.out, ← HCP.out] at q3
            have hb3 := zE.1.head.frozen 3
            have HLEQ := Lib.hid hLE
            have HWC : Hid (wrap64 ((cn : Int) - 1) = (p : Int)) := Lib.hid (by have h1 := HCP.out; have h2 := HP16.out; unfold wrap64; omega)
            have hpc : cn ≤ cc ∧ ∃ gc, ca = some ⟨gc, 0, none⟩ := by
              have hcr := HR.out.cr
              rw [HCV.out, HCS.out, ← HCP.out] at hcr
              rcases hcr.2 with ⟨_, e0⟩ | ⟨gc, cap, cur, e1, _, _, h4, _⟩
              · have := HCP.out; omega
              · injection e1 with e1 _ e3
                exact ⟨by rw [e3]; exact h4, gc, e1⟩
            obtain ⟨hcc, gc, rfl⟩ := hpc
            have hwc : wrap64 ((cn : Int) - 1) = (p : Int) := HWC.out
            have hpcc : p ≤ cc := by have := HCP.out; omega
            clear hqt hq hLE hRX hRG zE d4 c2 c3 c4
            go_wp2_with fail
            go_ret
            have zC := HZE.out.1.lessC (p := p) (gc := gc) (cc := cc) HCS.out (by show J.cv = _; rw [HCV.out, HCS.out])
            have hfin := HFIN.out.2 _ _ (by rw [← HLEQ.out]; exact zC.1) ((HO.out.2.2.1.trans HZE.out.2).trans zC.2)
            rw [HFIN.out.1]
            exact ⟨rfl, hfin⟩
end Go.Proofs.Ytglhfofofacekaa
