/- value: ValueHandles: the walk. -/
import Derived.Test.YtikgkjkgdlnekaaGreatDoorVhJ
import Derived.Test.YtikgkjkgdlnekaaGreatDoorVhAF
import Derived.Test.YtikgkjkgdlnekaaGreatDoorVbO
import Derived.Test.YtikgkjkgdlnekaaGreatDoorVbT8
import Derived.Test.YtikgkjkgdlnekaaGreatDoorVaIn
import Derived.Test.YtikgkjkgdlnekaaGreatDoorSame
set_option linter.unusedVariables false
set_option linter.unusedSimpArgs false
namespace Go.Proofs.YtikgkjkgdlnekaaGreatDoor
open Go.RowKit
open Lex Ct

set_option maxHeartbeats 400000 in
set_option maxRecDepth 100000 in
theorem Same_longH (a c : Option Addr) (n cap cap2 : Nat) (xs : List Int) (w : World) (hn : n ≤ 100000) (ha : View w a n xs) (hc : View w c n xs) :
    Calls Tryz.prog 10 #[.slice a n cap, .slice c n cap2] w fun e w' => e = .returned (.bool true) ∧ Below w.heap.size w w' := by
  have HA := Lib.hid ha
  have HC := Lib.hid hc
  have hne : ((n : Int) != (n : Int)) = false := by simp
  clear ha hc
  go_enter Tryz.func10, Tryz.ntmps10
  go_wp2_with fail
  go_loopw [5] (fun i wr => ∃ k : Nat, i = .int .i64 k ∧ k ≤ n ∧ Below w.heap.size w wr) (fun i _ => n - (intOf i).toNat)
  case atStart => exact ⟨0, rfl, by omega, Below.refl _ _⟩
  case round =>
    obtain ⟨k, rfl, hk, hb⟩ := hrel
    by_cases hlt : k < n
    · obtain ⟨b, off, rfl, hca⟩ := HA.out.resolve_left (by omega)
      obtain ⟨d, off2, rfl, hcc⟩ := HC.out.resolve_left (by omega)
      have h1 := hca k hlt
      have h2 := hcc k hlt
      have g1 := (hb.cell (p := ⟨b, off + k, none⟩) (World.block_lt_of_cell? w _ h1)).trans h1
      have g2 := (hb.cell (p := ⟨d, off2 + k, none⟩) (World.block_lt_of_cell? w _ h2)).trans h2
      clear hca hcc h1 h2
      revert g1 g2
      generalize xs.getD k 0 = z
      intro g1 g2
      go_wp2_with fail
      go_quiet (fail)
      go_wp2
      exact ⟨⟨k + 1, by go_num, by omega, below_drewN hb _⟩, by simp [intOf]; omega⟩
    · have hke : k = n := by omega
      subst hke
      go_wp2_with fail
      go_ret
      exact ⟨rfl, hb⟩
theorem light_ltH {v : Vl} (h : lightV v = true) : LtV v := ⟨21, of_decide_eq_true h⟩
theorem qd_at : ∀ (qs : List Qd) (i : Nat) (q : Qd), qs[i]? = some q → (qs.flatMap Qd.cs)[i * 4]? = some (.int .i64 q.k) ∧ (qs.flatMap Qd.cs)[i * 4 + 3]? = some (.int .i64 q.r)
  | [], i, q, h => by simp at h
  | x :: qs, 0, q, h => by
    have e : x = q := Option.some.inj h
    subst e
    exact ⟨rfl, rfl⟩
  | x :: qs, i + 1, q, h => by
    obtain ⟨h1, h2⟩ := qd_at qs i q h
    have e : (x :: qs).flatMap Qd.cs = x.cs ++ qs.flatMap Qd.cs := by simp
    have hl : x.cs.length = 4 := rfl
    rw [e, List.getElem?_append_right (by omega), List.getElem?_append_right (by omega), hl]
    exact ⟨by rw [show (i + 1) * 4 - 4 = i * 4 by omega]; exact h1, by rw [show (i + 1) * 4 + 3 - 4 = i * 4 + 3 by omega]; exact h2⟩
/-- A row of types that was handed back: kind and number at a place. -/
theorem hand_at {w : World} {B : Nat} {qs : List Qd} {hs : List (Int × Int × Int)} {a : Option Addr} {ca : Nat} (hm : qs.map (fun q => (q.k, q.r)) = hs.map (fun h => (h.1, h.2.1))) (hc : CellRow w B (qs.flatMap Qd.cs) 4 a qs.length ca) {i : Nat} {h : Int × Int × Int} (hi : hs[i]? = some h) :
    ∃ g o, a = some ⟨g, o, none⟩ ∧ w.cell? ⟨g, o + i * 4, none⟩ = some (.int .i64 h.1) ∧ w.cell? ⟨g, o + i * 4 + 3, none⟩ = some (.int .i64 h.2.1) := by
  have hq : (qs.map (fun q => (q.k, q.r)))[i]? = some (h.1, h.2.1) := by rw [hm, List.getElem?_map, hi]; rfl
  rw [List.getElem?_map] at hq
  obtain ⟨q, hq1, hq2⟩ := Option.map_eq_some_iff.1 hq
  injection hq2 with e1 e2
  obtain ⟨c1, c2⟩ := qd_at qs i q hq1
  have hlt := (List.getElem?_eq_some_iff.1 hq1).1
  rcases hc.2.2 with e | ⟨g, o, e, _, _, hcell⟩
  · omega
  · have d1 := hcell _ _ c1
    have d2 := hcell _ _ c2
    rw [Go.WideShapes.add_plain] at d1 d2
    rw [e1] at d1
    rw [e2] at d2
    exact ⟨g, o, e, d1, by rw [Nat.add_assoc]; exact d2⟩
theorem hand_view {w : World} {B : Nat} {hs : List (Int × Int × Int)} {b : Option Addr} {cb : Nat} (hc : CellRow w B (hs.map fun h => .int .i64 h.2.2) 1 b hs.length cb) : View w b hs.length (hs.map fun h => h.2.2) := by
  rcases hc.2.2 with e | ⟨g, o, e, _, _, hcell⟩
  · exact .inl e
  · refine .inr ⟨g, o, e, fun k hk => ?_⟩
    have := hcell k (.int .i64 (hs[k]).2.2) (by rw [List.getElem?_map, List.getElem?_eq_getElem hk]; rfl)
    rw [Go.WideShapes.add_plain] at this
    rw [this, List.getD_eq_getElem?_getD, List.getElem?_map, List.getElem?_eq_getElem hk]
    rfl
set_option maxRecDepth 100000 in
set_option maxHeartbeats 8000000 in
theorem ValueHandles_walk (t : Ty) (an : Option Addr) (cn : Nat) (al : Option Addr) (cl : Nat) (v : Vl) (sa : Option Addr) (sc : Nat) (av : Option Addr) (cv : Nat) (w : World) (h : TyAt w t an cn al cl) (hf : FineT t) (hv : VlAt w v sa sc av cv) (hfv : FineV v) (htab : TabW w) :
    Calls Tryz.prog 3 #[tyV t an cn al cl, vlV v sa sc av cv] w fun y w' => y = .returned (.bool true) ∧ Kept (fun _ => False) w w' := by
  have k0 : Kept (fun _ => False) w ((w.alloc (.cells #[.int .i64 t.kind, .slice an t.names.length cn, .slice al t.l.length cl, .int .i64 t.r] 25)).alloc (.cells #[.int .i64 v.n, .slice sa v.s.length sc, .slice av v.l.length cv] 29)) := ((Kept.refl _ _).new _).new _
  have T0 := (BlkAt.new w #[.int .i64 t.kind, .slice an t.names.length cn, .slice al t.l.length cl, .int .i64 t.r] 25).kept (F := fun _ => False) ((Kept.refl _ _).new (.cells #[.int .i64 v.n, .slice sa v.s.length sc, .slice av v.l.length cv] 29)) id
  have V0 := BlkAt.new (w.alloc (.cells #[.int .i64 t.kind, .slice an t.names.length cn, .slice al t.l.length cl, .int .i64 t.r] 25)) #[.int .i64 v.n, .slice sa v.s.length sc, .slice av v.l.length cv] 29
  rw [World.size_alloc] at V0
  have HT := Lib.hid T0
  have HV := Lib.hid V0
  have HK := Lib.hid k0
  obtain ⟨t0, t1, t2, t3⟩ := box4_cells' T0
  obtain ⟨v0, v1, v2⟩ := box3_cells V0
  have HLI := Lib.hid (fun w' (k : Kept (fun _ => False) w w') => rdLight v sa sc av cv w' (hv.kept k))
  have HAW := Lib.hid (fun w' (k : Kept (fun _ => False) w w') => awake15 w' (htab.kept k))
  unfold AwkR at HAW
  by_cases hl : lightV v = true
  · rw [hl] at HLI
    have hlt := light_ltH hl
    have HR := Lib.hid (fun w' (k : Kept (fun _ => False) w w') => rdRCheck t an cn al cl v sa sc av cv w' (h.kept k) hf (hv.kept k) hlt)
    by_cases hz : chkV t v = 0
    · rw [hz] at HR
      unfold ChkR at HR
      obtain ⟨ho, hp⟩ := chk_yes hz
      have HP := Lib.hid (fun w' (k : Kept (fun _ => False) w w') => rdVHandles_yes t an cn al cl v sa sc av cv w' (h.kept k) hf (hv.kept k) hlt hz)
      have HH := Lib.hid (fun w' (k : Kept (fun _ => False) w w') => rdRHands 16 t v (okT_deep ho).1 hp hlt an cn al cl sa sc av cv w' (h.kept k) (hv.kept k))
      have hlen : (hdsR 16 t v).length ≤ 4000 := Nat.le_trans (hdsR_len 16 t v (okT_deep ho).1 hp) (partsK_le 16 t v)
      generalize hdsR 16 t v = hs at HP HH hlen
      unfold HdsR at HP HH
      clear h hf hv hfv htab hl k0 T0 V0 ho hp hz hlt
      go_enter Tryz.func3, Tryz.ntmps3
      go_wp2_with (first
        | (go_at_call 5
           refine (HLI.out _ HK.out).mono ?_
           rintro y w1 ⟨rfl, k1⟩
           have HK1 := Lib.hid (HK.out.trans k1)
           have HT1 := Lib.hid (HT.out.kept (F := fun _ => False) k1 id)
           have HV1 := Lib.hid (HV.out.kept (F := fun _ => False) k1 id)
           clear t0 t1 t2 t3 v0 v1 v2 k1
           obtain ⟨t0, t1, t2, t3⟩ := box4_cells' HT1.out
           obtain ⟨v0, v1, v2⟩ := box3_cells HV1.out)
        | (go_at_call 7
           refine (HP.out _ HK1.out).mono ?_
           rintro y w2 ⟨qs, a, ca, b, cb, rfl, hm2, hr2, hn2, k2⟩
           have hql : qs.length = hs.length := by have := congrArg List.length hm2; simpa using this
           have H2 := Lib.hid (And.intro hm2 (And.intro hr2 hn2))
           have HK2 := Lib.hid (HK1.out.trans k2)
           have HT2 := Lib.hid (HT1.out.kept (F := fun _ => False) k2 id)
           have HV2 := Lib.hid (HV1.out.kept (F := fun _ => False) k2 id)
           clear t0 t1 t2 t3 v0 v1 v2 hm2 hr2 hn2 k2
           obtain ⟨t0, t1, t2, t3⟩ := box4_cells' HT2.out
           obtain ⟨v0, v1, v2⟩ := box3_cells HV2.out)
        | (go_at_call 8
           refine (HR.out _ HK2.out).mono ?_
           rintro y w3 ⟨rfl, k3⟩
           have HK23 := Lib.hid k3
           have HK3 := Lib.hid (HK2.out.trans k3)
           have HT3 := Lib.hid (HT2.out.kept (F := fun _ => False) k3 id)
           have HV3 := Lib.hid (HV2.out.kept (F := fun _ => False) k3 id)
           clear t0 t1 t2 t3 v0 v1 v2 k3
           obtain ⟨t0, t1, t2, t3⟩ := box4_cells' HT3.out
           obtain ⟨v0, v1, v2⟩ := box3_cells HV3.out)
        | (go_at_call 9
           refine (HH.out _ HK3.out).mono ?_
           rintro y w4 ⟨qs4, a4, ca4, b4, cb4, rfl, hm4, hr4, hn4, k4⟩
           have hql4 : qs4.length = hs.length := by have := congrArg List.length hm4; simpa using this
           have hqq : ((qs.length : Int) != (qs4.length : Int)) = false := by rw [hql, hql4]; simp
           have H4 := Lib.hid (And.intro hm4 (And.intro hr4 hn4))
           have HK24 := Lib.hid (HK23.out.trans k4)
           have HK4 := Lib.hid (HK3.out.trans k4)
           clear t0 t1 t2 t3 v0 v1 v2 hm4 hr4 hn4 k4))
      clear HP HH HR HLI HT HV HT1 HV1 HT2 HV2 HT3 HV3 hqq
      go_loopw [9] (fun u wr => ∃ i : Nat, u = .int .i64 i ∧ i ≤ hs.length ∧ Hid (Kept (fun _ => False) w4 wr)) (fun u _ => hs.length - (intOf u).toNat)
      case atStart => exact ⟨0, rfl, Nat.zero_le _, Lib.hid (Kept.refl _ _)⟩
      case round =>
        obtain ⟨i, rfl, hi, hst⟩ := hrel
        by_cases hlt : i < hs.length
        · obtain ⟨x, hx⟩ : ∃ x, hs[i]? = some x := ⟨_, List.getElem?_eq_getElem hlt⟩
          obtain ⟨g, o, rfl, c1, c2⟩ := hand_at H2.out.1 (H2.out.2.1.kept (F := fun _ => False) (HK24.out.trans hst.out) (fun _ _ _ e => e)) hx
          obtain ⟨g', o', rfl, d1, d2⟩ := hand_at H4.out.1 (H4.out.2.1.kept (F := fun _ => False) hst.out (fun _ _ _ e => e)) hx
          have HLT : Hid (i + 1 ≤ hs.length) := Lib.hid hlt
          have hl1 : decide (i < qs.length) = true := decide_eq_true (by omega)
          have hl2 : decide (i < qs4.length) = true := decide_eq_true (by omega)
          have hl3 : ((i : Int) < (qs.length : Int)) = True := by simp; omega
          have hl4 : ((i : Int) < (qs4.length : Int)) = True := by simp; omega
          have hwi : IntKind.i64.wrap ((i : Int) + 1) = ((i + 1 : Nat) : Int) := by rw [IntKind.wrap_i64]; omega
          generalize x.1 = x1 at c1 d1
          generalize x.2.1 = x2 at c2 d2
          clear hx hlt hql hql4
          go_wp2_with fail
          go_quiet (fail)
          go_wp2_with fail
          exact ⟨⟨i + 1, by first | rw [hwi] | rfl, HLT.out, Lib.hid ⟨hst.out.os, hst.out.tape, hst.out.output, hst.out.size, hst.out.block⟩⟩, by have hlt := HLT.out; simp [intOf]; omega⟩
        · have hie : i = hs.length := by omega
          subst hie
          have hl1 : decide (hs.length < qs.length) = false := decide_eq_false (by omega)
          have hl3 : ((hs.length : Int) < (qs.length : Int)) = False := by simp; omega
          have HSM := Lib.hid (Same_longH b b4 hs.length cb cb4 (hs.map fun h => h.2.2) wr (by omega) (hand_view (H2.out.2.2.kept (F := fun _ => False) (HK24.out.trans hst.out) (fun _ _ _ e => e))) (hand_view (H4.out.2.2.kept (F := fun _ => False) hst.out (fun _ _ _ e => e))))
          clear hlt hql hql4 hlen
          go_wp2_with (first
            | (go_at_call 10; refine HSM.out.mono ?_; rintro y w5 ⟨rfl, b5⟩; have k5 : Kept (fun _ => False) wr w5 := Kept.of b5 (Nat.le_refl _))
            | (go_at_call 6; refine (HAW.out _ ((HK4.out.trans hst.out).trans k5)).mono ?_; rintro y w6 ⟨rfl, k6⟩))
          go_ret
          exact ⟨rfl, ((HK4.out.trans hst.out).trans k5).trans k6⟩
    · have hzb : (chkV t v != 0) = true := by simp [hz]
      have HP := Lib.hid (fun w' (k : Kept (fun _ => False) w w') => rdVHandles_no t an cn al cl v sa sc av cv w' (h.kept k) hf (hv.kept k) hlt hz)
      unfold ChkR at HR
      generalize chkV t v = z at HR hzb
      clear h hf hv hfv htab hl k0 T0 V0 hz hlt
      go_enter Tryz.func3, Tryz.ntmps3
      go_wp2_with (first
        | (go_at_call 5
           refine (HLI.out _ HK.out).mono ?_
           rintro y w1 ⟨rfl, k1⟩
           have HK1 := Lib.hid (HK.out.trans k1)
           have HT1 := Lib.hid (HT.out.kept (F := fun _ => False) k1 id)
           have HV1 := Lib.hid (HV.out.kept (F := fun _ => False) k1 id)
           clear t0 t1 t2 t3 v0 v1 v2 k1
           obtain ⟨t0, t1, t2, t3⟩ := box4_cells' HT1.out
           obtain ⟨v0, v1, v2⟩ := box3_cells HV1.out)
        | (go_at_call 7
           refine (HP.out _ HK1.out).mono ?_
           rintro y w2 ⟨rfl, k2⟩
           have HK2 := Lib.hid (HK1.out.trans k2)
           have HT2 := Lib.hid (HT1.out.kept (F := fun _ => False) k2 id)
           have HV2 := Lib.hid (HV1.out.kept (F := fun _ => False) k2 id)
           clear t0 t1 t2 t3 v0 v1 v2 k2
           obtain ⟨t0, t1, t2, t3⟩ := box4_cells' HT2.out
           obtain ⟨v0, v1, v2⟩ := box3_cells HV2.out)
        | (go_at_call 8
           refine (HR.out _ HK2.out).mono ?_
           rintro y w3 ⟨rfl, k3⟩
           have HK3 := Lib.hid (HK2.out.trans k3)
           clear t0 t1 t2 t3 v0 v1 v2 k3)
        | (go_at_call 6
           refine (HAW.out _ HK3.out).mono ?_
           rintro y w4 ⟨rfl, k4⟩))
      go_ret
      exact ⟨rfl, HK3.out.trans k4⟩
  · rw [Bool.eq_false_iff.2 hl] at HLI
    clear h hf hv hfv htab hl k0 T0 V0
    go_enter Tryz.func3, Tryz.ntmps3
    go_wp2_with (first
      | (go_at_call 5; refine (HLI.out _ HK.out).mono ?_; rintro y w1 ⟨rfl, k1⟩)
      | (go_at_call 6; refine (HAW.out _ (HK.out.trans k1)).mono ?_; rintro y w2 ⟨rfl, k2⟩))
    go_ret
    exact ⟨rfl, (HK.out.trans k1).trans k2⟩
end Go.Proofs.YtikgkjkgdlnekaaGreatDoor
