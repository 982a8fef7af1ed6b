/- value: the reference's sum, inside. -/
import Derived.Test.YtikgkjkgdlnekaaGreatDoorVbM
import Derived.Test.YtikgkjkgdlnekaaGreatDoorVbH
import Derived.Deep.RegionHeld3
set_option linter.unusedVariables false
set_option linter.unusedSimpArgs false
namespace Go.Proofs.YtikgkjkgdlnekaaGreatDoor
open Go.RowKit
open Lex Ct

namespace Ct
theorem insO_len {t : Ty} {v : Vl} {ts : List Ty} (h : insO t v = some ts) : ts.length = v.l.length := by
  unfold insO at h
  split at h
  · split at h
    · cases h; simp
    · cases h
  · split at h
    · split at h
      · rename_i q; cases h; exact q.2.symm
      · cases h
    · split at h
      · split at h
        · split at h
          · rename_i q
            cases h
            split
            · rename_i e; rw [q, e]; rfl
            · rename_i e
              unfold heldK at q e
              split at e
              · exact absurd rfl e
              · rename_i e3
                rw [if_neg e3] at q
                rw [q]; rfl
          · cases h
        · cases h
      · split at h
        · rename_i q; cases h; exact q.symm
        · cases h
theorem insO_good {k : Nat} {t : Ty} {v : Vl} {ts : List Ty} (hd : deepK (k + 1) t = true) (h : insO t v = some ts) : ∀ u ∈ ts, deepK k u = true := by
  intro u hu
  have hw := deep_shape hd
  unfold insO at h
  split at h
  · rename_i h12
    split at h
    · cases h
      have hl1 : t.l.length = 1 := by rw [h12] at hw; simp [okW] at hw; exact hw.2
      obtain ⟨y, hy⟩ := List.length_eq_one_iff.1 hl1
      rw [hy] at hu
      rw [List.eq_of_mem_replicate hu]
      rcases deep_kids hd (show y ∈ t.l by rw [hy]; exact List.mem_cons_self) with h2 | h2
      · omega
      · exact h2
    · cases h
  · split at h
    · split at h
      · cases h
        rcases deep_kids hd hu with h2 | h2
        · omega
        · exact h2
      · cases h
    · split at h
      · split at h
        · rename_i h0
          split at h
          · cases h
            split at hu
            · cases hu
            · rename_i e
              have hlt : v.n.toNat < (plainL t).length := by omega
              have hu := List.mem_singleton.1 hu
              rw [getD_at hlt] at hu e
              rcases good_kid hd (List.getElem_mem hlt) with h2 | h2
              · exfalso
                apply e
                unfold heldK
                rw [if_pos (isNone_kind h2)]
              · rw [hu]; exact h2
          · cases h
        · cases h
      · split at h
        · cases h; cases hu
        · cases h
theorem sumL_step {g : Ty → Vl → Nat} {ts : List Ty} {vs : List Vl} {i n : Nat} {t : Ty} {x : Vl} (ht : ts[i]? = some t) (hx : vs[i]? = some x) : sumL g (ts.drop i) (vs.drop i) n = if g t x = 0 ∨ 4000 < n + g t x then 0 else sumL g (ts.drop (i + 1)) (vs.drop (i + 1)) (n + g t x) := by
  obtain ⟨h1, rfl⟩ := List.getElem?_eq_some_iff.1 ht
  obtain ⟨h2, rfl⟩ := List.getElem?_eq_some_iff.1 hx
  rw [List.drop_eq_getElem_cons h1, List.drop_eq_getElem_cons h2]
  conv => lhs; unfold sumL
theorem sumL_end {g : Ty → Vl → Nat} {ts : List Ty} {vs : List Vl} {i n : Nat} (h : vs.length ≤ i) : sumL g (ts.drop i) (vs.drop i) n = n := by
  rw [List.drop_eq_nil_of_le h]
  unfold sumL
  rfl
end Ct
def CntR (z : Nat) (w : World) (y : Ending) (w' : World) : Prop := y = .returned (.int .i64 (z : Nat)) ∧ Kept (fun _ => False) w w'
def PartsAt (t : Ty) (x : Vl) (p : Nat) : Prop := ∀ (an : Option Addr) (cn : Nat) (al : Option Addr) (cl : Nat) (sa : Option Addr) (sc : Nat) (av : Option Addr) (cv : Nat) (w : World), TyAt w t an cn al cl → VlAt w x sa sc av cv → Calls Tryz.prog 20 #[tyV t an cn al cl, vlV x sa sc av cv] w (CntR p w)
set_option maxRecDepth 100000 in
set_option maxHeartbeats 8000000 in
theorem rdSum (g : Ty → Vl → Nat) (ts : List Ty) (vs : List Vl) (a : Option Addr) (ca : Nat) (b : Option Addr) (cb : Nat) (w : World) (ha : RowAt w ts a ca) (hb : VRowAt w vs b cb) (hlen : ts.length = vs.length) (hlv : vs.length ≤ 20000)
    (IH : Hid (∀ (i : Nat) (t : Ty) (x : Vl), ts[i]? = some t → vs[i]? = some x → PartsAt t x (g t x) ∧ g t x ≤ 4000)) :
    Calls Tryz.prog 62 #[.slice a ts.length ca, .slice b vs.length cb] w (CntR (sumL g ts vs 1) w) := by
  have HA := Lib.hid ha
  have HB := Lib.hid hb
  have HLN := Lib.hid hlen
  obtain ⟨R, hR⟩ : ∃ R, R = sumL g ts vs 1 := ⟨_, rfl⟩
  rw [← hR]
  have HR := Lib.hid hR
  clear ha hb hR hlen
  go_enter Tryz.func62, Tryz.ntmps62
  go_wp2_with fail
  go_loopw [5, 6] (fun m u wr => ∃ (i n : Nat), u = .int .i64 i ∧ m = .int .i64 (n : Nat) ∧ i ≤ vs.length ∧ n ≤ 4000 ∧ Hid (sumL g (ts.drop i) (vs.drop i) n = R ∧ Kept (fun _ => False) w wr)) (fun _ u _ => vs.length - (intOf u).toNat)
  case atStart => exact ⟨0, 1, rfl, rfl, Nat.zero_le _, by omega, Lib.hid ⟨HR.out.symm, Kept.refl _ _⟩⟩
  case round =>
    obtain ⟨i, n, rfl, rfl, hi, hn, hst⟩ := hrel
    by_cases hlt : i < vs.length
    · obtain ⟨x, hx⟩ : ∃ x, vs[i]? = some x := ⟨_, List.getElem?_eq_getElem hlt⟩
      obtain ⟨t, ht⟩ : ∃ t, ts[i]? = some t := ⟨_, List.getElem?_eq_getElem (by have := HLN.out; omega)⟩
      obtain ⟨ga, oa, an, cn, al, cl, rfl, hga, hta, d0, d1, d2, d3⟩ := (HA.out.kept hst.out.2).at ht
      obtain ⟨gb, ob, sa, sc, av, cv, rfl, hgb, hvb, c0, c1, c2⟩ := (HB.out.kept hst.out.2).at hx
      obtain ⟨hp, hp4⟩ := IH.out i t x ht hx
      have hs := sumL_step (g := g) (n := n) ht hx
      rw [hst.out.1] at hs
      have hia : i < ts.length := (List.getElem?_eq_some_iff.1 ht).1
      generalize g t x = p at hp hp4 hs
      have HX : Hid (∀ w', Kept (fun _ => False) wr w' → Calls Tryz.prog 20 #[tyV t an cn al cl, vlV x sa sc av cv] w' (CntR p w')) := Lib.hid (fun w' k' => hp an cn al cl sa sc av cv w' (hta.kept k') (hvb.kept k'))
      unfold CntR at HX
      have HW : Hid (∀ w', Kept (fun _ => False) wr w' → w'.cell? ⟨ga, oa + i * 4, none⟩ = some (.int .i64 t.kind) ∧ w'.cell? ⟨ga, oa + i * 4 + 1, none⟩ = some (.slice an t.names.length cn) ∧ w'.cell? ⟨ga, oa + i * 4 + 2, none⟩ = some (.slice al t.l.length cl) ∧ w'.cell? ⟨ga, oa + i * 4 + 3, none⟩ = some (.int .i64 t.r) ∧ w'.cell? ⟨gb, ob + i * 3, none⟩ = some (.int .i64 x.n) ∧ w'.cell? ⟨gb, ob + i * 3 + 1, none⟩ = some (.slice sa x.s.length sc) ∧ w'.cell? ⟨gb, ob + i * 3 + 2, none⟩ = some (.slice av x.l.length cv)) := Lib.hid (fun w' k' => ⟨(k'.cell1 hga).trans d0, (k'.cell1 hga).trans d1, (k'.cell1 hga).trans d2, (k'.cell1 hga).trans d3, (k'.cell1 hgb).trans c0, (k'.cell1 hgb).trans c1, (k'.cell1 hgb).trans c2⟩)
      have q0 : Kept (fun _ => False) wr wr.drew := (Kept.refl _ _).drew
      have E0 := Lib.hid (HW.out _ q0)
      have hwn : IntKind.i64.wrap ((n : Int) + (p : Int)) = (n : Int) + (p : Int) := by rw [IntKind.wrap_i64]; omega
      have hwi : IntKind.i64.wrap ((i : Int) + 1) = ((i + 1 : Nat) : Int) := by rw [IntKind.wrap_i64]; omega
      have HLT : Hid (i + 1 ≤ vs.length) := Lib.hid hlt
      have hltI : decide (i < vs.length) = true := decide_eq_true hlt
      clear hx ht hga hgb hta hvb hp hp4 d0 d1 d2 d3 c0 c1 c2
      by_cases h0 : p = 0
      · rw [if_pos (.inl h0)] at hs
        have HS := Lib.hid hs
        have b0 : ((p : Int) == 0) = true := by simp [h0]
        clear hs h0
        go_wp2_with fail
        go_region_held3 (fun w' => w'.cell? ⟨ga, oa + i * 4, none⟩ = some (.int .i64 t.kind) ∧ w'.cell? ⟨ga, oa + i * 4 + 1, none⟩ = some (.slice an t.names.length cn) ∧ w'.cell? ⟨ga, oa + i * 4 + 2, none⟩ = some (.slice al t.l.length cl) ∧ w'.cell? ⟨ga, oa + i * 4 + 3, none⟩ = some (.int .i64 t.r) ∧ w'.cell? ⟨gb, ob + i * 3, none⟩ = some (.int .i64 x.n) ∧ w'.cell? ⟨gb, ob + i * 3 + 1, none⟩ = some (.slice sa x.s.length sc) ∧ w'.cell? ⟨gb, ob + i * 3 + 2, none⟩ = some (.slice av x.l.length cv))
          (first | exact E0.out | exact HW.out _ q0)
          (first
            | (go_at_call 20
               refine (HX.out _ q0).mono ?_
               rintro y w3 ⟨rfl, k3⟩
               replace q0 := q0.trans k3
               clear k3 E0))
        all_goals go_wp2_with fail
        all_goals go_ret
        all_goals exact ⟨by rw [HS.out]; rfl, hst.out.2.trans q0⟩
      · by_cases h4 : 4000 < n + p
        · rw [if_pos (.inr h4)] at hs
          have HS := Lib.hid hs
          have b0 : ((p : Int) == 0) = false := by simp [h0]
          have b1 : decide ((n : Int) + (p : Int) > 4000) = true := by simp; omega
          clear hs h0 h4
          go_wp2_with fail
          go_region_held3 (fun w' => w'.cell? ⟨ga, oa + i * 4, none⟩ = some (.int .i64 t.kind) ∧ w'.cell? ⟨ga, oa + i * 4 + 1, none⟩ = some (.slice an t.names.length cn) ∧ w'.cell? ⟨ga, oa + i * 4 + 2, none⟩ = some (.slice al t.l.length cl) ∧ w'.cell? ⟨ga, oa + i * 4 + 3, none⟩ = some (.int .i64 t.r) ∧ w'.cell? ⟨gb, ob + i * 3, none⟩ = some (.int .i64 x.n) ∧ w'.cell? ⟨gb, ob + i * 3 + 1, none⟩ = some (.slice sa x.s.length sc) ∧ w'.cell? ⟨gb, ob + i * 3 + 2, none⟩ = some (.slice av x.l.length cv))
            (first | exact E0.out | exact HW.out _ q0)
            (first
              | (go_at_call 20
                 refine (HX.out _ q0).mono ?_
                 rintro y w3 ⟨rfl, k3⟩
                 replace q0 := q0.trans k3
                 clear k3 E0))
          all_goals go_wp2_with fail
          all_goals go_ret
          all_goals exact ⟨by rw [HS.out]; rfl, hst.out.2.trans q0⟩
        · rw [if_neg (by omega)] at hs
          have HS := Lib.hid hs
          have b0 : ((p : Int) == 0) = false := by simp [h0]
          have b1 : decide ((n : Int) + (p : Int) > 4000) = false := by simp; omega
          have HN4 : Hid (n + p ≤ 4000) := Lib.hid (by omega)
          clear hs h0 h4
          go_wp2_with fail
          go_region_held3 (fun w' => w'.cell? ⟨ga, oa + i * 4, none⟩ = some (.int .i64 t.kind) ∧ w'.cell? ⟨ga, oa + i * 4 + 1, none⟩ = some (.slice an t.names.length cn) ∧ w'.cell? ⟨ga, oa + i * 4 + 2, none⟩ = some (.slice al t.l.length cl) ∧ w'.cell? ⟨ga, oa + i * 4 + 3, none⟩ = some (.int .i64 t.r) ∧ w'.cell? ⟨gb, ob + i * 3, none⟩ = some (.int .i64 x.n) ∧ w'.cell? ⟨gb, ob + i * 3 + 1, none⟩ = some (.slice sa x.s.length sc) ∧ w'.cell? ⟨gb, ob + i * 3 + 2, none⟩ = some (.slice av x.l.length cv))
            (first | exact E0.out | exact HW.out _ q0)
            (first
              | (go_at_call 20
                 refine (HX.out _ q0).mono ?_
                 rintro y w3 ⟨rfl, k3⟩
                 replace q0 := q0.trans k3
                 clear k3 E0))
          all_goals go_wp2_with fail
          all_goals exact ⟨⟨i + 1, n + p, by first | rw [hwi] | rfl, by first | rfl | rw [hwn], HLT.out, HN4.out, Lib.hid ⟨HS.out.symm, hst.out.2.trans q0⟩⟩, by have hlt := HLT.out; simp [intOf]; omega⟩
    · have he : i = vs.length := by omega
      have hs := sumL_end (g := g) (ts := ts) (n := n) (i := i) (vs := vs) (by omega)
      rw [hst.out.1] at hs
      have HS := Lib.hid hs
      have hltI : decide (i < vs.length) = false := decide_eq_false hlt
      clear hs he hlt
      go_wp2_with fail
      go_ret
      exact ⟨by rw [HS.out]; rfl, hst.out.2⟩
set_option maxRecDepth 100000 in
set_option maxHeartbeats 8000000 in
theorem rdInside0 (kk : Nat) (t : Ty) (an : Option Addr) (cn : Nat) (al : Option Addr) (cl : Nat) (v : Vl) (sa : Option Addr) (sc : Nat) (av : Option Addr) (cv : Nat) (w : World) (h : TyAt w t an cn al cl) (hv : VlAt w v sa sc av cv) (hd : deepK (kk + 1) t = true) (hlv : v.l.length ≤ 20000)
    (IH : Hid (∀ (u : Ty) (x : Vl), deepK kk u = true → x ∈ v.l → PartsAt u x (partsK kk u x))) :
    Calls Tryz.prog 38 #[tyV t an cn al cl, vlV v sa sc av cv] w (CntR (match insO t v with | none => 0 | some ts => sumL (partsK kk) ts v.l 1) w) := by
  have k0 : Kept (fun _ => False) w ((w.alloc (.cells #[.int .i64 t.kind, .slice an t.names.length cn, .slice al t.l.length cl, .int .i64 t.r] 25)).alloc (.cells #[.int .i64 v.n, .slice sa v.s.length sc, .slice av v.l.length cv] 29)) := ((Kept.refl _ _).new _).new _
  have V0 := BlkAt.new (w.alloc (.cells #[.int .i64 t.kind, .slice an t.names.length cn, .slice al t.l.length cl, .int .i64 t.r] 25)) #[.int .i64 v.n, .slice sa v.s.length sc, .slice av v.l.length cv] 29
  rw [World.size_alloc] at V0
  have HK := Lib.hid k0
  have HV := Lib.hid V0
  have HI := Lib.hid (rdInside kk t an cn al cl v sa sc av cv _ (h.kept k0) hd hlv)
  have HVR := Lib.hid hv.row
  unfold InsR at HI
  cases hin : insO t v with
  | none =>
    rw [hin] at HI
    show Calls Tryz.prog 38 #[tyV t an cn al cl, vlV v sa sc av cv] w (CntR 0 w)
    clear h hv hd hlv k0 V0 hin IH
    go_enter Tryz.func38, Tryz.ntmps38
    go_wp2_with (first
      | (go_at_call 21
         refine HI.out.mono ?_
         rintro y w1 ⟨ts, a, cap, b, rfl, hra, hb0, _, k1⟩
         obtain rfl : b = false := hb0 rfl
         have HK1 := Lib.hid (HK.out.trans k1)
         clear k1 hb0 hra))
    go_ret
    exact ⟨rfl, HK1.out⟩
  | some tt =>
    rw [hin] at HI
    have HG := Lib.hid (insO_good hd hin)
    have HL := Lib.hid (insO_len hin)
    have HLV := Lib.hid hlv
    show Calls Tryz.prog 38 #[tyV t an cn al cl, vlV v sa sc av cv] w (CntR (sumL (partsK kk) tt v.l 1) w)
    clear h hv hd hlv k0 V0 hin
    go_enter Tryz.func38, Tryz.ntmps38
    go_wp2_with (first
      | (go_at_call 21
         refine HI.out.mono ?_
         rintro y w1 ⟨ts, a, cap, b, rfl, hra, _, hb1, k1⟩
         obtain ⟨rfl, rfl⟩ := hb1 _ rfl
         have HK1 := Lib.hid (HK.out.trans k1)
         have HV1 := Lib.hid (HV.out.kept (F := fun _ => False) k1 id)
         have HRA := Lib.hid hra
         have v2 := HV1.out.cell 2
         simp at v2
         clear k1 hb1 hra)
      | (go_at_call 62
         refine (rdSum (partsK kk) ts v.l a cap av cv _ HRA.out (HVR.out.kept HK1.out) HL.out HLV.out (Lib.hid fun i u x hu hx => ⟨IH.out u x (HG.out u (List.mem_of_getElem? hu)) (List.mem_of_getElem? hx), partsK_le kk u x⟩)).mono ?_
         rintro y w2 ⟨rfl, k2⟩))
    go_ret
    exact ⟨rfl, HK1.out.trans k2⟩
end Go.Proofs.YtikgkjkgdlnekaaGreatDoor
