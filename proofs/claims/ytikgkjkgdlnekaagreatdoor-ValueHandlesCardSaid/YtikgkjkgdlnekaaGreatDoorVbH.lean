/- value: of: the walk. -/
import Derived.Test.YtikgkjkgdlnekaaGreatDoorVbG
set_option linter.unusedVariables false
set_option linter.unusedSimpArgs false
namespace Go.Proofs.YtikgkjkgdlnekaaGreatDoor
open Go.RowKit
open Lex Ct

theorem box3_cells {w : World} {b : Nat} {c0 c1 c2 : Value} {T : TypeId} (h : BlkAt w b #[c0, c1, c2] T) : w.cell? ⟨b, 0, none⟩ = some c0 ∧ w.cell? ⟨b, 1, none⟩ = some c1 ∧ w.cell? ⟨b, 2, none⟩ = some c2 := ⟨h.cell 0, h.cell 1, h.cell 2⟩
theorem box4_cells' {w : World} {b : Nat} {c0 c1 c2 c3 : Value} {T : TypeId} (h : BlkAt w b #[c0, c1, c2, c3] T) : w.cell? ⟨b, 0, none⟩ = some c0 ∧ w.cell? ⟨b, 1, none⟩ = some c1 ∧ w.cell? ⟨b, 2, none⟩ = some c2 ∧ w.cell? ⟨b, 3, none⟩ = some c3 := ⟨h.cell 0, h.cell 1, h.cell 2, h.cell 3⟩
set_option maxRecDepth 100000 in
set_option maxHeartbeats 4000000 in
theorem of_over (b : Nat) (t : Ty) (an : Option Addr) (cn : Nat) (al : Option Addr) (cl : Nat) (v : Vl) (sa : Option Addr) (sc : Nat) (av : Option Addr) (cv : Nat) (c : Nat) (w : World) (hv : LtV v) (hb : BlkAt w b #[.int .i64 (c : Nat)] 65) (hc : c ≤ 4000) (hn : c < 1 + v.s.length) :
    Calls Tryz.prog 31 #[.pointer (some ⟨b, 0, none⟩), tyV t an cn al cl, vlV v sa sc av cv] w (OfR none b w) := by
  have hblt := hb.lt
  have k0 : Kept (fun _ => False) w ((w.alloc (.cells #[.int .i64 t.kind, .slice an t.names.length cn, .slice al t.l.length cl, .int .i64 t.r] 25)).alloc (.cells #[.int .i64 v.n, .slice sa v.s.length sc, .slice av v.l.length cv] 29)) := ((Kept.refl _ _).new _).new _
  have T0 := (BlkAt.new w #[.int .i64 t.kind, .slice an t.names.length cn, .slice al t.l.length cl, .int .i64 t.r] 25).kept (F := fun _ => False) ((Kept.refl _ _).new (.cells #[.int .i64 v.n, .slice sa v.s.length sc, .slice av v.l.length cv] 29)) id
  have V0 := BlkAt.new (w.alloc (.cells #[.int .i64 t.kind, .slice an t.names.length cn, .slice al t.l.length cl, .int .i64 t.r] 25)) #[.int .i64 v.n, .slice sa v.s.length sc, .slice av v.l.length cv] 29
  rw [World.size_alloc] at V0
  have B0 := hb.kept (F := fun _ => False) k0 id
  have m0 := B0.cell 0
  have z0 := B0.frozen 0
  simp at m0
  have hlt := hv.parts
  have hw1 : IntKind.i64.wrap (1 + (v.s.length : Int)) = 1 + (v.s.length : Int) := by rw [IntKind.wrap_i64]; omega
  have hw2 : IntKind.i64.wrap ((c : Int) - (1 + (v.s.length : Int))) = (c : Int) - (1 + (v.s.length : Int)) := by rw [IntKind.wrap_i64]; omega
  have T1 : BlkAt (((w.alloc (.cells #[.int .i64 t.kind, .slice an t.names.length cn, .slice al t.l.length cl, .int .i64 t.r] 25)).alloc (.cells #[.int .i64 v.n, .slice sa v.s.length sc, .slice av v.l.length cv] 29)).setCell ⟨b, 0, none⟩ (.int .i64 ((c : Int) - (1 + (v.s.length : Int))))).drew w.heap.size #[.int .i64 t.kind, .slice an t.names.length cn, .slice al t.l.length cl, .int .i64 t.r] 25 := (T0.other (b' := b) (by omega) 0 (.int .i64 ((c : Int) - (1 + (v.s.length : Int))))).kept (F := fun _ => False) (Kept.refl _ _).drew id
  have V1 : BlkAt (((w.alloc (.cells #[.int .i64 t.kind, .slice an t.names.length cn, .slice al t.l.length cl, .int .i64 t.r] 25)).alloc (.cells #[.int .i64 v.n, .slice sa v.s.length sc, .slice av v.l.length cv] 29)).setCell ⟨b, 0, none⟩ (.int .i64 ((c : Int) - (1 + (v.s.length : Int))))).drew (w.heap.size + 1) #[.int .i64 v.n, .slice sa v.s.length sc, .slice av v.l.length cv] 29 := (V0.other (b' := b) (by omega) 0 (.int .i64 ((c : Int) - (1 + (v.s.length : Int))))).kept (F := fun _ => False) (Kept.refl _ _).drew id
  have B1 : BlkAt (((w.alloc (.cells #[.int .i64 t.kind, .slice an t.names.length cn, .slice al t.l.length cl, .int .i64 t.r] 25)).alloc (.cells #[.int .i64 v.n, .slice sa v.s.length sc, .slice av v.l.length cv] 29)).setCell ⟨b, 0, none⟩ (.int .i64 ((c : Int) - (1 + (v.s.length : Int))))).drew b #[.int .i64 ((c : Int) - (1 + (v.s.length : Int)))] 65 := by
    have := B0.put 0 (.int .i64 ((c : Int) - (1 + (v.s.length : Int))))
    simp at this
    exact this.kept (F := fun _ => False) (Kept.refl _ _).drew id
  have k1 : Kept (· = b) w (((w.alloc (.cells #[.int .i64 t.kind, .slice an t.names.length cn, .slice al t.l.length cl, .int .i64 t.r] 25)).alloc (.cells #[.int .i64 v.n, .slice sa v.s.length sc, .slice av v.l.length cv] 29)).setCell ⟨b, 0, none⟩ (.int .i64 ((c : Int) - (1 + (v.s.length : Int))))).drew := ((k0.any (F := (· = b))).set (p := ⟨b, 0, none⟩) rfl _).drew
  have d0 := B1.cell 0
  simp at d0
  obtain ⟨t0, t1, t2, t3⟩ := box4_cells' T1
  obtain ⟨v0, v1, v2⟩ := box3_cells V1
  have HT1 := Lib.hid T1
  have HV1 := Lib.hid V1
  have HB1 := Lib.hid B1
  have HK1 := Lib.hid k1
  have HBL := Lib.hid hblt
  clear hblt
  have b5 : decide ((c : Int) - (1 + (v.s.length : Int)) < 0) = true := by simp; omega
  clear hb hv hlt T0 V0 B0 T1 V1 B1 k0 k1 hn hc
  unfold OfR
  go_enter Tryz.func31, Tryz.ntmps31
  go_wp2_with fail
  go_region
  all_goals go_wp2_with fail
  all_goals go_ret
  all_goals exact ⟨rfl, ⟨_, HB1.out⟩, HK1.out⟩
set_option maxRecDepth 100000 in
set_option maxHeartbeats 4000000 in
theorem of_sha (b : Nat) (t : Ty) (an : Option Addr) (cn : Nat) (al : Option Addr) (cl : Nat) (v : Vl) (sa : Option Addr) (sc : Nat) (av : Option Addr) (cv : Nat) (c : Nat) (w : World) (hv : LtV v) (hb : BlkAt w b #[.int .i64 (c : Nat)] 65) (hc : c ≤ 4000) (hn : ¬ c < 1 + v.s.length) (ht : TyP (· ≠ b) w t an cn al cl) (hvp : VlP (· ≠ b) w v sa sc av cv) (hnn : t.kind = 19 → t.names.length ≤ 32) (hs : shapedV t v = false) :
    Calls Tryz.prog 31 #[.pointer (some ⟨b, 0, none⟩), tyV t an cn al cl, vlV v sa sc av cv] w (OfR none b w) := by
  have hblt := hb.lt
  have k0 : Kept (fun _ => False) w ((w.alloc (.cells #[.int .i64 t.kind, .slice an t.names.length cn, .slice al t.l.length cl, .int .i64 t.r] 25)).alloc (.cells #[.int .i64 v.n, .slice sa v.s.length sc, .slice av v.l.length cv] 29)) := ((Kept.refl _ _).new _).new _
  have T0 := (BlkAt.new w #[.int .i64 t.kind, .slice an t.names.length cn, .slice al t.l.length cl, .int .i64 t.r] 25).kept (F := fun _ => False) ((Kept.refl _ _).new (.cells #[.int .i64 v.n, .slice sa v.s.length sc, .slice av v.l.length cv] 29)) id
  have V0 := BlkAt.new (w.alloc (.cells #[.int .i64 t.kind, .slice an t.names.length cn, .slice al t.l.length cl, .int .i64 t.r] 25)) #[.int .i64 v.n, .slice sa v.s.length sc, .slice av v.l.length cv] 29
  rw [World.size_alloc] at V0
  have B0 := hb.kept (F := fun _ => False) k0 id
  have m0 := B0.cell 0
  have z0 := B0.frozen 0
  simp at m0
  have hlt := hv.parts
  have hw1 : IntKind.i64.wrap (1 + (v.s.length : Int)) = 1 + (v.s.length : Int) := by rw [IntKind.wrap_i64]; omega
  have hw2 : IntKind.i64.wrap ((c : Int) - (1 + (v.s.length : Int))) = (c : Int) - (1 + (v.s.length : Int)) := by rw [IntKind.wrap_i64]; omega
  have T1 : BlkAt (((w.alloc (.cells #[.int .i64 t.kind, .slice an t.names.length cn, .slice al t.l.length cl, .int .i64 t.r] 25)).alloc (.cells #[.int .i64 v.n, .slice sa v.s.length sc, .slice av v.l.length cv] 29)).setCell ⟨b, 0, none⟩ (.int .i64 ((c : Int) - (1 + (v.s.length : Int))))).drew w.heap.size #[.int .i64 t.kind, .slice an t.names.length cn, .slice al t.l.length cl, .int .i64 t.r] 25 := (T0.other (b' := b) (by omega) 0 (.int .i64 ((c : Int) - (1 + (v.s.length : Int))))).kept (F := fun _ => False) (Kept.refl _ _).drew id
  have V1 : BlkAt (((w.alloc (.cells #[.int .i64 t.kind, .slice an t.names.length cn, .slice al t.l.length cl, .int .i64 t.r] 25)).alloc (.cells #[.int .i64 v.n, .slice sa v.s.length sc, .slice av v.l.length cv] 29)).setCell ⟨b, 0, none⟩ (.int .i64 ((c : Int) - (1 + (v.s.length : Int))))).drew (w.heap.size + 1) #[.int .i64 v.n, .slice sa v.s.length sc, .slice av v.l.length cv] 29 := (V0.other (b' := b) (by omega) 0 (.int .i64 ((c : Int) - (1 + (v.s.length : Int))))).kept (F := fun _ => False) (Kept.refl _ _).drew id
  have B1 : BlkAt (((w.alloc (.cells #[.int .i64 t.kind, .slice an t.names.length cn, .slice al t.l.length cl, .int .i64 t.r] 25)).alloc (.cells #[.int .i64 v.n, .slice sa v.s.length sc, .slice av v.l.length cv] 29)).setCell ⟨b, 0, none⟩ (.int .i64 ((c : Int) - (1 + (v.s.length : Int))))).drew b #[.int .i64 ((c : Int) - (1 + (v.s.length : Int)))] 65 := by
    have := B0.put 0 (.int .i64 ((c : Int) - (1 + (v.s.length : Int))))
    simp at this
    exact this.kept (F := fun _ => False) (Kept.refl _ _).drew id
  have k1 : Kept (· = b) w (((w.alloc (.cells #[.int .i64 t.kind, .slice an t.names.length cn, .slice al t.l.length cl, .int .i64 t.r] 25)).alloc (.cells #[.int .i64 v.n, .slice sa v.s.length sc, .slice av v.l.length cv] 29)).setCell ⟨b, 0, none⟩ (.int .i64 ((c : Int) - (1 + (v.s.length : Int))))).drew := ((k0.any (F := (· = b))).set (p := ⟨b, 0, none⟩) rfl _).drew
  have d0 := B1.cell 0
  simp at d0
  obtain ⟨t0, t1, t2, t3⟩ := box4_cells' T1
  obtain ⟨v0, v1, v2⟩ := box3_cells V1
  have HT1 := Lib.hid T1
  have HV1 := Lib.hid V1
  have HB1 := Lib.hid B1
  have HK1 := Lib.hid k1
  have HBL := Lib.hid hblt
  clear hblt
  have b5 : decide ((c : Int) - (1 + (v.s.length : Int)) < 0) = false := by simp; omega
  have HS := Lib.hid (rdShapedV t an cn al cl v sa sc av cv (((w.alloc (.cells #[.int .i64 t.kind, .slice an t.names.length cn, .slice al t.l.length cl, .int .i64 t.r] 25)).alloc (.cells #[.int .i64 v.n, .slice sa v.s.length sc, .slice av v.l.length cv] 29)).setCell ⟨b, 0, none⟩ (.int .i64 ((c : Int) - (1 + (v.s.length : Int))))).drew ((ht.thru k1 (fun _ q _ e => q e) (fun _ q _ => q)).any) ((hvp.thru k1 (fun _ q _ e => q e) (fun _ q _ => q)).any) hnn)
  rw [hs] at HS
  unfold ShaR at HS
  clear hb hv hlt T0 V0 B0 T1 V1 B1 k0 k1 hn hc ht hvp hnn hs
  unfold OfR
  go_enter Tryz.func31, Tryz.ntmps31
  go_wp2_with fail
  go_region
  all_goals go_wp2_with (first
    | (go_at_call 48
       refine HS.out.mono ?_
       rintro y w3 ⟨rfl, k3⟩))
  all_goals go_ret
  all_goals exact ⟨rfl, ⟨_, HB1.out.kept k3 id⟩, HK1.out.trans k3.any⟩
set_option maxRecDepth 100000 in
set_option maxHeartbeats 8000000 in
theorem of_go {k : Nat} (IH : OfAt k) (b : Nat) (t : Ty) (an : Option Addr) (cn : Nat) (al : Option Addr) (cl : Nat) (v : Vl) (sa : Option Addr) (sc : Nat) (av : Option Addr) (cv : Nat) (c : Nat) (w : World) (hv : LtV v) (hb : BlkAt w b #[.int .i64 (c : Nat)] 65) (hc : c ≤ 4000) (hn : ¬ c < 1 + v.s.length) (ho : okP (k + 1) t) (ht : TyP (· ≠ b) w t an cn al cl) (hvp : VlP (· ≠ b) w v sa sc av cv) (hs : shapedV t v = true) :
    Calls Tryz.prog 31 #[.pointer (some ⟨b, 0, none⟩), tyV t an cn al cl, vlV v sa sc av cv] w (OfR (ofL (fun i x c => match witO t v.n i with | none => none | some u => ofK k u x c) 0 v.l (c - (1 + v.s.length))) b w) := by
  have hblt := hb.lt
  have k0 : Kept (fun _ => False) w ((w.alloc (.cells #[.int .i64 t.kind, .slice an t.names.length cn, .slice al t.l.length cl, .int .i64 t.r] 25)).alloc (.cells #[.int .i64 v.n, .slice sa v.s.length sc, .slice av v.l.length cv] 29)) := ((Kept.refl _ _).new _).new _
  have T0 := (BlkAt.new w #[.int .i64 t.kind, .slice an t.names.length cn, .slice al t.l.length cl, .int .i64 t.r] 25).kept (F := fun _ => False) ((Kept.refl _ _).new (.cells #[.int .i64 v.n, .slice sa v.s.length sc, .slice av v.l.length cv] 29)) id
  have V0 := BlkAt.new (w.alloc (.cells #[.int .i64 t.kind, .slice an t.names.length cn, .slice al t.l.length cl, .int .i64 t.r] 25)) #[.int .i64 v.n, .slice sa v.s.length sc, .slice av v.l.length cv] 29
  rw [World.size_alloc] at V0
  have B0 := hb.kept (F := fun _ => False) k0 id
  have m0 := B0.cell 0
  have z0 := B0.frozen 0
  simp at m0
  have hlt := hv.parts
  have hw1 : IntKind.i64.wrap (1 + (v.s.length : Int)) = 1 + (v.s.length : Int) := by rw [IntKind.wrap_i64]; omega
  have hw2 : IntKind.i64.wrap ((c : Int) - (1 + (v.s.length : Int))) = (c : Int) - (1 + (v.s.length : Int)) := by rw [IntKind.wrap_i64]; omega
  have T1 : BlkAt (((w.alloc (.cells #[.int .i64 t.kind, .slice an t.names.length cn, .slice al t.l.length cl, .int .i64 t.r] 25)).alloc (.cells #[.int .i64 v.n, .slice sa v.s.length sc, .slice av v.l.length cv] 29)).setCell ⟨b, 0, none⟩ (.int .i64 ((c : Int) - (1 + (v.s.length : Int))))).drew w.heap.size #[.int .i64 t.kind, .slice an t.names.length cn, .slice al t.l.length cl, .int .i64 t.r] 25 := (T0.other (b' := b) (by omega) 0 (.int .i64 ((c : Int) - (1 + (v.s.length : Int))))).kept (F := fun _ => False) (Kept.refl _ _).drew id
  have V1 : BlkAt (((w.alloc (.cells #[.int .i64 t.kind, .slice an t.names.length cn, .slice al t.l.length cl, .int .i64 t.r] 25)).alloc (.cells #[.int .i64 v.n, .slice sa v.s.length sc, .slice av v.l.length cv] 29)).setCell ⟨b, 0, none⟩ (.int .i64 ((c : Int) - (1 + (v.s.length : Int))))).drew (w.heap.size + 1) #[.int .i64 v.n, .slice sa v.s.length sc, .slice av v.l.length cv] 29 := (V0.other (b' := b) (by omega) 0 (.int .i64 ((c : Int) - (1 + (v.s.length : Int))))).kept (F := fun _ => False) (Kept.refl _ _).drew id
  have B1 : BlkAt (((w.alloc (.cells #[.int .i64 t.kind, .slice an t.names.length cn, .slice al t.l.length cl, .int .i64 t.r] 25)).alloc (.cells #[.int .i64 v.n, .slice sa v.s.length sc, .slice av v.l.length cv] 29)).setCell ⟨b, 0, none⟩ (.int .i64 ((c : Int) - (1 + (v.s.length : Int))))).drew b #[.int .i64 ((c : Int) - (1 + (v.s.length : Int)))] 65 := by
    have := B0.put 0 (.int .i64 ((c : Int) - (1 + (v.s.length : Int))))
    simp at this
    exact this.kept (F := fun _ => False) (Kept.refl _ _).drew id
  have k1 : Kept (· = b) w (((w.alloc (.cells #[.int .i64 t.kind, .slice an t.names.length cn, .slice al t.l.length cl, .int .i64 t.r] 25)).alloc (.cells #[.int .i64 v.n, .slice sa v.s.length sc, .slice av v.l.length cv] 29)).setCell ⟨b, 0, none⟩ (.int .i64 ((c : Int) - (1 + (v.s.length : Int))))).drew := ((k0.any (F := (· = b))).set (p := ⟨b, 0, none⟩) rfl _).drew
  have d0 := B1.cell 0
  simp at d0
  obtain ⟨t0, t1, t2, t3⟩ := box4_cells' T1
  obtain ⟨v0, v1, v2⟩ := box3_cells V1
  have HT1 := Lib.hid T1
  have HV1 := Lib.hid V1
  have HB1 := Lib.hid B1
  have HK1 := Lib.hid k1
  have HBL := Lib.hid hblt
  clear hblt
  have b5 : decide ((c : Int) - (1 + (v.s.length : Int)) < 0) = false := by simp; omega
  have HS := Lib.hid (rdShapedV t an cn al cl v sa sc av cv (((w.alloc (.cells #[.int .i64 t.kind, .slice an t.names.length cn, .slice al t.l.length cl, .int .i64 t.r] 25)).alloc (.cells #[.int .i64 v.n, .slice sa v.s.length sc, .slice av v.l.length cv] 29)).setCell ⟨b, 0, none⟩ (.int .i64 ((c : Int) - (1 + (v.s.length : Int))))).drew ((ht.thru k1 (fun _ q _ e => q e) (fun _ q _ => q)).any) ((hvp.thru k1 (fun _ q _ e => q e) (fun _ q _ => q)).any) ho.2.1)
  rw [hs] at HS
  unfold ShaR at HS
  have HI := Lib.hid IH
  have HTP := Lib.hid ht
  have HVP := Lib.hid hvp
  have HWT := Lib.hid (fun i hi => wit_ok ho hs (i := i) hi)
  have HLV := Lib.hid hlt.2.2
  have hlen : v.l.length ≤ 20000 := hlt.2.1
  have hcast : ((c : Int) - (1 + (v.s.length : Int))) = ((c - (1 + v.s.length) : Nat) : Int) := by omega
  obtain ⟨c', hc'⟩ : ∃ c', c' = c - (1 + v.s.length) := ⟨_, rfl⟩
  have hc4 : c' ≤ 4000 := by omega
  rw [← hc'] at hcast ⊢
  have HCC := Lib.hid (And.intro hcast hc4)
  obtain ⟨R, hR⟩ : ∃ R, R = ofL (fun i x c => match witO t v.n i with | none => none | some u => ofK k u x c) 0 v.l c' := ⟨_, rfl⟩
  rw [← hR]
  have HR := Lib.hid hR
  clear hb hv hlt T0 V0 B0 T1 V1 B1 k0 k1 hn hc ht hvp hs ho IH hcast hc4 hc' hR
  go_enter Tryz.func31, Tryz.ntmps31
  go_wp2_with fail
  go_region
  all_goals go_wp2_with (first
    | (go_at_call 48
       refine HS.out.mono ?_
       rintro y w3 ⟨rfl, k3⟩
       have HT3 := Lib.hid (HT1.out.kept k3 id)
       have HV3 := Lib.hid (HV1.out.kept k3 id)
       have HB3 := Lib.hid (HB1.out.kept k3 id)
       have HK3 := Lib.hid (HK1.out.trans k3.any)
       have v5 := HV3.out.cell 2
       simp at v5
       clear t0 t1 t2 t3 v0 v1 v2 k3 d0 m0 z0))
  all_goals
    have hB3 := HB3.out
    rw [HCC.out.1] at hB3
    have HB4 := Lib.hid hB3
    clear hB3 v5
    go_loopw [34] (fun u wr => ∃ i ci : Nat, u = .int .i64 i ∧ i ≤ v.l.length ∧ ci ≤ 4000 ∧ Hid (Kept (· = b) w wr ∧ BlkAt wr b #[.int .i64 (ci : Nat)] 65 ∧ R = ofL (fun i x c => match witO t v.n i with | none => none | some u => ofK k u x c) i (v.l.drop i) ci) ∧ Hid (BlkAt wr w.heap.size #[.int .i64 t.kind, .slice an t.names.length cn, .slice al t.l.length cl, .int .i64 t.r] 25 ∧ BlkAt wr (w.heap.size + 1) #[.int .i64 v.n, .slice sa v.s.length sc, .slice av v.l.length cv] 29)) (fun u _ => v.l.length - (intOf u).toNat)
    case atStart => exact ⟨0, c', rfl, Nat.zero_le _, HCC.out.2, Lib.hid ⟨HK3.out, HB4.out, HR.out⟩, Lib.hid ⟨HT3.out, HV3.out⟩⟩
    case round =>
      clear HK3 HB4 HT3 HV3 HB3
      obtain ⟨i, ci, rfl, hi, hci, hst, hbx⟩ := hrel
      by_cases hlt : i < v.l.length
      · obtain ⟨x, hx⟩ : ∃ x, v.l[i]? = some x := ⟨_, List.getElem?_eq_getElem hlt⟩
        obtain ⟨u, hu, hou⟩ := HWT.out i hlt
        have hltx : LtV x := HLV.out x (List.mem_of_getElem? hx)
        obtain ⟨g, o, ax, cx, ay, cy, rfl, hgb, hgl, hvx, c0, c1, c2⟩ := vrow_in (HVP.out.l.thru hst.out.1 (fun _ q _ e => q e) (fun _ q _ => q)) hx
        have HVX := Lib.hid hvx
        have kx : Kept (fun _ => False) wr (wr.alloc (.cells #[.int .i64 x.n, .slice ax x.s.length cx, .slice ay x.l.length cy] 29)) := (Kept.refl _ _).new _
        have HKX := Lib.hid kx
        have q0 : Kept (fun _ => False) (wr.alloc (.cells #[.int .i64 x.n, .slice ax x.s.length cx, .slice ay x.l.length cy] 29)) (wr.alloc (.cells #[.int .i64 x.n, .slice ax x.s.length cx, .slice ay x.l.length cy] 29)).drew := (Kept.refl _ _).drew
        have hbw : b < wr.heap.size := hst.out.2.1.lt
        have HW : Hid (∀ w', Kept (· = b) (wr.alloc (.cells #[.int .i64 x.n, .slice ax x.s.length cx, .slice ay x.l.length cy] 29)) w' → w'.cell? ⟨w.heap.size, 0, none⟩ = some (.int .i64 t.kind) ∧ w'.cell? ⟨w.heap.size, 1, none⟩ = some (.slice an t.names.length cn) ∧ w'.cell? ⟨w.heap.size, 2, none⟩ = some (.slice al t.l.length cl) ∧ w'.cell? ⟨w.heap.size, 3, none⟩ = some (.int .i64 t.r) ∧ w'.cell? ⟨w.heap.size + 1, 0, none⟩ = some (.int .i64 v.n) ∧ w'.cell? ⟨w.heap.size + 1, 1, none⟩ = some (.slice sa v.s.length sc) ∧ w'.cell? ⟨w.heap.size + 1, 2, none⟩ = some (.slice (some ⟨g, o, none⟩) v.l.length cv) ∧ w'.cell? ⟨wr.heap.size, 0, none⟩ = some (.int .i64 x.n) ∧ w'.cell? ⟨wr.heap.size, 1, none⟩ = some (.slice ax x.s.length cx) ∧ w'.cell? ⟨wr.heap.size, 2, none⟩ = some (.slice ay x.l.length cy)) := Lib.hid (fun w' k' => by
          have A := (hbx.out.1.kept (F := fun _ => False) kx id).kept k' (by have := HBL.out; omega)
          have B := (hbx.out.2.kept (F := fun _ => False) kx id).kept k' (by have := HBL.out; omega)
          have C := (BlkAt.new wr #[.int .i64 x.n, .slice ax x.s.length cx, .slice ay x.l.length cy] 29).kept k' (by omega)
          exact ⟨A.cell 0, A.cell 1, A.cell 2, A.cell 3, B.cell 0, B.cell 1, B.cell 2, C.cell 0, C.cell 1, C.cell 2⟩)
        have E0 := Lib.hid (HW.out _ q0.any)
        have HWI : Hid (∀ w', Kept (fun _ => False) wr w' → Calls Tryz.prog 43 #[tyV t an cn al cl, vlV v sa sc (some ⟨g, o, none⟩) cv, .int .i64 (i : Int)] w' (TyR (· ≠ b) u w')) := Lib.hid (fun w' k' => rdWithin (· ≠ b) t an cn al cl v sa sc _ cv i u w' (HTP.out.thru (hst.out.1.trans k'.any) (fun _ q _ e => q e) (fun _ q _ => q)) hu)
        unfold TyR at HWI
        clear hgl hvx kx hgb hbw
        cases hmx : ofK k u x ci with
        | none =>
          have HX : Hid (∀ (ap : Option Addr) (cp : Nat) (aq : Option Addr) (cq : Nat) (w' : World), TyP (· ≠ b) w' u ap cp aq cq → Kept (fun _ => False) wr w' → Calls Tryz.prog 31 #[.pointer (some ⟨b, 0, none⟩), tyV u ap cp aq cq, vlV x ax cx ay cy] w' (OfR none b w')) := Lib.hid fun ap cp aq cq w' h1 k' => by
            have := HI.out b u ap cp aq cq x ax cx ay cy ci w' hou hltx h1 (HVX.out.thru k' (fun _ _ _ e => e) (fun _ q _ => q)) (hst.out.2.1.kept k' id) hci
            rw [hmx] at this
            exact this
          unfold OfR at HX
          have HRN : Hid (R = none) := Lib.hid (by rw [hst.out.2.2, ofL_step hx]; show (match (match witO t v.n i with | none => none | some u => ofK k u x ci) with | none => none | some d => _) = none; rw [hu]; show (match ofK k u x ci with | none => none | some d => _) = none; rw [hmx])
          have HLT : Hid (i + 1 ≤ v.l.length) := Lib.hid hlt
          have hlenI : ((i : Int) < (v.l.length : Int)) = True := by simp; omega
          clear hmx hx hu hou hltx hlt
          go_wp2_with fail
          clear c0 c1 c2
          go_region_held3 (fun w' => w'.cell? ⟨w.heap.size, 0, none⟩ = some (.int .i64 t.kind) ∧ w'.cell? ⟨w.heap.size, 1, none⟩ = some (.slice an t.names.length cn) ∧ w'.cell? ⟨w.heap.size, 2, none⟩ = some (.slice al t.l.length cl) ∧ w'.cell? ⟨w.heap.size, 3, none⟩ = some (.int .i64 t.r) ∧ w'.cell? ⟨w.heap.size + 1, 0, none⟩ = some (.int .i64 v.n) ∧ w'.cell? ⟨w.heap.size + 1, 1, none⟩ = some (.slice sa v.s.length sc) ∧ w'.cell? ⟨w.heap.size + 1, 2, none⟩ = some (.slice (some ⟨g, o, none⟩) v.l.length cv) ∧ w'.cell? ⟨wr.heap.size, 0, none⟩ = some (.int .i64 x.n) ∧ w'.cell? ⟨wr.heap.size, 1, none⟩ = some (.slice ax x.s.length cx) ∧ w'.cell? ⟨wr.heap.size, 2, none⟩ = some (.slice ay x.l.length cy))
            (first | exact E0.out | exact HW.out _ q0.any | exact HW.out _ (q0.any.trans k5))
            (first
              | (go_at_call 31
                 refine (HX.out ap cp aq cq _ HUP.out (HKX.out.trans q0)).mono ?_
                 rintro y w5 ⟨rfl, hb5, k5⟩)
              | (go_at_call 43
                 refine (HWI.out _ (HKX.out.trans q0)).mono ?_
                 rintro y w4 ⟨ap, cp, aq, cq, rfl, h4, k4⟩
                 replace q0 : Kept (fun _ => False) (wr.alloc (.cells #[.int .i64 x.n, .slice ax x.s.length cx, .slice ay x.l.length cy] 29)) w4 := q0.trans k4
                 have HUP := Lib.hid h4
                 clear h4 k4 E0))
          all_goals go_wp2_with fail
          all_goals go_ret
          all_goals rw [HRN.out]
          all_goals exact ⟨rfl, hb5, hst.out.1.trans ((HKX.out.trans q0).any.trans k5)⟩
        | some d =>
          have HX : Hid (∀ (ap : Option Addr) (cp : Nat) (aq : Option Addr) (cq : Nat) (w' : World), TyP (· ≠ b) w' u ap cp aq cq → Kept (fun _ => False) wr w' → Calls Tryz.prog 31 #[.pointer (some ⟨b, 0, none⟩), tyV u ap cp aq cq, vlV x ax cx ay cy] w' (OfR (some d) b w')) := Lib.hid fun ap cp aq cq w' h1 k' => by
            have := HI.out b u ap cp aq cq x ax cx ay cy ci w' hou hltx h1 (HVX.out.thru k' (fun _ _ _ e => e) (fun _ q _ => q)) (hst.out.2.1.kept k' id) hci
            rw [hmx] at this
            exact this
          unfold OfR at HX
          have HRN : Hid (R = ofL (fun i x c => match witO t v.n i with | none => none | some u => ofK k u x c) (i + 1) (v.l.drop (i + 1)) d) := Lib.hid (by rw [hst.out.2.2, ofL_step hx]; show (match (match witO t v.n i with | none => none | some u => ofK k u x ci) with | none => none | some d => _) = _; rw [hu]; show (match ofK k u x ci with | none => none | some d => _) = _; rw [hmx])
          have hd4 : d ≤ 4000 := Nat.le_trans (ofK_le k u x ci d hmx) hci
          have HLT : Hid (i + 1 ≤ v.l.length) := Lib.hid hlt
          have hlenI : ((i : Int) < (v.l.length : Int)) = True := by simp; omega
          clear hmx hx hu hou hltx hlt
          go_wp2_with fail
          clear c0 c1 c2
          go_region_held3 (fun w' => w'.cell? ⟨w.heap.size, 0, none⟩ = some (.int .i64 t.kind) ∧ w'.cell? ⟨w.heap.size, 1, none⟩ = some (.slice an t.names.length cn) ∧ w'.cell? ⟨w.heap.size, 2, none⟩ = some (.slice al t.l.length cl) ∧ w'.cell? ⟨w.heap.size, 3, none⟩ = some (.int .i64 t.r) ∧ w'.cell? ⟨w.heap.size + 1, 0, none⟩ = some (.int .i64 v.n) ∧ w'.cell? ⟨w.heap.size + 1, 1, none⟩ = some (.slice sa v.s.length sc) ∧ w'.cell? ⟨w.heap.size + 1, 2, none⟩ = some (.slice (some ⟨g, o, none⟩) v.l.length cv) ∧ w'.cell? ⟨wr.heap.size, 0, none⟩ = some (.int .i64 x.n) ∧ w'.cell? ⟨wr.heap.size, 1, none⟩ = some (.slice ax x.s.length cx) ∧ w'.cell? ⟨wr.heap.size, 2, none⟩ = some (.slice ay x.l.length cy))
            (first | exact E0.out | exact HW.out _ q0.any | exact HW.out _ (q0.any.trans k5))
            (first
              | (go_at_call 31
                 refine (HX.out ap cp aq cq _ HUP.out (HKX.out.trans q0)).mono ?_
                 rintro y w5 ⟨rfl, hb5, k5⟩)
              | (go_at_call 43
                 refine (HWI.out _ (HKX.out.trans q0)).mono ?_
                 rintro y w4 ⟨ap, cp, aq, cq, rfl, h4, k4⟩
                 replace q0 : Kept (fun _ => False) (wr.alloc (.cells #[.int .i64 x.n, .slice ax x.s.length cx, .slice ay x.l.length cy] 29)) w4 := q0.trans k4
                 have HUP := Lib.hid h4
                 clear h4 k4 E0))
          all_goals go_wp2_with fail
          all_goals have hlt := HLT.out
          all_goals have KW := (HKX.out.trans q0).any.trans k5
          all_goals exact ⟨⟨i + 1, d, by go_num, HLT.out, hd4, Lib.hid ⟨hst.out.1.trans KW, hb5, HRN.out⟩, Lib.hid ⟨hbx.out.1.kept KW (by have := HBL.out; omega), hbx.out.2.kept KW (by have := HBL.out; omega)⟩⟩, by simp [intOf]; omega⟩
      · have hie : i = v.l.length := by omega
        have HRN : Hid (R = some ci) := Lib.hid (by rw [hst.out.2.2]; exact ofL_end (by omega))
        subst hie
        clear hlt
        go_wp2_with fail
        go_ret
        rw [HRN.out]
        exact ⟨rfl, hst.out.2.1, hst.out.1⟩
theorem of_all : ∀ k, OfAt k
  | 0 => by
    intro b t an cn al cl v sa sc av cv c w ho
    exact ho.elim
  | k + 1 => by
    intro b t an cn al cl v sa sc av cv c w ho hv ht hvp hb hc
    unfold ofK
    by_cases hn : c < 1 + v.s.length
    · rw [if_pos hn]
      exact of_over b t an cn al cl v sa sc av cv c w hv hb hc hn
    · rw [if_neg hn]
      by_cases hs : shapedV t v = true
      · rw [if_neg (by rw [hs]; decide)]
        exact of_go (of_all k) b t an cn al cl v sa sc av cv c w hv hb hc hn ho ht hvp hs
      · rw [if_pos (Bool.eq_false_iff.2 hs)]
        exact of_sha b t an cn al cl v sa sc av cv c w hv hb hc hn ht hvp ho.2.1 (Bool.eq_false_iff.2 hs)
end Go.Proofs.YtikgkjkgdlnekaaGreatDoor
