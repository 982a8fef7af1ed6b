/- value: handles, Handles. -/
import Derived.Test.YtikgkjkgdlnekaaGreatDoorVhI
import Derived.Test.YtikgkjkgdlnekaaGreatDoorVhGH
import Derived.Test.YtikgkjkgdlnekaaGreatDoorVbF
import Derived.Test.YtikgkjkgdlnekaaGreatDoorVbJ
set_option linter.unusedVariables false
set_option linter.unusedSimpArgs false
namespace Go.Proofs.YtikgkjkgdlnekaaGreatDoor
open Go.RowKit
open Lex Ct

theorem tel_handles {B bt bn : Nat} (hbt : bt < B) (hbn : bn < B) (hne : bt ≠ bn) : TelAt 33 #[.pointer (some ⟨bt, 0, none⟩), .pointer (some ⟨bn, 0, none⟩)] (StH B bt bn) where
  eg := handles1_func
  kept := fun F hs w w' ⟨a, ca, b, cb, h, hF⟩ k => ⟨a, ca, b, cb, h.kept k, hF⟩
  lt := fun F hs w ⟨a, ca, b, cb, h, hF⟩ g hg => by
    rcases (hF g).1 hg with rfl | rfl | e | e
    · exact h.t.lt
    · exact h.n.lt
    · exact (World.ownsRow.lt h.ty g e).2
    · exact (World.ownsRow.lt h.nu g e).2
  call := fun F hs w t an cn al cl g o n h hg hgl hc hl => by
    cases t with
    | mk kd names l r => exact rdTell B bt bn hbt hbn hne F hs w kd names l r an cn al cl g o n h hg hgl hc hl
theorem StH.start {w : World} {B bt bn : Nat} (ht : BlkAt w bt #[.slice none 0 0] 23) (hn : BlkAt w bn #[.slice none 0 0] 26) (hB : B ≤ w.heap.size) : StH B bt bn (fun g => g = bt ∨ g = bn) [] w :=
  ⟨none, 0, none, 0, ⟨ht, hn, World.ownsRow_nil _ _ _ _, World.ownsRow_nil _ _ _ _, hB⟩, fun g => ⟨fun h => h.imp id .inl, fun h => by
    rcases h with h | h | h | h
    · exact .inl h
    · exact .inr h
    · cases h
    · cases h⟩⟩
theorem StH.gives {w w0 w1 w2 : World} {bt bn : Nat} {F : Nat → Prop} {hs : List (Int × Int × Int)} {a : Option Addr} {ca : Nat} {b : Option Addr} {cb : Nat} (h : HoldAt w1.heap.size bt bn a ca b cb hs w2) (k0 : Kept (fun _ => False) w w1) (k : Kept F w1 w2) (hF : ∀ g, F g → w.heap.size ≤ g) {w3 : World} (k3 : Kept (fun _ => False) w2 w3) :
    HdsR hs w (.returned (.tuple #[.slice a hs.length ca, .slice b hs.length cb])) w3 := by
  have ho := h.kept k3
  have e1 : (hs.map fun h => (⟨h.1, none, 0, 0, none, 0, 0, h.2.1⟩ : Qd)).flatMap Qd.cs = tyCs hs := by rw [List.flatMap_map]; rfl
  have e2 : (hs.map fun h => (⟨h.1, none, 0, 0, none, 0, 0, h.2.1⟩ : Qd)).length = hs.length := List.length_map _
  refine ⟨hs.map fun h => ⟨h.1, none, 0, 0, none, 0, 0, h.2.1⟩, a, ca, b, cb, by rw [e2], by rw [List.map_map]; rfl, ?_, own_cell ho.nu k0.size, ?_⟩
  · rw [e1, e2]
    exact own_cell ho.ty k0.size
  · exact (k0.then k fun i hi e => absurd (hF i e) (by omega)).trans k3
set_option maxRecDepth 100000 in
set_option maxHeartbeats 8000000 in
theorem rdHandles (t : Ty) (an : Option Addr) (cn : Nat) (al : Option Addr) (cl : Nat) (v : Vl) (sa : Option Addr) (sc : Nat) (av : Option Addr) (cv : Nat) (w : World) (h : TyAt w t an cn al cl) (hv : VlAt w v sa sc av cv) (ho : okT t = true) (hp : partsK 16 t v ≠ 0) (hlt : LtV v) :
    Calls Tryz.prog 18 #[tyV t an cn al cl, vlV v sa sc av cv] w (HdsR (hdsR 16 t v) w) := by
  have hlen : (hdsR 16 t v).length ≤ 4000 := Nat.le_trans (hdsR_len 16 t v (okT_deep ho).1 hp) (partsK_le 16 t v)
  obtain ⟨w0, hw0⟩ : ∃ w0, w0 = (((w.alloc (.cells #[.int .i64 t.kind, .slice an t.names.length cn, .slice al t.l.length cl, .int .i64 t.r] 25)).alloc (.cells #[.int .i64 v.n, .slice sa v.s.length sc, .slice av v.l.length cv] 29)).alloc (.cells #[.slice none 0 0] 23)).alloc (.cells #[.slice none 0 0] 26) := ⟨_, rfl⟩
  have k0 : Kept (fun _ => False) w w0 := by rw [hw0]; exact ((((Kept.refl _ _).new _).new _).new _).new _
  have kn : ∀ (w' : World) (o o2 o3 : Obj), Kept (fun _ => False) w' (((w'.alloc o).alloc o2).alloc o3) := fun _ _ _ _ => (((Kept.refl _ _).new _).new _).new _
  have T0 : BlkAt w0 w.heap.size #[.int .i64 t.kind, .slice an t.names.length cn, .slice al t.l.length cl, .int .i64 t.r] 25 := by
    rw [hw0]
    exact (BlkAt.new w _ _).kept (F := fun _ => False) ((((Kept.refl _ _).new _).new _).new _) id
  have V0 : BlkAt w0 (w.heap.size + 1) #[.int .i64 v.n, .slice sa v.s.length sc, .slice av v.l.length cv] 29 := by
    rw [hw0]
    have := BlkAt.new (w.alloc (.cells #[.int .i64 t.kind, .slice an t.names.length cn, .slice al t.l.length cl, .int .i64 t.r] 25)) #[.int .i64 v.n, .slice sa v.s.length sc, .slice av v.l.length cv] 29
    rw [World.size_alloc] at this
    exact this.kept (F := fun _ => False) (((Kept.refl _ _).new _).new _) id
  have A0 : BlkAt w0 (w.heap.size + 1 + 1) #[.slice none 0 0] 23 := by
    rw [hw0]
    have := BlkAt.new ((w.alloc (.cells #[.int .i64 t.kind, .slice an t.names.length cn, .slice al t.l.length cl, .int .i64 t.r] 25)).alloc (.cells #[.int .i64 v.n, .slice sa v.s.length sc, .slice av v.l.length cv] 29)) #[.slice none 0 0] 23
    rw [World.size_alloc, World.size_alloc] at this
    exact this.kept (F := fun _ => False) ((Kept.refl _ _).new _) id
  have N0 : BlkAt w0 (w.heap.size + 1 + 1 + 1) #[.slice none 0 0] 26 := by
    rw [hw0]
    have := BlkAt.new (((w.alloc (.cells #[.int .i64 t.kind, .slice an t.names.length cn, .slice al t.l.length cl, .int .i64 t.r] 25)).alloc (.cells #[.int .i64 v.n, .slice sa v.s.length sc, .slice av v.l.length cv] 29)).alloc (.cells #[.slice none 0 0] 23)) #[.slice none 0 0] 26
    rw [World.size_alloc, World.size_alloc, World.size_alloc] at this
    exact this
  have hN := N0.lt
  have HTP : TyP (fun b => ¬ (b = w.heap.size + 1 + 1 ∨ b = w.heap.size + 1 + 1 + 1)) w0 t an cn al cl := h.now.thru k0 (fun _ _ _ e => e) (fun b q _ e => by have q : b < w.heap.size := q; omega)
  have HVP : VlP (fun b => ¬ (b = w.heap.size + 1 + 1 ∨ b = w.heap.size + 1 + 1 + 1)) w0 v sa sc av cv := hv.now.thru k0 (fun _ _ _ e => e) (fun b q _ e => by have q : b < w.heap.size := q; omega)
  have HPL := Lib.hid (plv_all 16 t (.inr (okT_deep ho).1) (fun b => ¬ (b = w.heap.size + 1 + 1 ∨ b = w.heap.size + 1 + 1 + 1)) an cn al cl w0 (fun b hb e => by omega) HTP.n HTP.l)
  have HE : Hid (∀ w1 ap cp aq cq, Kept (fun _ => False) w0 w1 → TyP (fun b => ¬ (b = w.heap.size + 1 + 1 ∨ b = w.heap.size + 1 + 1 + 1)) w1 (plK 17 t) ap cp aq cq → Calls Tryz.prog 26 #[tyV (plK 17 t) ap cp aq cq, .pointer (some ⟨w.heap.size + 1, 0, none⟩), .func (.func 33) #[] #[.pointer (some ⟨w.heap.size + 1 + 1, 0, none⟩), .pointer (some ⟨w.heap.size + 1 + 1 + 1, 0, none⟩)]] w1 (TelR (StH w1.heap.size (w.heap.size + 1 + 1) (w.heap.size + 1 + 1 + 1)) (fun b => b = w.heap.size + 1 + 1 ∨ b = w.heap.size + 1 + 1 + 1) (hdsR 16 t v) w1)) := Lib.hid fun w1 ap cp aq cq k1 hty => by
    have hz := k1.size
    have V1 := V0.kept (F := fun _ => False) k1 id
    have := each_all (tel_handles (B := w1.heap.size) (bt := w.heap.size + 1 + 1) (bn := w.heap.size + 1 + 1 + 1) (by omega) (by omega) (by omega)) 16 t v (okT_deep ho).1 hp hlt ap cp aq cq sa sc av cv (w.heap.size + 1) 0 (fun b => b = w.heap.size + 1 + 1 ∨ b = w.heap.size + 1 + 1 + 1) [] w1 hty (HVP.thru k1 (fun _ _ _ e => e) (fun _ q _ => q)) (by omega) (by omega) (V1.cell 0) (V1.cell 1) (V1.cell 2) (StH.start (A0.kept (F := fun _ => False) k1 id) (N0.kept (F := fun _ => False) k1 id) (Nat.le_refl _)) (by simpa using hlen)
    rw [List.nil_append] at this
    exact this
  unfold PlR at HPL
  unfold TelR at HE
  have T0' := T0
  rw [hw0] at T0'
  obtain ⟨t0, t1, t2, t3⟩ := box4_cells' T0'
  have HK := Lib.hid k0
  generalize hdsR 16 t v = hs at HE ⊢
  generalize plK 17 t = U at HE HPL
  clear h hv ho hp hlt hlen k0 kn T0 T0' V0 A0 N0 hN HTP HVP
  go_enter Tryz.func18, Tryz.ntmps18
  go_wp2_with (first
    | (go_at_call 26
       refine (HE.out _ ap cp aq cq HK1.out HU.out).mono ?_
       rintro y w2 ⟨rfl, F', hst, k2, hf⟩
       obtain ⟨a, ca, b, cb, hh, hF⟩ := hst
       have m1 := hh.t.cell 0
       have m2 := hh.n.cell 0
       simp at m1 m2
       have m1' : w2.drew.cell? ⟨w.heap.size + 1 + 1, 0, none⟩ = some (.slice a hs.length ca) := m1
       have m2' : w2.drew.cell? ⟨w.heap.size + 1 + 1 + 1, 0, none⟩ = some (.slice b hs.length cb) := m2
       have H2 := Lib.hid (And.intro hh k2)
       clear hh k2 hF hf)
    | (go_at_call 27
       rw [← hw0]
       refine HPL.out.mono ?_
       rintro y w1 ⟨ap, cp, aq, cq, rfl, h1, h2, k1⟩
       have HU := Lib.hid (TyP.mk h1 h2)
       have HK1 := Lib.hid k1
       clear h1 h2 k1))
  all_goals try go_region
  all_goals try go_wp2_with fail
  all_goals refine bodyPost_ret (v := .tuple #[.slice a hs.length ca, .slice b hs.length cb]) (by simp [results, Tryz.results18, go_sem]) rfl ?_
  all_goals exact StH.gives (w0 := w0) H2.out.1 (HK.out.trans HK1.out) H2.out.2 (fun g e => by omega) (by first | exact Kept.refl _ _ | exact (Kept.refl _ _).drew)
theorem HdsR.from {hs : List (Int × Int × Int)} {w w1 w2 : World} {y : Ending} (k : Kept (fun _ => False) w w1) (h : HdsR hs w1 y w2) : HdsR hs w y w2 := by
  obtain ⟨qs, a, ca, b, cb, e, hm, h1, h2, k2⟩ := h
  exact ⟨qs, a, ca, b, cb, e, hm, ⟨h1.1, h1.2.1, h1.2.2.imp id fun ⟨g, o, e, hB, r⟩ => ⟨g, o, e, Nat.le_trans k.size hB, r⟩⟩, ⟨h2.1, h2.2.1, h2.2.2.imp id fun ⟨g, o, e, hB, r⟩ => ⟨g, o, e, Nat.le_trans k.size hB, r⟩⟩, k.trans k2⟩
theorem chk_yes {t : Ty} {v : Vl} (h : chkV t v = 0) : okT t = true ∧ partsK 16 t v ≠ 0 := by
  unfold chkV at h
  split at h
  · exact absurd h (by decide)
  · rename_i h1
    split at h
    · exact absurd h (by decide)
    · rename_i h2
      exact ⟨by cases hb : okT t <;> simp_all, h2⟩
set_option maxRecDepth 100000 in
set_option maxHeartbeats 8000000 in
theorem rdVHandles_yes (t : Ty) (an : Option Addr) (cn : Nat) (al : Option Addr) (cl : Nat) (v : Vl) (sa : Option Addr) (sc : Nat) (av : Option Addr) (cv : Nat) (w : World) (h : TyAt w t an cn al cl) (hf : FineT t) (hv : VlAt w v sa sc av cv) (hlt : LtV v) (hz : chkV t v = 0) :
    Calls Tryz.prog 7 #[tyV t an cn al cl, vlV v sa sc av cv] w (HdsR (hdsR 16 t v) w) := by
  have k0 : Kept (fun _ => False) w ((w.alloc (.cells #[.int .i64 t.kind, .slice an t.names.length cn, .slice al t.l.length cl, .int .i64 t.r] 25)).alloc (.cells #[.int .i64 v.n, .slice sa v.s.length sc, .slice av v.l.length cv] 29)) := ((Kept.refl _ _).new _).new _
  have T0 := (BlkAt.new w #[.int .i64 t.kind, .slice an t.names.length cn, .slice al t.l.length cl, .int .i64 t.r] 25).kept (F := fun _ => False) ((Kept.refl _ _).new (.cells #[.int .i64 v.n, .slice sa v.s.length sc, .slice av v.l.length cv] 29)) id
  have V0 := BlkAt.new (w.alloc (.cells #[.int .i64 t.kind, .slice an t.names.length cn, .slice al t.l.length cl, .int .i64 t.r] 25)) #[.int .i64 v.n, .slice sa v.s.length sc, .slice av v.l.length cv] 29
  rw [World.size_alloc] at V0
  have HT := Lib.hid T0
  have HV := Lib.hid V0
  have HK := Lib.hid k0
  obtain ⟨t0, t1, t2, t3⟩ := box4_cells' T0
  obtain ⟨v0, v1, v2⟩ := box3_cells V0
  have HC := Lib.hid (fun w' (k : Kept (fun _ => False) w w') => rdVCheck t an cn al cl v sa sc av cv w' (h.kept k) hf (hv.kept k) hlt)
  rw [hz] at HC
  unfold ChkR at HC
  obtain ⟨ho, hp⟩ := chk_yes hz
  have HH := Lib.hid (fun w' (k : Kept (fun _ => False) w w') => rdHandles t an cn al cl v sa sc av cv w' (h.kept k) (hv.kept k) ho hp hlt)
  unfold HdsR at HH
  generalize hhs : hdsR 16 t v = hs at HH ⊢
  clear h hf hv hlt hz ho hp k0 T0 V0 hhs
  go_enter Tryz.func7, Tryz.ntmps7
  go_wp2_with (first
    | (go_at_call 18
       refine (HH.out _ HK1.out).mono ?_
       rintro y w2 ⟨qs, a, ca, b, cb, rfl, hr⟩
       have HR := Lib.hid hr
       clear hr)
    | (go_at_call 15
       refine (HC.out _ HK.out).mono ?_
       rintro y w1 ⟨rfl, k1⟩
       have HT1 := Lib.hid (HT.out.kept (F := fun _ => False) k1 id)
       have HV1 := Lib.hid (HV.out.kept (F := fun _ => False) k1 id)
       clear t0 t1 t2 t3 v0 v1 v2
       obtain ⟨t0, t1, t2, t3⟩ := box4_cells' HT1.out
       obtain ⟨v0, v1, v2⟩ := box3_cells HV1.out
       have HK1 := Lib.hid (HK.out.trans k1)
       clear k1))
  refine bodyPost_ret (v := .tuple #[.slice a qs.length ca, .slice b hs.length cb]) (by simp [results, Tryz.results7, go_sem]) rfl ?_
  exact HdsR.from HK1.out ⟨qs, a, ca, b, cb, rfl, HR.out⟩
set_option maxRecDepth 100000 in
set_option maxHeartbeats 8000000 in
theorem rdVHandles_no (t : Ty) (an : Option Addr) (cn : Nat) (al : Option Addr) (cl : Nat) (v : Vl) (sa : Option Addr) (sc : Nat) (av : Option Addr) (cv : Nat) (w : World) (h : TyAt w t an cn al cl) (hf : FineT t) (hv : VlAt w v sa sc av cv) (hlt : LtV v) (hz : chkV t v ≠ 0) :
    Calls Tryz.prog 7 #[tyV t an cn al cl, vlV v sa sc av cv] w fun y w' => y = .returned (.tuple #[.slice none 0 0, .slice none 0 0]) ∧ Kept (fun _ => False) w w' := by
  have k0 : Kept (fun _ => False) w ((w.alloc (.cells #[.int .i64 t.kind, .slice an t.names.length cn, .slice al t.l.length cl, .int .i64 t.r] 25)).alloc (.cells #[.int .i64 v.n, .slice sa v.s.length sc, .slice av v.l.length cv] 29)) := ((Kept.refl _ _).new _).new _
  have T0 := (BlkAt.new w #[.int .i64 t.kind, .slice an t.names.length cn, .slice al t.l.length cl, .int .i64 t.r] 25).kept (F := fun _ => False) ((Kept.refl _ _).new (.cells #[.int .i64 v.n, .slice sa v.s.length sc, .slice av v.l.length cv] 29)) id
  have V0 := BlkAt.new (w.alloc (.cells #[.int .i64 t.kind, .slice an t.names.length cn, .slice al t.l.length cl, .int .i64 t.r] 25)) #[.int .i64 v.n, .slice sa v.s.length sc, .slice av v.l.length cv] 29
  rw [World.size_alloc] at V0
  have HK := Lib.hid k0
  obtain ⟨t0, t1, t2, t3⟩ := box4_cells' T0
  obtain ⟨v0, v1, v2⟩ := box3_cells V0
  have HC := Lib.hid (fun w' (k : Kept (fun _ => False) w w') => rdVCheck t an cn al cl v sa sc av cv w' (h.kept k) hf (hv.kept k) hlt)
  have hzb : (chkV t v != 0) = true := by simp [hz]
  unfold ChkR at HC
  generalize chkV t v = z at HC hzb
  clear h hf hv hlt hz k0 T0 V0
  go_enter Tryz.func7, Tryz.ntmps7
  go_wp2_with ((go_at_call 15; refine (HC.out _ HK.out).mono ?_; rintro y w1 ⟨rfl, k1⟩))
  refine bodyPost_ret (v := .tuple #[.slice none 0 0, .slice none 0 0]) (by simp [results, Tryz.results7, go_sem]) rfl ?_
  exact ⟨rfl, HK.out.trans k1⟩
end Go.Proofs.YtikgkjkgdlnekaaGreatDoor
