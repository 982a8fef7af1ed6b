/- value: Check. -/
import Derived.Test.YtikgkjkgdlnekaaGreatDoorVbH
import Derived.Test.YtikgkjkgdlnekaaGreatDoorVbI
import Derived.Test.YtikgkjkgdlnekaaGreatDoorCtFK
set_option linter.unusedVariables false
set_option linter.unusedSimpArgs false
namespace Go.Proofs.YtikgkjkgdlnekaaGreatDoor
open Go.RowKit
open Lex Ct

namespace Ct
def chkV (t : Ty) (v : Vl) : Int := if okT t = false then 1 else if partsK 16 t v = 0 then 6 else 0
theorem of_check {t : Ty} {v : Vl} (h : okT t = true) (c : Nat) (hc : c ≤ 4000) : ofK 16 (plK 17 t) v c = leftO (partsK 16 t v) c := rel_all 16 t v c (okT_deep h).1 hc
end Ct
theorem TyAt.ne {w w' : World} {t : Ty} {an : Option Addr} {cn : Nat} {al : Option Addr} {cl : Nat} (h : TyAt w t an cn al cl) (k : Kept (fun _ => False) w w') {b : Nat} (hb : w.heap.size ≤ b) : TyP (· ≠ b) w' t an cn al cl := h.now.thru k (fun _ _ _ e => e) (fun c q _ => by have q : c < w.heap.size := q; omega)
theorem VlAt.now {w : World} {v : Vl} {sa : Option Addr} {sc : Nat} {al : Option Addr} {cl : Nat} (h : VlAt w v sa sc al cl) : VlP (· < w.heap.size) w v sa sc al cl := ⟨h.s.now, h.l.now⟩
theorem VlAt.ne {w w' : World} {v : Vl} {sa : Option Addr} {sc : Nat} {al : Option Addr} {cl : Nat} (h : VlAt w v sa sc al cl) (k : Kept (fun _ => False) w w') {b : Nat} (hb : w.heap.size ≤ b) : VlP (· ≠ b) w' v sa sc al cl := h.now.thru k (fun _ _ _ e => e) (fun c q _ => by have q : c < w.heap.size := q; omega)
theorem rdPlNe (b : Nat) (t : Ty) (an : Option Addr) (cn : Nat) (al : Option Addr) (cl : Nat) (w : World) (h : TyP (· ≠ b) w t an cn al cl) (ho : okT t = true) (hb : b < w.heap.size) :
    Calls Tryz.prog 27 #[tyV t an cn al cl] w (TyR (· ≠ b) (plK 17 t) w) := by
  refine (plv_all 16 t (.inr (okT_deep ho).1) (· ≠ b) an cn al cl w (fun c hc => by omega) h.n h.l).mono ?_
  rintro y w' ⟨ap, cp, aq, cq, e, h1, h2, k⟩
  exact ⟨ap, cp, aq, cq, e, ⟨h1, h2⟩, k⟩
def ChkR (z : Int) (w : World) (y : Ending) (w' : World) : Prop := y = .returned (.int .i64 z) ∧ Kept (fun _ => False) w w'
set_option maxRecDepth 100000 in
set_option maxHeartbeats 4000000 in
theorem vchk_no (t : Ty) (an : Option Addr) (cn : Nat) (al : Option Addr) (cl : Nat) (v : Vl) (sa : Option Addr) (sc : Nat) (av : Option Addr) (cv : Nat) (w : World) (h : TyAt w t an cn al cl) (hf : FineT t) (ho : okT t = false) :
    Calls Tryz.prog 15 #[tyV t an cn al cl, vlV v sa sc av cv] w (ChkR 1 w) := by
  have k0 : Kept (fun _ => False) w ((w.alloc (.cells #[.int .i64 t.kind, .slice an t.names.length cn, .slice al t.l.length cl, .int .i64 t.r] 25)).alloc (.cells #[.int .i64 v.n, .slice sa v.s.length sc, .slice av v.l.length cv] 29)) := ((Kept.refl _ _).new _).new _
  have T0 := (BlkAt.new w #[.int .i64 t.kind, .slice an t.names.length cn, .slice al t.l.length cl, .int .i64 t.r] 25).kept (F := fun _ => False) ((Kept.refl _ _).new (.cells #[.int .i64 v.n, .slice sa v.s.length sc, .slice av v.l.length cv] 29)) id
  have V0 := BlkAt.new (w.alloc (.cells #[.int .i64 t.kind, .slice an t.names.length cn, .slice al t.l.length cl, .int .i64 t.r] 25)) #[.int .i64 v.n, .slice sa v.s.length sc, .slice av v.l.length cv] 29
  rw [World.size_alloc] at V0
  have HK := Lib.hid k0
  have HC := Lib.hid (fun w' (k : Kept (fun _ => False) w w') => rdCheck t an cn al cl w' (h.kept k) hf)
  have HO : Hid ((if okT t = true then (0 : Int) else 1) = 1) := Lib.hid (by rw [ho]; rfl)
  rw [HO.out] at HC
  clear h hf k0 T0 V0 ho
  go_enter Tryz.func15, Tryz.ntmps15
  go_wp2_with (first
    | (go_at_call 30; refine (HC.out _ HK.out).mono ?_; rintro y w1 ⟨rfl, k1⟩))
  go_ret
  exact ⟨rfl, HK.out.trans k1⟩
set_option maxRecDepth 100000 in
set_option maxHeartbeats 8000000 in
theorem vchk_bad (t : Ty) (an : Option Addr) (cn : Nat) (al : Option Addr) (cl : Nat) (v : Vl) (sa : Option Addr) (sc : Nat) (av : Option Addr) (cv : Nat) (w : World) (h : TyAt w t an cn al cl) (hf : FineT t) (hv : VlAt w v sa sc av cv) (hl : LtV v) (ho : okT t = true) (hp : partsK 16 t v = 0) :
    Calls Tryz.prog 15 #[tyV t an cn al cl, vlV v sa sc av cv] w (ChkR 6 w) := by
  have k0 : Kept (fun _ => False) w ((w.alloc (.cells #[.int .i64 t.kind, .slice an t.names.length cn, .slice al t.l.length cl, .int .i64 t.r] 25)).alloc (.cells #[.int .i64 v.n, .slice sa v.s.length sc, .slice av v.l.length cv] 29)) := ((Kept.refl _ _).new _).new _
  have T0 := (BlkAt.new w #[.int .i64 t.kind, .slice an t.names.length cn, .slice al t.l.length cl, .int .i64 t.r] 25).kept (F := fun _ => False) ((Kept.refl _ _).new (.cells #[.int .i64 v.n, .slice sa v.s.length sc, .slice av v.l.length cv] 29)) id
  have V0 := BlkAt.new (w.alloc (.cells #[.int .i64 t.kind, .slice an t.names.length cn, .slice al t.l.length cl, .int .i64 t.r] 25)) #[.int .i64 v.n, .slice sa v.s.length sc, .slice av v.l.length cv] 29
  rw [World.size_alloc] at V0
  have HK := Lib.hid k0
  have HC := Lib.hid (fun w' (k : Kept (fun _ => False) w w') => rdCheck t an cn al cl w' (h.kept k) hf)
  have HO : Hid ((if okT t = true then (0 : Int) else 1) = 0) := Lib.hid (by rw [ho]; rfl)
  rw [HO.out] at HC
  have HPL : Hid (∀ b w', w.heap.size ≤ b → Kept (fun _ => False) w w' → b < w'.heap.size → Calls Tryz.prog 27 #[tyV t an cn al cl] w' (TyR (· ≠ b) (plK 17 t) w')) := Lib.hid (fun b w' hb k hlt => rdPlNe b t an cn al cl w' (h.ne k hb) ho hlt)
  have HOF : Hid (∀ b w' ap cp aq cq, w.heap.size ≤ b → Kept (fun _ => False) w w' → TyP (· ≠ b) w' (plK 17 t) ap cp aq cq → BlkAt w' b #[.int .i64 4000] 65 → Calls Tryz.prog 31 #[.pointer (some ⟨b, 0, none⟩), tyV (plK 17 t) ap cp aq cq, vlV v sa sc av cv] w' (OfR none b w')) := Lib.hid (fun b w' ap cp aq cq hb k h1 h2 => by
    have := of_all 16 b (plK 17 t) ap cp aq cq v sa sc av cv 4000 w' (ok_pl 16 t (okT_deep ho).1) hl h1 (hv.ne k hb) h2 (Nat.le_refl _)
    rw [show ofK 16 (plK 17 t) v 4000 = none from (by rw [of_check ho 4000 (Nat.le_refl _)]; unfold leftO; rw [if_neg (fun q => q.1 hp)])] at this
    exact this)
  unfold TyR at HPL
  unfold OfR at HOF
  have HT := Lib.hid T0
  have HV := Lib.hid V0
  obtain ⟨p, hpp⟩ : ∃ p, p = plK 17 t := ⟨_, rfl⟩
  rw [← hpp] at HPL HOF
  clear h hf k0 T0 V0 ho hv hl hp hpp
  go_enter Tryz.func15, Tryz.ntmps15
  go_wp2_with (first
    | (go_at_call 30
       refine (HC.out _ HK.out).mono ?_
       rintro y w1 ⟨rfl, k1⟩
       have HK1 := Lib.hid (HK.out.trans k1)
       have HT1 := Lib.hid (HT.out.kept (F := fun _ => False) k1 id)
       have HV1 := Lib.hid (HV.out.kept (F := fun _ => False) k1 id)
       clear k1))
  have kx : Kept (fun _ => False) w1 (w1.alloc (.cells #[.int .i64 4000] 65)) := (Kept.refl _ _).new _
  have HB0 := Lib.hid (BlkAt.new w1 #[.int .i64 4000] 65)
  have hlw : w.heap.size + 1 < w1.heap.size := HV1.out.lt
  have HLW := Lib.hid hlw
  have HKX := Lib.hid kx
  have q0 : Kept (fun _ => False) (w1.alloc (.cells #[.int .i64 4000] 65)) (w1.alloc (.cells #[.int .i64 4000] 65)).drew := (Kept.refl _ _).drew
  have HW : Hid (∀ w', Kept (· = w1.heap.size) (w1.alloc (.cells #[.int .i64 4000] 65)) w' → w'.cell? ⟨w.heap.size, 0, none⟩ = some (.int .i64 t.kind) ∧ w'.cell? ⟨w.heap.size, 1, none⟩ = some (.slice an t.names.length cn) ∧ w'.cell? ⟨w.heap.size, 2, none⟩ = some (.slice al t.l.length cl) ∧ w'.cell? ⟨w.heap.size, 3, none⟩ = some (.int .i64 t.r) ∧ w'.cell? ⟨w.heap.size + 1, 0, none⟩ = some (.int .i64 v.n) ∧ w'.cell? ⟨w.heap.size + 1, 1, none⟩ = some (.slice sa v.s.length sc) ∧ w'.cell? ⟨w.heap.size + 1, 2, none⟩ = some (.slice av v.l.length cv)) := Lib.hid (fun w' k' => by
    have A := (HT1.out.kept (F := fun _ => False) kx id).kept k' (by omega)
    have B := (HV1.out.kept (F := fun _ => False) kx id).kept k' (by omega)
    exact ⟨A.cell 0, A.cell 1, A.cell 2, A.cell 3, B.cell 0, B.cell 1, B.cell 2⟩)
  have E0 := Lib.hid (HW.out _ q0.any)
  clear kx hlw
  go_region_held3 (fun w' => w'.cell? ⟨w.heap.size, 0, none⟩ = some (.int .i64 t.kind) ∧ w'.cell? ⟨w.heap.size, 1, none⟩ = some (.slice an t.names.length cn) ∧ w'.cell? ⟨w.heap.size, 2, none⟩ = some (.slice al t.l.length cl) ∧ w'.cell? ⟨w.heap.size, 3, none⟩ = some (.int .i64 t.r) ∧ w'.cell? ⟨w.heap.size + 1, 0, none⟩ = some (.int .i64 v.n) ∧ w'.cell? ⟨w.heap.size + 1, 1, none⟩ = some (.slice sa v.s.length sc) ∧ w'.cell? ⟨w.heap.size + 1, 2, none⟩ = some (.slice av v.l.length cv))
    (first | exact E0.out | exact HW.out _ q0.any | exact HW.out _ (q0.any.trans k5))
    (first
      | (go_at_call 31
         refine (HOF.out _ _ ap cp aq cq (by have := HLW.out; omega) (HK1.out.trans (HKX.out.trans q0)) HUP.out (HB0.out.kept q0 id)).mono ?_
         rintro y w5 ⟨rfl, hb5, k5⟩)
      | (go_at_call 27
         refine (HPL.out w1.heap.size _ (by have := HLW.out; omega) (HK1.out.trans (HKX.out.trans q0)) (by have := q0.size; rw [World.size_alloc] at this; omega)).mono ?_
         rintro y w4 ⟨ap, cp, aq, cq, rfl, h4, k4⟩
         replace q0 : Kept (fun _ => False) (w1.alloc (.cells #[.int .i64 4000] 65)) w4 := q0.trans k4
         have HUP := Lib.hid h4
         clear h4 k4 E0))
  all_goals go_wp2_with fail
  all_goals go_ret
  all_goals exact ⟨rfl, (((HK1.out.trans (HKX.out.trans q0)).any (F := (w.heap.size ≤ ·))).trans (k5.mono fun b e => by have := HLW.out; show w.heap.size ≤ b; omega)).clear (fun i hi e => by have e : w.heap.size ≤ i := e; omega)⟩
set_option maxRecDepth 100000 in
set_option maxHeartbeats 8000000 in
theorem vchk_ok (t : Ty) (an : Option Addr) (cn : Nat) (al : Option Addr) (cl : Nat) (v : Vl) (sa : Option Addr) (sc : Nat) (av : Option Addr) (cv : Nat) (w : World) (h : TyAt w t an cn al cl) (hf : FineT t) (hv : VlAt w v sa sc av cv) (hl : LtV v) (ho : okT t = true) (hp : partsK 16 t v ≠ 0) :
    Calls Tryz.prog 15 #[tyV t an cn al cl, vlV v sa sc av cv] w (ChkR 0 w) := by
  have k0 : Kept (fun _ => False) w ((w.alloc (.cells #[.int .i64 t.kind, .slice an t.names.length cn, .slice al t.l.length cl, .int .i64 t.r] 25)).alloc (.cells #[.int .i64 v.n, .slice sa v.s.length sc, .slice av v.l.length cv] 29)) := ((Kept.refl _ _).new _).new _
  have T0 := (BlkAt.new w #[.int .i64 t.kind, .slice an t.names.length cn, .slice al t.l.length cl, .int .i64 t.r] 25).kept (F := fun _ => False) ((Kept.refl _ _).new (.cells #[.int .i64 v.n, .slice sa v.s.length sc, .slice av v.l.length cv] 29)) id
  have V0 := BlkAt.new (w.alloc (.cells #[.int .i64 t.kind, .slice an t.names.length cn, .slice al t.l.length cl, .int .i64 t.r] 25)) #[.int .i64 v.n, .slice sa v.s.length sc, .slice av v.l.length cv] 29
  rw [World.size_alloc] at V0
  have HK := Lib.hid k0
  have HC := Lib.hid (fun w' (k : Kept (fun _ => False) w w') => rdCheck t an cn al cl w' (h.kept k) hf)
  have HO : Hid ((if okT t = true then (0 : Int) else 1) = 0) := Lib.hid (by rw [ho]; rfl)
  rw [HO.out] at HC
  have HPL : Hid (∀ b w', w.heap.size ≤ b → Kept (fun _ => False) w w' → b < w'.heap.size → Calls Tryz.prog 27 #[tyV t an cn al cl] w' (TyR (· ≠ b) (plK 17 t) w')) := Lib.hid (fun b w' hb k hlt => rdPlNe b t an cn al cl w' (h.ne k hb) ho hlt)
  have HOF : Hid (∀ b w' ap cp aq cq, w.heap.size ≤ b → Kept (fun _ => False) w w' → TyP (· ≠ b) w' (plK 17 t) ap cp aq cq → BlkAt w' b #[.int .i64 4000] 65 → Calls Tryz.prog 31 #[.pointer (some ⟨b, 0, none⟩), tyV (plK 17 t) ap cp aq cq, vlV v sa sc av cv] w' (OfR (some (4000 - partsK 16 t v)) b w')) := Lib.hid (fun b w' ap cp aq cq hb k h1 h2 => by
    have := of_all 16 b (plK 17 t) ap cp aq cq v sa sc av cv 4000 w' (ok_pl 16 t (okT_deep ho).1) hl h1 (hv.ne k hb) h2 (Nat.le_refl _)
    rw [show ofK 16 (plK 17 t) v 4000 = (some (4000 - partsK 16 t v)) from (by rw [of_check ho 4000 (Nat.le_refl _)]; unfold leftO; rw [if_pos ⟨hp, partsK_le 16 t v⟩])] at this
    exact this)
  unfold TyR at HPL
  unfold OfR at HOF
  have HT := Lib.hid T0
  have HV := Lib.hid V0
  obtain ⟨p, hpp⟩ : ∃ p, p = plK 17 t := ⟨_, rfl⟩
  rw [← hpp] at HPL HOF
  clear h hf k0 T0 V0 ho hv hl hp hpp
  go_enter Tryz.func15, Tryz.ntmps15
  go_wp2_with (first
    | (go_at_call 30
       refine (HC.out _ HK.out).mono ?_
       rintro y w1 ⟨rfl, k1⟩
       have HK1 := Lib.hid (HK.out.trans k1)
       have HT1 := Lib.hid (HT.out.kept (F := fun _ => False) k1 id)
       have HV1 := Lib.hid (HV.out.kept (F := fun _ => False) k1 id)
       clear k1))
  have kx : Kept (fun _ => False) w1 (w1.alloc (.cells #[.int .i64 4000] 65)) := (Kept.refl _ _).new _
  have HB0 := Lib.hid (BlkAt.new w1 #[.int .i64 4000] 65)
  have hlw : w.heap.size + 1 < w1.heap.size := HV1.out.lt
  have HLW := Lib.hid hlw
  have HKX := Lib.hid kx
  have q0 : Kept (fun _ => False) (w1.alloc (.cells #[.int .i64 4000] 65)) (w1.alloc (.cells #[.int .i64 4000] 65)).drew := (Kept.refl _ _).drew
  have HW : Hid (∀ w', Kept (· = w1.heap.size) (w1.alloc (.cells #[.int .i64 4000] 65)) w' → w'.cell? ⟨w.heap.size, 0, none⟩ = some (.int .i64 t.kind) ∧ w'.cell? ⟨w.heap.size, 1, none⟩ = some (.slice an t.names.length cn) ∧ w'.cell? ⟨w.heap.size, 2, none⟩ = some (.slice al t.l.length cl) ∧ w'.cell? ⟨w.heap.size, 3, none⟩ = some (.int .i64 t.r) ∧ w'.cell? ⟨w.heap.size + 1, 0, none⟩ = some (.int .i64 v.n) ∧ w'.cell? ⟨w.heap.size + 1, 1, none⟩ = some (.slice sa v.s.length sc) ∧ w'.cell? ⟨w.heap.size + 1, 2, none⟩ = some (.slice av v.l.length cv)) := Lib.hid (fun w' k' => by
    have A := (HT1.out.kept (F := fun _ => False) kx id).kept k' (by omega)
    have B := (HV1.out.kept (F := fun _ => False) kx id).kept k' (by omega)
    exact ⟨A.cell 0, A.cell 1, A.cell 2, A.cell 3, B.cell 0, B.cell 1, B.cell 2⟩)
  have E0 := Lib.hid (HW.out _ q0.any)
  clear kx hlw
  go_region_held3 (fun w' => w'.cell? ⟨w.heap.size, 0, none⟩ = some (.int .i64 t.kind) ∧ w'.cell? ⟨w.heap.size, 1, none⟩ = some (.slice an t.names.length cn) ∧ w'.cell? ⟨w.heap.size, 2, none⟩ = some (.slice al t.l.length cl) ∧ w'.cell? ⟨w.heap.size, 3, none⟩ = some (.int .i64 t.r) ∧ w'.cell? ⟨w.heap.size + 1, 0, none⟩ = some (.int .i64 v.n) ∧ w'.cell? ⟨w.heap.size + 1, 1, none⟩ = some (.slice sa v.s.length sc) ∧ w'.cell? ⟨w.heap.size + 1, 2, none⟩ = some (.slice av v.l.length cv))
    (first | exact E0.out | exact HW.out _ q0.any | exact HW.out _ (q0.any.trans k5))
    (first
      | (go_at_call 31
         refine (HOF.out _ _ ap cp aq cq (by have := HLW.out; omega) (HK1.out.trans (HKX.out.trans q0)) HUP.out (HB0.out.kept q0 id)).mono ?_
         rintro y w5 ⟨rfl, hb5, k5⟩)
      | (go_at_call 27
         refine (HPL.out w1.heap.size _ (by have := HLW.out; omega) (HK1.out.trans (HKX.out.trans q0)) (by have := q0.size; rw [World.size_alloc] at this; omega)).mono ?_
         rintro y w4 ⟨ap, cp, aq, cq, rfl, h4, k4⟩
         replace q0 : Kept (fun _ => False) (w1.alloc (.cells #[.int .i64 4000] 65)) w4 := q0.trans k4
         have HUP := Lib.hid h4
         clear h4 k4 E0))
  all_goals go_wp2_with fail
  all_goals go_ret
  all_goals exact ⟨rfl, (((HK1.out.trans (HKX.out.trans q0)).any (F := (w.heap.size ≤ ·))).trans (k5.mono fun b e => by have := HLW.out; show w.heap.size ≤ b; omega)).clear (fun i hi e => by have e : w.heap.size ≤ i := e; omega)⟩
/-- CHECK, the project's. -/
theorem rdVCheck (t : Ty) (an : Option Addr) (cn : Nat) (al : Option Addr) (cl : Nat) (v : Vl) (sa : Option Addr) (sc : Nat) (av : Option Addr) (cv : Nat) (w : World) (h : TyAt w t an cn al cl) (hf : FineT t) (hv : VlAt w v sa sc av cv) (hl : LtV v) :
    Calls Tryz.prog 15 #[tyV t an cn al cl, vlV v sa sc av cv] w (ChkR (chkV t v) w) := by
  unfold chkV
  by_cases ho : okT t = true
  · rw [if_neg (by rw [ho]; decide)]
    by_cases hp : partsK 16 t v = 0
    · rw [if_pos hp]
      exact vchk_bad t an cn al cl v sa sc av cv w h hf hv hl ho hp
    · rw [if_neg hp]
      exact vchk_ok t an cn al cl v sa sc av cv w h hf hv hl ho hp
  · rw [if_pos (Bool.eq_false_iff.2 ho)]
    exact vchk_no t an cn al cl v sa sc av cv w h hf (Bool.eq_false_iff.2 ho)
end Go.Proofs.YtikgkjkgdlnekaaGreatDoor
