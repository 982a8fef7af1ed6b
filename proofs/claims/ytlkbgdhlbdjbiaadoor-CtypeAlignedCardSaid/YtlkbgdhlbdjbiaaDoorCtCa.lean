/- ctype: Places, Case. -/
import Derived.Test.YtlkbgdhlbdjbiaaDoorCtCl
import Derived.Test.YtlkbgdhlbdjbiaaDoorCtZ
set_option linter.unusedVariables false
set_option linter.unusedSimpArgs false
namespace Go.Proofs.YtlkbgdhlbdjbiaaDoor
open Go.RowKit
open Lex Ct

theorem okT_zero {t : Ty} (h : okT t = true) : t.kind ≠ 0 := by
  intro e
  have h1 := (okT_deep h).1
  unfold deepK shapedB at h1
  rw [e] at h1
  simp [okW] at h1
theorem okT_lens {t : Ty} (h : okT t = true) : t.names.length ≤ 64 ∧ t.l.length ≤ 64 ∧ (plainL t).length ≤ 64 :=
  ⟨(plainL_len (okT_fit h) (okT_zero h)).2.1, (plainL_len (okT_fit h) (okT_zero h)).2.2, (plainL_len (okT_fit h) (okT_zero h)).1⟩
/-- PLAIN, of a type that may be. -/
theorem rdPlain_ok (t : Ty) (an : Option Addr) (cn : Nat) (al : Option Addr) (cl : Nat) (w : World) (h : TyAt w t an cn al cl) (ho : okT t = true) :
    Calls Tryd.prog 23 #[tyV t an cn al cl] w (PlainR (plainT t) w) := rdPlain_all t an cn al cl w h (fun _ => (okT_lens ho).2.1) (okT_lens ho).1
/-- PLACES. -/
theorem rdPlaces_any (t : Ty) (an : Option Addr) (cn : Nat) (al : Option Addr) (cl : Nat) (w : World) (h : TyAt w t an cn al cl) (hf : FineT t) :
    Calls Tryd.prog 17 #[tyV t an cn al cl] w (IntR (ints (placesL t)) w) :=
  rdPlaces t an cn al cl w h hf fun ho w' k => rdPlain_ok t an cn al cl w' (h.kept k) ho
def caseP (t : Ty) : Nat × Nat := if (plainT t).kind = 15 then (casB (plainL t).length, casAt (lieK 15) (plainL t)) else (0, 0)
set_option maxRecDepth 100000 in
set_option maxHeartbeats 8000000 in
/-- CASE, of a type that may be. -/
theorem rdCase_ok (t : Ty) (an : Option Addr) (cn : Nat) (al : Option Addr) (cl : Nat) (w : World) (h : TyAt w t an cn al cl) (hf : FineT t) (ho : okT t = true) :
    Calls Tryd.prog 18 #[tyV t an cn al cl] w fun y w' => y = .returned (.tuple #[.int .i64 ((caseP t).1 : Nat), .int .i64 ((caseP t).2 : Nat)]) ∧ Kept (fun _ => False) w w' := by
  have k0 : Kept (fun _ => False) w (w.alloc (.cells #[.int .i64 t.kind, .slice an t.names.length cn, .slice al t.l.length cl, .int .i64 t.r] 25)) := (Kept.refl _ _).new _
  have T0 := BlkAt.new w #[.int .i64 t.kind, .slice an t.names.length cn, .slice al t.l.length cl, .int .i64 t.r] 25
  have HK := Lib.hid k0
  have HT := Lib.hid T0
  have HC := Lib.hid (fun w' k' => rdCheck_ok t an cn al cl w' (h.kept k') hf ho)
  have HP := Lib.hid (fun w' (k' : Kept (fun _ => False) w w') => rdPlain_ok t an cn al cl w' (h.kept k') ho)
  have HF := Lib.hid (fun w' aq cq (hr : RowAt w' (plainT t).l aq cq) => cases_of 15 (lie_all 15) t (okT_fit ho) (okT_zero ho) w' aq cq hr)
  have hpl := plainT_l t
  clear k0 T0 h hf ho
  unfold caseP
  revert HP HF hpl
  generalize casAt (lieK 15) (plainL t) = m
  generalize casV (lieK 15) (plainL t) = V
  generalize plainL t = pl
  generalize plainT t = x
  intro HP HF hpl
  subst hpl
  have hkk : (x.kind == 15) = decide (x.kind = 15) := by by_cases e : x.kind = 15 <;> simp [e]
  by_cases hx : x.kind = 15
  · have hb : (x.kind != 15) = false := by rw [hx]; rfl
    rw [if_pos hx]
    clear hkk hx
    go_enter Tryd.func18, Tryd.ntmps18
    go_wp2_with (first
      | (go_at_call 23; refine (HP.out _ HK.out).mono ?_; rintro y w1 ⟨ap, cp, aq, cq, rfl, ht, k1⟩
         have HK1 := Lib.hid ((HK.out.trans k1).new (.cells #[.int .i64 x.kind, .slice ap x.names.length cp, .slice aq x.l.length cq, .int .i64 x.r] 25))
         have HX := Lib.hid (ht.kept ((Kept.refl (fun _ => False) _).new (.cells #[.int .i64 x.kind, .slice ap x.names.length cp, .slice aq x.l.length cq, .int .i64 x.r] 25)))
         have HB := Lib.hid (BlkAt.new w1 #[.int .i64 x.kind, .slice ap x.names.length cp, .slice aq x.l.length cq, .int .i64 x.r] 25)
         obtain ⟨t0, t1, t2, t3⟩ := boxT_cells ((HT.out.kept (F := fun _ => False) k1 id).kept (F := fun _ => False) ((Kept.refl _ _).new (.cells #[.int .i64 x.kind, .slice ap x.names.length cp, .slice aq x.l.length cq, .int .i64 x.r] 25)) id)
         clear k1 ht)
      | (go_at_call 28; refine (HC.out _ HK1.out).mono ?_; rintro y w2 ⟨rfl, k2⟩
         have HK2 := Lib.hid (HK1.out.trans k2)
         have HX2 := Lib.hid (HX.out.kept k2).row
         have HB2 := Lib.hid (HB.out.kept (F := fun _ => False) k2 id)
         obtain ⟨u0, u1, u2, u3⟩ := boxT_cells HB2.out
         clear k2)
      | (go_at_call 34; refine (HF.out _ _ _ HX2.out).mono ?_; rintro y w3 ⟨rfl, k3⟩
         have HK3 := Lib.hid (HK2.out.trans k3)
         obtain ⟨v0, v1, v2, v3⟩ := boxT_cells (HB2.out.kept (F := fun _ => False) k3 id)
         clear k3)
      | (go_at_call 35; refine (rdCaseBytes x.l.length _).mono ?_; rintro y w4 ⟨rfl, rfl⟩))

    refine bodyPost_ret (v := .tuple #[.int .i64 (casB x.l.length : Nat), .int .i64 (m : Nat)]) (by simp [results, Tryd.results18, go_sem]) rfl ?_
    exact ⟨rfl, HK3.out⟩
  · have hb : (x.kind != 15) = true := by simp [hx]
    rw [if_neg hx]
    clear hkk hx
    go_enter Tryd.func18, Tryd.ntmps18
    go_wp2_with (first
      | (go_at_call 23; refine (HP.out _ HK.out).mono ?_; rintro y w1 ⟨ap, cp, aq, cq, rfl, ht, k1⟩
         have HK1 := Lib.hid ((HK.out.trans k1).new (.cells #[.int .i64 x.kind, .slice ap x.names.length cp, .slice aq x.l.length cq, .int .i64 x.r] 25))
         have HB := Lib.hid (BlkAt.new w1 #[.int .i64 x.kind, .slice ap x.names.length cp, .slice aq x.l.length cq, .int .i64 x.r] 25)
         obtain ⟨t0, t1, t2, t3⟩ := boxT_cells ((HT.out.kept (F := fun _ => False) k1 id).kept (F := fun _ => False) ((Kept.refl _ _).new (.cells #[.int .i64 x.kind, .slice ap x.names.length cp, .slice aq x.l.length cq, .int .i64 x.r] 25)) id)
         clear k1 ht)
      | (go_at_call 28; refine (HC.out _ HK1.out).mono ?_; rintro y w2 ⟨rfl, k2⟩
         have HK2 := Lib.hid (HK1.out.trans k2)
         obtain ⟨u0, u1, u2, u3⟩ := boxT_cells (HB.out.kept (F := fun _ => False) k2 id)
         clear k2))
    refine bodyPost_ret (v := .tuple #[.int .i64 0, .int .i64 0]) (by simp [results, Tryd.results18, go_sem]) rfl ?_
    exact ⟨rfl, HK2.out⟩
end Go.Proofs.YtlkbgdhlbdjbiaaDoor
