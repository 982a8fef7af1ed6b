/- value: ValueChecks. -/
import Derived.Test.YtkbehflcofcgjaaGreatDoorVbT8
import Derived.Test.YtkbehflcofcgjaaGreatDoorVaIn
set_option linter.unusedVariables false
set_option linter.unusedSimpArgs false
namespace Go.Proofs.YtkbehflcofcgjaaGreatDoor
open Go.RowKit
open Lex Ct

theorem light_lt {v : Vl} (h : lightV v = true) : LtV v := ⟨21, of_decide_eq_true h⟩
set_option maxRecDepth 100000 in
set_option maxHeartbeats 8000000 in
theorem ValueChecks_walk (t : Ty) (an : Option Addr) (cn : Nat) (al : Option Addr) (cl : Nat) (v : Vl) (sa : Option Addr) (sc : Nat) (av : Option Addr) (cv : Nat) (w : World) (h : TyAt w t an cn al cl) (hf : FineT t) (hv : VlAt w v sa sc av cv) (hfv : FineV v) (htab : TabW w) :
    Calls Tryz.prog 3 #[tyV t an cn al cl, vlV v sa sc av cv] w fun y w' => y = .returned (.bool true) ∧ Kept (fun _ => False) w w' := by
  have k0 : Kept (fun _ => False) w ((w.alloc (.cells #[.int .i64 t.kind, .slice an t.names.length cn, .slice al t.l.length cl, .int .i64 t.r] 25)).alloc (.cells #[.int .i64 v.n, .slice sa v.s.length sc, .slice av v.l.length cv] 29)) := ((Kept.refl _ _).new _).new _
  have T0 := (BlkAt.new w #[.int .i64 t.kind, .slice an t.names.length cn, .slice al t.l.length cl, .int .i64 t.r] 25).kept (F := fun _ => False) ((Kept.refl _ _).new (.cells #[.int .i64 v.n, .slice sa v.s.length sc, .slice av v.l.length cv] 29)) id
  have V0 := BlkAt.new (w.alloc (.cells #[.int .i64 t.kind, .slice an t.names.length cn, .slice al t.l.length cl, .int .i64 t.r] 25)) #[.int .i64 v.n, .slice sa v.s.length sc, .slice av v.l.length cv] 29
  rw [World.size_alloc] at V0
  have HT := Lib.hid T0
  have HV := Lib.hid V0
  have HK := Lib.hid k0
  have HLI := Lib.hid (fun w' (k : Kept (fun _ => False) w w') => rdLight v sa sc av cv w' (hv.kept k))
  have HAW := Lib.hid (fun w' (k : Kept (fun _ => False) w w') => awake15 w' (htab.kept k))
  unfold AwkR at HAW
  by_cases hl : lightV v = true
  · rw [hl] at HLI
    have HC := Lib.hid (fun w' (k : Kept (fun _ => False) w w') => rdVCheck t an cn al cl v sa sc av cv w' (h.kept k) hf (hv.kept k) (light_lt hl))
    have HR := Lib.hid (fun w' (k : Kept (fun _ => False) w w') => rdRCheck t an cn al cl v sa sc av cv w' (h.kept k) hf (hv.kept k) (light_lt hl))
    generalize chkV t v = z at HC HR
    unfold ChkR at HC HR
    clear h hf hv hfv htab hl k0 T0 V0
    go_enter Tryz.func3, Tryz.ntmps3
    go_wp2_with (first
      | (go_at_call 9
         refine (HLI.out _ HK.out).mono ?_
         rintro y w1 ⟨rfl, k1⟩
         have HK1 := Lib.hid (HK.out.trans k1)
         have HT1 := Lib.hid (HT.out.kept (F := fun _ => False) k1 id)
         have HV1 := Lib.hid (HV.out.kept (F := fun _ => False) k1 id)
         clear k1))
    have q0 : Kept (fun _ => False) w1 w1.drew := (Kept.refl _ _).drew
    have HW : Hid (∀ w', Kept (fun _ => False) w1 w' → w'.cell? ⟨w.heap.size, 0, none⟩ = some (.int .i64 t.kind) ∧ w'.cell? ⟨w.heap.size, 1, none⟩ = some (.slice an t.names.length cn) ∧ w'.cell? ⟨w.heap.size, 2, none⟩ = some (.slice al t.l.length cl) ∧ w'.cell? ⟨w.heap.size, 3, none⟩ = some (.int .i64 t.r) ∧ w'.cell? ⟨w.heap.size + 1, 0, none⟩ = some (.int .i64 v.n) ∧ w'.cell? ⟨w.heap.size + 1, 1, none⟩ = some (.slice sa v.s.length sc) ∧ w'.cell? ⟨w.heap.size + 1, 2, none⟩ = some (.slice av v.l.length cv)) := Lib.hid (fun w' k' => by
      have A := HT1.out.kept (F := fun _ => False) k' id
      have B := HV1.out.kept (F := fun _ => False) k' id
      exact ⟨A.cell 0, A.cell 1, A.cell 2, A.cell 3, B.cell 0, B.cell 1, B.cell 2⟩)
    have E0 := Lib.hid (HW.out _ q0)
    go_region_held3 (fun w' => w'.cell? ⟨w.heap.size, 0, none⟩ = some (.int .i64 t.kind) ∧ w'.cell? ⟨w.heap.size, 1, none⟩ = some (.slice an t.names.length cn) ∧ w'.cell? ⟨w.heap.size, 2, none⟩ = some (.slice al t.l.length cl) ∧ w'.cell? ⟨w.heap.size, 3, none⟩ = some (.int .i64 t.r) ∧ w'.cell? ⟨w.heap.size + 1, 0, none⟩ = some (.int .i64 v.n) ∧ w'.cell? ⟨w.heap.size + 1, 1, none⟩ = some (.slice sa v.s.length sc) ∧ w'.cell? ⟨w.heap.size + 1, 2, none⟩ = some (.slice av v.l.length cv))
      (first | exact E0.out | exact HW.out _ q0)
      (first
        | (go_at_call 11
           refine (HC.out _ (HK1.out.trans q0)).mono ?_
           rintro y w2 ⟨rfl, k2⟩
           replace q0 := q0.trans k2
           clear k2 E0)
        | (go_at_call 12
           refine (HR.out _ (HK1.out.trans q0)).mono ?_
           rintro y w3 ⟨rfl, k3⟩
           replace q0 := q0.trans k3
           clear k3)
        | (go_at_call 10
           refine (HAW.out _ (HK1.out.trans q0)).mono ?_
           rintro y w4 ⟨rfl, k4⟩
           replace q0 := q0.trans k4
           clear k4))
    all_goals go_wp2_with fail
    all_goals go_ret
    all_goals exact ⟨by first | rfl | (simp; done), HK1.out.trans q0⟩
  · rw [Bool.eq_false_iff.2 hl] at HLI
    clear h hf hv hfv htab hl k0 T0 V0
    go_enter Tryz.func3, Tryz.ntmps3
    go_wp2_with (first
      | (go_at_call 9; refine (HLI.out _ HK.out).mono ?_; rintro y w1 ⟨rfl, k1⟩)
      | (go_at_call 10; refine (HAW.out _ (HK.out.trans k1)).mono ?_; rintro y w2 ⟨rfl, k2⟩))
    go_ret
    exact ⟨rfl, (HK.out.trans k1).trans k2⟩
end Go.Proofs.YtkbehflcofcgjaaGreatDoor
