/- ctype: CtypeCores: the walk. -/
import Derived.Test.YtcfakaglmlfkpaaDoorCtSm
set_option linter.unusedVariables false
set_option linter.unusedSimpArgs false
namespace Go.Proofs.YtcfakaglmlfkpaaDoor
open Go.RowKit
open Lex Ct

theorem boxS_all {w : World} {b : Nat} {s : Sg} {ap : Option Addr} {cp : Nat} {aq : Option Addr} {cq : Nat} {an : Option Addr} {cn : Nat} {al : Option Addr} {cl : Nat} (h : BlkAt w b (sgC s ap cp aq cq an cn al cl) 27) :
    w.cell? ⟨b, 0, none⟩ = some (.string (strOfNums s.name)) ∧ w.cell? ⟨b, 1, none⟩ = some (.slice ap s.p.length cp) ∧ w.cell? ⟨b, 2, none⟩ = some (.slice aq s.t.length cq) ∧ w.cell? ⟨b, 3, none⟩ = some (.int .i64 s.r.kind) ∧ w.cell? ⟨b, 4, none⟩ = some (.slice an s.r.names.length cn) ∧ w.cell? ⟨b, 5, none⟩ = some (.slice al s.r.l.length cl) ∧ w.cell? ⟨b, 6, none⟩ = some (.int .i64 s.r.r) :=
  ⟨h.cell 0, h.cell 1, h.cell 2, h.cell 3, h.cell 4, h.cell 5, h.cell 6⟩
theorem ctP_len {p r : List Int} {lower : Bool} (hp : p.length ≤ 80000) : (ctP p r lower).length ≤ 17 := by
  unfold ctP
  repeat' split
  all_goals first | omega | (simp; done) | (simp; omega)
theorem ctR_len {r : List Int} {lower : Bool} : (ctR r lower).length ≤ 1 := by
  unfold ctR
  split
  · assumption
  · split <;> simp
set_option maxRecDepth 100000 in
set_option maxHeartbeats 8000000 in
theorem cores_no (s : Sg) (lower : Bool) (ap : Option Addr) (cp : Nat) (aq : Option Addr) (cq : Nat) (an : Option Addr) (cn : Nat) (al : Option Addr) (cl : Nat) (w : World) (P R : List Int) (hP : P.length ≤ 17) (hR : R.length ≤ 1)
    (HC : Hid (∀ w', Kept (fun _ => False) w w' → Calls Tryd.prog 25 #[sgV s ap cp aq cq an cn al cl, .bool lower] w' (CoreFR 1 P R w')))
    (HM : Hid (∀ w', Kept (fun _ => False) w w' → Calls Tryd.prog 26 #[sgV s ap cp aq cq an cn al cl, .bool lower] w' (CoreFR 1 P R w')))
    (HA : Hid (∀ w', Kept (fun _ => False) w w' → Calls Tryd.prog 28 #[sgV s ap cp aq cq an cn al cl] w' (CoreR [] w'))) :
    Calls Tryd.prog 6 #[sgV s ap cp aq cq an cn al cl, .bool lower] w fun y w' => y = .returned (.bool true) ∧ Kept (fun _ => False) w w' := by
  have k0 : Kept (fun _ => False) w (w.alloc (.cells (sgC s ap cp aq cq an cn al cl) 27)) := (Kept.refl _ _).new _
  have S0 := BlkAt.new w (sgC s ap cp aq cq an cn al cl) 27
  have HK := Lib.hid k0
  have HS := Lib.hid S0
  have HAW := Lib.hid (fun w => awake_any w)
  have HP := Lib.hid hP
  have HR := Lib.hid hR
  clear k0 S0 hP hR
  unfold CoreFR at HC HM
  unfold CoreR at HA
  go_enter Tryd.func6, Tryd.ntmps6
  go_wp2_with (first
    | (go_at_call 25; refine (HC.out _ HK.out).mono ?_; rintro y w1 ⟨a1, c1, a2, c2, rfl, i1, i2, k1⟩
       have HK1 := Lib.hid ((HK.out.trans k1).new (.cells #[.slice a1 P.length c1, .slice a2 R.length c2] 44))
       have HV1 := Lib.hid (i1.sees rfl)
       have HV2 := Lib.hid (i2.sees rfl)
       have HF1 := Lib.hid (BlkAt.new w1 #[.slice a1 P.length c1, .slice a2 R.length c2] 44)
       have HS1 := Lib.hid ((HS.out.kept (F := fun _ => False) k1 id).up (.cells #[.slice a1 P.length c1, .slice a2 R.length c2] 44))
       obtain ⟨s0, s1, s2, s3, s4, s5, s6⟩ := boxS_all HS1.out
       try simp at s0 s1 s2 s3 s4 s5 s6
       clear i1 i2 k1 HC)
    | (go_at_call 26; refine (HM.out _ HK1.out).mono ?_; rintro y w2 ⟨b1, d1, b2, d2, rfl, i1, i2, k2⟩
       have k3 := k2.new (.cells #[.slice b1 P.length d1, .slice b2 R.length d2] 44)
       have HK2 := Lib.hid (HK1.out.trans k3)
       have HU1 := Lib.hid ((HV1.out.kept ((Kept.refl _ _).new _)).kept k3)
       have HU2 := Lib.hid ((HV2.out.kept ((Kept.refl _ _).new _)).kept k3)
       have HU3 := Lib.hid ((i1.sees rfl).kept ((Kept.refl _ _).new (.cells #[.slice b1 P.length d1, .slice b2 R.length d2] 44)))
       have HU4 := Lib.hid ((i2.sees rfl).kept ((Kept.refl _ _).new (.cells #[.slice b1 P.length d1, .slice b2 R.length d2] 44)))
       have F2 := HF1.out.kept (F := fun _ => False) k3 id
       have f0 := F2.cell 0
       have f1 := F2.cell 1
       try simp at f0 f1
       have HS2 := Lib.hid (HS1.out.kept (F := fun _ => False) k3 id)
       clear F2 k2 k3 i1 i2 HM s0 s1 s2 s3 s4 s5 s6)
    | (go_at_call 27; refine (rdSameT a1 c1 a2 c2 b1 d1 b2 d2 P R _ (by have := HP.out; omega) (by have := HR.out; omega) HU1.out HU2.out HU3.out HU4.out).mono ?_; rintro y w3 ⟨rfl, k4⟩
       have HK3 := Lib.hid (HK2.out.trans k4)
       have HS3 := Lib.hid (HS2.out.kept (F := fun _ => False) k4 id)
       obtain ⟨s0, s1, s2, s3, s4, s5, s6⟩ := boxS_all HS3.out
       clear k4)
    | (go_at_call 28; refine (HA.out _ HK3.out).mono ?_; rintro y w4 ⟨av, cv, rfl, i1, i2, k5⟩
       have HK4 := Lib.hid (HK3.out.trans k5)
       clear k5 i1 i2)
    | (go_at_call 12; refine (HAW.out _).mono ?_; rintro y w5 ⟨rfl, k6⟩; have HK5 := Lib.hid (HK4.out.trans k6); clear k6))
  go_ret
  exact ⟨rfl, HK5.out⟩
set_option maxRecDepth 100000 in
set_option maxHeartbeats 8000000 in
theorem cores_go (s : Sg) (lower : Bool) (ap : Option Addr) (cp : Nat) (aq : Option Addr) (cq : Nat) (an : Option Addr) (cn : Nat) (al : Option Addr) (cl : Nat) (w : World) (P R X : List Int) (hX : X.length ≤ 100000) (hP : P.length ≤ 17) (hR : R.length ≤ 1)
    (HC : Hid (∀ w', Kept (fun _ => False) w w' → Calls Tryd.prog 25 #[sgV s ap cp aq cq an cn al cl, .bool lower] w' (CoreFR 0 P R w')))
    (HM : Hid (∀ w', Kept (fun _ => False) w w' → Calls Tryd.prog 26 #[sgV s ap cp aq cq an cn al cl, .bool lower] w' (CoreFR 0 P R w')))
    (HA : Hid (∀ w', Kept (fun _ => False) w w' → Calls Tryd.prog 28 #[sgV s ap cp aq cq an cn al cl] w' (CoreR X w')))
    (HB : Hid (∀ w', Kept (fun _ => False) w w' → Calls Tryd.prog 29 #[.slice aq s.t.length cq] w' (CoreR X w'))) :
    Calls Tryd.prog 6 #[sgV s ap cp aq cq an cn al cl, .bool lower] w fun y w' => y = .returned (.bool true) ∧ Kept (fun _ => False) w w' := by
  have k0 : Kept (fun _ => False) w (w.alloc (.cells (sgC s ap cp aq cq an cn al cl) 27)) := (Kept.refl _ _).new _
  have S0 := BlkAt.new w (sgC s ap cp aq cq an cn al cl) 27
  have HK := Lib.hid k0
  have HS := Lib.hid S0
  have HAW := Lib.hid (fun w => awake_any w)
  have HP := Lib.hid hP
  have HR := Lib.hid hR
  clear k0 S0 hP hR
  unfold CoreFR at HC HM
  unfold CoreR at HA HB
  go_enter Tryd.func6, Tryd.ntmps6
  go_wp2_with (first
    | (go_at_call 25; refine (HC.out _ HK.out).mono ?_; rintro y w1 ⟨a1, c1, a2, c2, rfl, i1, i2, k1⟩
       have HK1 := Lib.hid ((HK.out.trans k1).new (.cells #[.slice a1 P.length c1, .slice a2 R.length c2] 44))
       have HV1 := Lib.hid (i1.sees rfl)
       have HV2 := Lib.hid (i2.sees rfl)
       have HF1 := Lib.hid (BlkAt.new w1 #[.slice a1 P.length c1, .slice a2 R.length c2] 44)
       have HS1 := Lib.hid ((HS.out.kept (F := fun _ => False) k1 id).up (.cells #[.slice a1 P.length c1, .slice a2 R.length c2] 44))
       obtain ⟨s0, s1, s2, s3, s4, s5, s6⟩ := boxS_all HS1.out
       try simp at s0 s1 s2 s3 s4 s5 s6
       clear i1 i2 k1 HC)
    | (go_at_call 26; refine (HM.out _ HK1.out).mono ?_; rintro y w2 ⟨b1, d1, b2, d2, rfl, i1, i2, k2⟩
       have k3 := k2.new (.cells #[.slice b1 P.length d1, .slice b2 R.length d2] 44)
       have HK2 := Lib.hid (HK1.out.trans k3)
       have HU1 := Lib.hid ((HV1.out.kept ((Kept.refl _ _).new _)).kept k3)
       have HU2 := Lib.hid ((HV2.out.kept ((Kept.refl _ _).new _)).kept k3)
       have HU3 := Lib.hid ((i1.sees rfl).kept ((Kept.refl _ _).new (.cells #[.slice b1 P.length d1, .slice b2 R.length d2] 44)))
       have HU4 := Lib.hid ((i2.sees rfl).kept ((Kept.refl _ _).new (.cells #[.slice b1 P.length d1, .slice b2 R.length d2] 44)))
       have F2 := HF1.out.kept (F := fun _ => False) k3 id
       have f0 := F2.cell 0
       have f1 := F2.cell 1
       try simp at f0 f1
       have HF2 := Lib.hid F2
       have HS2 := Lib.hid (HS1.out.kept (F := fun _ => False) k3 id)
       clear F2 k2 k3 i1 i2 HM s0 s1 s2 s3 s4 s5 s6)
    | (go_at_call 27; refine (rdSameT a1 c1 a2 c2 b1 d1 b2 d2 P R _ (by have := HP.out; omega) (by have := HR.out; omega) HU1.out HU2.out HU3.out HU4.out).mono ?_; rintro y w3 ⟨rfl, k4⟩
       have HK3 := Lib.hid (HK2.out.trans k4)
       have HW : Hid (∀ w', Kept (fun _ => False) w3 w' → w'.cell? ⟨w.heap.size, 0, none⟩ = some (.string (strOfNums s.name)) ∧ w'.cell? ⟨w.heap.size, 1, none⟩ = some (.slice ap s.p.length cp) ∧ w'.cell? ⟨w.heap.size, 2, none⟩ = some (.slice aq s.t.length cq) ∧ w'.cell? ⟨w.heap.size, 3, none⟩ = some (.int .i64 s.r.kind) ∧ w'.cell? ⟨w.heap.size, 4, none⟩ = some (.slice an s.r.names.length cn) ∧ w'.cell? ⟨w.heap.size, 5, none⟩ = some (.slice al s.r.l.length cl) ∧ w'.cell? ⟨w.heap.size, 6, none⟩ = some (.int .i64 s.r.r) ∧ w'.cell? ⟨w1.heap.size, 0, none⟩ = some (.slice a1 P.length c1) ∧ w'.cell? ⟨w1.heap.size, 1, none⟩ = some (.slice a2 R.length c2)) := Lib.hid (fun w' k => by
         have F := HF2.out.kept (F := fun _ => False) (k4.trans k) id
         obtain ⟨s0, s1, s2, s3, s4, s5, s6⟩ := boxS_all (HS2.out.kept (F := fun _ => False) (k4.trans k) id)
         exact ⟨s0, s1, s2, s3, s4, s5, s6, F.cell 0, F.cell 1⟩)
       clear k4 HU1 HU2 HU3 HU4))
  have q0 : Kept (fun _ => False) w3 w3.drew := (Kept.refl _ _).drew
  have bP : decide ((P.length : Int) ≤ 17) = true := by have := HP.out; simp; omega
  have bR : decide ((R.length : Int) ≤ 1) = true := by have := HR.out; simp; omega
  clear f0 f1
  go_region_held3 (fun w' => w'.cell? ⟨w.heap.size, 0, none⟩ = some (.string (strOfNums s.name)) ∧ w'.cell? ⟨w.heap.size, 1, none⟩ = some (.slice ap s.p.length cp) ∧ w'.cell? ⟨w.heap.size, 2, none⟩ = some (.slice aq s.t.length cq) ∧ w'.cell? ⟨w.heap.size, 3, none⟩ = some (.int .i64 s.r.kind) ∧ w'.cell? ⟨w.heap.size, 4, none⟩ = some (.slice an s.r.names.length cn) ∧ w'.cell? ⟨w.heap.size, 5, none⟩ = some (.slice al s.r.l.length cl) ∧ w'.cell? ⟨w.heap.size, 6, none⟩ = some (.int .i64 s.r.r) ∧ w'.cell? ⟨w1.heap.size, 0, none⟩ = some (.slice a1 P.length c1) ∧ w'.cell? ⟨w1.heap.size, 1, none⟩ = some (.slice a2 R.length c2))
    (first | exact HW.out _ q0)
    (first
      | (go_at_call 28; refine (HA.out _ (HK3.out.trans q0)).mono ?_; rintro y w4 ⟨av, cv, rfl, i1, i2, k5⟩
         have HV3 := Lib.hid (i1.sees rfl)
         replace q0 : Kept (fun _ => False) w3 w4 := q0.trans k5
         clear k5 i1 i2 HA)
      | (go_at_call 29; refine (HB.out _ (HK3.out.trans q0)).mono ?_; rintro y w5 ⟨bv, dv, rfl, i1, i2, k5⟩
         have HV4 := Lib.hid (HV3.out.kept k5)
         have HV5 := Lib.hid (i1.sees rfl)
         replace q0 : Kept (fun _ => False) w3 w5 := q0.trans k5
         clear k5 i1 i2 HB HV3)
      | (go_at_call 16; refine (rdSame av bv cv dv X _ hX HV4.out HV5.out).mono ?_; rintro y w6 ⟨rfl, k5⟩
         replace q0 : Kept (fun _ => False) w3 w6 := q0.trans k5
         clear k5)
      | (go_at_call 12; refine (HAW.out _).mono ?_; rintro y w7 ⟨rfl, k5⟩
         replace q0 : Kept (fun _ => False) w3 w7 := q0.trans k5
         clear k5))
  all_goals go_wp2_with fail
  all_goals go_ret
  all_goals exact ⟨rfl, HK3.out.trans q0⟩
theorem CtypeCores_walk (s : Sg) (ap : Option Addr) (cp : Nat) (aq : Option Addr) (cq : Nat) (an : Option Addr) (cn : Nat) (al : Option Addr) (cl : Nat) (lower : Bool) (w : World) (h : SgAt w s ap cp aq cq an cn al cl) (hf : FineS s) :
    Calls Tryd.prog 6 #[sgV s ap cp aq cq an cn al cl, .bool lower] w fun y w' => y = .returned (.bool true) ∧ Kept (fun _ => False) w w' := by
  cases ho : okS s
  · exact cores_no s lower ap cp aq cq an cn al cl w [] [] (by decide) (by decide)
      (Lib.hid fun w' k => rdCore_no s lower ap cp aq cq an cn al cl w' (h.kept k) hf ho)
      (Lib.hid fun w' k => rdRefCore_no s lower ap cp aq cq an cn al cl w' (h.kept k) hf ho)
      (Lib.hid fun w' k => by have := rdArgs s ap cp aq cq an cn al cl w' (h.kept k) hf; rw [ho] at this; exact this)
  · exact cores_go s lower ap cp aq cq an cn al cl w _ _ (argL s) (Nat.le_trans (argL_small ho) (by decide)) (ctP_len (argL_small ho)) ctR_len
      (Lib.hid fun w' k => rdCore_ok s lower ap cp aq cq an cn al cl w' (h.kept k) hf ho)
      (Lib.hid fun w' k => rdRefCore_ok s lower ap cp aq cq an cn al cl w' (h.kept k) hf ho)
      (Lib.hid fun w' k => by have := rdArgs s ap cp aq cq an cn al cl w' (h.kept k) hf; rw [ho] at this; exact this)
      (Lib.hid fun w' k => rdRefRow 16 (corr_all 16) s.t aq cq w' (h.kept k).t (okS_fit ho).1 (okS_fit ho).2.1)
end Go.Proofs.YtcfakaglmlfkpaaDoor
