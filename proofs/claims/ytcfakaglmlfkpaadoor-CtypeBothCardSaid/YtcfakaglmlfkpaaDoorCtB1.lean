/- ctype: CtypeBoth: the walk; printed by tools/genctb1.py. -/
import Derived.Test.YtcfakaglmlfkpaaDoorCtC1
set_option linter.unusedVariables false
set_option linter.unusedSimpArgs false
namespace Go.Proofs.YtcfakaglmlfkpaaDoor
open Go.RowKit
open Lex Ct

theorem rdSame' (n : Nat) (a c : Option Addr) (cap cap2 : Nat) (xs : List Int) (w : World) (hn : n = xs.length) (h17 : n ≤ 17) (ha : View w a n xs) (hc : View w c n xs) :
    Calls Tryd.prog 16 #[.slice a n cap, .slice c n cap2] w fun e w' => e = .returned (.bool true) ∧ Kept (fun _ => False) w w' := by
  subst hn
  exact rdSame a c cap cap2 xs w (by omega) ha hc
theorem Kept.cell1 {w w' : World} (k : Kept (fun _ => False) w w') {p : Addr} (h : p.block < w.heap.size) : w'.cell? p = w.cell? p := (k.below (Nat.le_refl _) fun _ q => q.elim).cell h
theorem cell_one_new' (w : World) (v : Value) (T : TypeId) : (w.alloc (.cells #[v] T)).cell? ⟨w.heap.size, 0, none⟩ = some v := (BlkAt.new w #[v] T).cell 0
set_option maxRecDepth 100000 in
set_option maxHeartbeats 8000000 in
theorem both_no (s : Sg) (ap : Option Addr) (cp : Nat) (aq : Option Addr) (cq : Nat) (an : Option Addr) (cn : Nat) (al : Option Addr) (cl : Nat) (w : World)
    (HC : Hid (∀ w', Kept (fun _ => False) w w' → Calls Tryd.prog 25 #[sgV s ap cp aq cq an cn al cl, .bool false] w' (CoreFR 1 [] [] w')))
    (HM : Hid (∀ w', Kept (fun _ => False) w w' → Calls Tryd.prog 25 #[sgV s ap cp aq cq an cn al cl, .bool true] w' (CoreFR 1 [] [] w'))) :
    Calls Tryd.prog 7 #[sgV s ap cp aq cq an cn al cl] w fun y w' => y = .returned (.bool true) ∧ Kept (fun _ => False) w w' := by
  have k0 : Kept (fun _ => False) w (w.alloc (.cells (sgC s ap cp aq cq an cn al cl) 27)) := (Kept.refl _ _).new _
  have S0 := BlkAt.new w (sgC s ap cp aq cq an cn al cl) 27
  have HK := Lib.hid k0
  have HS := Lib.hid S0
  have HAW := Lib.hid (fun w => awake_any w)
  clear k0 S0
  unfold CoreFR at HC HM
  simp only [List.length_nil] at HC HM
  go_enter Tryd.func7, Tryd.ntmps7
  go_wp2_with (first
    | (go_at_call 25; refine (HC.out _ HK.out).mono ?_; rintro y w1 ⟨a1, c1, a2, c2, rfl, i1, i2, k1⟩
       have HK1 := Lib.hid ((HK.out.trans k1).new (.cells #[.slice a1 0 c1, .slice a2 0 c2] 44))
       have HF1 := Lib.hid (BlkAt.new w1 #[.slice a1 0 c1, .slice a2 0 c2] 44)
       have HS1 := Lib.hid ((HS.out.kept (F := fun _ => False) k1 id).up (.cells #[.slice a1 0 c1, .slice a2 0 c2] 44))
       obtain ⟨s0, s1, s2, s3, s4, s5, s6⟩ := boxS_all HS1.out
       clear k1 HC)
    | (go_at_call 25; refine (HM.out _ HK1.out).mono ?_; rintro y w2 ⟨b1, d1, b2, d2, rfl, i1, i2, k2⟩
       have k3 := k2.new (.cells #[.slice b1 0 d1, .slice b2 0 d2] 44)
       have HK2 := Lib.hid (HK1.out.trans k3)
       have HF2 := Lib.hid (HF1.out.kept (F := fun _ => False) k3 id)
       have HB2 := Lib.hid (BlkAt.new w2 #[.slice b1 0 d1, .slice b2 0 d2] 44)
       have HS2 := Lib.hid (HS1.out.kept (F := fun _ => False) k3 id)
       clear s0 s1 s2 s3 s4 s5 s6
       obtain ⟨s0, s1, s2, s3, s4, s5, s6⟩ := boxS_all HS2.out
       clear k2 k3 HM)
    | (go_at_call 12; refine (HAW.out _).mono ?_; rintro y w9 ⟨rfl, k9⟩; have HK9 := Lib.hid (HK2.out.trans k9); clear k9))
  go_ret
  exact ⟨rfl, HK9.out⟩
set_option maxRecDepth 100000 in
set_option maxHeartbeats 8000000 in
theorem both_small (s : Sg) (ap : Option Addr) (cp : Nat) (aq : Option Addr) (cq : Nat) (an : Option Addr) (cn : Nat) (al : Option Addr) (cl : Nat) (w : World) (P R r0 : List Int) (hP : P.length ≤ 17) (hR : R.length ≤ 1) (hr : r0.length ≤ 1)
    (HC : Hid (∀ w', Kept (fun _ => False) w w' → Calls Tryd.prog 25 #[sgV s ap cp aq cq an cn al cl, .bool false] w' (CoreFR 0 P R w')))
    (HM : Hid (∀ w', Kept (fun _ => False) w w' → Calls Tryd.prog 25 #[sgV s ap cp aq cq an cn al cl, .bool true] w' (CoreFR 0 P R w')))
    (HX : Hid (∀ w', Kept (fun _ => False) w w' → Calls Tryd.prog 17 #[tyV s.r an cn al cl] w' (CoreR r0 w'))) :
    Calls Tryd.prog 7 #[sgV s ap cp aq cq an cn al cl] w fun y w' => y = .returned (.bool true) ∧ Kept (fun _ => False) w w' := by
  have k0 : Kept (fun _ => False) w (w.alloc (.cells (sgC s ap cp aq cq an cn al cl) 27)) := (Kept.refl _ _).new _
  have S0 := BlkAt.new w (sgC s ap cp aq cq an cn al cl) 27
  have HK := Lib.hid k0
  have HS := Lib.hid S0
  have HAW := Lib.hid (fun w => awake_any w)
  clear k0 S0
  have HP := Lib.hid hP
  have HR := Lib.hid hR
  have br : decide ((r0.length : Int) ≤ 1) = true := by simp; omega
  clear hP hR hr
  unfold CoreFR at HC HM
  unfold CoreR at HX
  go_enter Tryd.func7, Tryd.ntmps7
  go_wp2_with (first
    | (go_at_call 25; refine (HC.out _ HK.out).mono ?_; rintro y w1 ⟨a1, c1, a2, c2, rfl, i1, i2, k1⟩
       have HK1 := Lib.hid ((HK.out.trans k1).new (.cells #[.slice a1 P.length c1, .slice a2 R.length c2] 44))
       have HV1 := Lib.hid ((i1.sees rfl).kept ((Kept.refl _ _).new (.cells #[.slice a1 P.length c1, .slice a2 R.length c2] 44)))
       have HV2 := Lib.hid ((i2.sees rfl).kept ((Kept.refl _ _).new (.cells #[.slice a1 P.length c1, .slice a2 R.length c2] 44)))
       have HF1 := Lib.hid (BlkAt.new w1 #[.slice a1 P.length c1, .slice a2 R.length c2] 44)
       have HS1 := Lib.hid ((HS.out.kept (F := fun _ => False) k1 id).up (.cells #[.slice a1 P.length c1, .slice a2 R.length c2] 44))
       obtain ⟨s0, s1, s2, s3, s4, s5, s6⟩ := boxS_all HS1.out
       clear k1 HC)
    | (go_at_call 25; refine (HM.out _ HK1.out).mono ?_; rintro y w2 ⟨b1, d1, b2, d2, rfl, i1, i2, k2⟩
       have k3 := k2.new (.cells #[.slice b1 P.length d1, .slice b2 R.length d2] 44)
       have HK2 := Lib.hid (HK1.out.trans k3)
       have HU1 := Lib.hid (HV1.out.kept k3)
       have HU2 := Lib.hid (HV2.out.kept k3)
       have HU3 := Lib.hid ((i1.sees rfl).kept ((Kept.refl _ _).new (.cells #[.slice b1 P.length d1, .slice b2 R.length d2] 44)))
       have HU4 := Lib.hid ((i2.sees rfl).kept ((Kept.refl _ _).new (.cells #[.slice b1 P.length d1, .slice b2 R.length d2] 44)))
       have HF2 := Lib.hid (HF1.out.kept (F := fun _ => False) k3 id)
       have HB2 := Lib.hid (BlkAt.new w2 #[.slice b1 P.length d1, .slice b2 R.length d2] 44)
       have HS2 := Lib.hid (HS1.out.kept (F := fun _ => False) k3 id)
       clear s0 s1 s2 s3 s4 s5 s6
       obtain ⟨s0, s1, s2, s3, s4, s5, s6⟩ := boxS_all HS2.out
       clear k2 k3 HM)
    | (go_at_call 17; refine (HX.out _ HK2.out).mono ?_; rintro y w3 ⟨av, cv, rfl, i1, i2, k4⟩
       have HK3 := Lib.hid (HK2.out.trans k4)
       have HX1 := Lib.hid (HU1.out.kept k4)
       have HX2 := Lib.hid (HU2.out.kept k4)
       have HX3 := Lib.hid (HU3.out.kept k4)
       have HX4 := Lib.hid (HU4.out.kept k4)
       have F3 := HF2.out.kept (F := fun _ => False) k4 id
       have B3 := HB2.out.kept (F := fun _ => False) k4 id
       have f0 := F3.cell 0
       have f1 := F3.cell 1
       have g0 := B3.cell 0
       have g1 := B3.cell 1
       try simp at f0 f1 g0 g1
       clear i1 i2 k4 F3 B3 s0 s1 s2 s3 s4 s5 s6 HX)
    | (go_at_call 27; refine (rdSameT a1 c1 a2 c2 b1 d1 b2 d2 P R _ (by have := HP.out; omega) (by have := HR.out; omega) HX1.out HX2.out HX3.out HX4.out).mono ?_; rintro y w4 ⟨rfl, k5⟩
       have HK4 := Lib.hid (HK3.out.trans k5)
       clear k5)
    | (go_at_call 12; refine (HAW.out _).mono ?_; rintro y w9 ⟨rfl, k9⟩; have HK9 := Lib.hid (HK4.out.trans k9); clear k9))
  go_ret
  exact ⟨rfl, HK9.out⟩
/-- What the two core types of a function with more than one result are: the top's, the bottom's. -/
def TopR (n : Nat) (P : List Int) (w : World) (y : Ending) (w' : World) : Prop := ∃ a1 c1 a2 c2, y = .returned (.tuple #[.agg #[.slice a1 n c1, .slice a2 1 c2], .int .i64 0]) ∧ View w' a1 n P ∧ View w' a2 1 [127] ∧ Kept (fun _ => False) w w'
def BotR (n : Nat) (P : List Int) (w : World) (y : Ending) (w' : World) : Prop := ∃ g d1 b2 d2, y = .returned (.tuple #[.agg #[.slice (some ⟨g, 0, none⟩) (n + 1) d1, .slice b2 0 d2], .int .i64 0]) ∧ View w' (some ⟨g, 0, none⟩) n P ∧ (w'.cell? ⟨g, n, none⟩ = some (.int .i64 127) ∧ g < w'.heap.size) ∧ n + 1 ≤ d1 ∧ Kept (fun _ => False) w w'
theorem TopR.of {P : List Int} {w w' : World} {y : Ending} (h : CoreFR 0 P [127] w y w') : TopR P.length P w y w' := by
  obtain ⟨a1, c1, a2, c2, rfl, i1, i2, k⟩ := h
  exact ⟨a1, c1, a2, c2, rfl, i1.sees rfl, i2.sees rfl, k⟩
theorem BotR.of {P : List Int} {w w' : World} {y : Ending} (h : CoreFR 0 (P ++ [127]) [] w y w') : BotR P.length P w y w' := by
  obtain ⟨b1, d1, b2, d2, rfl, i1, i2, k⟩ := h
  obtain ⟨g, rfl, _, hg, hle, _, hc⟩ := i1.at (by simp)
  have hl : (P ++ [127]).length = P.length + 1 := by simp
  have h0 := hc P.length (.int .i64 127) (by simp)
  refine ⟨g, d1, b2, d2, by rw [hl]; rfl, ?_, ⟨by
    have e : (⟨g, 0, none⟩ : Addr).add P.length = ⟨g, P.length, none⟩ := by unfold Addr.add; split <;> simp_all
    rw [← e]; exact h0, hg⟩, by rw [← hl]; exact hle, k⟩
  refine .inr ⟨g, 0, rfl, fun i hi => ?_⟩
  have h1 := hc i (.int .i64 (P.getD i 0)) (by rw [List.getElem?_map, List.getElem?_append_left hi, List.getD_eq_getElem?_getD, List.getElem?_eq_getElem hi]; rfl)
  have e : (⟨g, 0, none⟩ : Addr).add i = ⟨g, 0 + i, none⟩ := by unfold Addr.add; split <;> simp_all
  rw [← e]; exact h1
theorem one_view {w : World} (b : Nat) (h : w.cell? ⟨b, 0, none⟩ = some (.int .i64 127)) : View w (some ⟨b, 0, none⟩) 1 [127] := .inr ⟨b, 0, rfl, fun i hi => by
  obtain rfl : i = 0 := by omega
  exact h⟩
set_option maxRecDepth 100000 in
set_option maxHeartbeats 8000000 in
theorem both_big (s : Sg) (ap : Option Addr) (cp : Nat) (aq : Option Addr) (cq : Nat) (an : Option Addr) (cn : Nat) (al : Option Addr) (cl : Nat) (w : World) (n : Nat) (P r0 : List Int) (hn : n = P.length) (hP : n ≤ 17) (hr : ¬ r0.length ≤ 1)
    (HC : Hid (∀ w', Kept (fun _ => False) w w' → Calls Tryd.prog 25 #[sgV s ap cp aq cq an cn al cl, .bool false] w' (TopR n P w')))
    (HM : Hid (∀ w', Kept (fun _ => False) w w' → Calls Tryd.prog 25 #[sgV s ap cp aq cq an cn al cl, .bool true] w' (BotR n P w')))
    (HX : Hid (∀ w', Kept (fun _ => False) w w' → Calls Tryd.prog 17 #[tyV s.r an cn al cl] w' (CoreR r0 w'))) :
    Calls Tryd.prog 7 #[sgV s ap cp aq cq an cn al cl] w fun y w' => y = .returned (.bool true) ∧ Kept (fun _ => False) w w' := by
  have k0 : Kept (fun _ => False) w (w.alloc (.cells (sgC s ap cp aq cq an cn al cl) 27)) := (Kept.refl _ _).new _
  have S0 := BlkAt.new w (sgC s ap cp aq cq an cn al cl) 27
  have HK := Lib.hid k0
  have HS := Lib.hid S0
  have HAW := Lib.hid (fun w => awake_any w)
  clear k0 S0
  have HN := Lib.hid hn
  have br : decide ((r0.length : Int) ≤ 1) = false := by simp; omega
  clear hn hr
  unfold TopR at HC
  unfold BotR at HM
  unfold CoreR at HX
  go_enter Tryd.func7, Tryd.ntmps7
  go_wp2_with (first
    | (go_at_call 25; refine (HC.out _ HK.out).mono ?_; rintro y w1 ⟨a1, c1, a2, c2, rfl, i1, i2, k1⟩
       have HK1 := Lib.hid ((HK.out.trans k1).new (.cells #[.slice a1 n c1, .slice a2 1 c2] 44))
       have HV1 := Lib.hid ((i1).kept ((Kept.refl _ _).new (.cells #[.slice a1 n c1, .slice a2 1 c2] 44)))
       have HV2 := Lib.hid ((i2).kept ((Kept.refl _ _).new (.cells #[.slice a1 n c1, .slice a2 1 c2] 44)))
       have HF1 := Lib.hid (BlkAt.new w1 #[.slice a1 n c1, .slice a2 1 c2] 44)
       have HS1 := Lib.hid ((HS.out.kept (F := fun _ => False) k1 id).up (.cells #[.slice a1 n c1, .slice a2 1 c2] 44))
       obtain ⟨s0, s1, s2, s3, s4, s5, s6⟩ := boxS_all HS1.out
       clear k1 HC)
    | (go_at_call 25; refine (HM.out _ HK1.out).mono ?_; rintro y w2 ⟨g, d1, b2, d2, rfl, i1, ⟨i2, i3⟩, i4, k2⟩
       have k3 := k2.new (.cells #[.slice (some ⟨g, 0, none⟩) (n + 1) d1, .slice b2 0 d2] 44)
       have HK2 := Lib.hid (HK1.out.trans k3)
       have HU1 := Lib.hid (HV1.out.kept k3)
       have HU2 := Lib.hid (HV2.out.kept k3)
       have HU3 := Lib.hid (i1.kept ((Kept.refl _ _).new (.cells #[.slice (some ⟨g, 0, none⟩) (n + 1) d1, .slice b2 0 d2] 44)))
       have HF2 := Lib.hid (HF1.out.kept (F := fun _ => False) k3 id)
       have HB2 := Lib.hid (BlkAt.new w2 #[.slice (some ⟨g, 0, none⟩) (n + 1) d1, .slice b2 0 d2] 44)
       have HS2 := Lib.hid (HS1.out.kept (F := fun _ => False) k3 id)
       clear s0 s1 s2 s3 s4 s5 s6
       obtain ⟨s0, s1, s2, s3, s4, s5, s6⟩ := boxS_all HS2.out
       have HCE := Lib.hid i2
       have HGL := Lib.hid i3
       have HD := Lib.hid i4
       clear k2 k3 HM)
    | (go_at_call 17; refine (HX.out _ HK2.out).mono ?_; rintro y w3 ⟨av, cv, rfl, i1, i2, k4⟩
       have HK3 := Lib.hid (HK2.out.trans k4)
       have HX1 := Lib.hid (HU1.out.kept k4)
       have HX2 := Lib.hid (HU2.out.kept k4)
       have HX3 := Lib.hid (HU3.out.kept k4)
       have HW : Hid (∀ w', Kept (fun _ => False) w3 w' → w'.cell? ⟨w1.heap.size, 0, none⟩ = some (.slice a1 n c1) ∧ w'.cell? ⟨w1.heap.size, 1, none⟩ = some (.slice a2 1 c2) ∧ w'.cell? ⟨w2.heap.size, 0, none⟩ = some (.slice (some ⟨g, 0, none⟩) (n + 1) d1) ∧ w'.cell? ⟨w2.heap.size, 1, none⟩ = some (.slice b2 0 d2) ∧ w'.cell? ⟨g, n, none⟩ = some (.int .i64 127)) := Lib.hid (fun w' k => by
         have F := HF2.out.kept (F := fun _ => False) (k4.trans k) id
         have B := HB2.out.kept (F := fun _ => False) (k4.trans k) id
         have C := (((Kept.refl (fun _ => False) w2).new (.cells #[.slice (some ⟨g, 0, none⟩) (n + 1) d1, .slice b2 0 d2] 44)).trans (k4.trans k)).cell1 (p := ⟨g, n, none⟩) HGL.out
         exact ⟨F.cell 0, F.cell 1, B.cell 0, B.cell 1, C.trans HCE.out⟩)
       clear i1 i2 k4 s0 s1 s2 s3 s4 s5 s6 HX))
  have q0 : Kept (fun _ => False) w3 w3.drew := (Kept.refl _ _).drew
  have hz : ∀ W, (Go.sizeOf 3).run Tryd.prog W = .ok 1 W := fun W => by kernel_rfl
  have he : Tryd.prog.elem 38 = 3 := by kernel_rfl
  have hsl : ∀ W, (Instr.slice 38 (.slice (some ⟨g, 0, none⟩) (n + 1) d1) none (some (.int .i64 (n : Int))) none).run Tryd.prog W = .ok (.slice (some ⟨g, 0, none⟩) n d1) W := by
    intro W
    have hd := HD.out
    rw [run_slice_h W 38 (some ⟨g, 0, none⟩) (n + 1) d1 Tryd.underlying38 .i64 (n : Int) (by omega) (by omega), he, hz]
    simp [Result.andThen, sliced, Addr.add]
  have hix : ∀ W, (Instr.indexAt 38 (.slice (some ⟨g, 0, none⟩) (n + 1) d1) (.int .i64 (n : Int))).run Tryd.prog W = .ok (.pointer (some ⟨g, n, none⟩)) W := by
    intro W
    have ea : (⟨g, 0, none⟩ : Addr).add (((n : Int)).toNat * 1) = ⟨g, n, none⟩ := by rw [Int.toNat_natCast, Nat.mul_one]; unfold Addr.add; split <;> simp_all
    rw [run_indexAt_slice W 38 ⟨g, 0, none⟩ (n + 1) d1 .i64 (n : Int) Tryd.underlying38, if_pos ⟨by omega, by omega⟩, he, hz]
    show Result.ok _ _ = _
    rw [ea]
  clear hz he
  have hwr : ((n : Int) + 1 == IntKind.i64.wrap ((n : Int) + 1)) = true := by
    have e : IntKind.i64.wrap ((n : Int) + 1) = (n : Int) + 1 := by rw [IntKind.wrap_i64]; omega
    rw [e]; simp
  refine wp_region_noPanic ?_
  refine anyU_start (fun w' : World => w'.cell? ⟨w1.heap.size, 0, none⟩ = some (.slice a1 n c1) ∧ w'.cell? ⟨w1.heap.size, 1, none⟩ = some (.slice a2 1 c2) ∧ w'.cell? ⟨w2.heap.size, 0, none⟩ = some (.slice (some ⟨g, 0, none⟩) (n + 1) d1) ∧ w'.cell? ⟨w2.heap.size, 1, none⟩ = some (.slice b2 0 d2) ∧ w'.cell? ⟨g, n, none⟩ = some (.int .i64 127)) 44 (by kernel_rfl) ?_
  have hS : (fun w' : World => w'.cell? ⟨w1.heap.size, 0, none⟩ = some (.slice a1 n c1) ∧ w'.cell? ⟨w1.heap.size, 1, none⟩ = some (.slice a2 1 c2) ∧ w'.cell? ⟨w2.heap.size, 0, none⟩ = some (.slice (some ⟨g, 0, none⟩) (n + 1) d1) ∧ w'.cell? ⟨w2.heap.size, 1, none⟩ = some (.slice b2 0 d2) ∧ w'.cell? ⟨g, n, none⟩ = some (.int .i64 127)) _ := HW.out _ q0
  refine anyU_take (i := 0) (.pointer (some ⟨w2.heap.size, 0, none⟩)) rfl (by decide) (by kernel_rfl) (by kernel_rfl) (by kernel_rfl) (by kernel_rfl) (fun _ _ _ h => h) (Or.inl ⟨by kernel_rfl, fun W hW => by obtain ⟨z0, z1, z2, z3, z4⟩ := hW; go_simp⟩) hS ?_
  try simp only [Act.put, List.setIfInBounds_toArray, List.set_cons_zero, List.set_cons_succ]
  refine anyU_take (i := 1) (.slice (some ⟨g, 0, none⟩) (n + 1) d1) rfl (by decide) (by kernel_rfl) (by kernel_rfl) (by kernel_rfl) (by kernel_rfl) (fun _ _ _ h => h) (Or.inl ⟨by kernel_rfl, fun W hW => by obtain ⟨z0, z1, z2, z3, z4⟩ := hW; go_simp⟩) hS ?_
  try simp only [Act.put, List.setIfInBounds_toArray, List.set_cons_zero, List.set_cons_succ]
  refine anyU_take (i := 2) (.int .i64 ((n : Int) + 1)) rfl (by decide) (by kernel_rfl) (by kernel_rfl) (by kernel_rfl) (by kernel_rfl) (fun _ _ _ h => h) (Or.inl ⟨by kernel_rfl, fun W hW => by obtain ⟨z0, z1, z2, z3, z4⟩ := hW; go_simp⟩) hS ?_
  try simp only [Act.put, List.setIfInBounds_toArray, List.set_cons_zero, List.set_cons_succ]
  refine anyU_take (i := 3) (.pointer (some ⟨w1.heap.size, 0, none⟩)) rfl (by decide) (by kernel_rfl) (by kernel_rfl) (by kernel_rfl) (by kernel_rfl) (fun _ _ _ h => h) (Or.inl ⟨by kernel_rfl, fun W hW => by obtain ⟨z0, z1, z2, z3, z4⟩ := hW; go_simp⟩) hS ?_
  try simp only [Act.put, List.setIfInBounds_toArray, List.set_cons_zero, List.set_cons_succ]
  refine anyU_take (i := 4) (.slice a1 n c1) rfl (by decide) (by kernel_rfl) (by kernel_rfl) (by kernel_rfl) (by kernel_rfl) (fun _ _ _ h => h) (Or.inl ⟨by kernel_rfl, fun W hW => by obtain ⟨z0, z1, z2, z3, z4⟩ := hW; go_simp⟩) hS ?_
  try simp only [Act.put, List.setIfInBounds_toArray, List.set_cons_zero, List.set_cons_succ]
  refine anyU_take (i := 5) (.int .i64 (n : Int)) rfl (by decide) (by kernel_rfl) (by kernel_rfl) (by kernel_rfl) (by kernel_rfl) (fun _ _ _ h => h) (Or.inl ⟨by kernel_rfl, fun W hW => by obtain ⟨z0, z1, z2, z3, z4⟩ := hW; go_simp⟩) hS ?_
  try simp only [Act.put, List.setIfInBounds_toArray, List.set_cons_zero, List.set_cons_succ]
  refine anyU_take (i := 6) (.int .i64 (IntKind.i64.wrap ((n : Int) + 1))) rfl (by decide) (by kernel_rfl) (by kernel_rfl) (by kernel_rfl) (by kernel_rfl) (fun _ _ _ h => h) (Or.inl ⟨by kernel_rfl, fun W hW => by obtain ⟨z0, z1, z2, z3, z4⟩ := hW; go_simp⟩) hS ?_
  try simp only [Act.put, List.setIfInBounds_toArray, List.set_cons_zero, List.set_cons_succ]
  refine anyU_take (i := 7) (.bool true) rfl (by decide) (by kernel_rfl) (by kernel_rfl) (by kernel_rfl) (by kernel_rfl) (fun _ _ _ h => h) (Or.inl ⟨by kernel_rfl, fun W hW => by obtain ⟨z0, z1, z2, z3, z4⟩ := hW; go_simp⟩) hS ?_
  try simp only [Act.put, List.setIfInBounds_toArray, List.set_cons_zero, List.set_cons_succ]
  refine anyU_take (i := 8) (.bool true) rfl (by decide) (by kernel_rfl) (by kernel_rfl) (by kernel_rfl) (by kernel_rfl) (fun _ _ _ h => h) (Or.inl ⟨by kernel_rfl, fun W hW => by obtain ⟨z0, z1, z2, z3, z4⟩ := hW; go_simp⟩) hS ?_
  try simp only [Act.put, List.setIfInBounds_toArray, List.set_cons_zero, List.set_cons_succ]
  refine anyU_take (i := 9) (.pointer (some ⟨w2.heap.size, 0, none⟩)) rfl (by decide) (by kernel_rfl) (by kernel_rfl) (by kernel_rfl) (by kernel_rfl) (fun _ _ _ h => h) (Or.inl ⟨by kernel_rfl, fun W hW => by obtain ⟨z0, z1, z2, z3, z4⟩ := hW; go_simp⟩) hS ?_
  try simp only [Act.put, List.setIfInBounds_toArray, List.set_cons_zero, List.set_cons_succ]
  refine anyU_take (i := 10) (.slice (some ⟨g, 0, none⟩) (n + 1) d1) rfl (by decide) (by kernel_rfl) (by kernel_rfl) (by kernel_rfl) (by kernel_rfl) (fun _ _ _ h => h) (Or.inl ⟨by kernel_rfl, fun W hW => by obtain ⟨z0, z1, z2, z3, z4⟩ := hW; go_simp⟩) hS ?_
  try simp only [Act.put, List.setIfInBounds_toArray, List.set_cons_zero, List.set_cons_succ]
  refine anyU_take (i := 11) (.pointer (some ⟨w1.heap.size, 0, none⟩)) rfl (by decide) (by kernel_rfl) (by kernel_rfl) (by kernel_rfl) (by kernel_rfl) (fun _ _ _ h => h) (Or.inl ⟨by kernel_rfl, fun W hW => by obtain ⟨z0, z1, z2, z3, z4⟩ := hW; go_simp⟩) hS ?_
  try simp only [Act.put, List.setIfInBounds_toArray, List.set_cons_zero, List.set_cons_succ]
  refine anyU_take (i := 12) (.slice a1 n c1) rfl (by decide) (by kernel_rfl) (by kernel_rfl) (by kernel_rfl) (by kernel_rfl) (fun _ _ _ h => h) (Or.inl ⟨by kernel_rfl, fun W hW => by obtain ⟨z0, z1, z2, z3, z4⟩ := hW; go_simp⟩) hS ?_
  try simp only [Act.put, List.setIfInBounds_toArray, List.set_cons_zero, List.set_cons_succ]
  refine anyU_take (i := 13) (.int .i64 (n : Int)) rfl (by decide) (by kernel_rfl) (by kernel_rfl) (by kernel_rfl) (by kernel_rfl) (fun _ _ _ h => h) (Or.inl ⟨by kernel_rfl, fun W hW => by obtain ⟨z0, z1, z2, z3, z4⟩ := hW; go_simp⟩) hS ?_
  try simp only [Act.put, List.setIfInBounds_toArray, List.set_cons_zero, List.set_cons_succ]
  refine anyU_take (i := 14) (.slice (some ⟨g, 0, none⟩) n d1) rfl (by decide) (by kernel_rfl) (by kernel_rfl) (by kernel_rfl) (by kernel_rfl) (fun _ _ _ h => h) (Or.inl ⟨by kernel_rfl, fun W hW => by obtain ⟨z0, z1, z2, z3, z4⟩ := hW; go_simp⟩) hS ?_
  try simp only [Act.put, List.setIfInBounds_toArray, List.set_cons_zero, List.set_cons_succ]
  refine anyU_take (i := 15) (.pointer (some ⟨w1.heap.size, 0, none⟩)) rfl (by decide) (by kernel_rfl) (by kernel_rfl) (by kernel_rfl) (by kernel_rfl) (fun _ _ _ h => h) (Or.inl ⟨by kernel_rfl, fun W hW => by obtain ⟨z0, z1, z2, z3, z4⟩ := hW; go_simp⟩) hS ?_
  try simp only [Act.put, List.setIfInBounds_toArray, List.set_cons_zero, List.set_cons_succ]
  refine anyU_take (i := 16) (.slice a1 n c1) rfl (by decide) (by kernel_rfl) (by kernel_rfl) (by kernel_rfl) (by kernel_rfl) (fun _ _ _ h => h) (Or.inl ⟨by kernel_rfl, fun W hW => by obtain ⟨z0, z1, z2, z3, z4⟩ := hW; go_simp⟩) hS ?_
  try simp only [Act.put, List.setIfInBounds_toArray, List.set_cons_zero, List.set_cons_succ]
  refine anyU_one (i := 17) (by kernel_rfl) rfl (fun K hK => ?_)
  go_simp
  refine (rdSame' n _ _ d1 c1 P _ HN.out hP (HX3.out.kept q0) (HX1.out.kept q0)).mono ?_
  rintro y w5 ⟨rfl, k5⟩
  replace q0 : Kept (fun _ => False) w3 w5 := q0.trans k5
  clear k5
  dsimp only
  refine hK.out _ _ (fun _ => HW.out _ q0) ?_
  try clear hS
  clear hK
  have hS : (fun w' : World => w'.cell? ⟨w1.heap.size, 0, none⟩ = some (.slice a1 n c1) ∧ w'.cell? ⟨w1.heap.size, 1, none⟩ = some (.slice a2 1 c2) ∧ w'.cell? ⟨w2.heap.size, 0, none⟩ = some (.slice (some ⟨g, 0, none⟩) (n + 1) d1) ∧ w'.cell? ⟨w2.heap.size, 1, none⟩ = some (.slice b2 0 d2) ∧ w'.cell? ⟨g, n, none⟩ = some (.int .i64 127)) _ := HW.out _ q0
  refine anyU_take (i := 18) (.bool true) rfl (by decide) (by kernel_rfl) (by kernel_rfl) (by kernel_rfl) (by kernel_rfl) (fun _ _ _ h => h) (Or.inl ⟨by kernel_rfl, fun W hW => by obtain ⟨z0, z1, z2, z3, z4⟩ := hW; go_simp⟩) hS ?_
  try simp only [Act.put, List.setIfInBounds_toArray, List.set_cons_zero, List.set_cons_succ]
  refine anyU_take (i := 19) (.bool true) rfl (by decide) (by kernel_rfl) (by kernel_rfl) (by kernel_rfl) (by kernel_rfl) (fun _ _ _ h => h) (Or.inl ⟨by kernel_rfl, fun W hW => by obtain ⟨z0, z1, z2, z3, z4⟩ := hW; go_simp⟩) hS ?_
  try simp only [Act.put, List.setIfInBounds_toArray, List.set_cons_zero, List.set_cons_succ]
  refine anyU_take (i := 20) (.pointer (some ⟨w2.heap.size, 0, none⟩)) rfl (by decide) (by kernel_rfl) (by kernel_rfl) (by kernel_rfl) (by kernel_rfl) (fun _ _ _ h => h) (Or.inl ⟨by kernel_rfl, fun W hW => by obtain ⟨z0, z1, z2, z3, z4⟩ := hW; go_simp⟩) hS ?_
  try simp only [Act.put, List.setIfInBounds_toArray, List.set_cons_zero, List.set_cons_succ]
  refine anyU_take (i := 21) (.slice (some ⟨g, 0, none⟩) (n + 1) d1) rfl (by decide) (by kernel_rfl) (by kernel_rfl) (by kernel_rfl) (by kernel_rfl) (fun _ _ _ h => h) (Or.inl ⟨by kernel_rfl, fun W hW => by obtain ⟨z0, z1, z2, z3, z4⟩ := hW; go_simp⟩) hS ?_
  try simp only [Act.put, List.setIfInBounds_toArray, List.set_cons_zero, List.set_cons_succ]
  refine anyU_take (i := 22) (.pointer (some ⟨w1.heap.size, 0, none⟩)) rfl (by decide) (by kernel_rfl) (by kernel_rfl) (by kernel_rfl) (by kernel_rfl) (fun _ _ _ h => h) (Or.inl ⟨by kernel_rfl, fun W hW => by obtain ⟨z0, z1, z2, z3, z4⟩ := hW; go_simp⟩) hS ?_
  try simp only [Act.put, List.setIfInBounds_toArray, List.set_cons_zero, List.set_cons_succ]
  refine anyU_take (i := 23) (.slice a1 n c1) rfl (by decide) (by kernel_rfl) (by kernel_rfl) (by kernel_rfl) (by kernel_rfl) (fun _ _ _ h => h) (Or.inl ⟨by kernel_rfl, fun W hW => by obtain ⟨z0, z1, z2, z3, z4⟩ := hW; go_simp⟩) hS ?_
  try simp only [Act.put, List.setIfInBounds_toArray, List.set_cons_zero, List.set_cons_succ]
  refine anyU_take (i := 24) (.int .i64 (n : Int)) rfl (by decide) (by kernel_rfl) (by kernel_rfl) (by kernel_rfl) (by kernel_rfl) (fun _ _ _ h => h) (Or.inl ⟨by kernel_rfl, fun W hW => by obtain ⟨z0, z1, z2, z3, z4⟩ := hW; go_simp⟩) hS ?_
  try simp only [Act.put, List.setIfInBounds_toArray, List.set_cons_zero, List.set_cons_succ]
  refine anyU_take (i := 25) (.pointer (some ⟨g, n, none⟩)) rfl (by decide) (by kernel_rfl) (by kernel_rfl) (by kernel_rfl) (by kernel_rfl) (fun _ _ _ h => h) (Or.inl ⟨by kernel_rfl, fun W hW => by obtain ⟨z0, z1, z2, z3, z4⟩ := hW; go_simp⟩) hS ?_
  try simp only [Act.put, List.setIfInBounds_toArray, List.set_cons_zero, List.set_cons_succ]
  refine anyU_take (i := 26) (.int .i64 127) rfl (by decide) (by kernel_rfl) (by kernel_rfl) (by kernel_rfl) (by kernel_rfl) (fun _ _ _ h => h) (Or.inl ⟨by kernel_rfl, fun W hW => by obtain ⟨z0, z1, z2, z3, z4⟩ := hW; go_simp⟩) hS ?_
  try simp only [Act.put, List.setIfInBounds_toArray, List.set_cons_zero, List.set_cons_succ]
  refine anyU_take (i := 27) (.bool true) rfl (by decide) (by kernel_rfl) (by kernel_rfl) (by kernel_rfl) (by kernel_rfl) (fun _ _ _ h => h) (Or.inl ⟨by kernel_rfl, fun W hW => by obtain ⟨z0, z1, z2, z3, z4⟩ := hW; go_simp⟩) hS ?_
  try simp only [Act.put, List.setIfInBounds_toArray, List.set_cons_zero, List.set_cons_succ]
  refine anyU_take (i := 28) (.bool true) rfl (by decide) (by kernel_rfl) (by kernel_rfl) (by kernel_rfl) (by kernel_rfl) (fun _ _ _ h => h) (Or.inl ⟨by kernel_rfl, fun W hW => by obtain ⟨z0, z1, z2, z3, z4⟩ := hW; go_simp⟩) hS ?_
  try simp only [Act.put, List.setIfInBounds_toArray, List.set_cons_zero, List.set_cons_succ]
  refine anyU_take (i := 29) (.bool true) rfl (by decide) (by kernel_rfl) (by kernel_rfl) (by kernel_rfl) (by kernel_rfl) (fun _ _ _ h => h) (Or.inl ⟨by kernel_rfl, fun W hW => by obtain ⟨z0, z1, z2, z3, z4⟩ := hW; go_simp⟩) hS ?_
  try simp only [Act.put, List.setIfInBounds_toArray, List.set_cons_zero, List.set_cons_succ]
  refine anyU_take (i := 30) (.pointer (some ⟨w2.heap.size, 1, none⟩)) rfl (by decide) (by kernel_rfl) (by kernel_rfl) (by kernel_rfl) (by kernel_rfl) (fun _ _ _ h => h) (Or.inl ⟨by kernel_rfl, fun W hW => by obtain ⟨z0, z1, z2, z3, z4⟩ := hW; go_simp⟩) hS ?_
  try simp only [Act.put, List.setIfInBounds_toArray, List.set_cons_zero, List.set_cons_succ]
  refine anyU_take (i := 31) (.slice b2 0 d2) rfl (by decide) (by kernel_rfl) (by kernel_rfl) (by kernel_rfl) (by kernel_rfl) (fun _ _ _ h => h) (Or.inl ⟨by kernel_rfl, fun W hW => by obtain ⟨z0, z1, z2, z3, z4⟩ := hW; go_simp⟩) hS ?_
  try simp only [Act.put, List.setIfInBounds_toArray, List.set_cons_zero, List.set_cons_succ]
  refine anyU_take (i := 32) (.int .i64 0) rfl (by decide) (by kernel_rfl) (by kernel_rfl) (by kernel_rfl) (by kernel_rfl) (fun _ _ _ h => h) (Or.inl ⟨by kernel_rfl, fun W hW => by obtain ⟨z0, z1, z2, z3, z4⟩ := hW; go_simp⟩) hS ?_
  try simp only [Act.put, List.setIfInBounds_toArray, List.set_cons_zero, List.set_cons_succ]
  refine anyU_take (i := 33) (.bool true) rfl (by decide) (by kernel_rfl) (by kernel_rfl) (by kernel_rfl) (by kernel_rfl) (fun _ _ _ h => h) (Or.inl ⟨by kernel_rfl, fun W hW => by obtain ⟨z0, z1, z2, z3, z4⟩ := hW; go_simp⟩) hS ?_
  try simp only [Act.put, List.setIfInBounds_toArray, List.set_cons_zero, List.set_cons_succ]
  refine anyU_take (i := 34) (.bool true) rfl (by decide) (by kernel_rfl) (by kernel_rfl) (by kernel_rfl) (by kernel_rfl) (fun _ _ _ h => h) (Or.inl ⟨by kernel_rfl, fun W hW => by obtain ⟨z0, z1, z2, z3, z4⟩ := hW; go_simp⟩) hS ?_
  try simp only [Act.put, List.setIfInBounds_toArray, List.set_cons_zero, List.set_cons_succ]
  refine anyU_take (i := 35) (.bool true) rfl (by decide) (by kernel_rfl) (by kernel_rfl) (by kernel_rfl) (by kernel_rfl) (fun _ _ _ h => h) (Or.inl ⟨by kernel_rfl, fun W hW => by obtain ⟨z0, z1, z2, z3, z4⟩ := hW; go_simp⟩) hS ?_
  try simp only [Act.put, List.setIfInBounds_toArray, List.set_cons_zero, List.set_cons_succ]
  refine anyU_take (i := 36) (.pointer (some ⟨w1.heap.size, 1, none⟩)) rfl (by decide) (by kernel_rfl) (by kernel_rfl) (by kernel_rfl) (by kernel_rfl) (fun _ _ _ h => h) (Or.inl ⟨by kernel_rfl, fun W hW => by obtain ⟨z0, z1, z2, z3, z4⟩ := hW; go_simp⟩) hS ?_
  try simp only [Act.put, List.setIfInBounds_toArray, List.set_cons_zero, List.set_cons_succ]
  refine anyU_take (i := 37) (.slice a2 1 c2) rfl (by decide) (by kernel_rfl) (by kernel_rfl) (by kernel_rfl) (by kernel_rfl) (fun _ _ _ h => h) (Or.inl ⟨by kernel_rfl, fun W hW => by obtain ⟨z0, z1, z2, z3, z4⟩ := hW; go_simp⟩) hS ?_
  try simp only [Act.put, List.setIfInBounds_toArray, List.set_cons_zero, List.set_cons_succ]
  refine anyU_one (i := 38) (by kernel_rfl) rfl (fun K hK => ?_)
  go_simp
  refine hK.out _ _ (fun _ => HW.out _ (q0.new (.cells #[.int .i64 127] 3))) ?_
  try clear hS
  clear hK
  have hS : (fun w' : World => w'.cell? ⟨w1.heap.size, 0, none⟩ = some (.slice a1 n c1) ∧ w'.cell? ⟨w1.heap.size, 1, none⟩ = some (.slice a2 1 c2) ∧ w'.cell? ⟨w2.heap.size, 0, none⟩ = some (.slice (some ⟨g, 0, none⟩) (n + 1) d1) ∧ w'.cell? ⟨w2.heap.size, 1, none⟩ = some (.slice b2 0 d2) ∧ w'.cell? ⟨g, n, none⟩ = some (.int .i64 127)) _ := HW.out _ (q0.new (.cells #[.int .i64 127] 3))
  refine anyU_one (i := 39) (by kernel_rfl) rfl (fun K hK => ?_)
  go_simp
  refine (rdSame' 1 _ _ c2 1 [127] _ rfl (by decide) (HX2.out.kept (q0.new _)) (one_view _ (cell_one_new' _ _ _))).mono ?_
  rintro y w6 ⟨rfl, k5⟩
  replace q0 : Kept (fun _ => False) w3 w6 := (q0.new _).trans k5
  clear k5
  dsimp only
  refine hK.out _ _ (fun _ => HW.out _ q0) ?_
  try clear hS
  clear hK
  have hS : (fun w' : World => w'.cell? ⟨w1.heap.size, 0, none⟩ = some (.slice a1 n c1) ∧ w'.cell? ⟨w1.heap.size, 1, none⟩ = some (.slice a2 1 c2) ∧ w'.cell? ⟨w2.heap.size, 0, none⟩ = some (.slice (some ⟨g, 0, none⟩) (n + 1) d1) ∧ w'.cell? ⟨w2.heap.size, 1, none⟩ = some (.slice b2 0 d2) ∧ w'.cell? ⟨g, n, none⟩ = some (.int .i64 127)) _ := HW.out _ q0
  refine anyU_take (i := 40) (.bool true) rfl (by decide) (by kernel_rfl) (by kernel_rfl) (by kernel_rfl) (by kernel_rfl) (fun _ _ _ h => h) (Or.inl ⟨by kernel_rfl, fun W hW => by obtain ⟨z0, z1, z2, z3, z4⟩ := hW; go_simp⟩) hS ?_
  try simp only [Act.put, List.setIfInBounds_toArray, List.set_cons_zero, List.set_cons_succ]
  refine anyU_take (i := 41) (.bool true) rfl (by decide) (by kernel_rfl) (by kernel_rfl) (by kernel_rfl) (by kernel_rfl) (fun _ _ _ h => h) (Or.inl ⟨by kernel_rfl, fun W hW => by obtain ⟨z0, z1, z2, z3, z4⟩ := hW; go_simp⟩) hS ?_
  try simp only [Act.put, List.setIfInBounds_toArray, List.set_cons_zero, List.set_cons_succ]
  refine anyU_one (i := 42) (by kernel_rfl) rfl (fun K hK => ?_)
  go_simp
  refine (HAW.out _).mono ?_
  rintro y w7 ⟨rfl, k5⟩
  replace q0 : Kept (fun _ => False) w3 w7 := q0.trans k5
  clear k5
  dsimp only
  refine hK.out _ _ (fun _ => HW.out _ q0) ?_
  try clear hS
  clear hK
  have hS : (fun w' : World => w'.cell? ⟨w1.heap.size, 0, none⟩ = some (.slice a1 n c1) ∧ w'.cell? ⟨w1.heap.size, 1, none⟩ = some (.slice a2 1 c2) ∧ w'.cell? ⟨w2.heap.size, 0, none⟩ = some (.slice (some ⟨g, 0, none⟩) (n + 1) d1) ∧ w'.cell? ⟨w2.heap.size, 1, none⟩ = some (.slice b2 0 d2) ∧ w'.cell? ⟨g, n, none⟩ = some (.int .i64 127)) _ := HW.out _ q0
  refine anyU_take (i := 43) (.bool true) rfl (by decide) (by kernel_rfl) (by kernel_rfl) (by kernel_rfl) (by kernel_rfl) (fun _ _ _ h => h) (Or.inl ⟨by kernel_rfl, fun W hW => by obtain ⟨z0, z1, z2, z3, z4⟩ := hW; go_simp⟩) hS ?_
  try simp only [Act.put, List.setIfInBounds_toArray, List.set_cons_zero, List.set_cons_succ]
  refine anyU_one (i := 44) (by kernel_rfl) rfl (fun K hK => ?_)
  go_simp
  refine hK.out _ _ (fun q => absurd q (by decide)) ?_
  clear hK
  refine anyU_done (by kernel_rfl) (NoPanic.normal ?_)
  go_wp2_with fail
  go_ret
  exact ⟨rfl, HK3.out.trans q0⟩
theorem ctR_le {p r : List Int} (h : r.length ≤ 1) (lower : Bool) : ctP p r lower = ctP p r false ∧ ctR r lower = r := by
  unfold ctP ctR
  simp [h]
theorem ctR_gt {p r : List Int} (h : ¬ r.length ≤ 1) : ctP p r true = ctP p r false ++ [127] ∧ ctR r true = [] ∧ ctR r false = [127] := by
  unfold ctP ctR
  simp [h]
theorem CtypeBoth_walk (s : Sg) (ap : Option Addr) (cp : Nat) (aq : Option Addr) (cq : Nat) (an : Option Addr) (cn : Nat) (al : Option Addr) (cl : Nat) (w : World) (h : SgAt w s ap cp aq cq an cn al cl) (hf : FineS s) :
    Calls Tryd.prog 7 #[sgV s ap cp aq cq an cn al cl] w fun y w' => y = .returned (.bool true) ∧ Kept (fun _ => False) w w' := by
  cases ho : okS s
  · exact both_no s ap cp aq cq an cn al cl w
      (Lib.hid fun w' k => rdCore_no s false ap cp aq cq an cn al cl w' (h.kept k) hf ho)
      (Lib.hid fun w' k => rdCore_no s true ap cp aq cq an cn al cl w' (h.kept k) hf ho)
  · have HX := Lib.hid (fun w' (k : Kept (fun _ => False) w w') => corr_all 16 s.r an cn al cl w' (h.kept k).r (okS_fit ho).2.2.1 (okS_fit ho).2.2.2)
    have HT := fun lower w' (k : Kept (fun _ => False) w w') => rdCore_ok s lower ap cp aq cq an cn al cl w' (h.kept k) hf ho
    have hpl : (ctP (argL s) (coreK 16 s.r) false).length ≤ 17 := ctP_len (argL_small ho)
    by_cases hr : (coreK 16 s.r).length ≤ 1
    · have e0 := ctR_le (p := argL s) hr false
      have e1 := ctR_le (p := argL s) hr true
      have H0 := HT false
      have H1 := HT true
      rw [e0.2] at H0
      rw [e1.1, e1.2] at H1
      exact both_small s ap cp aq cq an cn al cl w _ _ _ hpl hr hr (Lib.hid H0) (Lib.hid H1) HX
    · have e := ctR_gt (p := argL s) hr
      have H0 := HT false
      have H1 := HT true
      rw [e.2.2] at H0
      rw [e.1, e.2.1] at H1
      exact both_big s ap cp aq cq an cn al cl w _ _ _ rfl hpl hr (Lib.hid fun w' k => (H0 w' k).mono fun _ _ q => TopR.of q) (Lib.hid fun w' k => (H1 w' k).mono fun _ _ q => BotR.of q) HX
end Go.Proofs.YtcfakaglmlfkpaaDoor
