/- ctype: CtypeAligned: the walk. -/
import Derived.Test.YtlkbgdhlbdjbiaaDoorCtAy
import Derived.Test.YtlkbgdhlbdjbiaaDoorCtAw
import Derived.Test.YtlkbgdhlbdjbiaaDoorCtI
import Derived.Deep.RegionHeld3
import Derived.Deep.Cut
import Derived.Deep.CutRange
import Derived.Deep.DeepCutAuto
/- ctype: CtypeAligned: the walk. -/
set_option linter.unusedVariables false
set_option linter.unusedSimpArgs false
namespace Go.Proofs.YtlkbgdhlbdjbiaaDoor
open Go.RowKit
open Lex Ct

set_option maxRecDepth 100000 in
set_option maxHeartbeats 8000000 in
theorem aligned_no (t : Ty) (an : Option Addr) (cn : Nat) (al : Option Addr) (cl : Nat) (w : World) (h : TyAt w t an cn al cl) (hf : FineT t) (ho : okT t = false) :
    Calls Tryd.prog 4 #[tyV t an cn al cl] w fun y w' => y = .returned (.bool true) ∧ Kept (fun _ => False) w w' := by
  have k0 : Kept (fun _ => False) w (w.alloc (.cells #[.int .i64 t.kind, .slice an t.names.length cn, .slice al t.l.length cl, .int .i64 t.r] 25)) := (Kept.refl _ _).new _
  have HK := Lib.hid k0
  have HM := Lib.hid (fun w' (k : Kept (fun _ => False) w w') => by have := rdMay t an cn al cl w' (h.kept k) hf; rw [ho] at this; exact this)
  have HAW := Lib.hid (fun w => awake_any w)
  clear k0 h hf ho
  go_enter Tryd.func4, Tryd.ntmps4
  go_wp2_with (first
    | (go_at_call 5; refine (HM.out _ HK.out).mono ?_; rintro y w1 ⟨rfl, k1⟩; have HK1 := Lib.hid (HK.out.trans k1); clear k1)
    | (go_at_call 6; refine (HAW.out _).mono ?_; rintro y w2 ⟨rfl, k2⟩; have HK2 := Lib.hid (HK1.out.trans k2); clear k2))
  go_ret
  exact ⟨rfl, HK2.out⟩
theorem tmod0 {a b : Nat} (h : a % b = 0) : (a : Int).tmod (b : Int) = 0 := by
  rw [Int.tmod_eq_emod_of_nonneg (by omega), show ((a : Int) % (b : Int)) = ((a % b : Nat) : Int) from by first | exact (Int.natCast_emod a b).symm | exact (Int.ofNat_emod a b).symm | simp, h]
  rfl
set_option maxRecDepth 100000 in
set_option maxHeartbeats 8000000 in
theorem aligned_zero (t : Ty) (an : Option Addr) (cn : Nat) (al : Option Addr) (cl : Nat) (w : World) (h : TyAt w t an cn al cl) (hf : FineT t) (n by' : Nat) (pl : List Nat) (E : Nat → Nat) (inside : Nat) (X : Ty)
    (HN : Hid (Nums t n by' pl E 0 inside X.l))
    (HM : Hid (∀ w', Kept (fun _ => False) w w' → Calls Tryd.prog 5 #[tyV t an cn al cl] w' fun y w'' => y = .returned (.bool true) ∧ Kept (fun _ => False) w' w''))
    (HS : Hid (∀ w', Kept (fun _ => False) w w' → Calls Tryd.prog 14 #[tyV t an cn al cl] w' fun y w'' => y = .returned (.int .i64 (n : Nat)) ∧ Kept (fun _ => False) w' w''))
    (HA : Hid (∀ w', Kept (fun _ => False) w w' → Calls Tryd.prog 16 #[tyV t an cn al cl] w' fun y w'' => y = .returned (.int .i64 (by' : Nat)) ∧ Kept (fun _ => False) w' w''))
    (HPL : Hid (∀ w', Kept (fun _ => False) w w' → Calls Tryd.prog 17 #[tyV t an cn al cl] w' fun y w'' => ∃ av cap, y = .returned (.slice av pl.length cap) ∧ View w'' av pl.length (ints pl) ∧ Kept (fun _ => False) w' w''))
    (HCA : Hid (∀ w', Kept (fun _ => False) w w' → Calls Tryd.prog 18 #[tyV t an cn al cl] w' fun y w'' => y = .returned (.tuple #[.int .i64 ((0 : Nat) : Int), .int .i64 (inside : Nat)]) ∧ Kept (fun _ => False) w' w''))
    (HAX : Hid (∀ x ∈ t.l, okT x = true → ∀ ax cx ay cy w', TyAt w' x ax cx ay cy → Calls Tryd.prog 16 #[tyV x ax cx ay cy] w' fun y w'' => y = .returned (.int .i64 ((lieK 16 x).2 : Nat)) ∧ Kept (fun _ => False) w' w''))
    (HSX : Hid (∀ x ∈ t.l, okT x = true → ∀ ax cx ay cy w', TyAt w' x ax cx ay cy → Calls Tryd.prog 14 #[tyV x ax cx ay cy] w' fun y w'' => y = .returned (.int .i64 ((lieK 16 x).1 : Nat)) ∧ Kept (fun _ => False) w' w'')) :
    Calls Tryd.prog 4 #[tyV t an cn al cl] w fun y w' => y = .returned (.bool true) ∧ Kept (fun _ => False) w w' := by
  have k0 : Kept (fun _ => False) w (w.alloc (.cells #[.int .i64 t.kind, .slice an t.names.length cn, .slice al t.l.length cl, .int .i64 t.r] 25)) := (Kept.refl _ _).new _
  have T0 := BlkAt.new w #[.int .i64 t.kind, .slice an t.names.length cn, .slice al t.l.length cl, .int .i64 t.r] 25
  have HK := Lib.hid k0
  have HT := Lib.hid T0
  have HAW := Lib.hid (fun w => awake_any w)
  have hal := HN.out.al
  have hn1 := HN.out.n1
  have hn2 := HN.out.n2
  have hmod := HN.out.mod
  have b1 : decide ((n : Int) < 1) = false := by simp; omega
  clear k0 T0
  go_enter Tryd.func4, Tryd.ntmps4
  go_wp2_with (first
    | (go_at_call 5; refine (HM.out _ HK.out).mono ?_; rintro y w1 ⟨rfl, k1⟩; have HK1 := Lib.hid (HK.out.trans k1); have HT1 := Lib.hid (HT.out.kept (F := fun _ => False) k1 id); clear k1 HM))
  have q0 : Kept (fun _ => False) w1 w1.drew := (Kept.refl _ _).drew
  have HW : Hid (∀ w', Kept (fun _ => False) w1 w' → w'.cell? ⟨w.heap.size, 0, none⟩ = some (.int .i64 t.kind) ∧ w'.cell? ⟨w.heap.size, 1, none⟩ = some (.slice an t.names.length cn) ∧ w'.cell? ⟨w.heap.size, 2, none⟩ = some (.slice al t.l.length cl) ∧ w'.cell? ⟨w.heap.size, 3, none⟩ = some (.int .i64 t.r)) := Lib.hid fun w' k => boxT_cells (HT1.out.kept (F := fun _ => False) k id)
  go_region_held3 (fun w' => w'.cell? ⟨w.heap.size, 0, none⟩ = some (.int .i64 t.kind) ∧ w'.cell? ⟨w.heap.size, 1, none⟩ = some (.slice an t.names.length cn) ∧ w'.cell? ⟨w.heap.size, 2, none⟩ = some (.slice al t.l.length cl) ∧ w'.cell? ⟨w.heap.size, 3, none⟩ = some (.int .i64 t.r))
    (first | exact HW.out _ q0)
    (first
      | (go_at_call 14; refine (HS.out _ (HK1.out.trans q0)).mono ?_; rintro y w2 ⟨rfl, k2⟩; replace q0 : Kept (fun _ => False) w1 w2 := q0.trans k2; clear k2)
      | (go_at_call 16; refine (HA.out _ (HK1.out.trans q0)).mono ?_; rintro y w3 ⟨rfl, k2⟩; replace q0 : Kept (fun _ => False) w1 w3 := q0.trans k2; clear k2))
  have HK3 := Lib.hid (HK1.out.trans q0)
  have HT3 := Lib.hid (HT1.out.kept (F := fun _ => False) q0 id)
  clear q0 HW HT1
  go_upto_region 4 with fail
  go_cut [3, 4, 44] from 13 (fun s3 s4 s44 w' => s3 = .int .i64 (n : Nat) ∧ s4 = .int .i64 (by' : Nat) ∧ s44 = .bool false ∧ w' = w3)
  case first =>
    unfold Al at hal
    rcases hal with rfl | rfl | rfl | rfl
    all_goals
      go_wp2_with fail
      go_meet
      case rel => exact ⟨rfl, rfl, by first | rfl | exact congrArg Value.bool (by rw [bne_eq_false_iff_eq]; omega), rfl⟩
  case rest =>
    obtain ⟨rfl, rfl, rfl, hwc⟩ := hcut
    subst hwc
    obtain ⟨t0, t1, t2, t3⟩ := boxT_cells HT3.out
    clear hmod hal b1 HS HA
    go_wp2_with (first
      | (go_at_call 17; refine (HPL.out _ HK3.out).mono ?_; rintro y w4 ⟨av, cv, rfl, hv, k4⟩; have HK4 := Lib.hid (HK3.out.trans k4); have HT4 := Lib.hid (HT3.out.kept (F := fun _ => False) k4 id); have HV := Lib.hid hv; clear k4 hv))
    go_loopw [6, 7] (fun e v wr => ∃ k : Nat, v = .int .i64 k ∧ k ≤ pl.length ∧ e = .int .i64 (E k : Nat) ∧ Hid (Kept (fun _ => False) w4 wr)) (fun e v _ => pl.length - (intOf v).toNat)
    case atStart => exact ⟨0, rfl, Nat.zero_le _, by rw [HN.out.e0]; rfl, Lib.hid (Kept.refl _ _)⟩
    case round =>
      obtain ⟨k, rfl, hk, rfl, hst⟩ := hrel
      obtain ⟨t0, t1, t2, t3⟩ := boxT_cells (HT4.out.kept (F := fun _ => False) hst.out id)
      by_cases hlt : k < pl.length
      · have hln : pl.length = t.l.length := by
          rcases HN.out.len with e | e
          · exact e
          · rw [e] at hlt; cases hlt
        have hsm := HN.out.small
        obtain ⟨x, hx⟩ : ∃ x, t.l[k]? = some x := ⟨_, List.getElem?_eq_getElem (by omega)⟩
        obtain ⟨p, hp⟩ : ∃ p, pl[k]? = some p := ⟨_, List.getElem?_eq_getElem hlt⟩
        obtain ⟨hox, hEp, hpa, hba, hEn⟩ := HN.out.at' k p x hp hx
        have hAl := (lieK_good 16 x).al
        have hEb := HN.out.eb (k + 1) hlt
        obtain ⟨g, o, ax, cx, ay, cy, rfl, _, hgl, htx, c0, c1, c2, c3⟩ := row_in ((h.kept (HK4.out.trans hst.out)).l) hx
        have hmem : x ∈ t.l := List.mem_of_getElem? hx
        have HXT := Lib.hid htx.any
        obtain ⟨vb, vo, rfl, hvc⟩ := HV.out.resolve_left (by omega)
        have hv0 : w4.cell? ⟨vb, vo + k, none⟩ = some (.int .i64 (p : Nat)) := by
          rw [hvc k hlt]
          unfold ints
          rw [List.getD_eq_getElem?_getD, List.getElem?_map, hp]
          rfl
        have hv1 := (hst.out.cell1 (World.block_lt_of_cell? w4 _ hv0)).trans hv0
        have HAI := Lib.hid (fun w' (k' : Kept (fun _ => False) wr w') => HAX.out x hmem hox ax cx ay cy w' (HXT.out.kept k'))
        have HSI := Lib.hid (fun w' (k' : Kept (fun _ => False) wr w') => HSX.out x hmem hox ax cx ay cy w' (HXT.out.kept k'))
        have HTr := Lib.hid (HT4.out.kept (F := fun _ => False) hst.out id)
        have HRC := Lib.hid (And.intro c0 (And.intro c1 (And.intro c2 (And.intro c3 hv1))))
        have HWr : Hid (∀ w', Kept (fun _ => False) wr w' → w'.cell? ⟨w.heap.size, 2, none⟩ = some (.slice (some ⟨g, o, none⟩) t.l.length cl) ∧ w'.cell? ⟨g, o + k * 4, none⟩ = some (.int .i64 x.kind) ∧ w'.cell? ⟨g, o + k * 4 + 1, none⟩ = some (.slice ax x.names.length cx) ∧ w'.cell? ⟨g, o + k * 4 + 2, none⟩ = some (.slice ay x.l.length cy) ∧ w'.cell? ⟨g, o + k * 4 + 3, none⟩ = some (.int .i64 x.r) ∧ w'.cell? ⟨vb, vo + k, none⟩ = some (.int .i64 (p : Nat))) := Lib.hid (fun w' k' =>
          ⟨(HTr.out.kept (F := fun _ => False) k' id).cell 2, (k'.cell1 (World.block_lt_of_cell? wr _ HRC.out.1)).trans HRC.out.1, (k'.cell1 (World.block_lt_of_cell? wr _ HRC.out.2.1)).trans HRC.out.2.1, (k'.cell1 (World.block_lt_of_cell? wr _ HRC.out.2.2.1)).trans HRC.out.2.2.1, (k'.cell1 (World.block_lt_of_cell? wr _ HRC.out.2.2.2.1)).trans HRC.out.2.2.2.1, (k'.cell1 (World.block_lt_of_cell? wr _ HRC.out.2.2.2.2)).trans HRC.out.2.2.2.2⟩)
        clear hv0 hvc htx HAX HSX HPL HN hgl HCA
        revert hpa hba hEn hAl HAI HSI
        generalize (lieK 16 x).2 = A
        generalize (lieK 16 x).1 = S
        generalize he1 : E (k + 1) = e1 at *
        have HE1 := Lib.hid he1
        have hkl : k < t.l.length := by omega
        clear he1
        intro hpa hba hEn hAl HAI HSI
        have hAle := hAl.le
        have bA : decide ((A : Int) < 1) = false := by simp; omega
        have bA0 : ((A : Int) == 0) = false := by rw [beq_eq_false_iff_ne]; omega
        have hA1 : 1 ≤ A := hAle.1
        have hps : p + S ≤ 9000 := by omega
        have bE : decide ((p : Int) < (E k : Int)) = false := by simp; omega
        have eP := tmod0 hpa
        have eB := tmod0 hba
        have hwr : IntKind.i64.wrap ((p : Int) + (S : Int)) = ((e1 : Nat) : Int) := by rw [IntKind.wrap_i64]; omega
        have hlI : ((k : Int) ≥ (t.l.length : Int)) = False := by simp; omega
        clear hpa hba hAl hAle hEn hEb hln
        go_wp2_with (first
          | (go_at_call 16; refine (HAI.out _ (Kept.refl _ _)).mono ?_; rintro y w5 ⟨rfl, k5⟩
             have HK5 := Lib.hid k5
             obtain ⟨d0, d1, d2, d3, d4, d5⟩ := HWr.out _ k5
             clear k5))
        have q0 : Kept (fun _ => False) wr w5.drew := HK5.out.drew
        go_region_held3 (fun w' => w'.cell? ⟨w.heap.size, 2, none⟩ = some (.slice (some ⟨g, o, none⟩) t.l.length cl) ∧ w'.cell? ⟨g, o + k * 4, none⟩ = some (.int .i64 x.kind) ∧ w'.cell? ⟨g, o + k * 4 + 1, none⟩ = some (.slice ax x.names.length cx) ∧ w'.cell? ⟨g, o + k * 4 + 2, none⟩ = some (.slice ay x.l.length cy) ∧ w'.cell? ⟨g, o + k * 4 + 3, none⟩ = some (.int .i64 x.r) ∧ w'.cell? ⟨vb, vo + k, none⟩ = some (.int .i64 (p : Nat)))
          (first | exact HWr.out _ q0)
          (first
            | (go_at_call 14; refine (HSI.out _ q0).mono ?_; rintro y w6 ⟨rfl, k6⟩; replace q0 : Kept (fun _ => False) wr w6 := q0.trans k6; clear k6))
        go_wp2_with fail
        exact ⟨⟨k + 1, by go_num, by omega, by rw [HE1.out], Lib.hid (hst.out.trans q0)⟩, by simp [intOf]; omega⟩
      · have hke : k = pl.length := by omega
        subst hke
        have hEn := HN.out.eb pl.length (Nat.le_refl _)
        have HKr := Lib.hid (HK4.out.trans hst.out)
        clear hlt
        go_wp2_with (first
          | (go_at_call 6; have _h := HK7; refine (HAW.out _).mono ?_; rintro y w8 ⟨rfl, k8⟩)
          | (go_at_call 18; refine (HCA.out _ HKr.out).mono ?_; rintro y w7 ⟨rfl, k7⟩; have HK7 := Lib.hid (HKr.out.trans k7); clear k7))
        go_ret
        exact ⟨rfl, HK7.out.trans k8⟩
end Go.Proofs.YtlkbgdhlbdjbiaaDoor

/- ctype: CtypeAligned: the walk, of what is a variant. -/
set_option linter.unusedVariables false
set_option linter.unusedSimpArgs false
namespace Go.Proofs.YtlkbgdhlbdjbiaaDoor
open Go.RowKit
open Lex Ct

theorem meas_up {n k : Nat} (h : k < n) : n - (intOf (Value.int .i64 ((k : Int) + 1))).toNat < n - (intOf (Value.int .i64 (k : Int))).toNat := by
  simp [intOf]
  omega
theorem fit_wrap {i S n : Nat} (h : i + S ≤ n) (hn : n ≤ 9000) : wrap64 ((i : Int) + (S : Int)) = (i : Int) + (S : Int) := by unfold wrap64; omega
theorem fit_gt {i S n : Nat} (h : i + S ≤ n) : decide ((i : Int) + (S : Int) > (n : Int)) = false := decide_eq_false (by omega)
theorem al_lt {A : Nat} (h : Al A) : decide ((A : Int) < 1) = false := decide_eq_false (by have := h.le; omega)
theorem al_ne {A : Nat} (h : Al A) : ((A : Int) == 0) = false := by rw [beq_eq_false_iff_ne]; have := h.le; omega
set_option maxRecDepth 100000 in
set_option maxHeartbeats 8000000 in
theorem aligned_var (t : Ty) (an : Option Addr) (cn : Nat) (al : Option Addr) (cl : Nat) (w : World) (h : TyAt w t an cn al cl) (hf : FineT t) (n by' : Nat) (E : Nat → Nat) (first inside : Nat) (X : Ty)
    (hf0 : 0 < first)
    (HN : Hid (Nums t n by' [] E first inside X.l))
    (HM : Hid (∀ w', Kept (fun _ => False) w w' → Calls Tryd.prog 5 #[tyV t an cn al cl] w' fun y w'' => y = .returned (.bool true) ∧ Kept (fun _ => False) w' w''))
    (HS : Hid (∀ w', Kept (fun _ => False) w w' → Calls Tryd.prog 14 #[tyV t an cn al cl] w' fun y w'' => y = .returned (.int .i64 (n : Nat)) ∧ Kept (fun _ => False) w' w''))
    (HA : Hid (∀ w', Kept (fun _ => False) w w' → Calls Tryd.prog 16 #[tyV t an cn al cl] w' fun y w'' => y = .returned (.int .i64 (by' : Nat)) ∧ Kept (fun _ => False) w' w''))
    (HPL : Hid (∀ w', Kept (fun _ => False) w w' → Calls Tryd.prog 17 #[tyV t an cn al cl] w' fun y w'' => ∃ av cap, y = .returned (.slice av 0 cap) ∧ Kept (fun _ => False) w' w''))
    (HCA : Hid (∀ w', Kept (fun _ => False) w w' → Calls Tryd.prog 18 #[tyV t an cn al cl] w' fun y w'' => y = .returned (.tuple #[.int .i64 (first : Nat), .int .i64 (inside : Nat)]) ∧ Kept (fun _ => False) w' w''))
    (HP : Hid (∀ w', Kept (fun _ => False) w w' → Calls Tryd.prog 7 #[tyV t an cn al cl] w' (PlainR X w')))
    (HXL : Hid (∀ x ∈ X.l, x.kind = 0 ∨ x ∈ t.l))
    (HAX : Hid (∀ x ∈ t.l, okT x = true → ∀ ax cx ay cy w', TyAt w' x ax cx ay cy → Calls Tryd.prog 16 #[tyV x ax cx ay cy] w' fun y w'' => y = .returned (.int .i64 ((lieK 16 x).2 : Nat)) ∧ Kept (fun _ => False) w' w''))
    (HSX : Hid (∀ x ∈ t.l, okT x = true → ∀ ax cx ay cy w', TyAt w' x ax cx ay cy → Calls Tryd.prog 14 #[tyV x ax cx ay cy] w' fun y w'' => y = .returned (.int .i64 ((lieK 16 x).1 : Nat)) ∧ Kept (fun _ => False) w' w'')) :
    Calls Tryd.prog 4 #[tyV t an cn al cl] w fun y w' => y = .returned (.bool true) ∧ Kept (fun _ => False) w w' := by
  have k0 : Kept (fun _ => False) w (w.alloc (.cells #[.int .i64 t.kind, .slice an t.names.length cn, .slice al t.l.length cl, .int .i64 t.r] 25)) := (Kept.refl _ _).new _
  have T0 := BlkAt.new w #[.int .i64 t.kind, .slice an t.names.length cn, .slice al t.l.length cl, .int .i64 t.r] 25
  have HK := Lib.hid k0
  have HT := Lib.hid T0
  have HAW := Lib.hid (fun w => awake_any w)
  have hal := HN.out.al
  have hn1 := HN.out.n1
  have hn2 := HN.out.n2
  have hmod := HN.out.mod
  have b1 : decide ((n : Int) < 1) = false := by simp; omega
  clear k0 T0
  go_enter Tryd.func4, Tryd.ntmps4
  go_wp2_with (first
    | (go_at_call 5; refine (HM.out _ HK.out).mono ?_; rintro y w1 ⟨rfl, k1⟩; have HK1 := Lib.hid (HK.out.trans k1); have HT1 := Lib.hid (HT.out.kept (F := fun _ => False) k1 id); clear k1 HM))
  have q0 : Kept (fun _ => False) w1 w1.drew := (Kept.refl _ _).drew
  have HW : Hid (∀ w', Kept (fun _ => False) w1 w' → w'.cell? ⟨w.heap.size, 0, none⟩ = some (.int .i64 t.kind) ∧ w'.cell? ⟨w.heap.size, 1, none⟩ = some (.slice an t.names.length cn) ∧ w'.cell? ⟨w.heap.size, 2, none⟩ = some (.slice al t.l.length cl) ∧ w'.cell? ⟨w.heap.size, 3, none⟩ = some (.int .i64 t.r)) := Lib.hid fun w' k => boxT_cells (HT1.out.kept (F := fun _ => False) k id)
  go_region_held3 (fun w' => w'.cell? ⟨w.heap.size, 0, none⟩ = some (.int .i64 t.kind) ∧ w'.cell? ⟨w.heap.size, 1, none⟩ = some (.slice an t.names.length cn) ∧ w'.cell? ⟨w.heap.size, 2, none⟩ = some (.slice al t.l.length cl) ∧ w'.cell? ⟨w.heap.size, 3, none⟩ = some (.int .i64 t.r))
    (first | exact HW.out _ q0)
    (first
      | (go_at_call 14; refine (HS.out _ (HK1.out.trans q0)).mono ?_; rintro y w2 ⟨rfl, k2⟩; replace q0 : Kept (fun _ => False) w1 w2 := q0.trans k2; clear k2)
      | (go_at_call 16; refine (HA.out _ (HK1.out.trans q0)).mono ?_; rintro y w3 ⟨rfl, k2⟩; replace q0 : Kept (fun _ => False) w1 w3 := q0.trans k2; clear k2))
  have HK3 := Lib.hid (HK1.out.trans q0)
  have HT3 := Lib.hid (HT1.out.kept (F := fun _ => False) q0 id)
  clear q0 HW HT1
  go_upto_region 4 with fail
  go_cut [3, 4, 44] from 13 (fun s3 s4 s44 w' => s3 = .int .i64 (n : Nat) ∧ s4 = .int .i64 (by' : Nat) ∧ s44 = .bool false ∧ w' = w3)
  case first =>
    unfold Al at hal
    rcases hal with rfl | rfl | rfl | rfl
    all_goals
      go_wp2_with fail
      go_meet
      case rel => exact ⟨rfl, rfl, by first | rfl | exact congrArg Value.bool (by rw [bne_eq_false_iff_eq]; omega), rfl⟩
  case rest =>
    obtain ⟨rfl, rfl, rfl, hwc⟩ := hcut
    subst hwc
    obtain ⟨t0, t1, t2, t3⟩ := boxT_cells HT3.out
    clear hmod hal b1 HS HA
    go_wp2_with (first
      | (go_at_call 17; refine (HPL.out _ HK3.out).mono ?_; rintro y w4 ⟨av, cv, rfl, k4⟩; have HK4 := Lib.hid (HK3.out.trans k4); have HT4 := Lib.hid (HT3.out.kept (F := fun _ => False) k4 id); clear k4))
    go_loopw [6, 7] (fun e v wr => v = .int .i64 0 ∧ e = .int .i64 0 ∧ Hid (Kept (fun _ => False) w4 wr)) (fun _ _ _ => 0)
    case atStart => exact ⟨rfl, rfl, Lib.hid (Kept.refl _ _)⟩
    case round =>
      obtain ⟨rfl, rfl, hst⟩ := hrel
      obtain ⟨t0, t1, t2, t3⟩ := boxT_cells (HT4.out.kept (F := fun _ => False) hst.out id)
      have HKr := Lib.hid (HK4.out.trans hst.out)
      have bF : decide ((first : Int) > 0) = true := by simp; omega
      have hfp := hf0
      have HXS := Lib.hid (HN.out.xs hfp)
      have hxn := HN.out.xn
      go_wp2_with (first
        | (go_at_call 7; have _h := HK7; refine (HP.out _ HK7.out).mono ?_; rintro y w8 ⟨ap, cp, aq, cq, rfl, hX8, k8⟩
           have HK8 := Lib.hid ((HK7.out.trans k8).new (.cells #[.int .i64 X.kind, .slice ap X.names.length cp, .slice aq X.l.length cq, .int .i64 X.r] 25))
           have HX8 := Lib.hid (hX8.kept ((Kept.refl (fun _ => False) _).new (.cells #[.int .i64 X.kind, .slice ap X.names.length cp, .slice aq X.l.length cq, .int .i64 X.r] 25)))
           have HB8 := Lib.hid (BlkAt.new w8 #[.int .i64 X.kind, .slice ap X.names.length cp, .slice aq X.l.length cq, .int .i64 X.r] 25)
           clear k8 hX8)
        | (go_at_call 18; refine (HCA.out _ HKr.out).mono ?_; rintro y w7 ⟨rfl, k7⟩; have HK7 := Lib.hid (HKr.out.trans k7); obtain ⟨t0, t1, t2, t3⟩ := boxT_cells ((HT4.out.kept (F := fun _ => False) hst.out id).kept (F := fun _ => False) k7 id); clear k7 HCA))
      revert HK8 HX8 HB8
      generalize w8.alloc (.cells #[.int .i64 X.kind, .slice ap X.names.length cp, .slice aq X.l.length cq, .int .i64 X.r] 25) = w9
      intro HK8 HX8 HB8
      clear t0 t1 t2 t3 HT4 hst HKr HPL HP HN
      go_loopw [12] (fun v wr => ∃ k : Nat, v = .int .i64 k ∧ k ≤ X.l.length ∧ Hid (Kept (fun _ => False) w9 wr)) (fun v _ => X.l.length - (intOf v).toNat)
      case atStart => exact ⟨0, rfl, Nat.zero_le _, Lib.hid (Kept.refl _ _)⟩
      case round =>
        obtain ⟨k, rfl, hk, hst⟩ := hrel
        by_cases hlt : k < X.l.length
        · obtain ⟨z, hz⟩ : ∃ z, X.l[k]? = some z := ⟨_, List.getElem?_eq_getElem hlt⟩
          obtain ⟨g, o, ax, cx, ay, cy, rfl, _, hgl, htx, c0, c1, c2, c3⟩ := row_in ((HX8.out.kept hst.out).l) hz
          have HXT := Lib.hid htx.any
          have HBr := Lib.hid (HB8.out.kept (F := fun _ => False) hst.out id)
          have HRC := Lib.hid (And.intro c0 (And.intro c1 (And.intro c2 c3)))
          have HWr : Hid (∀ w', Kept (fun _ => False) wr w' → w'.cell? ⟨w8.heap.size, 2, none⟩ = some (.slice (some ⟨g, o, none⟩) X.l.length cq) ∧ w'.cell? ⟨g, o + k * 4, none⟩ = some (.int .i64 z.kind) ∧ w'.cell? ⟨g, o + k * 4 + 1, none⟩ = some (.slice ax z.names.length cx) ∧ w'.cell? ⟨g, o + k * 4 + 2, none⟩ = some (.slice ay z.l.length cy) ∧ w'.cell? ⟨g, o + k * 4 + 3, none⟩ = some (.int .i64 z.r)) := Lib.hid (fun w' k' =>
            ⟨(HBr.out.kept (F := fun _ => False) k' id).cell 2, (k'.cell1 (World.block_lt_of_cell? wr _ HRC.out.1)).trans HRC.out.1, (k'.cell1 (World.block_lt_of_cell? wr _ HRC.out.2.1)).trans HRC.out.2.1, (k'.cell1 (World.block_lt_of_cell? wr _ HRC.out.2.2.1)).trans HRC.out.2.2.1, (k'.cell1 (World.block_lt_of_cell? wr _ HRC.out.2.2.2)).trans HRC.out.2.2.2⟩)
          clear c0 c1 c2 c3
          obtain ⟨c, c0, c1, c2, c3⟩ := HWr.out _ (Kept.refl _ _)
          by_cases hz0 : z.kind = 0
          · have bK : (z.kind != 0) = false := by rw [hz0]; rfl
            clear hz0 htx hz HRC hgl
            go_wp2_with fail
            exact ⟨⟨k + 1, rfl, hlt, hst⟩, meas_up hlt⟩
          · have hzm := List.mem_of_getElem? hz
            obtain ⟨hoz, hia, hfi, hin⟩ := (HXS.out z hzm).resolve_left hz0
            have hzt := (HXL.out z hzm).resolve_left hz0
            have hAl := (lieK_good 16 z).al
            have bK : (z.kind != 0) = true := by rw [bne_iff_ne]; exact hz0
            have HAI := Lib.hid (fun w' (k' : Kept (fun _ => False) wr w') => HAX.out z hzt hoz ax cx ay cy w' (HXT.out.kept k'))
            have HSI := Lib.hid (fun w' (k' : Kept (fun _ => False) wr w') => HSX.out z hzt hoz ax cx ay cy w' (HXT.out.kept k'))
            clear hz0 htx hz HRC hgl hzm hzt hoz HXS HXL HAX HSX
            revert hia hfi hin hAl HAI HSI
            generalize (lieK 16 z).2 = A
            generalize (lieK 16 z).1 = S
            intro hia hfi hin hAl HAI HSI
            have hA1 : 1 ≤ A := hAl.le.1
            have bA := al_lt hAl
            have bA0 := al_ne hAl
            have eI := tmod0 hia
            have hwr := fit_wrap hin hn2
            have hgt := fit_gt hin
            clear hia hAl
            go_wp2_with (first
              | (go_at_call 14; have _h := HQ2; refine (HSI.out _ HQ2.out).mono ?_; rintro y w12 ⟨rfl, q⟩; have HQ3 := Lib.hid (HQ2.out.trans q); clear q)
              | (go_at_call 16; have _h := HQ1; refine (HAI.out _ HQ1.out).mono ?_; rintro y w11 ⟨rfl, q⟩; have HQ2 := Lib.hid (HQ1.out.trans q); obtain ⟨c, c0, c1, c2, c3⟩ := HWr.out _ HQ2.out; clear q)
              | (go_at_call 16; refine (HAI.out _ (Kept.refl _ _)).mono ?_; rintro y w10 ⟨rfl, q⟩; have HQ1 := Lib.hid q; obtain ⟨c, c0, c1, c2, c3⟩ := HWr.out _ q; clear q))
            exact ⟨⟨k + 1, rfl, hlt, Lib.hid (hst.out.trans HQ3.out)⟩, meas_up hlt⟩
        · have hke : k = X.l.length := by omega
          subst hke
          clear hlt
          have HKe := Lib.hid (HK8.out.trans hst.out)
          obtain ⟨b0, b1, b2, b3⟩ := boxT_cells (HB8.out.kept (F := fun _ => False) hst.out id)
          go_wp2_with (first
            | (go_at_call 6; refine (HAW.out _).mono ?_; rintro y wf ⟨rfl, kf⟩))
          go_ret
          exact ⟨rfl, HKe.out.trans kf⟩
end Go.Proofs.YtlkbgdhlbdjbiaaDoor

/- ctype: CtypeAligned: the walk whole. -/
set_option linter.unusedVariables false
set_option linter.unusedSimpArgs false
namespace Go.Proofs.YtlkbgdhlbdjbiaaDoor
open Go.RowKit
open Lex Ct

theorem CtypeAligned_walk (t : Ty) (an : Option Addr) (cn : Nat) (al : Option Addr) (cl : Nat) (w : World) (h : TyAt w t an cn al cl) (hf : FineT t) :
    Calls Tryd.prog 4 #[tyV t an cn al cl] w fun y w' => y = .returned (.bool true) ∧ Kept (fun _ => False) w w' := by
  cases ho : okT t
  · exact aligned_no t an cn al cl w h hf ho
  · have hn := nums_of t ho
    have HM : Hid (∀ w', Kept (fun _ => False) w w' → Calls Tryd.prog 5 #[tyV t an cn al cl] w' fun y w'' => y = .returned (.bool true) ∧ Kept (fun _ => False) w' w'') := Lib.hid fun w' k => by
      have := rdMay t an cn al cl w' (h.kept k) hf
      rw [ho] at this
      exact this
    have HS : Hid (∀ w', Kept (fun _ => False) w w' → Calls Tryd.prog 14 #[tyV t an cn al cl] w' fun y w'' => y = .returned (.int .i64 ((lieK 16 t).1 : Nat)) ∧ Kept (fun _ => False) w' w'') := Lib.hid fun w' k => by
      have := rdSize t an cn al cl w' (h.kept k) hf
      rw [if_pos ho] at this
      exact this
    have HA : Hid (∀ w', Kept (fun _ => False) w w' → Calls Tryd.prog 16 #[tyV t an cn al cl] w' fun y w'' => y = .returned (.int .i64 ((lieK 16 t).2 : Nat)) ∧ Kept (fun _ => False) w' w'') := Lib.hid fun w' k => by
      have := rdAlign t an cn al cl w' (h.kept k) hf
      rw [if_pos ho] at this
      exact this
    have HAX : Hid (∀ x ∈ t.l, okT x = true → ∀ ax cx ay cy w', TyAt w' x ax cx ay cy → Calls Tryd.prog 16 #[tyV x ax cx ay cy] w' fun y w'' => y = .returned (.int .i64 ((lieK 16 x).2 : Nat)) ∧ Kept (fun _ => False) w' w'') := Lib.hid fun x hx hox ax cx ay cy w' hw => by
      have := rdAlign x ax cx ay cy w' hw (FineT.l hf x hx)
      rw [if_pos hox] at this
      exact this
    have HSX : Hid (∀ x ∈ t.l, okT x = true → ∀ ax cx ay cy w', TyAt w' x ax cx ay cy → Calls Tryd.prog 14 #[tyV x ax cx ay cy] w' fun y w'' => y = .returned (.int .i64 ((lieK 16 x).1 : Nat)) ∧ Kept (fun _ => False) w' w'') := Lib.hid fun x hx hox ax cx ay cy w' hw => by
      have := rdSize x ax cx ay cy w' hw (FineT.l hf x hx)
      rw [if_pos hox] at this
      exact this
    have HPL : ∀ w', Kept (fun _ => False) w w' → Calls Tryd.prog 17 #[tyV t an cn al cl] w' fun y w'' => ∃ av cap, y = .returned (.slice av (placesL t).length cap) ∧ View w'' av (placesL t).length (ints (placesL t)) ∧ Kept (fun _ => False) w' w'' := fun w' k => by
      refine (rdPlaces_any t an cn al cl w' (h.kept k) hf).mono fun y w'' q => ?_
      have hl : (ints (placesL t)).length = (placesL t).length := by unfold ints; rw [List.length_map]
      obtain ⟨av, cap, e, hi, k2⟩ := q
      obtain ⟨a2, cap2, e2, h2⟩ := hi.view
      cases e2
      rw [hl] at e h2
      exact ⟨av, cap, e, h2, k2⟩
    have HC := Lib.hid fun w' (k : Kept (fun _ => False) w w') => rdCase_ok t an cn al cl w' (h.kept k) hf ho
    have HP : Hid (∀ w', Kept (fun _ => False) w w' → Calls Tryd.prog 7 #[tyV t an cn al cl] w' (PlainR (plainT t) w')) := Lib.hid fun w' k => rdPlainC t an cn al cl w' (h.kept k) ho
    rw [← plainT_l] at hn
    by_cases hz : (caseP t).1 = 0
    · rw [hz] at hn HC
      exact aligned_zero t an cn al cl w h hf _ _ _ _ _ (plainT t) (Lib.hid hn) HM HS HA (Lib.hid HPL) HC HAX HSX
    · have hp0 : placesL t = [] := by
        unfold placesL
        refine if_neg fun q => ?_
        unfold caseP at hz
        split at hz
        · rename_i h15
          have := plain_variant h15 ho
          omega
        · exact hz rfl
      rw [hp0] at hn HPL
      exact aligned_var t an cn al cl w h hf _ _ _ _ _ (plainT t) (by omega) (Lib.hid hn) HM HS HA (Lib.hid fun w' k => (HPL w' k).mono fun y w'' ⟨av, cap, e, _, k2⟩ => ⟨av, cap, e, k2⟩) HC HP (Lib.hid fun x hx => by rw [plainT_l] at hx; exact plainL_mem hx) HAX HSX
end Go.Proofs.YtlkbgdhlbdjbiaaDoor
