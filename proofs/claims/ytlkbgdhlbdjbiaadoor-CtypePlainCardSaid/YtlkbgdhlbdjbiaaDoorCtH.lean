/- ctype: the reference's look at a type: deep, parts, May. -/
import Derived.Test.YtlkbgdhlbdjbiaaDoorCtG
set_option linter.unusedVariables false
set_option linter.unusedSimpArgs false
namespace Go.Proofs.YtlkbgdhlbdjbiaaDoor
open Go.RowKit
open Lex Ct

def DeepAt (k : Nat) : Prop := ∀ (t : Ty) (an : Option Addr) (cn : Nat) (al : Option Addr) (cl : Nat) (w : World), TyAt w t an cn al cl → FineT t →
  Calls Tryd.prog 19 #[tyV t an cn al cl, .int .i64 (16 - k : Int)] w fun y w' => y = .returned (.bool (deepK k t)) ∧ Kept (fun _ => False) w w'
theorem all_step {F : Ty → Bool} {l : List Ty} {i : Nat} {x : Ty} (hx : l[i]? = some x) : (l.drop i).all F = (F x && (l.drop (i + 1)).all F) := by
  obtain ⟨hi, rfl⟩ := List.getElem?_eq_some_iff.1 hx
  rw [List.drop_eq_getElem_cons hi, List.all_cons]
set_option maxRecDepth 100000 in
set_option maxHeartbeats 8000000 in
theorem deep_zero : DeepAt 0 := by
  intro t an cn al cl w h hf
  show Calls _ _ #[_, .int .i64 16] _ fun y w' => y = .returned (.bool false) ∧ _
  go_enter Tryd.func19, Tryd.ntmps19
  go_wp2_with fail
  go_ret
  exact ⟨rfl, (Kept.refl _ w).new _⟩
set_option maxRecDepth 100000 in
set_option maxHeartbeats 8000000 in
theorem deep_succ {k : Nat} (hk : k + 1 ≤ 16) (IH : DeepAt k) : DeepAt (k + 1) := by
  intro t an cn al cl w ht hf
  have hD0 : (16 - ((k + 1 : Nat) : Int)) < 16 := by omega
  have hDl : 0 ≤ (16 - ((k + 1 : Nat) : Int)) := by omega
  have hDw : (16 - (k : Int)) = (16 - ((k + 1 : Nat) : Int)) + 1 := by omega
  have HI : Hid (∀ (x : Ty) (an : Option Addr) (cn : Nat) (al : Option Addr) (cl : Nat) (w : World), TyAt w x an cn al cl → FineT x →
      Calls Tryd.prog 19 #[tyV x an cn al cl, .int .i64 (16 - ((k + 1 : Nat) : Int) + 1)] w fun y w' => y = .returned (.bool (deepK k x)) ∧ Kept (fun _ => False) w w') := Lib.hid fun x an cn al cl w h1 h2 => by
    rw [← hDw]
    exact IH x an cn al cl w h1 h2
  clear IH hDw
  revert HI
  generalize (16 - ((k + 1 : Nat) : Int)) = D at hD0 hDl
  intro HI
  have h6 : decide (D ≥ 16) = false := by simp; omega
  have k0 : Kept (fun _ => False) w (w.alloc (.cells #[.int .i64 t.kind, .slice an t.names.length cn, .slice al t.l.length cl, .int .i64 t.r] 25)) := (Kept.refl _ _).new _
  have T0 := BlkAt.new w #[.int .i64 t.kind, .slice an t.names.length cn, .slice al t.l.length cl, .int .i64 t.r] 25
  have HO : Hid (∀ w', Kept (fun _ => False) w w' → Calls Tryd.prog 36 #[tyV t an cn al cl] w' fun y w'' => y = .returned (.bool (shapedB t && difL t.names)) ∧ Kept (fun _ => False) w' w'') := Lib.hid fun w' k' => rdOwn t an cn al cl w' (ht.kept k') hf
  have hbd := ht.row.bound
  have hlen : (t.l.length : Int) ≤ 9223372036854775807 := by omega
  have HTL := Lib.hid ht
  have HF := Lib.hid hf
  have HK0 := Lib.hid k0
  have HT0 := Lib.hid T0
  clear ht hf hbd k0 T0
  have he : deepK (k + 1) t = ((shapedB t && difL t.names) && t.l.all fun x => (orN t.kind && isNone x) || deepK k x) := rfl
  rw [he]
  clear he
  revert HO
  generalize (shapedB t && difL t.names) = ob
  intro HO
  cases ob
  · rw [Bool.false_and]
    go_enter Tryd.func19, Tryd.ntmps19
    go_wp2_with (first
      | (go_at_call 36; refine (HO.out _ HK0.out).mono ?_; rintro y w1 ⟨rfl, k1⟩))
    go_ret
    exact ⟨rfl, HK0.out.trans k1⟩
  · rw [Bool.true_and]
    obtain ⟨R, hR⟩ : ∃ R, R = t.l.all fun x => (orN t.kind && isNone x) || deepK k x := ⟨_, rfl⟩
    rw [← hR]
    have HR := Lib.hid hR
    have hmn : ∃ mn : Bool, orN t.kind = mn ∧ (((t.kind == 15) = true ∧ mn = true) ∨ ((t.kind == 15) = false ∧ (t.kind == 18) = true ∧ mn = true) ∨ ((t.kind == 15) = false ∧ (t.kind == 18) = false ∧ mn = false)) := by
      refine ⟨_, rfl, ?_⟩
      unfold orN
      cases (t.kind == 15) <;> cases (t.kind == 18) <;> simp
    obtain ⟨mn, hmn1, hmn⟩ := hmn
    rw [hmn1] at HR
    clear hR hmn1
    rcases hmn with ⟨q1, q3⟩ | ⟨q1, q2, q3⟩ | ⟨q1, q2, q3⟩
    all_goals
      have HM := Lib.hid q3
      clear q3
      go_enter Tryd.func19, Tryd.ntmps19
      go_wp2_with (first
        | (go_at_call 36; refine (HO.out _ HK0.out).mono ?_; rintro y w1 ⟨rfl, k1⟩; have HK1 := Lib.hid (HK0.out.trans k1); have HT1 := Lib.hid (HT0.out.kept (F := fun _ => False) k1 id); clear HO HK0 HT0 k1))
      go_loopw [5] (fun v wr => ∃ i : Nat, v = .int .i64 i ∧ i ≤ t.l.length ∧ Hid (Kept (fun _ => False) w wr ∧ BlkAt wr w.heap.size #[.int .i64 t.kind, .slice an t.names.length cn, .slice al t.l.length cl, .int .i64 t.r] 25 ∧ R = (t.l.drop i).all fun x => (mn && isNone x) || deepK k x)) (fun v _ => t.l.length - (intOf v).toNat)
      case atStart => exact ⟨0, rfl, Nat.zero_le _, Lib.hid ⟨HK1.out, HT1.out, HR.out⟩⟩
      case round =>
        clear HK1 HT1
        obtain ⟨i, rfl, hi, hst⟩ := hrel
        obtain ⟨t0, t1, t2, t3⟩ := boxT_cells hst.out.2.1
        by_cases hlt : i < t.l.length
        · obtain ⟨x, hx⟩ : ∃ x, t.l[i]? = some x := ⟨_, List.getElem?_eq_getElem hlt⟩
          obtain ⟨g, o, ax, cx, ay, cy, rfl, hgl, htx, c0, c1, c2, c3⟩ := (HTL.out.kept hst.out.1).row.at hx
          have hxm : x ∈ t.l := List.mem_of_getElem? hx
          have HX : Hid (∀ w', Kept (fun _ => False) wr w' → Calls Tryd.prog 19 #[tyV x ax cx ay cy, .int .i64 (D + 1)] w' fun y w'' => y = .returned (.bool (deepK k x)) ∧ Kept (fun _ => False) w' w'') := Lib.hid fun w' k' => HI.out x ax cx ay cy w' (htx.kept k') (HF.out.l x hxm)
          have HNx := Lib.hid (fun w => rdRefNone x ax cx ay cy w)
          have HAL := Lib.hid (all_step (F := fun x => (mn && isNone x) || deepK k x) hx)
          have hltI : ((i : Int) < (t.l.length : Int)) = True := by simp; omega
          have HCL : Hid (∀ w', Kept (fun _ => False) wr w' → w'.cell? ⟨g, o + i * 4, none⟩ = some (.int .i64 x.kind) ∧ w'.cell? ⟨g, o + i * 4 + 1, none⟩ = some (.slice ax x.names.length cx) ∧ w'.cell? ⟨g, o + i * 4 + 2, none⟩ = some (.slice ay x.l.length cy) ∧ w'.cell? ⟨g, o + i * 4 + 3, none⟩ = some (.int .i64 x.r)) := Lib.hid fun w' k' => by
            have hb := k'.block g hgl id
            exact ⟨(cell_of hb).trans c0, (cell_of hb).trans c1, (cell_of hb).trans c2, (cell_of hb).trans c3⟩
          clear hx hxm htx hgl
          cases hsk : (mn && isNone x)
          · have hnx : mn = true → isNone x = false := fun e => by rw [e] at hsk; exact hsk
            have HNO := Lib.hid hnx
            have HSKP := Lib.hid hsk
            clear hnx hsk
            try (have hnx2 := HNO.out HM.out; rw [hnx2] at HNx; clear hnx2)
            cases hmx : deepK k x
            · rw [hmx] at HX
              have HRN : Hid (R = false) := Lib.hid (by rw [hst.out.2.2, HAL.out, HSKP.out, hmx]; rfl)
              clear hmx
              go_wp2_with (first
                | (go_at_call 19; refine (HX.out _ (by first | exact k1 | exact Kept.refl _ _)).mono ?_; rintro y w2 ⟨rfl, k2⟩)
                | (go_at_call 37; refine (HNx.out _).mono ?_; rintro y w1 ⟨rfl, k1⟩; have B1 := hst.out.2.1.kept (F := fun _ => False) k1 id; obtain ⟨u0, u1, u2, u3⟩ := boxT_cells B1; obtain ⟨d0, d1, d2, d3⟩ := HCL.out _ k1; clear HNx))
              go_ret
              rw [HRN.out]
              exact ⟨rfl, by first | exact hst.out.1.trans (k1.trans k2) | exact hst.out.1.trans k2⟩
            · rw [hmx] at HX
              have HRN : Hid (R = (t.l.drop (i + 1)).all fun x => (mn && isNone x) || deepK k x) := Lib.hid (by rw [hst.out.2.2, HAL.out, HSKP.out, hmx]; rfl)
              clear hmx
              go_wp2_with (first
                | (go_at_call 19; refine (HX.out _ (by first | exact k1 | exact Kept.refl _ _)).mono ?_; rintro y w2 ⟨rfl, k2⟩)
                | (go_at_call 37; refine (HNx.out _).mono ?_; rintro y w1 ⟨rfl, k1⟩; have B1 := hst.out.2.1.kept (F := fun _ => False) k1 id; obtain ⟨u0, u1, u2, u3⟩ := boxT_cells B1; obtain ⟨d0, d1, d2, d3⟩ := HCL.out _ k1; clear HNx))
              exact ⟨⟨i + 1, by go_num, by omega, Lib.hid ⟨by first | exact hst.out.1.trans (k1.trans k2) | exact hst.out.1.trans k2, by first | exact (hst.out.2.1.kept k1 id).kept k2 id | exact hst.out.2.1.kept k2 id, HRN.out⟩⟩, by simp [intOf]; omega⟩
          · first
            | (exfalso; have e := HM.out; rw [e] at hsk; cases hsk)
            | skip
              have hnx : isNone x = true := by simp at hsk; exact hsk.2
              rw [hnx] at HNx
              have HRN : Hid (R = (t.l.drop (i + 1)).all fun x => (mn && isNone x) || deepK k x) := Lib.hid (by rw [hst.out.2.2, HAL.out, hsk]; rfl)
              clear hnx hsk
              go_wp2_with (first
                | (go_at_call 37; refine (HNx.out _).mono ?_; rintro y w1 ⟨rfl, k1⟩))
              exact ⟨⟨i + 1, by go_num, by omega, Lib.hid ⟨hst.out.1.trans k1, hst.out.2.1.kept k1 id, HRN.out⟩⟩, by simp [intOf]; omega⟩
        · have hie : i = t.l.length := by omega
          have HRN : Hid (R = true) := Lib.hid (by rw [hst.out.2.2, List.drop_eq_nil_of_le (by omega)]; rfl)
          subst hie
          clear hlt
          go_wp2_with fail
          go_ret
          rw [HRN.out]
          exact ⟨rfl, hst.out.1⟩
theorem deep_all : ∀ k, k ≤ 16 → DeepAt k
  | 0, _ => deep_zero
  | k + 1, h => deep_succ h (deep_all k (by omega))
end Go.Proofs.YtlkbgdhlbdjbiaaDoor
