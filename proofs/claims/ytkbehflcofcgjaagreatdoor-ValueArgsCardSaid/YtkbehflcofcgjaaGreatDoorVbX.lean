/- value: ValueArgs. -/
import Derived.Test.YtkbehflcofcgjaaGreatDoorVbW
import Derived.Test.YtkbehflcofcgjaaGreatDoorVbT8
import Derived.Test.YtkbehflcofcgjaaGreatDoorVaIn
set_option linter.unusedVariables false
set_option linter.unusedSimpArgs false
namespace Go.Proofs.YtkbehflcofcgjaaGreatDoor
open Go.RowKit
open Lex Ct

theorem light_lt' {v : Vl} (h : lightV v = true) : LtV v := ⟨21, of_decide_eq_true h⟩
set_option maxRecDepth 100000 in
set_option maxHeartbeats 8000000 in
theorem ValueArgs_walk (s : Sg) (ap : Option Addr) (cp : Nat) (aq : Option Addr) (cq : Nat) (an : Option Addr) (cn : Nat) (al : Option Addr) (cl : Nat) (l : List Vl) (av : Option Addr) (cv : Nat) (w : World) (h : SgAt w s ap cp aq cq an cn al cl) (hf : FineS s) (hv : VRowAt w l av cv) (hfv : ∀ x ∈ l, FineV x) (htab : TabW w) :
    Calls Tryz.prog 4 #[sgV s ap cp aq cq an cn al cl, .slice av l.length cv] w fun y w' => y = .returned (.bool true) ∧ Kept (fun _ => False) w w' := by
  have k0 : Kept (fun _ => False) w (w.alloc (.cells (sgC s ap cp aq cq an cn al cl) 37)) := (Kept.refl _ _).new _
  have T0 := BlkAt.new w (sgC s ap cp aq cq an cn al cl) 37
  have HK := Lib.hid k0
  have HT := Lib.hid T0
  have HAW := Lib.hid (fun w' (k : Kept (fun _ => False) w w') => awake15 w' (htab.kept k))
  unfold AwkR at HAW
  have HAV := Lib.hid hv
  have HC := Lib.hid (fun w' (k : Kept (fun _ => False) w w') (hlv : ∀ x ∈ l, LtV x) => rdVArgs s ap cp aq cq an cn al cl l av cv w' (h.kept k) hf (hv.kept k) hlv)
  have HR := Lib.hid (fun w' (k : Kept (fun _ => False) w w') (hlv : ∀ x ∈ l, LtV x) => rdRArgs s ap cp aq cq an cn al cl l av cv w' (h.kept k) hf (hv.kept k) hlv)
  generalize chkA s l = z at HC HR
  unfold ChkR at HC HR
  have hbnd := hv.bound
  clear h hf hv hfv htab k0 T0
  by_cases h100 : 100 < l.length
  · have b1 : decide ((l.length : Int) > 100) = true := by simp; omega
    have b2 : decide (100 < l.length) = true := by simp; omega
    clear h100 hbnd
    go_enter Tryz.func4, Tryz.ntmps4
    go_wp2_with (first
      | (go_at_call 10; refine (HAW.out _ HK.out).mono ?_; rintro y w2 ⟨rfl, k2⟩))
    go_ret
    exact ⟨rfl, HK.out.trans k2⟩
  · have b1 : decide ((l.length : Int) > 100) = false := by simp; omega
    have b2 : decide (100 < l.length) = false := by simp; omega
    clear h100
    go_enter Tryz.func4, Tryz.ntmps4
    go_wp2_with fail
    clear b1 b2
    go_loopw [5] (fun u wr => ∃ i : Nat, u = .int .i64 i ∧ i ≤ l.length ∧ Hid (Kept (fun _ => False) w wr ∧ BlkAt wr w.heap.size (sgC s ap cp aq cq an cn al cl) 37 ∧ ∀ j, j < i → ∀ x, l[j]? = some x → lightV x = true)) (fun u _ => l.length - (intOf u).toNat)
    case atStart => exact ⟨0, rfl, Nat.zero_le _, Lib.hid ⟨HK.out, HT.out, fun j hj => absurd hj (Nat.not_lt_zero j)⟩⟩
    case round =>
      obtain ⟨i, rfl, hi, hst⟩ := hrel
      by_cases hlt : i < l.length
      · obtain ⟨x, hx⟩ : ∃ x, l[i]? = some x := ⟨_, List.getElem?_eq_getElem hlt⟩
        obtain ⟨gb, ob, ax, cx, ay, cy, rfl, hgb, hvx, c0, c1, c2⟩ := (HAV.out.kept hst.out.1).at hx
        have HX := Lib.hid (fun w' (k' : Kept (fun _ => False) wr w') => rdLight x ax cx ay cy w' (hvx.kept k'))
        have HLT : Hid (i + 1 ≤ l.length) := Lib.hid hlt
        have hlenI : decide (i < l.length) = true := decide_eq_true hlt
        have hwi : IntKind.i64.wrap ((i : Int) + 1) = ((i + 1 : Nat) : Int) := by rw [IntKind.wrap_i64]; omega
        cases hlx : lightV x
        · rw [hlx] at HX
          clear hx hgb hvx hlx hlt hbnd
          go_wp2_with (first
            | (go_at_call 9; refine (HX.out _ (Kept.refl _ _)).mono ?_; rintro y w1 ⟨rfl, k1⟩)
            | (go_at_call 10; refine (HAW.out _ (hst.out.1.trans k1)).mono ?_; rintro y w2 ⟨rfl, k2⟩))
          go_ret
          exact ⟨rfl, (hst.out.1.trans k1).trans k2⟩
        · rw [hlx] at HX
          have HN : Hid (∀ j, j < i + 1 → ∀ x, l[j]? = some x → lightV x = true) := Lib.hid (fun j hj y hy => by
            by_cases hji : j < i
            · exact hst.out.2.2 j hji y hy
            · have : j = i := by omega
              subst this
              rw [hx] at hy
              cases hy
              exact hlx)
          clear hx hgb hvx hlx hlt hbnd
          go_wp2_with (first
            | (go_at_call 9; refine (HX.out _ (Kept.refl _ _)).mono ?_; rintro y w1 ⟨rfl, k1⟩))
          exact ⟨⟨i + 1, by first | rw [hwi] | rfl, HLT.out, Lib.hid ⟨hst.out.1.trans k1, hst.out.2.1.kept k1 id, HN.out⟩⟩, by have hlt := HLT.out; simp [intOf]; omega⟩
      · have hie : i = l.length := by omega
        have HAL : Hid (∀ x ∈ l, LtV x) := Lib.hid (fun x hx => by
          obtain ⟨j, hj, e⟩ := List.mem_iff_getElem.1 hx
          exact light_lt' (hst.out.2.2 j (by omega) x (by rw [List.getElem?_eq_getElem hj, e])))
        have hlenI : decide (i < l.length) = false := decide_eq_false hlt
        clear hlt hie hbnd
        go_wp2_with fail
        have q0 : Kept (fun _ => False) wr wr.drew := (Kept.refl _ _).drew
        have HW : Hid (∀ w', Kept (fun _ => False) wr w' → w'.cell? ⟨w.heap.size, 0, none⟩ = some (.string (strOfNums s.name)) ∧ w'.cell? ⟨w.heap.size, 1, none⟩ = some (.slice ap s.p.length cp) ∧ w'.cell? ⟨w.heap.size, 2, none⟩ = some (.slice aq s.t.length cq) ∧ w'.cell? ⟨w.heap.size, 3, none⟩ = some (.int .i64 s.r.kind) ∧ w'.cell? ⟨w.heap.size, 4, none⟩ = some (.slice an s.r.names.length cn) ∧ w'.cell? ⟨w.heap.size, 5, none⟩ = some (.slice al s.r.l.length cl) ∧ w'.cell? ⟨w.heap.size, 6, none⟩ = some (.int .i64 s.r.r)) := Lib.hid (fun w' k' => by
          have A := hst.out.2.1.kept (F := fun _ => False) k' id
          exact ⟨A.cell 0, A.cell 1, A.cell 2, A.cell 3, A.cell 4, A.cell 5, A.cell 6⟩)
        have E0 := Lib.hid (HW.out _ q0)
        go_region_held3 (fun w' => w'.cell? ⟨w.heap.size, 0, none⟩ = some (.string (strOfNums s.name)) ∧ w'.cell? ⟨w.heap.size, 1, none⟩ = some (.slice ap s.p.length cp) ∧ w'.cell? ⟨w.heap.size, 2, none⟩ = some (.slice aq s.t.length cq) ∧ w'.cell? ⟨w.heap.size, 3, none⟩ = some (.int .i64 s.r.kind) ∧ w'.cell? ⟨w.heap.size, 4, none⟩ = some (.slice an s.r.names.length cn) ∧ w'.cell? ⟨w.heap.size, 5, none⟩ = some (.slice al s.r.l.length cl) ∧ w'.cell? ⟨w.heap.size, 6, none⟩ = some (.int .i64 s.r.r))
          (first | exact E0.out | exact HW.out _ q0)
          (first
            | (go_at_call 13
               refine (HC.out _ (hst.out.1.trans q0) HAL.out).mono ?_
               rintro y w2 ⟨rfl, k2⟩
               replace q0 := q0.trans k2
               clear k2 E0)
            | (go_at_call 14
               refine (HR.out _ (hst.out.1.trans q0) HAL.out).mono ?_
               rintro y w3 ⟨rfl, k3⟩
               replace q0 := q0.trans k3
               clear k3)
            | (go_at_call 10
               refine (HAW.out _ (hst.out.1.trans q0)).mono ?_
               rintro y w4 ⟨rfl, k4⟩
               replace q0 := q0.trans k4
               clear k4))
        all_goals go_wp2_with fail
        all_goals go_ret
        all_goals exact ⟨by first | rfl | (simp; done), hst.out.1.trans q0⟩
end Go.Proofs.YtkbehflcofcgjaaGreatDoor
