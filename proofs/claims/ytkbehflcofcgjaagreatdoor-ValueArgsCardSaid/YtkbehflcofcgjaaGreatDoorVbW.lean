/- value: Args, the reference's. -/
import Derived.Test.YtkbehflcofcgjaaGreatDoorVbV
import Derived.Test.YtkbehflcofcgjaaGreatDoorVbO
import Derived.Test.YtkbehflcofcgjaaGreatDoorCtFK
set_option linter.unusedVariables false
set_option linter.unusedSimpArgs false
namespace Go.Proofs.YtkbehflcofcgjaaGreatDoor
open Go.RowKit
open Lex Ct

set_option maxRecDepth 100000 in
set_option maxHeartbeats 8000000 in
/-- ARGS, the reference's. -/
theorem rdRArgs (s : Sg) (ap : Option Addr) (cp : Nat) (aq : Option Addr) (cq : Nat) (an : Option Addr) (cn : Nat) (al : Option Addr) (cl : Nat) (l : List Vl) (av : Option Addr) (cv : Nat) (w : World) (h : SgAt w s ap cp aq cq an cn al cl) (hf : FineS s) (hv : VRowAt w l av cv) (hlv : ∀ x ∈ l, LtV x) :
    Calls Tryz.prog 14 #[sgV s ap cp aq cq an cn al cl, .slice av l.length cv] w (ChkR (chkA s l) w) := by
  have k0 : Kept (fun _ => False) w (w.alloc (.cells (sgC s ap cp aq cq an cn al cl) 37)) := (Kept.refl _ _).new _
  have T0 := BlkAt.new w (sgC s ap cp aq cq an cn al cl) 37
  have HK := Lib.hid k0
  have HT := Lib.hid T0
  have HC := Lib.hid (fun w' k' => rdMaySig s ap cp aq cq an cn al cl w' (h.kept k') hf)
  unfold chkA
  by_cases ho : okS s = true
  · rw [ho] at HC
    rw [if_neg (by rw [ho]; decide)]
    by_cases hl : l.length = s.t.length
    · rw [if_neg (fun q => q hl)]
      have HS : Hid (∀ w', Kept (fun _ => False) w w' → Calls Tryz.prog 32 #[.slice aq s.t.length cq, .slice av l.length cv] w' (CntR (sumL (partsK 16) s.t l 1) w')) := Lib.hid (fun w' k' => rdSum (partsK 16) s.t l aq cq av cv w' (h.t.kept k') (hv.kept k') hl.symm (by have := (okS_all ho).1; omega) (Lib.hid (fun i t x ht hx => ⟨parts_all 16 t x (okT_deep ((okS_all ho).2 t (List.mem_of_getElem? ht))).1 (hlv x (List.mem_of_getElem? hx)), partsK_le 16 t x⟩)))
      generalize sumL (partsK 16) s.t l 1 = p at HS
      unfold CntR at HS
      have b1 : (l.length != s.t.length) = false := by simp [hl]
      have b2 : (l.length == s.t.length) = true := by simp [hl]
      have b3 : ((l.length : Int) != (s.t.length : Int)) = false := by simp [hl]
      clear h hf ho k0 T0 hl hv hlv
      by_cases hp : p = 0
      · rw [if_pos hp]
        subst hp
        go_enter Tryz.func14, Tryz.ntmps14
        go_wp2_with (first
          | (go_at_call 32; refine (HS.out _ HK1.out).mono ?_; rintro y w2 ⟨rfl, k2⟩; have T2 := HT1.out.kept (F := fun _ => False) k2 id; have HK2 := Lib.hid (HK1.out.trans k2); clear k2 T2)
          | (go_at_call 31; refine (HC.out _ HK.out).mono ?_; rintro y w1 ⟨rfl, k1⟩; have T1 := HT.out.kept (F := fun _ => False) k1 id; obtain ⟨t1, t2, t3, t4, t5, t6⟩ := boxS_cells T1; have HT1 := Lib.hid T1; have HK1 := Lib.hid (HK.out.trans k1); clear k1 T1))
        go_ret
        exact ⟨rfl, HK2.out⟩
      · rw [if_neg hp]
        have bp : ((p : Int) == 0) = false := by simp [hp]
        clear hp
        go_enter Tryz.func14, Tryz.ntmps14
        go_wp2_with (first
          | (go_at_call 32; refine (HS.out _ HK1.out).mono ?_; rintro y w2 ⟨rfl, k2⟩; have T2 := HT1.out.kept (F := fun _ => False) k2 id; have HK2 := Lib.hid (HK1.out.trans k2); clear k2 T2)
          | (go_at_call 31; refine (HC.out _ HK.out).mono ?_; rintro y w1 ⟨rfl, k1⟩; have T1 := HT.out.kept (F := fun _ => False) k1 id; obtain ⟨t1, t2, t3, t4, t5, t6⟩ := boxS_cells T1; have HT1 := Lib.hid T1; have HK1 := Lib.hid (HK.out.trans k1); clear k1 T1))
        go_ret
        exact ⟨rfl, HK2.out⟩
    · rw [if_pos hl]
      have b1 : (l.length != s.t.length) = true := by simp [hl]
      have b2 : (l.length == s.t.length) = false := by simp [hl]
      have b3 : ((l.length : Int) != (s.t.length : Int)) = true := by simp; omega
      clear h hf ho k0 T0 hl hv hlv
      go_enter Tryz.func14, Tryz.ntmps14
      go_wp2_with (first
        | (go_at_call 31; refine (HC.out _ HK.out).mono ?_; rintro y w1 ⟨rfl, k1⟩; have T1 := HT.out.kept (F := fun _ => False) k1 id; obtain ⟨t1, t2, t3, t4, t5, t6⟩ := boxS_cells T1; have HT1 := Lib.hid T1; have HK1 := Lib.hid (HK.out.trans k1); clear k1 T1))
      go_ret
      exact ⟨rfl, HK1.out⟩
  · rw [if_pos (Bool.eq_false_iff.2 ho)]
    rw [Bool.eq_false_iff.2 ho] at HC
    clear h hf hv hlv k0 T0 ho
    go_enter Tryz.func14, Tryz.ntmps14
    go_wp2_with (first
      | (go_at_call 31; refine (HC.out _ HK.out).mono ?_; rintro y w1 ⟨rfl, k1⟩))
    go_ret
    exact ⟨rfl, HK.out.trans k1⟩
end Go.Proofs.YtkbehflcofcgjaaGreatDoor
