/- ctype: the reference's look at a type's own fields. -/
import Derived.Test.YtlkbgdhlbdjbiaaDoorCtC
set_option linter.unusedVariables false
set_option linter.unusedSimpArgs false
namespace Go.Proofs.YtlkbgdhlbdjbiaaDoor
open Go.RowKit
open Lex Ct

set_option maxRecDepth 100000 in
set_option maxHeartbeats 8000000 in
theorem own_named (k r : Int) (n m : Nat) (d : Bool) (an : Option Addr) (cn : Nat) (al : Option Addr) (cl : Nat) (w : World) (hk : k = 13 ∨ k = 15 ∨ k = 16 ∨ k = 19)
    (HN : Hid (∀ (w' : World) (most : Int), Kept (fun _ => False) w w' → Calls Tryd.prog 50 #[.slice an n cn, .int .i64 most] w' fun y w'' => y = .returned (.bool (d && (decide (1 ≤ n) && decide ((n : Int) ≤ most)))) ∧ Kept (fun _ => False) w' w'')) :
    Calls Tryd.prog 36 #[.agg #[.int .i64 k, .slice an n cn, .slice al m cl, .int .i64 r]] w fun y w' => y = .returned (.bool ((okW k n m && (decide (0 ≤ r) && decide (r ≤ mostR k))) && d)) ∧ Kept (fun _ => False) w w' := by
  by_cases hr : r = 0
  · subst hr
    have B0 := BlkAt.new w #[.int .i64 k, .slice an n cn, .slice al m cl, .int .i64 0] 25
    by_cases hm : m ≤ 64
    · have hm' : decide ((m : Int) > 64) = false := by simp; omega
      rcases hk with rfl | rfl | rfl | rfl
      all_goals (
        go_enter Tryd.func36, Tryd.ntmps36
        go_wp2_with (first
          | (go_at_call 50; refine (HN.out _ _ ((Kept.refl _ w).new _)).mono ?_; rintro y w1 ⟨rfl, k1⟩; have B1 := B0.kept (F := fun _ => False) k1 id; have m1 := B1.cell 1; have m2 := B1.cell 2; simp at m1 m2; clear B0 HN))
        all_goals go_ret
        all_goals refine ⟨?_, by first | exact ((Kept.refl _ w).new _).trans k1 | exact (Kept.refl _ w).new _⟩
        all_goals (unfold okW mostR; simp_all)
        all_goals (try first | rfl | omega | (rw [Bool.eq_iff_iff]; simp; done) | (rw [Bool.eq_iff_iff]; simp; omega) | (intro a1 a2 a3; cases d with | false => rfl | true => (simp_all; done)) | (intro a1 a2 a3; cases d with | false => rfl | true => (simp_all; omega))))
    · have hm' : decide ((m : Int) > 64) = true := by simp; omega
      have hw : (okW k n m && (decide (0 ≤ (0 : Int)) && decide ((0 : Int) ≤ mostR k)) && d) = false := by
        unfold okW
        rcases hk with rfl | rfl | rfl | rfl
        all_goals (simp; omega)
      rw [hw]
      clear hw HN hm B0
      rcases hk with rfl | rfl | rfl | rfl
      all_goals (
        go_enter Tryd.func36, Tryd.ntmps36
        go_wp2_with fail
        all_goals go_ret
        all_goals exact ⟨rfl, (Kept.refl _ w).new _⟩)
  · have hr' : (r != 0) = true := by simp; exact hr
    have hw : (okW k n m && (decide (0 ≤ r) && decide (r ≤ mostR k)) && d) = false := by
      unfold mostR
      rw [if_neg (by omega)]
      simp
      omega
    rw [hw]
    clear hw HN hr
    rcases hk with rfl | rfl | rfl | rfl
    all_goals (
      go_enter Tryd.func36, Tryd.ntmps36
      go_wp2_with fail
      all_goals go_ret
      all_goals exact ⟨rfl, (Kept.refl _ w).new _⟩)
set_option maxRecDepth 100000 in
set_option maxHeartbeats 8000000 in
theorem own_plain (k r : Int) (n m : Nat) (d : Bool) (an : Option Addr) (cn : Nat) (al : Option Addr) (cl : Nat) (w : World) (hk : k = 12 ∨ k = 17 ∨ k = 14 ∨ k = 18 ∨ k = 20 ∨ k = 21) (hd : n = 0 → d = true) :
    Calls Tryd.prog 36 #[.agg #[.int .i64 k, .slice an n cn, .slice al m cl, .int .i64 r]] w fun y w' => y = .returned (.bool ((okW k n m && (decide (0 ≤ r) && decide (r ≤ mostR k))) && d)) ∧ Kept (fun _ => False) w w' := by
  by_cases hn : n = 0
  · obtain rfl := hd hn
    subst hn
    clear hd
    rcases hk with rfl | rfl | rfl | rfl | rfl | rfl
    all_goals (
      go_enter Tryd.func36, Tryd.ntmps36
      go_wp2_with fail
      all_goals go_ret
      all_goals refine ⟨?_, (Kept.refl _ w).new _⟩
      all_goals (unfold okW mostR; simp_all)
      all_goals (try first | rfl | omega | (rw [Bool.eq_iff_iff]; simp; done) | (rw [Bool.eq_iff_iff]; simp; omega)))
  · clear hd
    have hn' : ((n : Int) == 0) = false := by simp; omega
    rcases hk with rfl | rfl | rfl | rfl | rfl | rfl
    all_goals (
      go_enter Tryd.func36, Tryd.ntmps36
      go_wp2_with fail
      all_goals go_ret
      all_goals refine ⟨?_, (Kept.refl _ w).new _⟩
      all_goals (unfold okW mostR; simp_all)
      all_goals (try first | rfl | omega | (rw [Bool.eq_iff_iff]; simp; done) | (rw [Bool.eq_iff_iff]; simp; omega)))
set_option maxRecDepth 100000 in
set_option maxHeartbeats 8000000 in
theorem own_rest (k r : Int) (n m : Nat) (d : Bool) (an : Option Addr) (cn : Nat) (al : Option Addr) (cl : Nat) (w : World) (hk : (k == 12) = false ∧ (k == 17) = false ∧ (k == 14) = false ∧ (k == 18) = false ∧ (k == 13) = false ∧ (k == 15) = false ∧ (k == 16) = false ∧ (k == 19) = false ∧ (k == 20) = false ∧ (k == 21) = false) (hd : n = 0 → d = true) :
    Calls Tryd.prog 36 #[.agg #[.int .i64 k, .slice an n cn, .slice al m cl, .int .i64 r]] w fun y w' => y = .returned (.bool ((okW k n m && (decide (0 ≤ r) && decide (r ≤ mostR k))) && d)) ∧ Kept (fun _ => False) w w' := by
  obtain ⟨h1, h2, h3, h4, h5, h6, h7, h8, h9, h10⟩ := hk
  have hw : okW k n m = (decide (1 ≤ k) && (decide (k ≤ 11) && (n == 0 && m == 0))) := by
    unfold okW
    simp at h1 h2 h3 h4 h5 h6 h7 h8 h9 h10
    rw [if_neg (by omega), if_neg (by omega), if_neg (by omega), if_neg (by omega), if_neg (by omega), if_neg (by omega), if_neg (by omega)]
  have hm : mostR k = 0 := by unfold mostR; rw [if_neg (by simp at h9 h10; omega)]
  rw [hw, hm]
  clear hw hm
  by_cases hn : n = 0
  · obtain rfl := hd hn
    subst hn
    clear hd
    go_enter Tryd.func36, Tryd.ntmps36
    go_wp2_with fail
    all_goals go_ret
    all_goals refine ⟨?_, (Kept.refl _ w).new _⟩
    all_goals (clear h1 h2 h3 h4 h5 h6 h7 h8 h9 h10; simp_all)
    all_goals (try first | rfl | omega | (rw [Bool.eq_iff_iff]; simp; done) | (rw [Bool.eq_iff_iff]; simp; omega))
  · clear hd
    have hn' : ((n : Int) == 0) = false := by simp; omega
    have hn2 : decide ((n : Int) > 0) = true := by simp; omega
    go_enter Tryd.func36, Tryd.ntmps36
    go_wp2_with fail
    all_goals go_ret
    all_goals refine ⟨?_, (Kept.refl _ w).new _⟩
    all_goals (clear h1 h2 h3 h4 h5 h6 h7 h8 h9 h10; simp_all)
    all_goals (try first | rfl | omega | (rw [Bool.eq_iff_iff]; simp; done) | (rw [Bool.eq_iff_iff]; simp; omega))
theorem rdOwn (t : Ty) (an : Option Addr) (cn : Nat) (al : Option Addr) (cl : Nat) (w : World) (h : TyAt w t an cn al cl) (hf : FineT t) :
    Calls Tryd.prog 36 #[tyV t an cn al cl] w fun y w' => y = .returned (.bool (shapedB t && difL t.names)) ∧ Kept (fun _ => False) w w' := by
  have hd : t.names.length = 0 → difL t.names = true := fun e => by rw [List.length_eq_zero_iff.1 e]; rfl
  rcases kinds_all t.kind with hk | hk
  · by_cases hn : t.kind = 13 ∨ t.kind = 15 ∨ t.kind = 16 ∨ t.kind = 19
    · exact own_named t.kind t.r t.names.length t.l.length (difL t.names) an cn al cl w hn (Lib.hid fun w' most k => rdRefNames t.names an cn most w' (h.nms.kept k) hf.names)
    · exact own_plain t.kind t.r t.names.length t.l.length (difL t.names) an cn al cl w (by omega) hd
  · exact own_rest t.kind t.r t.names.length t.l.length (difL t.names) an cn al cl w hk hd
end Go.Proofs.YtlkbgdhlbdjbiaaDoor
