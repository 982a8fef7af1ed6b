/- ctype: a type's own fields: the project's and the reference's. -/
import Derived.Test.YtlkbgdhlbdjbiaaDoorCtA
set_option linter.unusedVariables false
set_option linter.unusedSimpArgs false
namespace Go.Proofs.YtlkbgdhlbdjbiaaDoor
open Go.RowKit
open Lex Ct

theorem kinds_all (k : Int) : (k = 12 ∨ k = 17 ∨ k = 14 ∨ k = 18 ∨ k = 13 ∨ k = 15 ∨ k = 16 ∨ k = 19 ∨ k = 20 ∨ k = 21) ∨ ((k == 12) = false ∧ (k == 17) = false ∧ (k == 14) = false ∧ (k == 18) = false ∧ (k == 13) = false ∧ (k == 15) = false ∧ (k == 16) = false ∧ (k == 19) = false ∧ (k == 20) = false ∧ (k == 21) = false) := by
  simp
  omega
set_option maxRecDepth 100000 in
set_option maxHeartbeats 8000000 in
theorem rdShaped (t : Ty) (an : Option Addr) (cn : Nat) (al : Option Addr) (cl : Nat) (w : World) :
    Calls Tryd.prog 52 #[tyV t an cn al cl] w fun y w' => y = .returned (.bool (shapedB t)) ∧ Kept (fun _ => False) w w' := by
  unfold shapedB tyV
  generalize t.kind = k
  generalize t.names.length = n
  generalize t.l.length = m
  generalize t.r = r
  rcases kinds_all k with hk | ⟨h1, h2, h3, h4, h5, h6, h7, h8, h9, h10⟩
  · rcases hk with rfl | rfl | rfl | rfl | rfl | rfl | rfl | rfl | rfl | rfl
    all_goals (
      go_enter Tryd.func52, Tryd.ntmps52
      go_wp2_with fail
      go_region
      all_goals (go_wp2_with fail)
      all_goals go_ret
      all_goals refine ⟨?_, by first | exact (Kept.refl _ w).new _ | exact ((Kept.refl _ w).new _).drew⟩
      all_goals (unfold okW mostR; simp_all)
      all_goals (try first | rfl | omega | (rw [Bool.eq_iff_iff]; simp; omega)))
  · have hw : okW k n m = (decide (1 ≤ k) && (decide (k ≤ 11) && (n == 0 && m == 0))) := by
      unfold okW
      simp at h1 h2 h3 h4 h5 h6 h7 h8 h9 h10
      rw [if_neg (by omega), if_neg (by omega), if_neg (by omega), if_neg (by omega), if_neg (by omega), if_neg (by omega), if_neg (by omega)]
    have hm : mostR k = 0 := by unfold mostR; rw [if_neg (by simp at h9 h10; omega)]
    rw [hw, hm]
    clear hw hm
    go_enter Tryd.func52, Tryd.ntmps52
    go_wp2_with fail
    go_region
    all_goals (go_wp2_with fail)
    all_goals go_ret
    all_goals refine ⟨?_, by first | exact (Kept.refl _ w).new _ | exact ((Kept.refl _ w).new _).drew⟩
    all_goals (clear h1 h2 h3 h4 h5 h6 h7 h8 h9 h10; simp_all)
    all_goals (try first | rfl | omega | (rw [Bool.eq_iff_iff]; simp; omega))
end Go.Proofs.YtlkbgdhlbdjbiaaDoor
