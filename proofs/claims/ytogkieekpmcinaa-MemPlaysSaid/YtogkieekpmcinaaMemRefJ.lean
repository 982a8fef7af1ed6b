/- The reference's new memories. -/
import Derived.Test.YtogkieekpmcinaaMemRefI
namespace Go.Proofs.Ytogkieekpmcinaa
open Go.RowKit

/-- May a memory have such limits? -/
def mayB (mn mx : Int) : Bool := decide (0 ≤ mn ∧ mn ≤ 16 ∧ -1 ≤ mx ∧ mx ≤ 16 ∧ (mx = -1 ∨ mn ≤ mx))
set_option maxRecDepth 100000 in
theorem refMay_any (mn mx : Int) (w : World) :
    Calls Try.prog 30 #[.agg #[.int .i64 mn, .int .i64 mx]] w fun e w' => e = .returned (.bool (mayB mn mx)) ∧ Below w.heap.size w w' := by
  obtain ⟨r, hr⟩ : ∃ r, r = mayB mn mx := ⟨_, rfl⟩
  rw [← hr]
  have key : (mn < 0 ∧ r = false) ∨ (0 ≤ mn ∧ 16 < mn ∧ r = false) ∨ (0 ≤ mn ∧ mn ≤ 16 ∧ mx < -1 ∧ r = false) ∨ (0 ≤ mn ∧ mn ≤ 16 ∧ -1 ≤ mx ∧ 16 < mx ∧ r = false) ∨
      (0 ≤ mn ∧ mn ≤ 16 ∧ mx = -1 ∧ r = true) ∨ (0 ≤ mn ∧ mn ≤ 16 ∧ 0 ≤ mx ∧ mx ≤ 16 ∧ mn ≤ mx ∧ r = true) ∨ (0 ≤ mn ∧ mn ≤ 16 ∧ 0 ≤ mx ∧ mx ≤ 16 ∧ mx < mn ∧ r = false) := by
    rw [hr]
    unfold mayB
    by_cases h1 : mn < 0
    · exact .inl ⟨h1, decide_eq_false (by omega)⟩
    by_cases h2 : 16 < mn
    · exact .inr (.inl ⟨by omega, h2, decide_eq_false (by omega)⟩)
    by_cases h3 : mx < -1
    · exact .inr (.inr (.inl ⟨by omega, by omega, h3, decide_eq_false (by omega)⟩))
    by_cases h4 : 16 < mx
    · exact .inr (.inr (.inr (.inl ⟨by omega, by omega, by omega, h4, decide_eq_false (by omega)⟩)))
    by_cases h5 : mx = -1
    · exact .inr (.inr (.inr (.inr (.inl ⟨by omega, by omega, h5, decide_eq_true (by omega)⟩))))
    by_cases h6 : mn ≤ mx
    · exact .inr (.inr (.inr (.inr (.inr (.inl ⟨by omega, by omega, by omega, by omega, h6, decide_eq_true (by omega)⟩)))))
    · exact .inr (.inr (.inr (.inr (.inr (.inr ⟨by omega, by omega, by omega, by omega, by omega, decide_eq_false (by omega)⟩)))))
  clear hr
  have hb : Below w.heap.size w (w.alloc (.cells #[.int .i64 mn, .int .i64 mx] 23)) := (Below.refl _ _).alloc (Nat.le_refl _) _
  have HB := Lib.hid hb
  clear hb
  rcases key with ⟨h1, rfl⟩ | ⟨h1, h2, rfl⟩ | ⟨h1, h2, h3, rfl⟩ | ⟨h1, h2, h3, h4, rfl⟩ | ⟨h1, h2, rfl, rfl⟩ | ⟨h1, h2, h3, h4, h5, rfl⟩ | ⟨h1, h2, h3, h4, h5, rfl⟩
  all_goals
    go_enter Try.func30, Try.ntmps30
    go_wp2_with fail
    go_ret
    exact ⟨by first | rfl | (refine congrArg (fun c => Ending.returned (.bool c)) ?_; simp; done) | (refine congrArg (fun c => Ending.returned (.bool c)) ?_; simp; omega), HB.out⟩
end Go.Proofs.Ytogkieekpmcinaa
