/- The reference's memories: where they lie, and what is read of them. -/
import Derived.Test.YtogkieekpmcinaaKitB
import Derived.Test.YtogkieekpmcinaaMemRefW
namespace Go.Proofs.Ytogkieekpmcinaa
open Go.RowKit

/-- Are there k bytes at a place, of n? -/
def inB (n : Nat) (at' k : Int) : Bool := decide (0 ≤ at' ∧ 0 ≤ k ∧ at' ≤ n ∧ k ≤ n - at')
set_option maxRecDepth 100000 in
theorem refIn_any (a : Nat) (x : Option Addr) (n cap : Nat) (at' k : Int) (hn : n ≤ 10000000) (w : World) (hc : w.cell? ⟨a, 0, none⟩ = some (.slice x n cap)) :
    Calls Try.prog 44 #[.pointer (some ⟨a, 0, none⟩), .int .i64 at', .int .i64 k] w fun e w' => e = .returned (.bool (inB n at' k)) ∧ w = w' := by
  obtain ⟨r, hr⟩ : ∃ r, r = inB n at' k := ⟨_, rfl⟩
  rw [← hr]
  have key : (at' < 0 ∧ r = false) ∨ (0 ≤ at' ∧ k < 0 ∧ r = false) ∨ (0 ≤ at' ∧ 0 ≤ k ∧ (n : Int) < at' ∧ r = false) ∨ (0 ≤ at' ∧ 0 ≤ k ∧ at' ≤ n ∧ (n : Int) - at' < k ∧ r = false) ∨ (0 ≤ at' ∧ 0 ≤ k ∧ at' ≤ n ∧ k ≤ (n : Int) - at' ∧ r = true) := by
    rw [hr]
    unfold inB
    by_cases h1 : at' < 0
    · exact .inl ⟨h1, decide_eq_false (by omega)⟩
    · by_cases h2 : k < 0
      · exact .inr (.inl ⟨by omega, h2, decide_eq_false (by omega)⟩)
      · by_cases h3 : (n : Int) < at'
        · exact .inr (.inr (.inl ⟨by omega, by omega, h3, decide_eq_false (by omega)⟩))
        · by_cases h4 : (n : Int) - at' < k
          · exact .inr (.inr (.inr (.inl ⟨by omega, by omega, by omega, h4, decide_eq_false (by omega)⟩)))
          · exact .inr (.inr (.inr (.inr ⟨by omega, by omega, by omega, by omega, decide_eq_true (by omega)⟩)))
  clear hr
  rcases key with ⟨h1, rfl⟩ | ⟨h1, h2, rfl⟩ | ⟨h1, h2, h3, rfl⟩ | ⟨h1, h2, h3, h4, rfl⟩ | ⟨h1, h2, h3, h4, rfl⟩
  all_goals
    go_enter Try.func44, Try.ntmps44
    go_wp2_with fail
    go_ret
    exact ⟨by first | rfl | (refine congrArg (fun c => Ending.returned (.bool c)) ?_; simp; done) | (refine congrArg (fun c => Ending.returned (.bool c)) ?_; simp; omega), rfl⟩
end Go.Proofs.Ytogkieekpmcinaa
