/- ctype: the reference's look at a function's types. -/
import Derived.Test.YtlkbgdhlbdjbiaaDoorCtJ
set_option linter.unusedVariables false
set_option linter.unusedSimpArgs false
namespace Go.Proofs.YtlkbgdhlbdjbiaaDoor
open Go.RowKit
open Lex Ct

/-- The same, in the reference's order. -/
theorem okS_ref (s : Sg) : okS s = ((s.p.length == s.t.length && (s.p.length == 0 || (difL s.p && (decide (1 ≤ s.p.length) && decide ((s.p.length : Int) ≤ 64))))) && ((isNone s.r || okT s.r) && s.t.all okT)) := by
  unfold okS
  by_cases h0 : s.p.length = 0
  · have hp : s.p = [] := List.length_eq_zero_iff.1 h0
    rw [hp]
    rw [Bool.eq_iff_iff]
    simp
    constructor
    · rintro ⟨h1, h2, h3, h4⟩
      exact ⟨by rw [h1]; rfl, h4, h3⟩
    · rintro ⟨h1, h2, h3⟩
      exact ⟨List.length_eq_zero_iff.1 h1.symm, rfl, h3, h2⟩
  · rw [Bool.eq_iff_iff]
    simp
    constructor
    · rintro ⟨h1, h2, h3, h4, h5⟩
      exact ⟨⟨h2.symm, .inr ⟨h3, by omega, by omega⟩⟩, h5, h4⟩
    · rintro ⟨⟨h1, h2⟩, h3, h4⟩
      rcases h2 with h2 | ⟨h2, h5, h6⟩
      · rw [h2] at h0; exact absurd rfl h0
      · exact ⟨by omega, h1.symm, h2, h4, h3⟩
/-- Behind the names: what is told of the result. -/
theorem rdMay_is (t : Ty) (an : Option Addr) (cn : Nat) (al : Option Addr) (cl : Nat) (w : World) (h : TyAt w t an cn al cl) (hf : FineT t) (b : Bool) (hb : okT t = b) :
    Calls Tryd.prog 5 #[tyV t an cn al cl] w fun y w' => y = .returned (.bool b) ∧ Kept (fun _ => False) w w' := by
  subst hb
  exact rdMay t an cn al cl w h hf
end Go.Proofs.YtlkbgdhlbdjbiaaDoor
