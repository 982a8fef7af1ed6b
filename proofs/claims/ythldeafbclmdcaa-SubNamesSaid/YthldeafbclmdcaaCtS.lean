/- ctype: types as trees, and what is told of them, as plain functions: no program. -/
import Derived.Test.YthldeafbclmdcaaBl
set_option linter.unusedVariables false
set_option linter.unusedSimpArgs false
namespace Go.Proofs.Ythldeafbclmdcaa
open Go.RowKit

namespace Ct
abbrev Nm := List Int
inductive Ty where
  | mk (kind : Int) (names : List Nm) (l : List Ty) (r : Int)
instance : Inhabited Ty := ⟨.mk 0 [] [] 0⟩
namespace Ty
def kind : Ty → Int | mk k _ _ _ => k
def names : Ty → List Nm | mk _ n _ _ => n
def l : Ty → List Ty | mk _ _ l _ => l
def r : Ty → Int | mk _ _ _ r => r
def zero : Ty := .mk 0 [] [] 0
end Ty
/-- A function's types. -/
structure Sg where
  name : Nm
  p : List Nm
  t : List Ty
  r : Ty
end Ct
end Go.Proofs.Ythldeafbclmdcaa
