/-
  NARROWER THAN 'FOR EVERY INPUT', by the rows' own cells (each row's printed sentence says how): SubSame: loops · SubFits: loops · SubOver: loops · SubNames: loops.
  DERIVED. THE GIVEN ROWS OF THIS SEAT. 4 by the template 'for every input the law returns true; each argument reads behind the call as it read before'; 0 by the template 'total and deterministic' (their statements: YthldeafbclmdcaaTotals.lean).
  GIVEN WITH THE SEED: the statements are not yours to turn. If you find one false, say at which input.
  Laid BY PROGRAM, IN A SANDBOX (cutbox-rows.mjs): the forced cells as the released guide's own fill.sh prints them over the translation eabf737ef4bb423d… (all of the seat's roots in one cut). By AI agents, Wed Nov 11 2026. No macro, syntax, notation, axiom, sorry.
-/
import Derived.Test.YthldeafbclmdcaaChecked
import GoSem.Claim
import GoSem.ClaimJoined
import GoSem.ClaimMapViews
import Derived.JoinedTies
import Derived.KernelRfl
namespace Go.Proofs.Ythldeafbclmdcaa
/- THE CELL 'sum', in the pinned program and in every row, IS THE sha256 OF THE DUMP (.gsa) THAT YthldeafbclmdcaaProg.lean LOADS. Nothing in Lean hashes anything: it is a label: what it is worth is what the hold of that sum in a sandbox is worth. -/
noncomputable def Try.pinned : Pinned := { name := "ythldeafbclmdcaa", sum := "eabf737ef4bb423d42a2f976e749123d579e23960f6e34beaa6bc1e5e914aadf", checked := Try.checked }
namespace Rows
def none {H : Type} : Left H := { results := [], args := [] }

/-- 'scarflaw14.SubSame': WHATEVER THE INPUT: true; the input reads as it did. -/
def subSameSpec : ChangeSpec := { name := "subSame", fn := fun _ => fun
  | [d1, d2, d3, d4, d5] => { results := [.lit (.bool true)], args := [d1, d2, d3, d4, d5] }
  | _ => none }
def subSameRow : OpenClaim := { program := "ythldeafbclmdcaa", sum := "eabf737ef4bb423d42a2f976e749123d579e23960f6e34beaa6bc1e5e914aadf", func := "scarf/scarflaw14.SubSame", spec := "subSame", unfollowed := true, recurses := true, loops := true, plainKeys := false, apart := false }
def SubSameSaid : Prop := subSameRow.holds Try.pinned (OpenSpec.ofChange subSameSpec)

/-- ITS FALSE NEIGHBOUR: 'it returns false'. Refute it at one input. -/
def subSameWrong : ChangeSpec := { name := "subSame", fn := fun _ => fun
  | [d1, d2, d3, d4, d5] => { results := [.lit (.bool false)], args := [d1, d2, d3, d4, d5] }
  | _ => none }
def SubSameWrongFalsely : Prop := subSameRow.holds Try.pinned (OpenSpec.ofChange subSameWrong)

/-- 'scarflaw14.SubFits': WHATEVER THE INPUT: true; the input reads as it did. -/
def subFitsSpec : ChangeSpec := { name := "subFits", fn := fun _ => fun
  | [d1, d2] => { results := [.lit (.bool true)], args := [d1, d2] }
  | _ => none }
def subFitsRow : OpenClaim := { program := "ythldeafbclmdcaa", sum := "eabf737ef4bb423d42a2f976e749123d579e23960f6e34beaa6bc1e5e914aadf", func := "scarf/scarflaw14.SubFits", spec := "subFits", unfollowed := true, recurses := true, loops := true, plainKeys := false, apart := false }
def SubFitsSaid : Prop := subFitsRow.holds Try.pinned (OpenSpec.ofChange subFitsSpec)

/-- ITS FALSE NEIGHBOUR: 'it returns false'. Refute it at one input. -/
def subFitsWrong : ChangeSpec := { name := "subFits", fn := fun _ => fun
  | [d1, d2] => { results := [.lit (.bool false)], args := [d1, d2] }
  | _ => none }
def SubFitsWrongFalsely : Prop := subFitsRow.holds Try.pinned (OpenSpec.ofChange subFitsWrong)

/-- 'scarflaw14.SubOver': WHATEVER THE INPUT: true; the input reads as it did. -/
def subOverSpec : ChangeSpec := { name := "subOver", fn := fun _ => fun
  | [d1, d2, d3] => { results := [.lit (.bool true)], args := [d1, d2, d3] }
  | _ => none }
def subOverRow : OpenClaim := { program := "ythldeafbclmdcaa", sum := "eabf737ef4bb423d42a2f976e749123d579e23960f6e34beaa6bc1e5e914aadf", func := "scarf/scarflaw14.SubOver", spec := "subOver", unfollowed := true, recurses := true, loops := true, plainKeys := false, apart := false }
def SubOverSaid : Prop := subOverRow.holds Try.pinned (OpenSpec.ofChange subOverSpec)

/-- ITS FALSE NEIGHBOUR: 'it returns false'. Refute it at one input. -/
def subOverWrong : ChangeSpec := { name := "subOver", fn := fun _ => fun
  | [d1, d2, d3] => { results := [.lit (.bool false)], args := [d1, d2, d3] }
  | _ => none }
def SubOverWrongFalsely : Prop := subOverRow.holds Try.pinned (OpenSpec.ofChange subOverWrong)

/-- 'scarflaw14.SubNames': WHATEVER THE INPUT: true; the input reads as it did. -/
def subNamesSpec : ChangeSpec := { name := "subNames", fn := fun _ => fun
  | [d1, d2] => { results := [.lit (.bool true)], args := [d1, d2] }
  | _ => none }
def subNamesRow : OpenClaim := { program := "ythldeafbclmdcaa", sum := "eabf737ef4bb423d42a2f976e749123d579e23960f6e34beaa6bc1e5e914aadf", func := "scarf/scarflaw14.SubNames", spec := "subNames", unfollowed := true, recurses := true, loops := true, plainKeys := false, apart := false }
def SubNamesSaid : Prop := subNamesRow.holds Try.pinned (OpenSpec.ofChange subNamesSpec)

/-- ITS FALSE NEIGHBOUR: 'it returns false'. Refute it at one input. -/
def subNamesWrong : ChangeSpec := { name := "subNames", fn := fun _ => fun
  | [d1, d2] => { results := [.lit (.bool false)], args := [d1, d2] }
  | _ => none }
def SubNamesWrongFalsely : Prop := subNamesRow.holds Try.pinned (OpenSpec.ofChange subNamesWrong)

/- THE SECOND FORM. 'bulk': how many values and letters a reading holds, each counted each time it is reached (what is shared counts as often as it is met; a slice's spare places count too). A statement '..UptoSaid' is the law's where the arguments, and the package variables that the reading takes, are together of bulk at most 1048576: NARROWER than '..Said'. Prove '..Said' where nothing that the law and all that it calls make is longer than what came in: it says more and counts as full. Else prove '..UptoSaid'. A law counts once. -/
mutual
def uptoBulk {H : Type} : DataW H → Nat
  | .lit (.string bytes) => bytes.length + 1
  | .lit _ => 1
  | .nil => 1
  | .ptr d => uptoBulk d + 1
  | .slice elems spare => uptoBulkAll elems + uptoBulkAll spare + 1
  | .agg parts => uptoBulkAll parts + 1
  | .iface _ d => uptoBulk d + 1
  | .map entries => uptoBulkEntries entries + 1
  | .held _ => 1
def uptoBulkAll {H : Type} : List (DataW H) → Nat
  | [] => 0
  | d :: r => uptoBulk d + uptoBulkAll r
def uptoBulkEntries {H : Type} : List (Lit × DataW H) → Nat
  | [] => 0
  | x :: r => uptoBulkEntry x + uptoBulkEntries r
def uptoBulkEntry {H : Type} : Lit × DataW H → Nat
  | (.string bytes, d) => bytes.length + uptoBulk d + 1
  | (_, d) => uptoBulk d + 1
 end
def uptoSmall : (H : Type) → List (DataW H) → Bool := fun _ ds => decide (uptoBulkAll ds ≤ 1048576)
def OpenSpec.upto (s : _root_.Go.ChangeSpec) : _root_.Go.OpenSpec := { _root_.Go.OpenSpec.ofChange s with cond := some uptoSmall }

/-- 'scarflaw14.SubSame', WHERE WHAT IT READS IS OF BULK AT MOST 1048576: true; the input reads as it did. -/
def subSameUptoRow : OpenClaim := { program := "ythldeafbclmdcaa", sum := "eabf737ef4bb423d42a2f976e749123d579e23960f6e34beaa6bc1e5e914aadf", func := "scarf/scarflaw14.SubSame", spec := "subSame", unfollowed := true, recurses := true, loops := true, plainKeys := false, apart := false, narrowed := true }
def SubSameUptoSaid : Prop := subSameUptoRow.holds Try.pinned (OpenSpec.upto subSameSpec)

/-- 'scarflaw14.SubFits', WHERE WHAT IT READS IS OF BULK AT MOST 1048576: true; the input reads as it did. -/
def subFitsUptoRow : OpenClaim := { program := "ythldeafbclmdcaa", sum := "eabf737ef4bb423d42a2f976e749123d579e23960f6e34beaa6bc1e5e914aadf", func := "scarf/scarflaw14.SubFits", spec := "subFits", unfollowed := true, recurses := true, loops := true, plainKeys := false, apart := false, narrowed := true }
def SubFitsUptoSaid : Prop := subFitsUptoRow.holds Try.pinned (OpenSpec.upto subFitsSpec)

/-- 'scarflaw14.SubOver', WHERE WHAT IT READS IS OF BULK AT MOST 1048576: true; the input reads as it did. -/
def subOverUptoRow : OpenClaim := { program := "ythldeafbclmdcaa", sum := "eabf737ef4bb423d42a2f976e749123d579e23960f6e34beaa6bc1e5e914aadf", func := "scarf/scarflaw14.SubOver", spec := "subOver", unfollowed := true, recurses := true, loops := true, plainKeys := false, apart := false, narrowed := true }
def SubOverUptoSaid : Prop := subOverUptoRow.holds Try.pinned (OpenSpec.upto subOverSpec)

/-- 'scarflaw14.SubNames', WHERE WHAT IT READS IS OF BULK AT MOST 1048576: true; the input reads as it did. -/
def subNamesUptoRow : OpenClaim := { program := "ythldeafbclmdcaa", sum := "eabf737ef4bb423d42a2f976e749123d579e23960f6e34beaa6bc1e5e914aadf", func := "scarf/scarflaw14.SubNames", spec := "subNames", unfollowed := true, recurses := true, loops := true, plainKeys := false, apart := false, narrowed := true }
def SubNamesUptoSaid : Prop := subNamesUptoRow.holds Try.pinned (OpenSpec.upto subNamesSpec)

end Rows
end Go.Proofs.Ythldeafbclmdcaa
