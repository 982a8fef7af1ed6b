/-
  NARROWER THAN 'FOR EVERY INPUT', by the rows' own cells (each row's printed sentence says how): ModulePuts: loops · ModuleBack: loops · ModuleOrder: loops · ModuleCut: loops.
  DERIVED. THE GIVEN ROWS OF THIS SEAT. 5 by the template 'for every input the law returns true; each argument reads behind the call as it read before'; 0 by the template 'total and deterministic' (their statements: YtekonefnniaheaaGreatTotals.lean).
  GIVEN WITH THE SEED: the statements are not yours to turn. If you find one false, say at which input.
  Laid BY PROGRAM, IN A SANDBOX (cutbox-rows.mjs): the forced cells as the released guide's own fill.sh prints them over the translation 7ac45ca48f575fd5… (all of the seat's roots in one cut). By AI agents, Wed Nov 11 2026. No macro, syntax, notation, axiom, sorry.
-/
import Derived.Test.YtekonefnniaheaaGreatChecked
import GoSem.Claim
import GoSem.ClaimJoined
import GoSem.ClaimMapViews
import Derived.JoinedTies
import Derived.KernelRfl
namespace Go.Proofs.YtekonefnniaheaaGreat
/- THE CELL 'sum', in the pinned program and in every row, IS THE sha256 OF THE DUMP (.gsa) THAT YtekonefnniaheaaGreatProg.lean LOADS. Nothing in Lean hashes anything: it is a label: what it is worth is what the hold of that sum in a sandbox is worth. -/
noncomputable def Tryz.pinned : Pinned := { name := "ytekonefnniaheaagreat", sum := "7ac45ca48f575fd5a909171581a0594fb9a47319f3be8b952ceb1889e28ad710", checked := Tryz.checked }
namespace Rows
def none {H : Type} : Left H := { results := [], args := [] }

/-- 'scarflaw06.ModulePuts': WHATEVER THE INPUT: true; the input reads as it did. -/
def modulePutsSpec : ChangeSpec := { name := "modulePuts", fn := fun _ => fun
  | [d] => { results := [.lit (.bool true)], args := [d] }
  | _ => none }
def modulePutsRow : OpenClaim := { program := "ytekonefnniaheaagreat", sum := "7ac45ca48f575fd5a909171581a0594fb9a47319f3be8b952ceb1889e28ad710", func := "scarf/scarflaw06.ModulePuts", spec := "modulePuts", unfollowed := true, recurses := true, loops := true, apart := false }
def ModulePutsSaid : Prop := modulePutsRow.holds Tryz.pinned (OpenSpec.ofChange modulePutsSpec)

/-- ITS FALSE NEIGHBOUR: 'it returns false'. Refute it at one input. -/
def modulePutsWrong : ChangeSpec := { name := "modulePuts", fn := fun _ => fun
  | [d] => { results := [.lit (.bool false)], args := [d] }
  | _ => none }
def ModulePutsWrongFalsely : Prop := modulePutsRow.holds Tryz.pinned (OpenSpec.ofChange modulePutsWrong)

/-- 'scarflaw06.ModuleBack': WHATEVER THE INPUT: true; the input reads as it did. -/
def moduleBackSpec : ChangeSpec := { name := "moduleBack", fn := fun _ => fun
  | [d] => { results := [.lit (.bool true)], args := [d] }
  | _ => none }
def moduleBackRow : OpenClaim := { program := "ytekonefnniaheaagreat", sum := "7ac45ca48f575fd5a909171581a0594fb9a47319f3be8b952ceb1889e28ad710", func := "scarf/scarflaw06.ModuleBack", spec := "moduleBack", unfollowed := true, recurses := true, loops := true, apart := false }
def ModuleBackSaid : Prop := moduleBackRow.holds Tryz.pinned (OpenSpec.ofChange moduleBackSpec)

/-- ITS FALSE NEIGHBOUR: 'it returns false'. Refute it at one input. -/
def moduleBackWrong : ChangeSpec := { name := "moduleBack", fn := fun _ => fun
  | [d] => { results := [.lit (.bool false)], args := [d] }
  | _ => none }
def ModuleBackWrongFalsely : Prop := moduleBackRow.holds Tryz.pinned (OpenSpec.ofChange moduleBackWrong)

/-- 'scarflaw06.ModuleOnly': WHATEVER THE INPUT: true; the input reads as it did. -/
def moduleOnlySpec : ChangeSpec := { name := "moduleOnly", fn := fun _ => fun
  | [d] => { results := [.lit (.bool true)], args := [d] }
  | _ => none }
def moduleOnlyRow : OpenClaim := { program := "ytekonefnniaheaagreat", sum := "7ac45ca48f575fd5a909171581a0594fb9a47319f3be8b952ceb1889e28ad710", func := "scarf/scarflaw06.ModuleOnly", spec := "moduleOnly", unfollowed := true, recurses := true, apart := false }
def ModuleOnlySaid : Prop := moduleOnlyRow.holds Tryz.pinned (OpenSpec.ofChange moduleOnlySpec)

/-- ITS FALSE NEIGHBOUR: 'it returns false'. Refute it at one input. -/
def moduleOnlyWrong : ChangeSpec := { name := "moduleOnly", fn := fun _ => fun
  | [d] => { results := [.lit (.bool false)], args := [d] }
  | _ => none }
def ModuleOnlyWrongFalsely : Prop := moduleOnlyRow.holds Tryz.pinned (OpenSpec.ofChange moduleOnlyWrong)

/-- 'scarflaw06.ModuleOrder': WHATEVER THE INPUT: true; the input reads as it did. -/
def moduleOrderSpec : ChangeSpec := { name := "moduleOrder", fn := fun _ => fun
  | [d1, d2, d3] => { results := [.lit (.bool true)], args := [d1, d2, d3] }
  | _ => none }
def moduleOrderRow : OpenClaim := { program := "ytekonefnniaheaagreat", sum := "7ac45ca48f575fd5a909171581a0594fb9a47319f3be8b952ceb1889e28ad710", func := "scarf/scarflaw06.ModuleOrder", spec := "moduleOrder", unfollowed := true, recurses := true, loops := true, apart := false }
def ModuleOrderSaid : Prop := moduleOrderRow.holds Tryz.pinned (OpenSpec.ofChange moduleOrderSpec)

/-- ITS FALSE NEIGHBOUR: 'it returns false'. Refute it at one input. -/
def moduleOrderWrong : ChangeSpec := { name := "moduleOrder", fn := fun _ => fun
  | [d1, d2, d3] => { results := [.lit (.bool false)], args := [d1, d2, d3] }
  | _ => none }
def ModuleOrderWrongFalsely : Prop := moduleOrderRow.holds Tryz.pinned (OpenSpec.ofChange moduleOrderWrong)

/-- 'scarflaw06.ModuleCut': WHATEVER THE INPUT: true; the input reads as it did. -/
def moduleCutSpec : ChangeSpec := { name := "moduleCut", fn := fun _ => fun
  | [d1, d2] => { results := [.lit (.bool true)], args := [d1, d2] }
  | _ => none }
def moduleCutRow : OpenClaim := { program := "ytekonefnniaheaagreat", sum := "7ac45ca48f575fd5a909171581a0594fb9a47319f3be8b952ceb1889e28ad710", func := "scarf/scarflaw06.ModuleCut", spec := "moduleCut", unfollowed := true, recurses := true, loops := true, apart := false }
def ModuleCutSaid : Prop := moduleCutRow.holds Tryz.pinned (OpenSpec.ofChange moduleCutSpec)

/-- ITS FALSE NEIGHBOUR: 'it returns false'. Refute it at one input. -/
def moduleCutWrong : ChangeSpec := { name := "moduleCut", fn := fun _ => fun
  | [d1, d2] => { results := [.lit (.bool false)], args := [d1, d2] }
  | _ => none }
def ModuleCutWrongFalsely : Prop := moduleCutRow.holds Tryz.pinned (OpenSpec.ofChange moduleCutWrong)

/- THE SECOND FORM. 'bulk': how many values and letters a reading holds, each counted each time it is reached (what is shared counts as often as it is met; a slice's spare places count too). A statement '..UptoSaid' is the law's where the arguments, and the package variables that the reading takes, are together of bulk at most 1048576: NARROWER than '..Said'. Prove '..Said' where nothing that the law and all that it calls make is longer than what came in: it says more and counts as full. Else prove '..UptoSaid'. A law counts once. -/
mutual
def uptoBulk {H : Type} : DataW H → Nat
  | .lit (.string bytes) => bytes.length + 1
  | .lit _ => 1
  | .nil => 1
  | .ptr d => uptoBulk d + 1
  | .slice elems spare => uptoBulkAll elems + uptoBulkAll spare + 1
  | .agg parts => uptoBulkAll parts + 1
  | .iface _ d => uptoBulk d + 1
  | .map entries => uptoBulkEntries entries + 1
  | .held _ => 1
def uptoBulkAll {H : Type} : List (DataW H) → Nat
  | [] => 0
  | d :: r => uptoBulk d + uptoBulkAll r
def uptoBulkEntries {H : Type} : List (Lit × DataW H) → Nat
  | [] => 0
  | x :: r => uptoBulkEntry x + uptoBulkEntries r
def uptoBulkEntry {H : Type} : Lit × DataW H → Nat
  | (.string bytes, d) => bytes.length + uptoBulk d + 1
  | (_, d) => uptoBulk d + 1
 end
def uptoSmall : (H : Type) → List (DataW H) → Bool := fun _ ds => decide (uptoBulkAll ds ≤ 1048576)
def OpenSpec.upto (s : _root_.Go.ChangeSpec) : _root_.Go.OpenSpec := { _root_.Go.OpenSpec.ofChange s with cond := some uptoSmall }

/-- 'scarflaw06.ModulePuts', WHERE WHAT IT READS IS OF BULK AT MOST 1048576: true; the input reads as it did. -/
def modulePutsUptoRow : OpenClaim := { program := "ytekonefnniaheaagreat", sum := "7ac45ca48f575fd5a909171581a0594fb9a47319f3be8b952ceb1889e28ad710", func := "scarf/scarflaw06.ModulePuts", spec := "modulePuts", unfollowed := true, recurses := true, loops := true, apart := false, narrowed := true }
def ModulePutsUptoSaid : Prop := modulePutsUptoRow.holds Tryz.pinned (OpenSpec.upto modulePutsSpec)

/-- 'scarflaw06.ModuleBack', WHERE WHAT IT READS IS OF BULK AT MOST 1048576: true; the input reads as it did. -/
def moduleBackUptoRow : OpenClaim := { program := "ytekonefnniaheaagreat", sum := "7ac45ca48f575fd5a909171581a0594fb9a47319f3be8b952ceb1889e28ad710", func := "scarf/scarflaw06.ModuleBack", spec := "moduleBack", unfollowed := true, recurses := true, loops := true, apart := false, narrowed := true }
def ModuleBackUptoSaid : Prop := moduleBackUptoRow.holds Tryz.pinned (OpenSpec.upto moduleBackSpec)

/-- 'scarflaw06.ModuleOnly', WHERE WHAT IT READS IS OF BULK AT MOST 1048576: true; the input reads as it did. -/
def moduleOnlyUptoRow : OpenClaim := { program := "ytekonefnniaheaagreat", sum := "7ac45ca48f575fd5a909171581a0594fb9a47319f3be8b952ceb1889e28ad710", func := "scarf/scarflaw06.ModuleOnly", spec := "moduleOnly", unfollowed := true, recurses := true, apart := false, narrowed := true }
def ModuleOnlyUptoSaid : Prop := moduleOnlyUptoRow.holds Tryz.pinned (OpenSpec.upto moduleOnlySpec)

/-- 'scarflaw06.ModuleOrder', WHERE WHAT IT READS IS OF BULK AT MOST 1048576: true; the input reads as it did. -/
def moduleOrderUptoRow : OpenClaim := { program := "ytekonefnniaheaagreat", sum := "7ac45ca48f575fd5a909171581a0594fb9a47319f3be8b952ceb1889e28ad710", func := "scarf/scarflaw06.ModuleOrder", spec := "moduleOrder", unfollowed := true, recurses := true, loops := true, apart := false, narrowed := true }
def ModuleOrderUptoSaid : Prop := moduleOrderUptoRow.holds Tryz.pinned (OpenSpec.upto moduleOrderSpec)

/-- 'scarflaw06.ModuleCut', WHERE WHAT IT READS IS OF BULK AT MOST 1048576: true; the input reads as it did. -/
def moduleCutUptoRow : OpenClaim := { program := "ytekonefnniaheaagreat", sum := "7ac45ca48f575fd5a909171581a0594fb9a47319f3be8b952ceb1889e28ad710", func := "scarf/scarflaw06.ModuleCut", spec := "moduleCut", unfollowed := true, recurses := true, loops := true, apart := false, narrowed := true }
def ModuleCutUptoSaid : Prop := moduleCutUptoRow.holds Tryz.pinned (OpenSpec.upto moduleCutSpec)

end Rows
end Go.Proofs.YtekonefnniaheaaGreat
