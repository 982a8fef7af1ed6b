/-
  DERIVED. GIVEN WITH THE SEED: THE CARDS: each row of YtlkbgdhlbdjbiaaDoorRows.lean that lists a variable, with what it lists TIED to the program's text (the seventh form; the later family's looks); each row that meets fmt, with fmt's text TOLD by the authors' own Lean function (tested against real Go, not proved from fmt's source: count such statements apart). THE CARD IS WHAT COUNTS. Prove the row's statement (the work); the ties are given (YtlkbgdhlbdjbiaaDoorTie.lean); close each card by the builder's one call (the guide's Derived/Test/ToyasCard.lean, 'card_holds'). Laid BY PROGRAM, IN A SANDBOX (cutbox-door.mjs). By AI agents, Wed Nov 11 2026. No macro, syntax, notation, axiom, sorry.
-/
import Derived.Test.YtlkbgdhlbdjbiaaDoorRows
import GoSem.ClaimSeven
namespace Go.Proofs.YtlkbgdhlbdjbiaaDoor
namespace Rows

/-- THE TIED CARD OF 'scarflaw13.CtypePlain'. -/
def ctypePlainCard : Claim7 := { stood := { row := ctypePlainRow, standIns := [], harness := (true, "0de9b8a87b08458ff214cdbd34c03f67c39d41fa565eca99b946f731a30f95a1"), looks := false }, kinds := [], alts := [], laidByText := true, laidKinds := [.data, .data, .data], laidTests := true, laidLooks := .later }
def CtypePlainCardSaid : Prop := Claim7.holds Tryd.pinned (.plain (OpenSpec.ofChange ctypePlainSpec)) ctypePlainCard

/-- THE TIED CARD OF 'scarflaw13.CtypeAligned'. -/
def ctypeAlignedCard : Claim7 := { stood := { row := ctypeAlignedRow, standIns := [], harness := (true, "0de9b8a87b08458ff214cdbd34c03f67c39d41fa565eca99b946f731a30f95a1"), looks := false }, kinds := [], alts := [], laidByText := true, laidKinds := [.data, .data, .data], laidTests := true, laidLooks := .later }
def CtypeAlignedCardSaid : Prop := Claim7.holds Tryd.pinned (.plain (OpenSpec.ofChange ctypeAlignedSpec)) ctypeAlignedCard

/-- THE SECOND FORM's CARD OF 'scarflaw13.CtypePlain'. -/
def ctypePlainUptoCard : Claim7 := { stood := { row := ctypePlainUptoRow, standIns := [], harness := (true, "0de9b8a87b08458ff214cdbd34c03f67c39d41fa565eca99b946f731a30f95a1"), looks := false }, kinds := [], alts := [], laidByText := true, laidKinds := [.data, .data, .data], laidTests := true, laidLooks := .later }
def CtypePlainUptoCardSaid : Prop := Claim7.holds Tryd.pinned (.plain (OpenSpec.upto ctypePlainSpec)) ctypePlainUptoCard

/-- THE SECOND FORM's CARD OF 'scarflaw13.CtypeAligned'. -/
def ctypeAlignedUptoCard : Claim7 := { stood := { row := ctypeAlignedUptoRow, standIns := [], harness := (true, "0de9b8a87b08458ff214cdbd34c03f67c39d41fa565eca99b946f731a30f95a1"), looks := false }, kinds := [], alts := [], laidByText := true, laidKinds := [.data, .data, .data], laidTests := true, laidLooks := .later }
def CtypeAlignedUptoCardSaid : Prop := Claim7.holds Tryd.pinned (.plain (OpenSpec.upto ctypeAlignedSpec)) ctypeAlignedUptoCard
end Rows
end Go.Proofs.YtlkbgdhlbdjbiaaDoor
