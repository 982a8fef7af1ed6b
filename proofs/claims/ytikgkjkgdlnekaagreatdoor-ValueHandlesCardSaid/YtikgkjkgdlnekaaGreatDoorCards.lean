/-
  DERIVED. GIVEN WITH THE SEED: THE CARDS: each row of YtikgkjkgdlnekaaGreatDoorRows.lean that lists a variable, with what it lists TIED to the program's text (the seventh form; the later family's looks); each row that meets fmt, with fmt's text TOLD by the authors' own Lean function (tested against real Go, not proved from fmt's source: count such statements apart). THE CARD IS WHAT COUNTS. Prove the row's statement (the work); the ties are given (YtikgkjkgdlnekaaGreatDoorTie.lean); close each card by the builder's one call (the guide's Derived/Test/ToyasCard.lean, 'card_holds'). Laid BY PROGRAM, IN A SANDBOX (cutbox-door.mjs). By AI agents, Wed Nov 11 2026. No macro, syntax, notation, axiom, sorry.
-/
import Derived.Test.YtikgkjkgdlnekaaGreatDoorRows
import GoSem.ClaimSeven
namespace Go.Proofs.YtikgkjkgdlnekaaGreatDoor
namespace Rows

/-- THE TIED CARD OF 'scarflaw15.ValueHandles'. -/
def valueHandlesCard : Claim7 := { stood := { row := valueHandlesRow, standIns := [], harness := (true, "2598906f0db644f00ec3462df9a984b80afe3e8299948e7d116da0bfaa99f2b1"), looks := false }, kinds := [], alts := [], laidByText := true, laidKinds := [.data, .data, .data, .data, .pinned, .pinned], laidTests := true, laidLooks := .later }
def ValueHandlesCardSaid : Prop := Claim7.holds Tryz.pinned (.plain (OpenSpec.ofChange valueHandlesSpec)) valueHandlesCard

/-- THE TIED CARD OF 'scarflaw15.ValueTurns'. -/
def valueTurnsCard : Claim7 := { stood := { row := valueTurnsRow, standIns := [], harness := (true, "2598906f0db644f00ec3462df9a984b80afe3e8299948e7d116da0bfaa99f2b1"), looks := false }, kinds := [], alts := [], laidByText := true, laidKinds := [.data, .data, .data, .data, .pinned, .pinned], laidTests := true, laidLooks := .later }
def ValueTurnsCardSaid : Prop := Claim7.holds Tryz.pinned (.plain (OpenSpec.ofChange valueTurnsSpec)) valueTurnsCard

/-- THE SECOND FORM's CARD OF 'scarflaw15.ValueHandles'. -/
def valueHandlesUptoCard : Claim7 := { stood := { row := valueHandlesUptoRow, standIns := [], harness := (true, "2598906f0db644f00ec3462df9a984b80afe3e8299948e7d116da0bfaa99f2b1"), looks := false }, kinds := [], alts := [], laidByText := true, laidKinds := [.data, .data, .data, .data, .pinned, .pinned], laidTests := true, laidLooks := .later }
def ValueHandlesUptoCardSaid : Prop := Claim7.holds Tryz.pinned (.plain (OpenSpec.upto valueHandlesSpec)) valueHandlesUptoCard

/-- THE SECOND FORM's CARD OF 'scarflaw15.ValueTurns'. -/
def valueTurnsUptoCard : Claim7 := { stood := { row := valueTurnsUptoRow, standIns := [], harness := (true, "2598906f0db644f00ec3462df9a984b80afe3e8299948e7d116da0bfaa99f2b1"), looks := false }, kinds := [], alts := [], laidByText := true, laidKinds := [.data, .data, .data, .data, .pinned, .pinned], laidTests := true, laidLooks := .later }
def ValueTurnsUptoCardSaid : Prop := Claim7.holds Tryz.pinned (.plain (OpenSpec.upto valueTurnsSpec)) valueTurnsUptoCard
end Rows
end Go.Proofs.YtikgkjkgdlnekaaGreatDoor
