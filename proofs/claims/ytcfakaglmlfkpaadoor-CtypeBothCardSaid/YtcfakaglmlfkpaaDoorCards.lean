/-
  DERIVED. GIVEN WITH THE SEED: THE CARDS: each row of YtcfakaglmlfkpaaDoorRows.lean that lists a variable, with what it lists TIED to the program's text (the seventh form; the later family's looks); each row that meets fmt, with fmt's text TOLD by the authors' own Lean function (tested against real Go, not proved from fmt's source: count such statements apart). THE CARD IS WHAT COUNTS. Prove the row's statement (the work); the ties are given (YtcfakaglmlfkpaaDoorTie.lean); close each card by the builder's one call (the guide's Derived/Test/ToyasCard.lean, 'card_holds'). Laid BY PROGRAM, IN A SANDBOX (cutbox-door.mjs). By AI agents, Wed Nov 11 2026. No macro, syntax, notation, axiom, sorry.
-/
import Derived.Test.YtcfakaglmlfkpaaDoorRows
import GoSem.ClaimSeven
namespace Go.Proofs.YtcfakaglmlfkpaaDoor
namespace Rows

/-- THE TIED CARD OF 'scarflaw13.CtypeChecks'. -/
def ctypeChecksCard : Claim7 := { stood := { row := ctypeChecksRow, standIns := [], harness := (true, "c377e891d2de31a3ed92737287d908592893edca592bd24d7eaf014ca5e89986"), looks := false }, kinds := [], alts := [], laidByText := true, laidKinds := [.data, .data, .data], laidTests := true, laidLooks := .later }
def CtypeChecksCardSaid : Prop := Claim7.holds Tryd.pinned (.plain (OpenSpec.ofChange ctypeChecksSpec)) ctypeChecksCard

/-- THE TIED CARD OF 'scarflaw13.CtypePlain'. -/
def ctypePlainCard : Claim7 := { stood := { row := ctypePlainRow, standIns := [], harness := (true, "c377e891d2de31a3ed92737287d908592893edca592bd24d7eaf014ca5e89986"), looks := false }, kinds := [], alts := [], laidByText := true, laidKinds := [.data, .data, .data], laidTests := true, laidLooks := .later }
def CtypePlainCardSaid : Prop := Claim7.holds Tryd.pinned (.plain (OpenSpec.ofChange ctypePlainSpec)) ctypePlainCard

/-- THE TIED CARD OF 'scarflaw13.CtypeAligned'. -/
def ctypeAlignedCard : Claim7 := { stood := { row := ctypeAlignedRow, standIns := [], harness := (true, "c377e891d2de31a3ed92737287d908592893edca592bd24d7eaf014ca5e89986"), looks := false }, kinds := [], alts := [], laidByText := true, laidKinds := [.data, .data, .data], laidTests := true, laidLooks := .later }
def CtypeAlignedCardSaid : Prop := Claim7.holds Tryd.pinned (.plain (OpenSpec.ofChange ctypeAlignedSpec)) ctypeAlignedCard

/-- THE TIED CARD OF 'scarflaw13.CtypeCores'. -/
def ctypeCoresCard : Claim7 := { stood := { row := ctypeCoresRow, standIns := [], harness := (true, "c377e891d2de31a3ed92737287d908592893edca592bd24d7eaf014ca5e89986"), looks := false }, kinds := [], alts := [], laidByText := true, laidKinds := [.data, .data, .data], laidTests := true, laidLooks := .later }
def CtypeCoresCardSaid : Prop := Claim7.holds Tryd.pinned (.plain (OpenSpec.ofChange ctypeCoresSpec)) ctypeCoresCard

/-- THE TIED CARD OF 'scarflaw13.CtypeBoth'. -/
def ctypeBothCard : Claim7 := { stood := { row := ctypeBothRow, standIns := [], harness := (true, "c377e891d2de31a3ed92737287d908592893edca592bd24d7eaf014ca5e89986"), looks := false }, kinds := [], alts := [], laidByText := true, laidKinds := [.data, .data, .data], laidTests := true, laidLooks := .later }
def CtypeBothCardSaid : Prop := Claim7.holds Tryd.pinned (.plain (OpenSpec.ofChange ctypeBothSpec)) ctypeBothCard

/-- THE SECOND FORM's CARD OF 'scarflaw13.CtypeChecks'. -/
def ctypeChecksUptoCard : Claim7 := { stood := { row := ctypeChecksUptoRow, standIns := [], harness := (true, "c377e891d2de31a3ed92737287d908592893edca592bd24d7eaf014ca5e89986"), looks := false }, kinds := [], alts := [], laidByText := true, laidKinds := [.data, .data, .data], laidTests := true, laidLooks := .later }
def CtypeChecksUptoCardSaid : Prop := Claim7.holds Tryd.pinned (.plain (OpenSpec.upto ctypeChecksSpec)) ctypeChecksUptoCard

/-- THE SECOND FORM's CARD OF 'scarflaw13.CtypePlain'. -/
def ctypePlainUptoCard : Claim7 := { stood := { row := ctypePlainUptoRow, standIns := [], harness := (true, "c377e891d2de31a3ed92737287d908592893edca592bd24d7eaf014ca5e89986"), looks := false }, kinds := [], alts := [], laidByText := true, laidKinds := [.data, .data, .data], laidTests := true, laidLooks := .later }
def CtypePlainUptoCardSaid : Prop := Claim7.holds Tryd.pinned (.plain (OpenSpec.upto ctypePlainSpec)) ctypePlainUptoCard

/-- THE SECOND FORM's CARD OF 'scarflaw13.CtypeAligned'. -/
def ctypeAlignedUptoCard : Claim7 := { stood := { row := ctypeAlignedUptoRow, standIns := [], harness := (true, "c377e891d2de31a3ed92737287d908592893edca592bd24d7eaf014ca5e89986"), looks := false }, kinds := [], alts := [], laidByText := true, laidKinds := [.data, .data, .data], laidTests := true, laidLooks := .later }
def CtypeAlignedUptoCardSaid : Prop := Claim7.holds Tryd.pinned (.plain (OpenSpec.upto ctypeAlignedSpec)) ctypeAlignedUptoCard

/-- THE SECOND FORM's CARD OF 'scarflaw13.CtypeCores'. -/
def ctypeCoresUptoCard : Claim7 := { stood := { row := ctypeCoresUptoRow, standIns := [], harness := (true, "c377e891d2de31a3ed92737287d908592893edca592bd24d7eaf014ca5e89986"), looks := false }, kinds := [], alts := [], laidByText := true, laidKinds := [.data, .data, .data], laidTests := true, laidLooks := .later }
def CtypeCoresUptoCardSaid : Prop := Claim7.holds Tryd.pinned (.plain (OpenSpec.upto ctypeCoresSpec)) ctypeCoresUptoCard

/-- THE SECOND FORM's CARD OF 'scarflaw13.CtypeBoth'. -/
def ctypeBothUptoCard : Claim7 := { stood := { row := ctypeBothUptoRow, standIns := [], harness := (true, "c377e891d2de31a3ed92737287d908592893edca592bd24d7eaf014ca5e89986"), looks := false }, kinds := [], alts := [], laidByText := true, laidKinds := [.data, .data, .data], laidTests := true, laidLooks := .later }
def CtypeBothUptoCardSaid : Prop := Claim7.holds Tryd.pinned (.plain (OpenSpec.upto ctypeBothSpec)) ctypeBothUptoCard
end Rows
end Go.Proofs.YtcfakaglmlfkpaaDoor
