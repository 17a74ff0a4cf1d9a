/-
  DERIVED. GIVEN WITH THE SEED: THE CARDS: each row of YtbcaindpbeaheaaGreatDoorRows.lean that lists a variable, with what it lists TIED to the program's text (the seventh form; the later family's looks); each row that meets fmt, with fmt's text TOLD by the authors' own Lean function (tested against real Go, not proved from fmt's source: count such statements apart). THE CARD IS WHAT COUNTS. Prove the row's statement (the work); the ties are given (YtbcaindpbeaheaaGreatDoorTie.lean); close each card by the builder's one call (the guide's Derived/Test/ToyasCard.lean, 'card_holds'). Laid BY PROGRAM, IN A SANDBOX (cutbox-door.mjs). By AI agents, Wed Nov 11 2026. No macro, syntax, notation, axiom, sorry.
-/
import Derived.Test.YtbcaindpbeaheaaGreatDoorRows
import GoSem.ClaimSeven
namespace Go.Proofs.YtbcaindpbeaheaaGreatDoor
namespace Rows

/-- THE TIED CARD OF 'dialtonelaw03.HeaderStable'. -/
def headerStableCard : Claim7 := { stood := { row := headerStableRow, standIns := [], harness := (true, "8c39aaaec4d847a18cb35deac833efe345787a5c9d9e81bd71b377e7119a54d3"), looks := false }, kinds := [], alts := [], laidByText := true, laidKinds := [.data, .data, .data, .data, .data, .data, .data, .data, .pinned], laidTests := true, laidLooks := .later }
def HeaderStableCardSaid : Prop := Claim7.holds Tryz.pinned (.plain (OpenSpec.ofChange headerStableSpec)) headerStableCard

/-- THE SECOND FORM's CARD OF 'dialtonelaw03.HeaderStable'. -/
def headerStableUptoCard : Claim7 := { stood := { row := headerStableUptoRow, standIns := [], harness := (true, "8c39aaaec4d847a18cb35deac833efe345787a5c9d9e81bd71b377e7119a54d3"), looks := false }, kinds := [], alts := [], laidByText := true, laidKinds := [.data, .data, .data, .data, .data, .data, .data, .data, .pinned], laidTests := true, laidLooks := .later }
def HeaderStableUptoCardSaid : Prop := Claim7.holds Tryz.pinned (.plain (OpenSpec.upto headerStableSpec)) headerStableUptoCard
end Rows
end Go.Proofs.YtbcaindpbeaheaaGreatDoor
