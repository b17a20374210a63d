/-
  DERIVED. GIVEN WITH THE SEED: THE CARDS: each row of YtikkieaokfailabGreatDoorRows.lean that lists a variable, with what it lists TIED to the program's text (the seventh form; the later family's looks); each row that meets fmt, with fmt's text TOLD by the authors' own Lean function (tested against real Go, not proved from fmt's source: count such statements apart). THE CARD IS WHAT COUNTS. Prove the row's statement (the work); the ties are given (YtikkieaokfailabGreatDoorTie.lean); close each card by the builder's one call (the guide's Derived/Test/ToyasCard.lean, 'card_holds'). Laid BY PROGRAM, IN A SANDBOX (cutbox-door.mjs). By AI agents, Wed Nov 11 2026. No macro, syntax, notation, axiom, sorry.
-/
import Derived.Test.YtikkieaokfailabGreatDoorRows
import GoSem.ClaimSeven
namespace Go.Proofs.YtikkieaokfailabGreatDoor
namespace Rows

/-- THE TIED CARD OF 'roostlaw11.LogTorn'. -/
def logTornCard : Claim7 := { stood := { row := logTornRow, standIns := [], harness := (true, "e8a3f174f97e34ff1d7d9394face6ec81e8b329c66030a39f969f66c8a5ae846"), looks := true }, kinds := [], alts := [], laidByText := true, laidKinds := [.data, .data, .data], laidTests := true, laidLooks := .later }
def LogTornCardSaid : Prop := Claim7.holds Tryz.pinned (.plain (OpenSpec.ofChange logTornSpec)) logTornCard

/-- THE SECOND FORM's CARD OF 'roostlaw11.LogTorn'. -/
def logTornUptoCard : Claim7 := { stood := { row := logTornUptoRow, standIns := [], harness := (true, "e8a3f174f97e34ff1d7d9394face6ec81e8b329c66030a39f969f66c8a5ae846"), looks := true }, kinds := [], alts := [], laidByText := true, laidKinds := [.data, .data, .data], laidTests := true, laidLooks := .later }
def LogTornUptoCardSaid : Prop := Claim7.holds Tryz.pinned (.plain (OpenSpec.upto logTornSpec)) logTornUptoCard
end Rows
end Go.Proofs.YtikkieaokfailabGreatDoor
