/-
  DERIVED. GIVEN WITH THE SEED: THE CARDS: each row of YtmilcknboaefkaaDoorRows.lean that lists a variable, with what it lists TIED to the program's text (the seventh form; the later family's looks); each row that meets fmt, with fmt's text TOLD by the authors' own Lean function (tested against real Go, not proved from fmt's source: count such statements apart). THE CARD IS WHAT COUNTS. Prove the row's statement (the work); the ties are given (YtmilcknboaefkaaDoorTie.lean); close each card by the builder's one call (the guide's Derived/Test/ToyasCard.lean, 'card_holds'). Laid BY PROGRAM, IN A SANDBOX (cutbox-door.mjs). By AI agents, Wed Nov 11 2026. No macro, syntax, notation, axiom, sorry.
-/
import Derived.Test.YtmilcknboaefkaaDoorRows
import GoSem.ClaimSeven
namespace Go.Proofs.YtmilcknboaefkaaDoor
namespace Rows

/-- THE TIED CARD OF 'roostlaw07.ScramReads'. -/
def scramReadsCard : Claim7 := { stood := { row := scramReadsRow, standIns := [], harness := (true, "2571818e4dce2e0b8c18263c743c8bb5fcdfcee066645ee9813be18afef34f2b"), looks := true }, kinds := [], alts := [], laidByText := true, laidKinds := [.data, .pinned], laidTests := true, laidLooks := .later }
def ScramReadsCardSaid : Prop := Claim7.holds Tryd.pinned (.plain (OpenSpec.ofChange scramReadsSpec)) scramReadsCard

/-- THE SECOND FORM's CARD OF 'roostlaw07.ScramReads'. -/
def scramReadsUptoCard : Claim7 := { stood := { row := scramReadsUptoRow, standIns := [], harness := (true, "2571818e4dce2e0b8c18263c743c8bb5fcdfcee066645ee9813be18afef34f2b"), looks := true }, kinds := [], alts := [], laidByText := true, laidKinds := [.data, .pinned], laidTests := true, laidLooks := .later }
def ScramReadsUptoCardSaid : Prop := Claim7.holds Tryd.pinned (.plain (OpenSpec.upto scramReadsSpec)) scramReadsUptoCard
end Rows
end Go.Proofs.YtmilcknboaefkaaDoor
