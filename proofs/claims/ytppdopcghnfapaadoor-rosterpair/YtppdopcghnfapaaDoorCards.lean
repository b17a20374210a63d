/-
  DERIVED. GIVEN WITH THE SEED: THE CARDS: each row of YtppdopcghnfapaaDoorRows.lean that lists a variable, with what it lists TIED to the program's text (the seventh form; the later family's looks); each row that meets fmt, with fmt's text TOLD by the authors' own Lean function (tested against real Go, not proved from fmt's source: count such statements apart). THE CARD IS WHAT COUNTS. Prove the row's statement (the work); the ties are given (YtppdopcghnfapaaDoorTie.lean); close each card by the builder's one call (the guide's Derived/Test/ToyasCard.lean, 'card_holds'). Laid BY PROGRAM, IN A SANDBOX (cutbox-door.mjs). By AI agents, Wed Nov 11 2026. No macro, syntax, notation, axiom, sorry.
-/
import Derived.Test.YtppdopcghnfapaaDoorRows
import GoSem.ClaimSeven
namespace Go.Proofs.YtppdopcghnfapaaDoor
namespace Rows

/-- THE TIED CARD OF 'roostlaw16.RosterPair'. -/
def rosterPairCard : Claim7 := { stood := { row := rosterPairRow, standIns := [], harness := (true, "d72f0de49f768d2051ff6cd804e1608f8918640558345acd06f1b3d7ca7ef618"), looks := true }, kinds := [], alts := [], laidByText := true, laidKinds := [.data, .pinned], laidTests := true, laidLooks := .later }
def RosterPairCardSaid : Prop := Claim7.holds Tryd.pinned (.plain (OpenSpec.ofChange rosterPairSpec)) rosterPairCard

/-- THE SECOND FORM's CARD OF 'roostlaw16.RosterPair'. -/
def rosterPairUptoCard : Claim7 := { stood := { row := rosterPairUptoRow, standIns := [], harness := (true, "d72f0de49f768d2051ff6cd804e1608f8918640558345acd06f1b3d7ca7ef618"), looks := true }, kinds := [], alts := [], laidByText := true, laidKinds := [.data, .pinned], laidTests := true, laidLooks := .later }
def RosterPairUptoCardSaid : Prop := Claim7.holds Tryd.pinned (.plain (OpenSpec.upto rosterPairSpec)) rosterPairUptoCard
end Rows
end Go.Proofs.YtppdopcghnfapaaDoor
