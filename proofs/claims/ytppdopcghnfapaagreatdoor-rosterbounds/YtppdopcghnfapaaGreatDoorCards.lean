/-
  DERIVED. GIVEN WITH THE SEED: THE CARDS: each row of YtppdopcghnfapaaGreatDoorRows.lean that lists a variable, with what it lists TIED to the program's text (the seventh form; the later family's looks); each row that meets fmt, with fmt's text TOLD by the authors' own Lean function (tested against real Go, not proved from fmt's source: count such statements apart). THE CARD IS WHAT COUNTS. Prove the row's statement (the work); the ties are given (YtppdopcghnfapaaGreatDoorTie.lean); close each card by the builder's one call (the guide's Derived/Test/ToyasCard.lean, 'card_holds'). Laid BY PROGRAM, IN A SANDBOX (cutbox-door.mjs). By AI agents, Wed Nov 11 2026. No macro, syntax, notation, axiom, sorry.
-/
import Derived.Test.YtppdopcghnfapaaGreatDoorRows
import GoSem.ClaimSeven
namespace Go.Proofs.YtppdopcghnfapaaGreatDoor
namespace Rows

/-- THE TIED CARD OF 'roostlaw16.RosterExact'. -/
def rosterExactCard : Claim7 := { stood := { row := rosterExactRow, standIns := [], harness := (true, "8d7384debd9cae9411e6070352f89f290a05cdf32eda4b695f977b180448de21"), looks := true }, kinds := [], alts := [], laidByText := true, laidKinds := [.data, .pinned], laidTests := true, laidLooks := .later }
def RosterExactCardSaid : Prop := Claim7.holds Tryz.pinned (.plain (OpenSpec.ofChange rosterExactSpec)) rosterExactCard

/-- THE TIED CARD OF 'roostlaw16.RosterLoad'. -/
def rosterLoadCard : Claim7 := { stood := { row := rosterLoadRow, standIns := [], harness := (true, "8d7384debd9cae9411e6070352f89f290a05cdf32eda4b695f977b180448de21"), looks := true }, kinds := [], alts := [], laidByText := true, laidKinds := [.data, .data, .pinned], laidTests := true, laidLooks := .later }
def RosterLoadCardSaid : Prop := Claim7.holds Tryz.pinned (.plain (OpenSpec.ofChange rosterLoadSpec)) rosterLoadCard

/-- THE TIED CARD OF 'roostlaw16.RosterBounds'. -/
def rosterBoundsCard : Claim7 := { stood := { row := rosterBoundsRow, standIns := [], harness := (true, "8d7384debd9cae9411e6070352f89f290a05cdf32eda4b695f977b180448de21"), looks := true }, kinds := [], alts := [], laidByText := true, laidKinds := [.data, .pinned], laidTests := true, laidLooks := .later }
def RosterBoundsCardSaid : Prop := Claim7.holds Tryz.pinned (.plain (OpenSpec.ofChange rosterBoundsSpec)) rosterBoundsCard

/-- THE TIED CARD OF 'roostlaw16.RosterOwn'. -/
def rosterOwnCard : Claim7 := { stood := { row := rosterOwnRow, standIns := [], harness := (true, "8d7384debd9cae9411e6070352f89f290a05cdf32eda4b695f977b180448de21"), looks := true }, kinds := [], alts := [], laidByText := true, laidKinds := [.data, .data, .pinned], laidTests := true, laidLooks := .later }
def RosterOwnCardSaid : Prop := Claim7.holds Tryz.pinned (.plain (OpenSpec.ofChange rosterOwnSpec)) rosterOwnCard

/-- THE SECOND FORM's CARD OF 'roostlaw16.RosterExact'. -/
def rosterExactUptoCard : Claim7 := { stood := { row := rosterExactUptoRow, standIns := [], harness := (true, "8d7384debd9cae9411e6070352f89f290a05cdf32eda4b695f977b180448de21"), looks := true }, kinds := [], alts := [], laidByText := true, laidKinds := [.data, .pinned], laidTests := true, laidLooks := .later }
def RosterExactUptoCardSaid : Prop := Claim7.holds Tryz.pinned (.plain (OpenSpec.upto rosterExactSpec)) rosterExactUptoCard

/-- THE SECOND FORM's CARD OF 'roostlaw16.RosterLoad'. -/
def rosterLoadUptoCard : Claim7 := { stood := { row := rosterLoadUptoRow, standIns := [], harness := (true, "8d7384debd9cae9411e6070352f89f290a05cdf32eda4b695f977b180448de21"), looks := true }, kinds := [], alts := [], laidByText := true, laidKinds := [.data, .data, .pinned], laidTests := true, laidLooks := .later }
def RosterLoadUptoCardSaid : Prop := Claim7.holds Tryz.pinned (.plain (OpenSpec.upto rosterLoadSpec)) rosterLoadUptoCard

/-- THE SECOND FORM's CARD OF 'roostlaw16.RosterBounds'. -/
def rosterBoundsUptoCard : Claim7 := { stood := { row := rosterBoundsUptoRow, standIns := [], harness := (true, "8d7384debd9cae9411e6070352f89f290a05cdf32eda4b695f977b180448de21"), looks := true }, kinds := [], alts := [], laidByText := true, laidKinds := [.data, .pinned], laidTests := true, laidLooks := .later }
def RosterBoundsUptoCardSaid : Prop := Claim7.holds Tryz.pinned (.plain (OpenSpec.upto rosterBoundsSpec)) rosterBoundsUptoCard

/-- THE SECOND FORM's CARD OF 'roostlaw16.RosterOwn'. -/
def rosterOwnUptoCard : Claim7 := { stood := { row := rosterOwnUptoRow, standIns := [], harness := (true, "8d7384debd9cae9411e6070352f89f290a05cdf32eda4b695f977b180448de21"), looks := true }, kinds := [], alts := [], laidByText := true, laidKinds := [.data, .data, .pinned], laidTests := true, laidLooks := .later }
def RosterOwnUptoCardSaid : Prop := Claim7.holds Tryz.pinned (.plain (OpenSpec.upto rosterOwnSpec)) rosterOwnUptoCard
end Rows
end Go.Proofs.YtppdopcghnfapaaGreatDoor
