/-
  DERIVED. GIVEN WITH THE SEED: THE CARDS: each row of YtgijofcnknehdaaDoorRows.lean that lists a variable, with what it lists TIED to the program's text (the seventh form; the later family's looks); each row that meets fmt, with fmt's text TOLD by the authors' own Lean function (tested against real Go, not proved from fmt's source: count such statements apart). THE CARD IS WHAT COUNTS. Prove the row's statement (the work); the ties are given (YtgijofcnknehdaaDoorTie.lean); close each card by the builder's one call (the guide's Derived/Test/ToyasCard.lean, 'card_holds'). Laid BY PROGRAM, IN A SANDBOX (cutbox-door.mjs). By AI agents, Wed Nov 11 2026. No macro, syntax, notation, axiom, sorry.
-/
import Derived.Test.YtgijofcnknehdaaDoorRows
import GoSem.ClaimSeven
namespace Go.Proofs.YtgijofcnknehdaaDoor
namespace Rows

/-- THE TIED CARD OF 'roostlaw15.SubsTables'. -/
def subsTablesCard : Claim7 := { stood := { row := subsTablesRow, standIns := [], harness := (true, "536d61da9b5d4af13a9d658a5c2d076f31a09c1799fc67df29730dbb2b138e29"), looks := true }, kinds := [], alts := [], laidByText := true, laidKinds := [.data, .data], laidTests := true, laidLooks := .later }
def SubsTablesCardSaid : Prop := Claim7.holds Tryd.pinned (.plain (OpenSpec.ofChange subsTablesSpec)) subsTablesCard

/-- THE TIED CARD OF 'roostlaw15.SubsAgree'. -/
def subsAgreeCard : Claim7 := { stood := { row := subsAgreeRow, standIns := [], harness := (true, "536d61da9b5d4af13a9d658a5c2d076f31a09c1799fc67df29730dbb2b138e29"), looks := true }, kinds := [], alts := [], laidByText := true, laidKinds := [.data], laidTests := true, laidLooks := .later }
def SubsAgreeCardSaid : Prop := Claim7.holds Tryd.pinned (.plain (OpenSpec.ofChange subsAgreeSpec)) subsAgreeCard

/-- THE TIED CARD OF 'roostlaw15.SubsRight'. -/
def subsRightCard : Claim7 := { stood := { row := subsRightRow, standIns := [], harness := (true, "536d61da9b5d4af13a9d658a5c2d076f31a09c1799fc67df29730dbb2b138e29"), looks := true }, kinds := [], alts := [], laidByText := true, laidKinds := [.data, .data], laidTests := true, laidLooks := .later }
def SubsRightCardSaid : Prop := Claim7.holds Tryd.pinned (.plain (OpenSpec.ofChange subsRightSpec)) subsRightCard

/-- THE SECOND FORM's CARD OF 'roostlaw15.SubsTables'. -/
def subsTablesUptoCard : Claim7 := { stood := { row := subsTablesUptoRow, standIns := [], harness := (true, "536d61da9b5d4af13a9d658a5c2d076f31a09c1799fc67df29730dbb2b138e29"), looks := true }, kinds := [], alts := [], laidByText := true, laidKinds := [.data, .data], laidTests := true, laidLooks := .later }
def SubsTablesUptoCardSaid : Prop := Claim7.holds Tryd.pinned (.plain (OpenSpec.upto subsTablesSpec)) subsTablesUptoCard

/-- THE SECOND FORM's CARD OF 'roostlaw15.SubsAgree'. -/
def subsAgreeUptoCard : Claim7 := { stood := { row := subsAgreeUptoRow, standIns := [], harness := (true, "536d61da9b5d4af13a9d658a5c2d076f31a09c1799fc67df29730dbb2b138e29"), looks := true }, kinds := [], alts := [], laidByText := true, laidKinds := [.data], laidTests := true, laidLooks := .later }
def SubsAgreeUptoCardSaid : Prop := Claim7.holds Tryd.pinned (.plain (OpenSpec.upto subsAgreeSpec)) subsAgreeUptoCard

/-- THE SECOND FORM's CARD OF 'roostlaw15.SubsRight'. -/
def subsRightUptoCard : Claim7 := { stood := { row := subsRightUptoRow, standIns := [], harness := (true, "536d61da9b5d4af13a9d658a5c2d076f31a09c1799fc67df29730dbb2b138e29"), looks := true }, kinds := [], alts := [], laidByText := true, laidKinds := [.data, .data], laidTests := true, laidLooks := .later }
def SubsRightUptoCardSaid : Prop := Claim7.holds Tryd.pinned (.plain (OpenSpec.upto subsRightSpec)) subsRightUptoCard
end Rows
end Go.Proofs.YtgijofcnknehdaaDoor
