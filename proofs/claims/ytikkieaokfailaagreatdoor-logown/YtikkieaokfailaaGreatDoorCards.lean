/-
  DERIVED. GIVEN WITH THE SEED: THE CARDS: each row of YtikkieaokfailaaGreatDoorRows.lean that lists a variable, with what it lists TIED to the program's text (the seventh form; the later family's looks); each row that meets fmt, with fmt's text TOLD by the authors' own Lean function (tested against real Go, not proved from fmt's source: count such statements apart). THE CARD IS WHAT COUNTS. Prove the row's statement (the work); the ties are given (YtikkieaokfailaaGreatDoorTie.lean); close each card by the builder's one call (the guide's Derived/Test/ToyasCard.lean, 'card_holds'). Laid BY PROGRAM, IN A SANDBOX (cutbox-door.mjs). By AI agents, Wed Nov 11 2026. No macro, syntax, notation, axiom, sorry.
-/
import Derived.Test.YtikkieaokfailaaGreatDoorRows
import GoSem.ClaimSeven
namespace Go.Proofs.YtikkieaokfailaaGreatDoor
namespace Rows

/-- THE TIED CARD OF 'roostlaw11.LogExact'. -/
def logExactCard : Claim7 := { stood := { row := logExactRow, standIns := [], harness := (true, "13bb9278045975ef8aae02db113b0d5564c2c8f20338aa9ff0639d938d2f257b"), looks := true }, kinds := [], alts := [], laidByText := true, laidKinds := [.data, .data, .data], laidTests := true, laidLooks := .later }
def LogExactCardSaid : Prop := Claim7.holds Tryz.pinned (.plain (OpenSpec.ofChange logExactSpec)) logExactCard

/-- THE TIED CARD OF 'roostlaw11.LogRaw'. -/
def logRawCard : Claim7 := { stood := { row := logRawRow, standIns := [], harness := (true, "13bb9278045975ef8aae02db113b0d5564c2c8f20338aa9ff0639d938d2f257b"), looks := true }, kinds := [], alts := [], laidByText := true, laidKinds := [.data, .data, .data], laidTests := true, laidLooks := .later }
def LogRawCardSaid : Prop := Claim7.holds Tryz.pinned (.plain (OpenSpec.ofChange logRawSpec)) logRawCard

/-- THE TIED CARD OF 'roostlaw11.LogKeeps'. -/
def logKeepsCard : Claim7 := { stood := { row := logKeepsRow, standIns := [], harness := (true, "13bb9278045975ef8aae02db113b0d5564c2c8f20338aa9ff0639d938d2f257b"), looks := true }, kinds := [], alts := [], laidByText := true, laidKinds := [.data, .data, .data], laidTests := true, laidLooks := .later }
def LogKeepsCardSaid : Prop := Claim7.holds Tryz.pinned (.plain (OpenSpec.ofChange logKeepsSpec)) logKeepsCard

/-- THE TIED CARD OF 'roostlaw11.LogSwitch'. -/
def logSwitchCard : Claim7 := { stood := { row := logSwitchRow, standIns := [], harness := (true, "13bb9278045975ef8aae02db113b0d5564c2c8f20338aa9ff0639d938d2f257b"), looks := true }, kinds := [], alts := [], laidByText := true, laidKinds := [.data, .data, .data], laidTests := true, laidLooks := .later }
def LogSwitchCardSaid : Prop := Claim7.holds Tryz.pinned (.plain (OpenSpec.ofChange logSwitchSpec)) logSwitchCard

/-- THE TIED CARD OF 'roostlaw11.LogOwn'. -/
def logOwnCard : Claim7 := { stood := { row := logOwnRow, standIns := [], harness := (true, "13bb9278045975ef8aae02db113b0d5564c2c8f20338aa9ff0639d938d2f257b"), looks := true }, kinds := [], alts := [], laidByText := true, laidKinds := [.data, .data, .data], laidTests := true, laidLooks := .later }
def LogOwnCardSaid : Prop := Claim7.holds Tryz.pinned (.plain (OpenSpec.ofChange logOwnSpec)) logOwnCard

/-- THE TIED CARD OF 'roostlaw11.LogSizes'. -/
def logSizesCard : Claim7 := { stood := { row := logSizesRow, standIns := [], harness := (true, "13bb9278045975ef8aae02db113b0d5564c2c8f20338aa9ff0639d938d2f257b"), looks := true }, kinds := [], alts := [], laidByText := true, laidKinds := [.data, .data, .data], laidTests := true, laidLooks := .later }
def LogSizesCardSaid : Prop := Claim7.holds Tryz.pinned (.plain (OpenSpec.ofChange logSizesSpec)) logSizesCard

/-- THE SECOND FORM's CARD OF 'roostlaw11.LogExact'. -/
def logExactUptoCard : Claim7 := { stood := { row := logExactUptoRow, standIns := [], harness := (true, "13bb9278045975ef8aae02db113b0d5564c2c8f20338aa9ff0639d938d2f257b"), looks := true }, kinds := [], alts := [], laidByText := true, laidKinds := [.data, .data, .data], laidTests := true, laidLooks := .later }
def LogExactUptoCardSaid : Prop := Claim7.holds Tryz.pinned (.plain (OpenSpec.upto logExactSpec)) logExactUptoCard

/-- THE SECOND FORM's CARD OF 'roostlaw11.LogRaw'. -/
def logRawUptoCard : Claim7 := { stood := { row := logRawUptoRow, standIns := [], harness := (true, "13bb9278045975ef8aae02db113b0d5564c2c8f20338aa9ff0639d938d2f257b"), looks := true }, kinds := [], alts := [], laidByText := true, laidKinds := [.data, .data, .data], laidTests := true, laidLooks := .later }
def LogRawUptoCardSaid : Prop := Claim7.holds Tryz.pinned (.plain (OpenSpec.upto logRawSpec)) logRawUptoCard

/-- THE SECOND FORM's CARD OF 'roostlaw11.LogKeeps'. -/
def logKeepsUptoCard : Claim7 := { stood := { row := logKeepsUptoRow, standIns := [], harness := (true, "13bb9278045975ef8aae02db113b0d5564c2c8f20338aa9ff0639d938d2f257b"), looks := true }, kinds := [], alts := [], laidByText := true, laidKinds := [.data, .data, .data], laidTests := true, laidLooks := .later }
def LogKeepsUptoCardSaid : Prop := Claim7.holds Tryz.pinned (.plain (OpenSpec.upto logKeepsSpec)) logKeepsUptoCard

/-- THE SECOND FORM's CARD OF 'roostlaw11.LogSwitch'. -/
def logSwitchUptoCard : Claim7 := { stood := { row := logSwitchUptoRow, standIns := [], harness := (true, "13bb9278045975ef8aae02db113b0d5564c2c8f20338aa9ff0639d938d2f257b"), looks := true }, kinds := [], alts := [], laidByText := true, laidKinds := [.data, .data, .data], laidTests := true, laidLooks := .later }
def LogSwitchUptoCardSaid : Prop := Claim7.holds Tryz.pinned (.plain (OpenSpec.upto logSwitchSpec)) logSwitchUptoCard

/-- THE SECOND FORM's CARD OF 'roostlaw11.LogOwn'. -/
def logOwnUptoCard : Claim7 := { stood := { row := logOwnUptoRow, standIns := [], harness := (true, "13bb9278045975ef8aae02db113b0d5564c2c8f20338aa9ff0639d938d2f257b"), looks := true }, kinds := [], alts := [], laidByText := true, laidKinds := [.data, .data, .data], laidTests := true, laidLooks := .later }
def LogOwnUptoCardSaid : Prop := Claim7.holds Tryz.pinned (.plain (OpenSpec.upto logOwnSpec)) logOwnUptoCard

/-- THE SECOND FORM's CARD OF 'roostlaw11.LogSizes'. -/
def logSizesUptoCard : Claim7 := { stood := { row := logSizesUptoRow, standIns := [], harness := (true, "13bb9278045975ef8aae02db113b0d5564c2c8f20338aa9ff0639d938d2f257b"), looks := true }, kinds := [], alts := [], laidByText := true, laidKinds := [.data, .data, .data], laidTests := true, laidLooks := .later }
def LogSizesUptoCardSaid : Prop := Claim7.holds Tryz.pinned (.plain (OpenSpec.upto logSizesSpec)) logSizesUptoCard
end Rows
end Go.Proofs.YtikkieaokfailaaGreatDoor
