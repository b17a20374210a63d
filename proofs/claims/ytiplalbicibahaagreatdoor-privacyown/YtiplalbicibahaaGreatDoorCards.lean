/-
  DERIVED. GIVEN WITH THE SEED: THE CARDS: each row of YtiplalbicibahaaGreatDoorRows.lean that lists a variable, with what it lists TIED to the program's text (the seventh form; the later family's looks); each row that meets fmt, with fmt's text TOLD by the authors' own Lean function (tested against real Go, not proved from fmt's source: count such statements apart). THE CARD IS WHAT COUNTS. Prove the row's statement (the work); the ties are given (YtiplalbicibahaaGreatDoorTie.lean); close each card by the builder's one call (the guide's Derived/Test/ToyasCard.lean, 'card_holds'). Laid BY PROGRAM, IN A SANDBOX (cutbox-door.mjs). By AI agents, Wed Nov 11 2026. No macro, syntax, notation, axiom, sorry.
-/
import Derived.Test.YtiplalbicibahaaGreatDoorRows
import GoSem.ClaimSeven
namespace Go.Proofs.YtiplalbicibahaaGreatDoor
namespace Rows

/-- THE TIED CARD OF 'roostlaw17.PrivacyExact'. -/
def privacyExactCard : Claim7 := { stood := { row := privacyExactRow, standIns := [], harness := (true, "ed7be28d98d643189245329b0c37d3d0dc7213a7fdd5c0c68b9450d83ecdcbae"), looks := true }, kinds := [], alts := [], laidByText := true, laidKinds := [.data, .pinned], laidTests := true, laidLooks := .later }
def PrivacyExactCardSaid : Prop := Claim7.holds Tryz.pinned (.plain (OpenSpec.ofChange privacyExactSpec)) privacyExactCard

/-- THE TIED CARD OF 'roostlaw17.PrivacyLoad'. -/
def privacyLoadCard : Claim7 := { stood := { row := privacyLoadRow, standIns := [], harness := (true, "ed7be28d98d643189245329b0c37d3d0dc7213a7fdd5c0c68b9450d83ecdcbae"), looks := true }, kinds := [], alts := [], laidByText := true, laidKinds := [.data, .pinned], laidTests := true, laidLooks := .later }
def PrivacyLoadCardSaid : Prop := Claim7.holds Tryz.pinned (.plain (OpenSpec.ofChange privacyLoadSpec)) privacyLoadCard

/-- THE TIED CARD OF 'roostlaw17.PrivacyOwn'. -/
def privacyOwnCard : Claim7 := { stood := { row := privacyOwnRow, standIns := [], harness := (true, "ed7be28d98d643189245329b0c37d3d0dc7213a7fdd5c0c68b9450d83ecdcbae"), looks := true }, kinds := [], alts := [], laidByText := true, laidKinds := [.data, .pinned], laidTests := true, laidLooks := .later }
def PrivacyOwnCardSaid : Prop := Claim7.holds Tryz.pinned (.plain (OpenSpec.ofChange privacyOwnSpec)) privacyOwnCard

/-- THE SECOND FORM's CARD OF 'roostlaw17.PrivacyExact'. -/
def privacyExactUptoCard : Claim7 := { stood := { row := privacyExactUptoRow, standIns := [], harness := (true, "ed7be28d98d643189245329b0c37d3d0dc7213a7fdd5c0c68b9450d83ecdcbae"), looks := true }, kinds := [], alts := [], laidByText := true, laidKinds := [.data, .pinned], laidTests := true, laidLooks := .later }
def PrivacyExactUptoCardSaid : Prop := Claim7.holds Tryz.pinned (.plain (OpenSpec.upto privacyExactSpec)) privacyExactUptoCard

/-- THE SECOND FORM's CARD OF 'roostlaw17.PrivacyLoad'. -/
def privacyLoadUptoCard : Claim7 := { stood := { row := privacyLoadUptoRow, standIns := [], harness := (true, "ed7be28d98d643189245329b0c37d3d0dc7213a7fdd5c0c68b9450d83ecdcbae"), looks := true }, kinds := [], alts := [], laidByText := true, laidKinds := [.data, .pinned], laidTests := true, laidLooks := .later }
def PrivacyLoadUptoCardSaid : Prop := Claim7.holds Tryz.pinned (.plain (OpenSpec.upto privacyLoadSpec)) privacyLoadUptoCard

/-- THE SECOND FORM's CARD OF 'roostlaw17.PrivacyOwn'. -/
def privacyOwnUptoCard : Claim7 := { stood := { row := privacyOwnUptoRow, standIns := [], harness := (true, "ed7be28d98d643189245329b0c37d3d0dc7213a7fdd5c0c68b9450d83ecdcbae"), looks := true }, kinds := [], alts := [], laidByText := true, laidKinds := [.data, .pinned], laidTests := true, laidLooks := .later }
def PrivacyOwnUptoCardSaid : Prop := Claim7.holds Tryz.pinned (.plain (OpenSpec.upto privacyOwnSpec)) privacyOwnUptoCard
end Rows
end Go.Proofs.YtiplalbicibahaaGreatDoor
