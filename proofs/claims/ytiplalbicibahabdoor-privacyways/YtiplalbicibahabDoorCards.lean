/-
  DERIVED. GIVEN WITH THE SEED: THE CARDS: each row of YtiplalbicibahabDoorRows.lean that lists a variable, with what it lists TIED to the program's text (the seventh form; the later family's looks); each row that meets fmt, with fmt's text TOLD by the authors' own Lean function (tested against real Go, not proved from fmt's source: count such statements apart). THE CARD IS WHAT COUNTS. Prove the row's statement (the work); the ties are given (YtiplalbicibahabDoorTie.lean); close each card by the builder's one call (the guide's Derived/Test/ToyasCard.lean, 'card_holds'). Laid BY PROGRAM, IN A SANDBOX (cutbox-door.mjs). By AI agents, Wed Nov 11 2026. No macro, syntax, notation, axiom, sorry.
-/
import Derived.Test.YtiplalbicibahabDoorRows
import GoSem.ClaimSeven
namespace Go.Proofs.YtiplalbicibahabDoor
namespace Rows

/-- THE TIED CARD OF 'roostlaw17.PrivacyWays'. -/
def privacyWaysCard : Claim7 := { stood := { row := privacyWaysRow, standIns := [], harness := (true, "a4b9a7e96b9ea87de826ee9c9549307cd249fb6fa6bd621ac724a6effc3afaab"), looks := true }, kinds := [], alts := [], laidByText := true, laidKinds := [.data, .pinned], laidTests := true, laidLooks := .later }
def PrivacyWaysCardSaid : Prop := Claim7.holds Tryd.pinned (.plain (OpenSpec.ofChange privacyWaysSpec)) privacyWaysCard

/-- THE SECOND FORM's CARD OF 'roostlaw17.PrivacyWays'. -/
def privacyWaysUptoCard : Claim7 := { stood := { row := privacyWaysUptoRow, standIns := [], harness := (true, "a4b9a7e96b9ea87de826ee9c9549307cd249fb6fa6bd621ac724a6effc3afaab"), looks := true }, kinds := [], alts := [], laidByText := true, laidKinds := [.data, .pinned], laidTests := true, laidLooks := .later }
def PrivacyWaysUptoCardSaid : Prop := Claim7.holds Tryd.pinned (.plain (OpenSpec.upto privacyWaysSpec)) privacyWaysUptoCard
end Rows
end Go.Proofs.YtiplalbicibahabDoor
