/-
  DERIVED. GIVEN WITH THE SEED: THE CARDS: each row of YtiidjdedeenijaaDoorRows.lean that lists a variable, with what it lists TIED to the program's text (the seventh form; the later family's looks); each row that meets fmt, with fmt's text TOLD by the authors' own Lean function (tested against real Go, not proved from fmt's source: count such statements apart). THE CARD IS WHAT COUNTS. Prove the row's statement (the work); the ties are given (YtiidjdedeenijaaDoorTie.lean); close each card by the builder's one call (the guide's Derived/Test/ToyasCard.lean, 'card_holds'). Laid BY PROGRAM, IN A SANDBOX (cutbox-door.mjs). By AI agents, Wed Nov 11 2026. No macro, syntax, notation, axiom, sorry.
-/
import Derived.Test.YtiidjdedeenijaaDoorRows
import GoSem.ClaimSeven
namespace Go.Proofs.YtiidjdedeenijaaDoor
namespace Rows

/-- THE TIED CARD OF 'roostlaw08.CredsMake'. -/
def credsMakeCard : Claim7 := { stood := { row := credsMakeRow, standIns := [], harness := (true, "7b2d9da522e68a5341075faab4cd0e79ecf48b93dab890f760f71ace6759bd10"), looks := true }, kinds := [], alts := [], laidByText := true, laidKinds := [.data, .data, .data, .pinned], laidTests := true, laidLooks := .later }
def CredsMakeCardSaid : Prop := Claim7.holds Tryd.pinned (.plain (OpenSpec.ofChange credsMakeSpec)) credsMakeCard

/-- THE TIED CARD OF 'roostlaw08.CredsCodes'. -/
def credsCodesCard : Claim7 := { stood := { row := credsCodesRow, standIns := [], harness := (true, "7b2d9da522e68a5341075faab4cd0e79ecf48b93dab890f760f71ace6759bd10"), looks := true }, kinds := [], alts := [], laidByText := true, laidKinds := [.data, .pinned], laidTests := true, laidLooks := .later }
def CredsCodesCardSaid : Prop := Claim7.holds Tryd.pinned (.plain (OpenSpec.ofChange credsCodesSpec)) credsCodesCard

/-- THE TIED CARD OF 'roostlaw08.CredsBack'. -/
def credsBackCard : Claim7 := { stood := { row := credsBackRow, standIns := [], harness := (true, "7b2d9da522e68a5341075faab4cd0e79ecf48b93dab890f760f71ace6759bd10"), looks := true }, kinds := [], alts := [], laidByText := true, laidKinds := [.data, .pinned], laidTests := true, laidLooks := .later }
def CredsBackCardSaid : Prop := Claim7.holds Tryd.pinned (.plain (OpenSpec.ofChange credsBackSpec)) credsBackCard

/-- THE SECOND FORM's CARD OF 'roostlaw08.CredsMake'. -/
def credsMakeUptoCard : Claim7 := { stood := { row := credsMakeUptoRow, standIns := [], harness := (true, "7b2d9da522e68a5341075faab4cd0e79ecf48b93dab890f760f71ace6759bd10"), looks := true }, kinds := [], alts := [], laidByText := true, laidKinds := [.data, .data, .data, .pinned], laidTests := true, laidLooks := .later }
def CredsMakeUptoCardSaid : Prop := Claim7.holds Tryd.pinned (.plain (OpenSpec.upto credsMakeSpec)) credsMakeUptoCard

/-- THE SECOND FORM's CARD OF 'roostlaw08.CredsCodes'. -/
def credsCodesUptoCard : Claim7 := { stood := { row := credsCodesUptoRow, standIns := [], harness := (true, "7b2d9da522e68a5341075faab4cd0e79ecf48b93dab890f760f71ace6759bd10"), looks := true }, kinds := [], alts := [], laidByText := true, laidKinds := [.data, .pinned], laidTests := true, laidLooks := .later }
def CredsCodesUptoCardSaid : Prop := Claim7.holds Tryd.pinned (.plain (OpenSpec.upto credsCodesSpec)) credsCodesUptoCard

/-- THE SECOND FORM's CARD OF 'roostlaw08.CredsBack'. -/
def credsBackUptoCard : Claim7 := { stood := { row := credsBackUptoRow, standIns := [], harness := (true, "7b2d9da522e68a5341075faab4cd0e79ecf48b93dab890f760f71ace6759bd10"), looks := true }, kinds := [], alts := [], laidByText := true, laidKinds := [.data, .pinned], laidTests := true, laidLooks := .later }
def CredsBackUptoCardSaid : Prop := Claim7.holds Tryd.pinned (.plain (OpenSpec.upto credsBackSpec)) credsBackUptoCard
end Rows
end Go.Proofs.YtiidjdedeenijaaDoor
