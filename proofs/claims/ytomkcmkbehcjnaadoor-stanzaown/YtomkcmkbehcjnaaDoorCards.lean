/-
  DERIVED. GIVEN WITH THE SEED: THE CARDS: each row of YtomkcmkbehcjnaaDoorRows.lean that lists a variable, with what it lists TIED to the program's text (the seventh form; the later family's looks); each row that meets fmt, with fmt's text TOLD by the authors' own Lean function (tested against real Go, not proved from fmt's source: count such statements apart). THE CARD IS WHAT COUNTS. Prove the row's statement (the work); the ties are given (YtomkcmkbehcjnaaDoorTie.lean); close each card by the builder's one call (the guide's Derived/Test/ToyasCard.lean, 'card_holds'). Laid BY PROGRAM, IN A SANDBOX (cutbox-door.mjs). By AI agents, Wed Nov 11 2026. No macro, syntax, notation, axiom, sorry.
-/
import Derived.Test.YtomkcmkbehcjnaaDoorRows
import GoSem.ClaimSeven
namespace Go.Proofs.YtomkcmkbehcjnaaDoor
namespace Rows

/-- THE TIED CARD OF 'roostlaw04.StanzaWrite'. -/
def stanzaWriteCard : Claim7 := { stood := { row := stanzaWriteRow, standIns := [], harness := (true, "8b12ac3f6ae86acb85b506bc84a2ec8e2e61b77951e836df60e9c9e7d38cecfe"), looks := true }, kinds := [], alts := [], laidByText := true, laidKinds := [.data, .data, .data, .pinned], laidTests := true, laidLooks := .later }
def StanzaWriteCardSaid : Prop := Claim7.holds Tryd.pinned (.plain (OpenSpec.ofChange stanzaWriteSpec)) stanzaWriteCard

/-- THE TIED CARD OF 'roostlaw04.StanzaRead'. -/
def stanzaReadCard : Claim7 := { stood := { row := stanzaReadRow, standIns := [], harness := (true, "8b12ac3f6ae86acb85b506bc84a2ec8e2e61b77951e836df60e9c9e7d38cecfe"), looks := true }, kinds := [], alts := [], laidByText := true, laidKinds := [.data, .data, .data, .pinned], laidTests := true, laidLooks := .later }
def StanzaReadCardSaid : Prop := Claim7.holds Tryd.pinned (.plain (OpenSpec.ofChange stanzaReadSpec)) stanzaReadCard

/-- THE TIED CARD OF 'roostlaw04.StanzaBack'. -/
def stanzaBackCard : Claim7 := { stood := { row := stanzaBackRow, standIns := [], harness := (true, "8b12ac3f6ae86acb85b506bc84a2ec8e2e61b77951e836df60e9c9e7d38cecfe"), looks := true }, kinds := [], alts := [], laidByText := true, laidKinds := [.data, .data, .data, .pinned], laidTests := true, laidLooks := .later }
def StanzaBackCardSaid : Prop := Claim7.holds Tryd.pinned (.plain (OpenSpec.ofChange stanzaBackSpec)) stanzaBackCard

/-- THE TIED CARD OF 'roostlaw04.StanzaOwn'. -/
def stanzaOwnCard : Claim7 := { stood := { row := stanzaOwnRow, standIns := [], harness := (true, "8b12ac3f6ae86acb85b506bc84a2ec8e2e61b77951e836df60e9c9e7d38cecfe"), looks := true }, kinds := [], alts := [], laidByText := true, laidKinds := [.data, .data, .data, .pinned], laidTests := true, laidLooks := .later }
def StanzaOwnCardSaid : Prop := Claim7.holds Tryd.pinned (.plain (OpenSpec.ofChange stanzaOwnSpec)) stanzaOwnCard

/-- THE TIED CARD OF 'roostlaw04.StanzaParts'. -/
def stanzaPartsCard : Claim7 := { stood := { row := stanzaPartsRow, standIns := [], harness := (true, "8b12ac3f6ae86acb85b506bc84a2ec8e2e61b77951e836df60e9c9e7d38cecfe"), looks := true }, kinds := [], alts := [], laidByText := true, laidKinds := [.data, .data, .data, .pinned], laidTests := true, laidLooks := .later }
def StanzaPartsCardSaid : Prop := Claim7.holds Tryd.pinned (.plain (OpenSpec.ofChange stanzaPartsSpec)) stanzaPartsCard

/-- THE SECOND FORM's CARD OF 'roostlaw04.StanzaWrite'. -/
def stanzaWriteUptoCard : Claim7 := { stood := { row := stanzaWriteUptoRow, standIns := [], harness := (true, "8b12ac3f6ae86acb85b506bc84a2ec8e2e61b77951e836df60e9c9e7d38cecfe"), looks := true }, kinds := [], alts := [], laidByText := true, laidKinds := [.data, .data, .data, .pinned], laidTests := true, laidLooks := .later }
def StanzaWriteUptoCardSaid : Prop := Claim7.holds Tryd.pinned (.plain (OpenSpec.upto stanzaWriteSpec)) stanzaWriteUptoCard

/-- THE SECOND FORM's CARD OF 'roostlaw04.StanzaRead'. -/
def stanzaReadUptoCard : Claim7 := { stood := { row := stanzaReadUptoRow, standIns := [], harness := (true, "8b12ac3f6ae86acb85b506bc84a2ec8e2e61b77951e836df60e9c9e7d38cecfe"), looks := true }, kinds := [], alts := [], laidByText := true, laidKinds := [.data, .data, .data, .pinned], laidTests := true, laidLooks := .later }
def StanzaReadUptoCardSaid : Prop := Claim7.holds Tryd.pinned (.plain (OpenSpec.upto stanzaReadSpec)) stanzaReadUptoCard

/-- THE SECOND FORM's CARD OF 'roostlaw04.StanzaBack'. -/
def stanzaBackUptoCard : Claim7 := { stood := { row := stanzaBackUptoRow, standIns := [], harness := (true, "8b12ac3f6ae86acb85b506bc84a2ec8e2e61b77951e836df60e9c9e7d38cecfe"), looks := true }, kinds := [], alts := [], laidByText := true, laidKinds := [.data, .data, .data, .pinned], laidTests := true, laidLooks := .later }
def StanzaBackUptoCardSaid : Prop := Claim7.holds Tryd.pinned (.plain (OpenSpec.upto stanzaBackSpec)) stanzaBackUptoCard

/-- THE SECOND FORM's CARD OF 'roostlaw04.StanzaOwn'. -/
def stanzaOwnUptoCard : Claim7 := { stood := { row := stanzaOwnUptoRow, standIns := [], harness := (true, "8b12ac3f6ae86acb85b506bc84a2ec8e2e61b77951e836df60e9c9e7d38cecfe"), looks := true }, kinds := [], alts := [], laidByText := true, laidKinds := [.data, .data, .data, .pinned], laidTests := true, laidLooks := .later }
def StanzaOwnUptoCardSaid : Prop := Claim7.holds Tryd.pinned (.plain (OpenSpec.upto stanzaOwnSpec)) stanzaOwnUptoCard

/-- THE SECOND FORM's CARD OF 'roostlaw04.StanzaParts'. -/
def stanzaPartsUptoCard : Claim7 := { stood := { row := stanzaPartsUptoRow, standIns := [], harness := (true, "8b12ac3f6ae86acb85b506bc84a2ec8e2e61b77951e836df60e9c9e7d38cecfe"), looks := true }, kinds := [], alts := [], laidByText := true, laidKinds := [.data, .data, .data, .pinned], laidTests := true, laidLooks := .later }
def StanzaPartsUptoCardSaid : Prop := Claim7.holds Tryd.pinned (.plain (OpenSpec.upto stanzaPartsSpec)) stanzaPartsUptoCard
end Rows
end Go.Proofs.YtomkcmkbehcjnaaDoor
