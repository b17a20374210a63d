/-
  DERIVED. GIVEN WITH THE SEED: THE CARDS: each row of YtikklhnkkfimfaaDoorRows.lean that lists a variable, with what it lists TIED to the program's text (the seventh form; the later family's looks); each row that meets fmt, with fmt's text TOLD by the authors' own Lean function (tested against real Go, not proved from fmt's source: count such statements apart). THE CARD IS WHAT COUNTS. Prove the row's statement (the work); the ties are given (YtikklhnkkfimfaaDoorTie.lean); close each card by the builder's one call (the guide's Derived/Test/ToyasCard.lean, 'card_holds'). Laid BY PROGRAM, IN A SANDBOX (cutbox-door.mjs). By AI agents, Wed Nov 11 2026. No macro, syntax, notation, axiom, sorry.
-/
import Derived.Test.YtikklhnkkfimfaaDoorRows
import GoSem.ClaimSeven
namespace Go.Proofs.YtikklhnkkfimfaaDoor
namespace Rows

/-- THE TIED CARD OF 'roostlaw02.NameParts'. -/
def namePartsCard : Claim7 := { stood := { row := namePartsRow, standIns := [], harness := (true, "8b452d9a395172c4ae672b1edde10af8b6f1f27ce1b763b79a2ad12cf30028ac"), looks := true }, kinds := [], alts := [], laidByText := true, laidKinds := [.data, .pinned], laidTests := true, laidLooks := .later }
def NamePartsCardSaid : Prop := Claim7.holds Tryd.pinned (.plain (OpenSpec.ofChange namePartsSpec)) namePartsCard

/-- THE TIED CARD OF 'roostlaw02.NameParse'. -/
def nameParseCard : Claim7 := { stood := { row := nameParseRow, standIns := [], harness := (true, "8b452d9a395172c4ae672b1edde10af8b6f1f27ce1b763b79a2ad12cf30028ac"), looks := true }, kinds := [], alts := [], laidByText := true, laidKinds := [.data, .pinned], laidTests := true, laidLooks := .later }
def NameParseCardSaid : Prop := Claim7.holds Tryd.pinned (.plain (OpenSpec.ofChange nameParseSpec)) nameParseCard

/-- THE TIED CARD OF 'roostlaw02.NameBack'. -/
def nameBackCard : Claim7 := { stood := { row := nameBackRow, standIns := [], harness := (true, "8b452d9a395172c4ae672b1edde10af8b6f1f27ce1b763b79a2ad12cf30028ac"), looks := true }, kinds := [], alts := [], laidByText := true, laidKinds := [.data, .pinned], laidTests := true, laidLooks := .later }
def NameBackCardSaid : Prop := Claim7.holds Tryd.pinned (.plain (OpenSpec.ofChange nameBackSpec)) nameBackCard

/-- THE TIED CARD OF 'roostlaw02.NameSpread'. -/
def nameSpreadCard : Claim7 := { stood := { row := nameSpreadRow, standIns := [], harness := (true, "8b452d9a395172c4ae672b1edde10af8b6f1f27ce1b763b79a2ad12cf30028ac"), looks := true }, kinds := [], alts := [], laidByText := true, laidKinds := [.data, .pinned], laidTests := true, laidLooks := .later }
def NameSpreadCardSaid : Prop := Claim7.holds Tryd.pinned (.plain (OpenSpec.ofChange nameSpreadSpec)) nameSpreadCard

/-- THE TIED CARD OF 'roostlaw02.NameCase'. -/
def nameCaseCard : Claim7 := { stood := { row := nameCaseRow, standIns := [], harness := (true, "8b452d9a395172c4ae672b1edde10af8b6f1f27ce1b763b79a2ad12cf30028ac"), looks := true }, kinds := [], alts := [], laidByText := true, laidKinds := [.data, .pinned], laidTests := true, laidLooks := .later }
def NameCaseCardSaid : Prop := Claim7.holds Tryd.pinned (.plain (OpenSpec.ofChange nameCaseSpec)) nameCaseCard

/-- THE SECOND FORM's CARD OF 'roostlaw02.NameParts'. -/
def namePartsUptoCard : Claim7 := { stood := { row := namePartsUptoRow, standIns := [], harness := (true, "8b452d9a395172c4ae672b1edde10af8b6f1f27ce1b763b79a2ad12cf30028ac"), looks := true }, kinds := [], alts := [], laidByText := true, laidKinds := [.data, .pinned], laidTests := true, laidLooks := .later }
def NamePartsUptoCardSaid : Prop := Claim7.holds Tryd.pinned (.plain (OpenSpec.upto namePartsSpec)) namePartsUptoCard

/-- THE SECOND FORM's CARD OF 'roostlaw02.NameParse'. -/
def nameParseUptoCard : Claim7 := { stood := { row := nameParseUptoRow, standIns := [], harness := (true, "8b452d9a395172c4ae672b1edde10af8b6f1f27ce1b763b79a2ad12cf30028ac"), looks := true }, kinds := [], alts := [], laidByText := true, laidKinds := [.data, .pinned], laidTests := true, laidLooks := .later }
def NameParseUptoCardSaid : Prop := Claim7.holds Tryd.pinned (.plain (OpenSpec.upto nameParseSpec)) nameParseUptoCard

/-- THE SECOND FORM's CARD OF 'roostlaw02.NameBack'. -/
def nameBackUptoCard : Claim7 := { stood := { row := nameBackUptoRow, standIns := [], harness := (true, "8b452d9a395172c4ae672b1edde10af8b6f1f27ce1b763b79a2ad12cf30028ac"), looks := true }, kinds := [], alts := [], laidByText := true, laidKinds := [.data, .pinned], laidTests := true, laidLooks := .later }
def NameBackUptoCardSaid : Prop := Claim7.holds Tryd.pinned (.plain (OpenSpec.upto nameBackSpec)) nameBackUptoCard

/-- THE SECOND FORM's CARD OF 'roostlaw02.NameSpread'. -/
def nameSpreadUptoCard : Claim7 := { stood := { row := nameSpreadUptoRow, standIns := [], harness := (true, "8b452d9a395172c4ae672b1edde10af8b6f1f27ce1b763b79a2ad12cf30028ac"), looks := true }, kinds := [], alts := [], laidByText := true, laidKinds := [.data, .pinned], laidTests := true, laidLooks := .later }
def NameSpreadUptoCardSaid : Prop := Claim7.holds Tryd.pinned (.plain (OpenSpec.upto nameSpreadSpec)) nameSpreadUptoCard

/-- THE SECOND FORM's CARD OF 'roostlaw02.NameCase'. -/
def nameCaseUptoCard : Claim7 := { stood := { row := nameCaseUptoRow, standIns := [], harness := (true, "8b452d9a395172c4ae672b1edde10af8b6f1f27ce1b763b79a2ad12cf30028ac"), looks := true }, kinds := [], alts := [], laidByText := true, laidKinds := [.data, .pinned], laidTests := true, laidLooks := .later }
def NameCaseUptoCardSaid : Prop := Claim7.holds Tryd.pinned (.plain (OpenSpec.upto nameCaseSpec)) nameCaseUptoCard
end Rows
end Go.Proofs.YtikklhnkkfimfaaDoor
