/-
  DERIVED. GIVEN WITH THE SEED: THE CARDS: each row of YtbeemlfggbnknaaDoorRows.lean that lists a variable, with what it lists TIED to the program's text (the seventh form; the later family's looks); each row that meets fmt, with fmt's text TOLD by the authors' own Lean function (tested against real Go, not proved from fmt's source: count such statements apart). THE CARD IS WHAT COUNTS. Prove the row's statement (the work); the ties are given (YtbeemlfggbnknaaDoorTie.lean); close each card by the builder's one call (the guide's Derived/Test/ToyasCard.lean, 'card_holds'). Laid BY PROGRAM, IN A SANDBOX (cutbox-door.mjs). By AI agents, Wed Nov 11 2026. No macro, syntax, notation, axiom, sorry.
-/
import Derived.Test.YtbeemlfggbnknaaDoorRows
import GoSem.ClaimSeven
namespace Go.Proofs.YtbeemlfggbnknaaDoor
namespace Rows

/-- THE TIED CARD OF 'roostlaw05.DigestSha'. -/
def digestShaCard : Claim7 := { stood := { row := digestShaRow, standIns := [], harness := (true, "f201b224bd0400a5df1fbee2c9dab9b7be877b837cb2895e9af449dcfec87da9"), looks := false }, kinds := [], alts := [], laidByText := true, laidKinds := [.data, .data], laidTests := true, laidLooks := .later }
def DigestShaCardSaid : Prop := Claim7.holds Tryd.pinned (.plain (OpenSpec.ofChange digestShaSpec)) digestShaCard

/-- THE TIED CARD OF 'roostlaw05.DigestHmac'. -/
def digestHmacCard : Claim7 := { stood := { row := digestHmacRow, standIns := [], harness := (true, "f201b224bd0400a5df1fbee2c9dab9b7be877b837cb2895e9af449dcfec87da9"), looks := false }, kinds := [], alts := [], laidByText := true, laidKinds := [.data, .data], laidTests := true, laidLooks := .later }
def DigestHmacCardSaid : Prop := Claim7.holds Tryd.pinned (.plain (OpenSpec.ofChange digestHmacSpec)) digestHmacCard

/-- THE TIED CARD OF 'roostlaw05.DigestHi'. -/
def digestHiCard : Claim7 := { stood := { row := digestHiRow, standIns := [], harness := (true, "f201b224bd0400a5df1fbee2c9dab9b7be877b837cb2895e9af449dcfec87da9"), looks := false }, kinds := [], alts := [], laidByText := true, laidKinds := [.data, .data], laidTests := true, laidLooks := .later }
def DigestHiCardSaid : Prop := Claim7.holds Tryd.pinned (.plain (OpenSpec.ofChange digestHiSpec)) digestHiCard

/-- THE TIED CARD OF 'roostlaw05.DigestRounds'. -/
def digestRoundsCard : Claim7 := { stood := { row := digestRoundsRow, standIns := [], harness := (true, "f201b224bd0400a5df1fbee2c9dab9b7be877b837cb2895e9af449dcfec87da9"), looks := false }, kinds := [], alts := [], laidByText := true, laidKinds := [.data, .data], laidTests := true, laidLooks := .later }
def DigestRoundsCardSaid : Prop := Claim7.holds Tryd.pinned (.plain (OpenSpec.ofChange digestRoundsSpec)) digestRoundsCard

/-- THE TIED CARD OF 'roostlaw05.DigestEqual'. -/
def digestEqualCard : Claim7 := { stood := { row := digestEqualRow, standIns := [], harness := (true, "f201b224bd0400a5df1fbee2c9dab9b7be877b837cb2895e9af449dcfec87da9"), looks := false }, kinds := [], alts := [], laidByText := true, laidKinds := [.data, .data], laidTests := true, laidLooks := .later }
def DigestEqualCardSaid : Prop := Claim7.holds Tryd.pinned (.plain (OpenSpec.ofChange digestEqualSpec)) digestEqualCard

/-- THE TIED CARD OF 'roostlaw05.DigestOwn'. -/
def digestOwnCard : Claim7 := { stood := { row := digestOwnRow, standIns := [], harness := (true, "f201b224bd0400a5df1fbee2c9dab9b7be877b837cb2895e9af449dcfec87da9"), looks := false }, kinds := [], alts := [], laidByText := true, laidKinds := [.data, .data], laidTests := true, laidLooks := .later }
def DigestOwnCardSaid : Prop := Claim7.holds Tryd.pinned (.plain (OpenSpec.ofChange digestOwnSpec)) digestOwnCard

/-- THE SECOND FORM's CARD OF 'roostlaw05.DigestSha'. -/
def digestShaUptoCard : Claim7 := { stood := { row := digestShaUptoRow, standIns := [], harness := (true, "f201b224bd0400a5df1fbee2c9dab9b7be877b837cb2895e9af449dcfec87da9"), looks := false }, kinds := [], alts := [], laidByText := true, laidKinds := [.data, .data], laidTests := true, laidLooks := .later }
def DigestShaUptoCardSaid : Prop := Claim7.holds Tryd.pinned (.plain (OpenSpec.upto digestShaSpec)) digestShaUptoCard

/-- THE SECOND FORM's CARD OF 'roostlaw05.DigestHmac'. -/
def digestHmacUptoCard : Claim7 := { stood := { row := digestHmacUptoRow, standIns := [], harness := (true, "f201b224bd0400a5df1fbee2c9dab9b7be877b837cb2895e9af449dcfec87da9"), looks := false }, kinds := [], alts := [], laidByText := true, laidKinds := [.data, .data], laidTests := true, laidLooks := .later }
def DigestHmacUptoCardSaid : Prop := Claim7.holds Tryd.pinned (.plain (OpenSpec.upto digestHmacSpec)) digestHmacUptoCard

/-- THE SECOND FORM's CARD OF 'roostlaw05.DigestHi'. -/
def digestHiUptoCard : Claim7 := { stood := { row := digestHiUptoRow, standIns := [], harness := (true, "f201b224bd0400a5df1fbee2c9dab9b7be877b837cb2895e9af449dcfec87da9"), looks := false }, kinds := [], alts := [], laidByText := true, laidKinds := [.data, .data], laidTests := true, laidLooks := .later }
def DigestHiUptoCardSaid : Prop := Claim7.holds Tryd.pinned (.plain (OpenSpec.upto digestHiSpec)) digestHiUptoCard

/-- THE SECOND FORM's CARD OF 'roostlaw05.DigestRounds'. -/
def digestRoundsUptoCard : Claim7 := { stood := { row := digestRoundsUptoRow, standIns := [], harness := (true, "f201b224bd0400a5df1fbee2c9dab9b7be877b837cb2895e9af449dcfec87da9"), looks := false }, kinds := [], alts := [], laidByText := true, laidKinds := [.data, .data], laidTests := true, laidLooks := .later }
def DigestRoundsUptoCardSaid : Prop := Claim7.holds Tryd.pinned (.plain (OpenSpec.upto digestRoundsSpec)) digestRoundsUptoCard

/-- THE SECOND FORM's CARD OF 'roostlaw05.DigestEqual'. -/
def digestEqualUptoCard : Claim7 := { stood := { row := digestEqualUptoRow, standIns := [], harness := (true, "f201b224bd0400a5df1fbee2c9dab9b7be877b837cb2895e9af449dcfec87da9"), looks := false }, kinds := [], alts := [], laidByText := true, laidKinds := [.data, .data], laidTests := true, laidLooks := .later }
def DigestEqualUptoCardSaid : Prop := Claim7.holds Tryd.pinned (.plain (OpenSpec.upto digestEqualSpec)) digestEqualUptoCard

/-- THE SECOND FORM's CARD OF 'roostlaw05.DigestOwn'. -/
def digestOwnUptoCard : Claim7 := { stood := { row := digestOwnUptoRow, standIns := [], harness := (true, "f201b224bd0400a5df1fbee2c9dab9b7be877b837cb2895e9af449dcfec87da9"), looks := false }, kinds := [], alts := [], laidByText := true, laidKinds := [.data, .data], laidTests := true, laidLooks := .later }
def DigestOwnUptoCardSaid : Prop := Claim7.holds Tryd.pinned (.plain (OpenSpec.upto digestOwnSpec)) digestOwnUptoCard
end Rows
end Go.Proofs.YtbeemlfggbnknaaDoor
