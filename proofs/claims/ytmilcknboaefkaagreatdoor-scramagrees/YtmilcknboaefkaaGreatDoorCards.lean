/-
  DERIVED. GIVEN WITH THE SEED: THE CARDS: each row of YtmilcknboaefkaaGreatDoorRows.lean that lists a variable, with what it lists TIED to the program's text (the seventh form; the later family's looks); each row that meets fmt, with fmt's text TOLD by the authors' own Lean function (tested against real Go, not proved from fmt's source: count such statements apart). THE CARD IS WHAT COUNTS. Prove the row's statement (the work); the ties are given (YtmilcknboaefkaaGreatDoorTie.lean); close each card by the builder's one call (the guide's Derived/Test/ToyasCard.lean, 'card_holds'). Laid BY PROGRAM, IN A SANDBOX (cutbox-door.mjs). By AI agents, Wed Nov 11 2026. No macro, syntax, notation, axiom, sorry.
-/
import Derived.Test.YtmilcknboaefkaaGreatDoorRows
import GoSem.ClaimSeven
namespace Go.Proofs.YtmilcknboaefkaaGreatDoor
namespace Rows

/-- THE TIED CARD OF 'roostlaw07.ScramKeys'. -/
def scramKeysCard : Claim7 := { stood := { row := scramKeysRow, standIns := [], harness := (true, "4ba4b04d5ea2c2fba8c595d6f8e73f4ed337afeae965df5fab22dddbbd12142d"), looks := true }, kinds := [], alts := [], laidByText := true, laidKinds := [.data, .data, .data, .data, .data, .data, .pinned], laidTests := true, laidLooks := .later }
def ScramKeysCardSaid : Prop := Claim7.holds Tryz.pinned (.plain (OpenSpec.ofChange scramKeysSpec)) scramKeysCard

/-- THE TIED CARD OF 'roostlaw07.ScramProve'. -/
def scramProveCard : Claim7 := { stood := { row := scramProveRow, standIns := [], harness := (true, "4ba4b04d5ea2c2fba8c595d6f8e73f4ed337afeae965df5fab22dddbbd12142d"), looks := true }, kinds := [], alts := [], laidByText := true, laidKinds := [.data, .data, .data, .data, .data, .data, .sentinel, .sentinel, .pinned], laidTests := true, laidLooks := .later }
def ScramProveCardSaid : Prop := Claim7.holds Tryz.pinned (.plain (OpenSpec.ofChange scramProveSpec)) scramProveCard

/-- THE TIED CARD OF 'roostlaw07.ScramAgrees'. -/
def scramAgreesCard : Claim7 := { stood := { row := scramAgreesRow, standIns := [], harness := (true, "4ba4b04d5ea2c2fba8c595d6f8e73f4ed337afeae965df5fab22dddbbd12142d"), looks := true }, kinds := [], alts := [], laidByText := true, laidKinds := [.data, .data, .data, .data, .data, .data, .sentinel, .sentinel, .pinned], laidTests := true, laidLooks := .later }
def ScramAgreesCardSaid : Prop := Claim7.holds Tryz.pinned (.plain (OpenSpec.ofChange scramAgreesSpec)) scramAgreesCard

/-- THE SECOND FORM's CARD OF 'roostlaw07.ScramKeys'. -/
def scramKeysUptoCard : Claim7 := { stood := { row := scramKeysUptoRow, standIns := [], harness := (true, "4ba4b04d5ea2c2fba8c595d6f8e73f4ed337afeae965df5fab22dddbbd12142d"), looks := true }, kinds := [], alts := [], laidByText := true, laidKinds := [.data, .data, .data, .data, .data, .data, .pinned], laidTests := true, laidLooks := .later }
def ScramKeysUptoCardSaid : Prop := Claim7.holds Tryz.pinned (.plain (OpenSpec.upto scramKeysSpec)) scramKeysUptoCard

/-- THE SECOND FORM's CARD OF 'roostlaw07.ScramProve'. -/
def scramProveUptoCard : Claim7 := { stood := { row := scramProveUptoRow, standIns := [], harness := (true, "4ba4b04d5ea2c2fba8c595d6f8e73f4ed337afeae965df5fab22dddbbd12142d"), looks := true }, kinds := [], alts := [], laidByText := true, laidKinds := [.data, .data, .data, .data, .data, .data, .sentinel, .sentinel, .pinned], laidTests := true, laidLooks := .later }
def ScramProveUptoCardSaid : Prop := Claim7.holds Tryz.pinned (.plain (OpenSpec.upto scramProveSpec)) scramProveUptoCard

/-- THE SECOND FORM's CARD OF 'roostlaw07.ScramAgrees'. -/
def scramAgreesUptoCard : Claim7 := { stood := { row := scramAgreesUptoRow, standIns := [], harness := (true, "4ba4b04d5ea2c2fba8c595d6f8e73f4ed337afeae965df5fab22dddbbd12142d"), looks := true }, kinds := [], alts := [], laidByText := true, laidKinds := [.data, .data, .data, .data, .data, .data, .sentinel, .sentinel, .pinned], laidTests := true, laidLooks := .later }
def ScramAgreesUptoCardSaid : Prop := Claim7.holds Tryz.pinned (.plain (OpenSpec.upto scramAgreesSpec)) scramAgreesUptoCard
end Rows
end Go.Proofs.YtmilcknboaefkaaGreatDoor
