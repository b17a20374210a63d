/-
  DERIVED. GIVEN WITH THE SEED: THE CARDS: each row of YtiplalbicibahaaDoorRows.lean that lists a variable, with what it lists TIED to the program's text (the seventh form; the later family's looks); each row that meets fmt, with fmt's text TOLD by the authors' own Lean function (tested against real Go, not proved from fmt's source: count such statements apart). THE CARD IS WHAT COUNTS. Prove the row's statement (the work); the ties are given (YtiplalbicibahaaDoorTie.lean); close each card by the builder's one call (the guide's Derived/Test/ToyasCard.lean, 'card_holds'). Laid BY PROGRAM, IN A SANDBOX (cutbox-door.mjs). By AI agents, Wed Nov 11 2026. No macro, syntax, notation, axiom, sorry.
-/
import Derived.Test.YtiplalbicibahaaDoorRows
import GoSem.ClaimSeven
namespace Go.Proofs.YtiplalbicibahaaDoor
namespace Rows

/-- THE TIED CARD OF 'roostlaw17.PrivacyRules'. -/
def privacyRulesCard : Claim7 := { stood := { row := privacyRulesRow, standIns := [], harness := (true, "de226ae0268a5ca19250b38ceb07ca0bd709c2de2171f4c31850d866c28762bf"), looks := true }, kinds := [], alts := [], laidByText := true, laidKinds := [.data, .pinned], laidTests := true, laidLooks := .later }
def PrivacyRulesCardSaid : Prop := Claim7.holds Tryd.pinned (.plain (OpenSpec.ofChange privacyRulesSpec)) privacyRulesCard

/-- THE TIED CARD OF 'roostlaw17.PrivacyAll'. -/
def privacyAllCard : Claim7 := { stood := { row := privacyAllRow, standIns := [], harness := (true, "de226ae0268a5ca19250b38ceb07ca0bd709c2de2171f4c31850d866c28762bf"), looks := true }, kinds := [], alts := [], laidByText := true, laidKinds := [.data, .pinned], laidTests := true, laidLooks := .later }
def PrivacyAllCardSaid : Prop := Claim7.holds Tryd.pinned (.plain (OpenSpec.ofChange privacyAllSpec)) privacyAllCard

/-- THE TIED CARD OF 'roostlaw17.PrivacyFront'. -/
def privacyFrontCard : Claim7 := { stood := { row := privacyFrontRow, standIns := [], harness := (true, "de226ae0268a5ca19250b38ceb07ca0bd709c2de2171f4c31850d866c28762bf"), looks := true }, kinds := [], alts := [], laidByText := true, laidKinds := [.data, .pinned], laidTests := true, laidLooks := .later }
def PrivacyFrontCardSaid : Prop := Claim7.holds Tryd.pinned (.plain (OpenSpec.ofChange privacyFrontSpec)) privacyFrontCard

/-- THE SECOND FORM's CARD OF 'roostlaw17.PrivacyRules'. -/
def privacyRulesUptoCard : Claim7 := { stood := { row := privacyRulesUptoRow, standIns := [], harness := (true, "de226ae0268a5ca19250b38ceb07ca0bd709c2de2171f4c31850d866c28762bf"), looks := true }, kinds := [], alts := [], laidByText := true, laidKinds := [.data, .pinned], laidTests := true, laidLooks := .later }
def PrivacyRulesUptoCardSaid : Prop := Claim7.holds Tryd.pinned (.plain (OpenSpec.upto privacyRulesSpec)) privacyRulesUptoCard

/-- THE SECOND FORM's CARD OF 'roostlaw17.PrivacyAll'. -/
def privacyAllUptoCard : Claim7 := { stood := { row := privacyAllUptoRow, standIns := [], harness := (true, "de226ae0268a5ca19250b38ceb07ca0bd709c2de2171f4c31850d866c28762bf"), looks := true }, kinds := [], alts := [], laidByText := true, laidKinds := [.data, .pinned], laidTests := true, laidLooks := .later }
def PrivacyAllUptoCardSaid : Prop := Claim7.holds Tryd.pinned (.plain (OpenSpec.upto privacyAllSpec)) privacyAllUptoCard

/-- THE SECOND FORM's CARD OF 'roostlaw17.PrivacyFront'. -/
def privacyFrontUptoCard : Claim7 := { stood := { row := privacyFrontUptoRow, standIns := [], harness := (true, "de226ae0268a5ca19250b38ceb07ca0bd709c2de2171f4c31850d866c28762bf"), looks := true }, kinds := [], alts := [], laidByText := true, laidKinds := [.data, .pinned], laidTests := true, laidLooks := .later }
def PrivacyFrontUptoCardSaid : Prop := Claim7.holds Tryd.pinned (.plain (OpenSpec.upto privacyFrontSpec)) privacyFrontUptoCard
end Rows
end Go.Proofs.YtiplalbicibahaaDoor
