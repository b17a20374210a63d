/-
  NARROWER THAN 'FOR EVERY INPUT', by the rows' own cells (each row's printed sentence says how): SubsTables: laid · SubsAgree: laid · SubsRight: laid.
  DERIVED. THE GIVEN ROWS OF THIS SEAT. 3 by the template 'for every input the law returns true; each argument reads behind the call as it read before'; 0 by the template 'total and deterministic' (their statements: YtgijofcnknehdaaDoorTotals.lean).
  GIVEN WITH THE SEED: the statements are not yours to turn. If you find one false, say at which input.
  Laid BY PROGRAM, IN A SANDBOX (cutbox-rows.mjs): the forced cells as the released guide's own fill.sh prints them over the translation c91f9f0c3fdd0aec… (all of the seat's roots in one cut). By AI agents, Wed Nov 11 2026. No macro, syntax, notation, axiom, sorry.
-/
import Derived.Test.YtgijofcnknehdaaDoorChecked
import GoSem.Claim
import GoSem.ClaimJoined
import GoSem.ClaimMapViews
import Derived.JoinedTies
import Derived.KernelRfl
namespace Go.Proofs.YtgijofcnknehdaaDoor
/- THE CELL 'sum', in the pinned program and in every row, IS THE sha256 OF THE DUMP (.gsa) THAT YtgijofcnknehdaaDoorProg.lean LOADS. Nothing in Lean hashes anything: it is a label: what it is worth is what the hold of that sum in a sandbox is worth. -/
noncomputable def Tryd.pinned : Pinned := { name := "ytgijofcnknehdaadoor", sum := "c91f9f0c3fdd0aecf9f5139090c6807da126d4948c15290b91af482cc8e5307e", checked := Tryd.checked }
namespace Rows
def none {H : Type} : Left H := { results := [], args := [] }

/- WHAT THE LISTED PACKAGE-LEVEL VARIABLES READ AS WHEN THE CALL BEGINS. Each datum BY PROGRAM (the guide's laid-datum.mjs) off the statement by which the dump's own 'gosem.cut.vars' lays the variable. In a bare row this is a premise. The card (YtgijofcnknehdaaDoorCards.lean) ties it to the program's text. -/
def laid_roost_subs_stateNames {H : Type} : DataW H := .agg [.agg [.lit (.string [78, 111, 110, 101]), .lit (.string [78, 111, 110, 101, 32, 43, 32, 80, 101, 110, 100, 105, 110, 103, 32, 73, 110]), .lit (.string [70, 114, 111, 109])], .agg [.lit (.string [78, 111, 110, 101, 32, 43, 32, 80, 101, 110, 100, 105, 110, 103, 32, 79, 117, 116]), .lit (.string [78, 111, 110, 101, 32, 43, 32, 80, 101, 110, 100, 105, 110, 103, 32, 79, 117, 116, 43, 73, 110]), .lit (.string [70, 114, 111, 109, 32, 43, 32, 80, 101, 110, 100, 105, 110, 103, 32, 79, 117, 116])], .agg [.lit (.string [84, 111]), .lit (.string [84, 111, 32, 43, 32, 80, 101, 110, 100, 105, 110, 103, 32, 73, 110]), .lit (.string [66, 111, 116, 104])]]
def laid_roost_subs_subNames {H : Type} : DataW H := .agg [.agg [.lit (.string [110, 111, 110, 101]), .lit (.string [110, 111, 110, 101]), .lit (.string [102, 114, 111, 109])], .agg [.lit (.string [110, 111, 110, 101, 44, 97, 115, 107]), .lit (.string [110, 111, 110, 101, 44, 97, 115, 107]), .lit (.string [102, 114, 111, 109, 44, 97, 115, 107])], .agg [.lit (.string [116, 111]), .lit (.string [116, 111]), .lit (.string [98, 111, 116, 104])]]

/-- 'roostlaw15.SubsTables': WHATEVER THE INPUT: true; the input reads as it did. -/
def subsTablesSpec : ChangeSpec := { name := "subsTables", fn := fun _ => fun
  | [d1, d2, d3] => { results := [.lit (.bool true)], args := [d1, d2, d3] }
  | _ => none }
def subsTablesRow : OpenClaim := { program := "ytgijofcnknehdaadoor", sum := "c91f9f0c3fdd0aecf9f5139090c6807da126d4948c15290b91af482cc8e5307e", func := "roost/roostlaw15.SubsTables", spec := "subsTables", unfollowed := true, recurses := true, named := ["roost/subs.stateNames", "roost/subs.subNames"], apart := false, laid := [("roost/subs.stateNames", laid_roost_subs_stateNames), ("roost/subs.subNames", laid_roost_subs_subNames)] }
def SubsTablesSaid : Prop := subsTablesRow.holds Tryd.pinned (OpenSpec.ofChange subsTablesSpec)

/-- ITS FALSE NEIGHBOUR: 'it returns false'. Refute it at one input. -/
def subsTablesWrong : ChangeSpec := { name := "subsTables", fn := fun _ => fun
  | [d1, d2, d3] => { results := [.lit (.bool false)], args := [d1, d2, d3] }
  | _ => none }
def SubsTablesWrongFalsely : Prop := subsTablesRow.holds Tryd.pinned (OpenSpec.ofChange subsTablesWrong)

/-- 'roostlaw15.SubsAgree': WHATEVER THE INPUT: true; the input reads as it did. -/
def subsAgreeSpec : ChangeSpec := { name := "subsAgree", fn := fun _ => fun
  | [d] => { results := [.lit (.bool true)], args := [d] }
  | _ => none }
def subsAgreeRow : OpenClaim := { program := "ytgijofcnknehdaadoor", sum := "c91f9f0c3fdd0aecf9f5139090c6807da126d4948c15290b91af482cc8e5307e", func := "roost/roostlaw15.SubsAgree", spec := "subsAgree", unfollowed := true, recurses := true, named := ["roost/subs.subNames"], apart := false, laid := [("roost/subs.subNames", laid_roost_subs_subNames)] }
def SubsAgreeSaid : Prop := subsAgreeRow.holds Tryd.pinned (OpenSpec.ofChange subsAgreeSpec)

/-- ITS FALSE NEIGHBOUR: 'it returns false'. Refute it at one input. -/
def subsAgreeWrong : ChangeSpec := { name := "subsAgree", fn := fun _ => fun
  | [d] => { results := [.lit (.bool false)], args := [d] }
  | _ => none }
def SubsAgreeWrongFalsely : Prop := subsAgreeRow.holds Tryd.pinned (OpenSpec.ofChange subsAgreeWrong)

/-- 'roostlaw15.SubsRight': WHATEVER THE INPUT: true; the input reads as it did. -/
def subsRightSpec : ChangeSpec := { name := "subsRight", fn := fun _ => fun
  | [d] => { results := [.lit (.bool true)], args := [d] }
  | _ => none }
def subsRightRow : OpenClaim := { program := "ytgijofcnknehdaadoor", sum := "c91f9f0c3fdd0aecf9f5139090c6807da126d4948c15290b91af482cc8e5307e", func := "roost/roostlaw15.SubsRight", spec := "subsRight", unfollowed := true, recurses := true, named := ["roost/subs.stateNames", "roost/subs.subNames"], apart := false, laid := [("roost/subs.stateNames", laid_roost_subs_stateNames), ("roost/subs.subNames", laid_roost_subs_subNames)] }
def SubsRightSaid : Prop := subsRightRow.holds Tryd.pinned (OpenSpec.ofChange subsRightSpec)

/-- ITS FALSE NEIGHBOUR: 'it returns false'. Refute it at one input. -/
def subsRightWrong : ChangeSpec := { name := "subsRight", fn := fun _ => fun
  | [d] => { results := [.lit (.bool false)], args := [d] }
  | _ => none }
def SubsRightWrongFalsely : Prop := subsRightRow.holds Tryd.pinned (OpenSpec.ofChange subsRightWrong)

/- THE SECOND FORM. 'bulk': how many values and letters a reading holds, each counted each time it is reached (what is shared counts as often as it is met; a slice's spare places count too). A statement '..UptoSaid' is the law's where the arguments, and the package variables that the reading takes, are together of bulk at most 1048576: NARROWER than '..Said'. Prove '..Said' where nothing that the law and all that it calls make is longer than what came in: it says more and counts as full. Else prove '..UptoSaid'. A law counts once. -/
mutual
def uptoBulk {H : Type} : DataW H → Nat
  | .lit (.string bytes) => bytes.length + 1
  | .lit _ => 1
  | .nil => 1
  | .ptr d => uptoBulk d + 1
  | .slice elems spare => uptoBulkAll elems + uptoBulkAll spare + 1
  | .agg parts => uptoBulkAll parts + 1
  | .iface _ d => uptoBulk d + 1
  | .map entries => uptoBulkEntries entries + 1
  | .held _ => 1
def uptoBulkAll {H : Type} : List (DataW H) → Nat
  | [] => 0
  | d :: r => uptoBulk d + uptoBulkAll r
def uptoBulkEntries {H : Type} : List (Lit × DataW H) → Nat
  | [] => 0
  | x :: r => uptoBulkEntry x + uptoBulkEntries r
def uptoBulkEntry {H : Type} : Lit × DataW H → Nat
  | (.string bytes, d) => bytes.length + uptoBulk d + 1
  | (_, d) => uptoBulk d + 1
 end
def uptoSmall : (H : Type) → List (DataW H) → Bool := fun _ ds => decide (uptoBulkAll ds ≤ 1048576)
def OpenSpec.upto (s : _root_.Go.ChangeSpec) : _root_.Go.OpenSpec := { _root_.Go.OpenSpec.ofChange s with cond := some uptoSmall }

/-- 'roostlaw15.SubsTables', WHERE WHAT IT READS IS OF BULK AT MOST 1048576: true; the input reads as it did. -/
def subsTablesUptoRow : OpenClaim := { program := "ytgijofcnknehdaadoor", sum := "c91f9f0c3fdd0aecf9f5139090c6807da126d4948c15290b91af482cc8e5307e", func := "roost/roostlaw15.SubsTables", spec := "subsTables", unfollowed := true, recurses := true, named := ["roost/subs.stateNames", "roost/subs.subNames"], apart := false, laid := [("roost/subs.stateNames", laid_roost_subs_stateNames), ("roost/subs.subNames", laid_roost_subs_subNames)], narrowed := true }
def SubsTablesUptoSaid : Prop := subsTablesUptoRow.holds Tryd.pinned (OpenSpec.upto subsTablesSpec)

/-- 'roostlaw15.SubsAgree', WHERE WHAT IT READS IS OF BULK AT MOST 1048576: true; the input reads as it did. -/
def subsAgreeUptoRow : OpenClaim := { program := "ytgijofcnknehdaadoor", sum := "c91f9f0c3fdd0aecf9f5139090c6807da126d4948c15290b91af482cc8e5307e", func := "roost/roostlaw15.SubsAgree", spec := "subsAgree", unfollowed := true, recurses := true, named := ["roost/subs.subNames"], apart := false, laid := [("roost/subs.subNames", laid_roost_subs_subNames)], narrowed := true }
def SubsAgreeUptoSaid : Prop := subsAgreeUptoRow.holds Tryd.pinned (OpenSpec.upto subsAgreeSpec)

/-- 'roostlaw15.SubsRight', WHERE WHAT IT READS IS OF BULK AT MOST 1048576: true; the input reads as it did. -/
def subsRightUptoRow : OpenClaim := { program := "ytgijofcnknehdaadoor", sum := "c91f9f0c3fdd0aecf9f5139090c6807da126d4948c15290b91af482cc8e5307e", func := "roost/roostlaw15.SubsRight", spec := "subsRight", unfollowed := true, recurses := true, named := ["roost/subs.stateNames", "roost/subs.subNames"], apart := false, laid := [("roost/subs.stateNames", laid_roost_subs_stateNames), ("roost/subs.subNames", laid_roost_subs_subNames)], narrowed := true }
def SubsRightUptoSaid : Prop := subsRightUptoRow.holds Tryd.pinned (OpenSpec.upto subsRightSpec)

end Rows
end Go.Proofs.YtgijofcnknehdaaDoor
