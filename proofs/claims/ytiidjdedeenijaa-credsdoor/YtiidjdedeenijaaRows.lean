/-
  No cell of these rows narrows 'for every input' (looked for: loops, veiled, ifaces, maps, wideKeys, modest, calm, conditions, laid).
  DERIVED. THE GIVEN ROWS OF THIS SEAT. 3 by the template 'for every input the law returns true; each argument reads behind the call as it read before'; 0 by the template 'total and deterministic' (their statements: YtiidjdedeenijaaTotals.lean).
  GIVEN WITH THE SEED: the statements are not yours to turn. If you find one false, say at which input.
  Laid BY PROGRAM, IN A SANDBOX (cutbox-rows.mjs): the forced cells as the released guide's own fill.sh prints them over the translation e14d0c19d6dfb8b6… (all of the seat's roots in one cut). By AI agents, Wed Nov 11 2026. No macro, syntax, notation, axiom, sorry.
-/
import Derived.Test.YtiidjdedeenijaaChecked
import GoSem.Claim
import GoSem.ClaimJoined
import GoSem.ClaimMapViews
import Derived.JoinedTies
import Derived.KernelRfl
namespace Go.Proofs.Ytiidjdedeenijaa
/- THE CELL 'sum', in the pinned program and in every row, IS THE sha256 OF THE DUMP (.gsa) THAT YtiidjdedeenijaaProg.lean LOADS. Nothing in Lean hashes anything: it is a label: what it is worth is what the hold of that sum in a sandbox is worth. -/
noncomputable def Try.pinned : Pinned := { name := "ytiidjdedeenijaa", sum := "e14d0c19d6dfb8b6bc2ed21b56db3fbc5a286aefc4a2e40a68e83644f0ec4bef", checked := Try.checked }
namespace Rows
def none {H : Type} : Left H := { results := [], args := [] }

/-- 'roostlaw08.CredsDoor': WHATEVER THE INPUT: true; the input reads as it did. -/
def credsDoorSpec : ChangeSpec := { name := "credsDoor", fn := fun _ => fun
  | [d1, d2, d3] => { results := [.lit (.bool true)], args := [d1, d2, d3] }
  | _ => none }
def credsDoorRow : OpenClaim := { program := "ytiidjdedeenijaa", sum := "e14d0c19d6dfb8b6bc2ed21b56db3fbc5a286aefc4a2e40a68e83644f0ec4bef", func := "roost/roostlaw08.CredsDoor", spec := "credsDoor", inPlace := ["math.Float64frombits"], apart := false }
def CredsDoorSaid : Prop := credsDoorRow.holds Try.pinned (OpenSpec.ofChange credsDoorSpec)

/-- ITS FALSE NEIGHBOUR: 'it returns false'. Refute it at one input. -/
def credsDoorWrong : ChangeSpec := { name := "credsDoor", fn := fun _ => fun
  | [d1, d2, d3] => { results := [.lit (.bool false)], args := [d1, d2, d3] }
  | _ => none }
def CredsDoorWrongFalsely : Prop := credsDoorRow.holds Try.pinned (OpenSpec.ofChange credsDoorWrong)

/-- 'roostlaw08.CredsApart': WHATEVER THE INPUT: true; the input reads as it did. -/
def credsApartSpec : ChangeSpec := { name := "credsApart", fn := fun _ => fun
  | [d] => { results := [.lit (.bool true)], args := [d] }
  | _ => none }
def credsApartRow : OpenClaim := { program := "ytiidjdedeenijaa", sum := "e14d0c19d6dfb8b6bc2ed21b56db3fbc5a286aefc4a2e40a68e83644f0ec4bef", func := "roost/roostlaw08.CredsApart", spec := "credsApart", inPlace := ["math.Float64frombits"], apart := false }
def CredsApartSaid : Prop := credsApartRow.holds Try.pinned (OpenSpec.ofChange credsApartSpec)

/-- ITS FALSE NEIGHBOUR: 'it returns false'. Refute it at one input. -/
def credsApartWrong : ChangeSpec := { name := "credsApart", fn := fun _ => fun
  | [d] => { results := [.lit (.bool false)], args := [d] }
  | _ => none }
def CredsApartWrongFalsely : Prop := credsApartRow.holds Try.pinned (OpenSpec.ofChange credsApartWrong)

/-- 'roostlaw08.CredsPass': WHATEVER THE INPUT: true; the input reads as it did. -/
def credsPassSpec : ChangeSpec := { name := "credsPass", fn := fun _ => fun
  | [d1, d2] => { results := [.lit (.bool true)], args := [d1, d2] }
  | _ => none }
def credsPassRow : OpenClaim := { program := "ytiidjdedeenijaa", sum := "e14d0c19d6dfb8b6bc2ed21b56db3fbc5a286aefc4a2e40a68e83644f0ec4bef", func := "roost/roostlaw08.CredsPass", spec := "credsPass", inPlace := ["math.Float64frombits", "math.Float64bits"], apart := false }
def CredsPassSaid : Prop := credsPassRow.holds Try.pinned (OpenSpec.ofChange credsPassSpec)

/-- ITS FALSE NEIGHBOUR: 'it returns false'. Refute it at one input. -/
def credsPassWrong : ChangeSpec := { name := "credsPass", fn := fun _ => fun
  | [d1, d2] => { results := [.lit (.bool false)], args := [d1, d2] }
  | _ => none }
def CredsPassWrongFalsely : Prop := credsPassRow.holds Try.pinned (OpenSpec.ofChange credsPassWrong)

/- THE SECOND FORM. 'bulk': how many values and letters a reading holds, each counted each time it is reached (what is shared counts as often as it is met; a slice's spare places count too). A statement '..UptoSaid' is the law's where the arguments, and the package variables that the reading takes, are together of bulk at most 1048576: NARROWER than '..Said'. Prove '..Said' where nothing that the law and all that it calls make is longer than what came in: it says more and counts as full. Else prove '..UptoSaid'. A law counts once. -/
mutual
def uptoBulk {H : Type} : DataW H → Nat
  | .lit (.string bytes) => bytes.length + 1
  | .lit _ => 1
  | .nil => 1
  | .ptr d => uptoBulk d + 1
  | .slice elems spare => uptoBulkAll elems + uptoBulkAll spare + 1
  | .agg parts => uptoBulkAll parts + 1
  | .iface _ d => uptoBulk d + 1
  | .map entries => uptoBulkEntries entries + 1
  | .held _ => 1
def uptoBulkAll {H : Type} : List (DataW H) → Nat
  | [] => 0
  | d :: r => uptoBulk d + uptoBulkAll r
def uptoBulkEntries {H : Type} : List (Lit × DataW H) → Nat
  | [] => 0
  | x :: r => uptoBulkEntry x + uptoBulkEntries r
def uptoBulkEntry {H : Type} : Lit × DataW H → Nat
  | (.string bytes, d) => bytes.length + uptoBulk d + 1
  | (_, d) => uptoBulk d + 1
 end
def uptoSmall : (H : Type) → List (DataW H) → Bool := fun _ ds => decide (uptoBulkAll ds ≤ 1048576)
def OpenSpec.upto (s : _root_.Go.ChangeSpec) : _root_.Go.OpenSpec := { _root_.Go.OpenSpec.ofChange s with cond := some uptoSmall }

/-- 'roostlaw08.CredsDoor', WHERE WHAT IT READS IS OF BULK AT MOST 1048576: true; the input reads as it did. -/
def credsDoorUptoRow : OpenClaim := { program := "ytiidjdedeenijaa", sum := "e14d0c19d6dfb8b6bc2ed21b56db3fbc5a286aefc4a2e40a68e83644f0ec4bef", func := "roost/roostlaw08.CredsDoor", spec := "credsDoor", inPlace := ["math.Float64frombits"], apart := false, narrowed := true }
def CredsDoorUptoSaid : Prop := credsDoorUptoRow.holds Try.pinned (OpenSpec.upto credsDoorSpec)

/-- 'roostlaw08.CredsApart', WHERE WHAT IT READS IS OF BULK AT MOST 1048576: true; the input reads as it did. -/
def credsApartUptoRow : OpenClaim := { program := "ytiidjdedeenijaa", sum := "e14d0c19d6dfb8b6bc2ed21b56db3fbc5a286aefc4a2e40a68e83644f0ec4bef", func := "roost/roostlaw08.CredsApart", spec := "credsApart", inPlace := ["math.Float64frombits"], apart := false, narrowed := true }
def CredsApartUptoSaid : Prop := credsApartUptoRow.holds Try.pinned (OpenSpec.upto credsApartSpec)

/-- 'roostlaw08.CredsPass', WHERE WHAT IT READS IS OF BULK AT MOST 1048576: true; the input reads as it did. -/
def credsPassUptoRow : OpenClaim := { program := "ytiidjdedeenijaa", sum := "e14d0c19d6dfb8b6bc2ed21b56db3fbc5a286aefc4a2e40a68e83644f0ec4bef", func := "roost/roostlaw08.CredsPass", spec := "credsPass", inPlace := ["math.Float64frombits", "math.Float64bits"], apart := false, narrowed := true }
def CredsPassUptoSaid : Prop := credsPassUptoRow.holds Try.pinned (OpenSpec.upto credsPassSpec)

end Rows
end Go.Proofs.Ytiidjdedeenijaa
