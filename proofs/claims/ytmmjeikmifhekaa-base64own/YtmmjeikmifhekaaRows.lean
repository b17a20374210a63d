/-
  No cell of these rows narrows 'for every input' (looked for: loops, veiled, ifaces, maps, wideKeys, modest, calm, conditions, laid).
  DERIVED. THE GIVEN ROWS OF THIS SEAT. 4 by the template 'for every input the law returns true; each argument reads behind the call as it read before'; 0 by the template 'total and deterministic' (their statements: YtmmjeikmifhekaaTotals.lean).
  GIVEN WITH THE SEED: the statements are not yours to turn. If you find one false, say at which input.
  Laid BY PROGRAM, IN A SANDBOX (cutbox-rows.mjs): the forced cells as the released guide's own fill.sh prints them over the translation 673dbbdce7718d28… (all of the seat's roots in one cut). By AI agents, Wed Nov 11 2026. No macro, syntax, notation, axiom, sorry.
-/
import Derived.Test.YtmmjeikmifhekaaChecked
import GoSem.Claim
import GoSem.ClaimJoined
import GoSem.ClaimMapViews
import Derived.JoinedTies
import Derived.KernelRfl
namespace Go.Proofs.Ytmmjeikmifhekaa
/- THE CELL 'sum', in the pinned program and in every row, IS THE sha256 OF THE DUMP (.gsa) THAT YtmmjeikmifhekaaProg.lean LOADS. Nothing in Lean hashes anything: it is a label: what it is worth is what the hold of that sum in a sandbox is worth. -/
noncomputable def Try.pinned : Pinned := { name := "ytmmjeikmifhekaa", sum := "673dbbdce7718d282e28f87fc70895e0f16a7288459734c030bfd1dc03ecbfc7", checked := Try.checked }
namespace Rows
def none {H : Type} : Left H := { results := [], args := [] }

/-- 'roostlaw06.Base64Both': WHATEVER THE INPUT: true; the input reads as it did. -/
def base64BothSpec : ChangeSpec := { name := "base64Both", fn := fun _ => fun
  | [d1, d2] => { results := [.lit (.bool true)], args := [d1, d2] }
  | _ => none }
def base64BothRow : OpenClaim := { program := "ytmmjeikmifhekaa", sum := "673dbbdce7718d282e28f87fc70895e0f16a7288459734c030bfd1dc03ecbfc7", func := "roost/roostlaw06.Base64Both", spec := "base64Both", inPlace := ["internal/bytealg.IndexByteString"], apart := false }
def Base64BothSaid : Prop := base64BothRow.holds Try.pinned (OpenSpec.ofChange base64BothSpec)

/-- ITS FALSE NEIGHBOUR: 'it returns false'. Refute it at one input. -/
def base64BothWrong : ChangeSpec := { name := "base64Both", fn := fun _ => fun
  | [d1, d2] => { results := [.lit (.bool false)], args := [d1, d2] }
  | _ => none }
def Base64BothWrongFalsely : Prop := base64BothRow.holds Try.pinned (OpenSpec.ofChange base64BothWrong)

/-- 'roostlaw06.Base64Back': WHATEVER THE INPUT: true; the input reads as it did. -/
def base64BackSpec : ChangeSpec := { name := "base64Back", fn := fun _ => fun
  | [d] => { results := [.lit (.bool true)], args := [d] }
  | _ => none }
def base64BackRow : OpenClaim := { program := "ytmmjeikmifhekaa", sum := "673dbbdce7718d282e28f87fc70895e0f16a7288459734c030bfd1dc03ecbfc7", func := "roost/roostlaw06.Base64Back", spec := "base64Back", inPlace := ["internal/bytealg.IndexByteString"], apart := false }
def Base64BackSaid : Prop := base64BackRow.holds Try.pinned (OpenSpec.ofChange base64BackSpec)

/-- ITS FALSE NEIGHBOUR: 'it returns false'. Refute it at one input. -/
def base64BackWrong : ChangeSpec := { name := "base64Back", fn := fun _ => fun
  | [d] => { results := [.lit (.bool false)], args := [d] }
  | _ => none }
def Base64BackWrongFalsely : Prop := base64BackRow.holds Try.pinned (OpenSpec.ofChange base64BackWrong)

/-- 'roostlaw06.Base64Own': WHATEVER THE INPUT: true; the input reads as it did. -/
def base64OwnSpec : ChangeSpec := { name := "base64Own", fn := fun _ => fun
  | [d1, d2] => { results := [.lit (.bool true)], args := [d1, d2] }
  | _ => none }
def base64OwnRow : OpenClaim := { program := "ytmmjeikmifhekaa", sum := "673dbbdce7718d282e28f87fc70895e0f16a7288459734c030bfd1dc03ecbfc7", func := "roost/roostlaw06.Base64Own", spec := "base64Own", inPlace := ["internal/bytealg.IndexByteString"], apart := false }
def Base64OwnSaid : Prop := base64OwnRow.holds Try.pinned (OpenSpec.ofChange base64OwnSpec)

/-- ITS FALSE NEIGHBOUR: 'it returns false'. Refute it at one input. -/
def base64OwnWrong : ChangeSpec := { name := "base64Own", fn := fun _ => fun
  | [d1, d2] => { results := [.lit (.bool false)], args := [d1, d2] }
  | _ => none }
def Base64OwnWrongFalsely : Prop := base64OwnRow.holds Try.pinned (OpenSpec.ofChange base64OwnWrong)

/-- 'roostlaw06.Base64Joins': WHATEVER THE INPUT: true; the input reads as it did. -/
def base64JoinsSpec : ChangeSpec := { name := "base64Joins", fn := fun _ => fun
  | [d1, d2] => { results := [.lit (.bool true)], args := [d1, d2] }
  | _ => none }
def base64JoinsRow : OpenClaim := { program := "ytmmjeikmifhekaa", sum := "673dbbdce7718d282e28f87fc70895e0f16a7288459734c030bfd1dc03ecbfc7", func := "roost/roostlaw06.Base64Joins", spec := "base64Joins", inPlace := ["internal/bytealg.IndexByteString"], apart := false }
def Base64JoinsSaid : Prop := base64JoinsRow.holds Try.pinned (OpenSpec.ofChange base64JoinsSpec)

/-- ITS FALSE NEIGHBOUR: 'it returns false'. Refute it at one input. -/
def base64JoinsWrong : ChangeSpec := { name := "base64Joins", fn := fun _ => fun
  | [d1, d2] => { results := [.lit (.bool false)], args := [d1, d2] }
  | _ => none }
def Base64JoinsWrongFalsely : Prop := base64JoinsRow.holds Try.pinned (OpenSpec.ofChange base64JoinsWrong)

/- THE SECOND FORM. 'bulk': how many values and letters a reading holds, each counted each time it is reached (what is shared counts as often as it is met; a slice's spare places count too). A statement '..UptoSaid' is the law's where the arguments, and the package variables that the reading takes, are together of bulk at most 1048576: NARROWER than '..Said'. Prove '..Said' where nothing that the law and all that it calls make is longer than what came in: it says more and counts as full. Else prove '..UptoSaid'. A law counts once. -/
mutual
def uptoBulk {H : Type} : DataW H → Nat
  | .lit (.string bytes) => bytes.length + 1
  | .lit _ => 1
  | .nil => 1
  | .ptr d => uptoBulk d + 1
  | .slice elems spare => uptoBulkAll elems + uptoBulkAll spare + 1
  | .agg parts => uptoBulkAll parts + 1
  | .iface _ d => uptoBulk d + 1
  | .map entries => uptoBulkEntries entries + 1
  | .held _ => 1
def uptoBulkAll {H : Type} : List (DataW H) → Nat
  | [] => 0
  | d :: r => uptoBulk d + uptoBulkAll r
def uptoBulkEntries {H : Type} : List (Lit × DataW H) → Nat
  | [] => 0
  | x :: r => uptoBulkEntry x + uptoBulkEntries r
def uptoBulkEntry {H : Type} : Lit × DataW H → Nat
  | (.string bytes, d) => bytes.length + uptoBulk d + 1
  | (_, d) => uptoBulk d + 1
 end
def uptoSmall : (H : Type) → List (DataW H) → Bool := fun _ ds => decide (uptoBulkAll ds ≤ 1048576)
def OpenSpec.upto (s : _root_.Go.ChangeSpec) : _root_.Go.OpenSpec := { _root_.Go.OpenSpec.ofChange s with cond := some uptoSmall }

/-- 'roostlaw06.Base64Both', WHERE WHAT IT READS IS OF BULK AT MOST 1048576: true; the input reads as it did. -/
def base64BothUptoRow : OpenClaim := { program := "ytmmjeikmifhekaa", sum := "673dbbdce7718d282e28f87fc70895e0f16a7288459734c030bfd1dc03ecbfc7", func := "roost/roostlaw06.Base64Both", spec := "base64Both", inPlace := ["internal/bytealg.IndexByteString"], apart := false, narrowed := true }
def Base64BothUptoSaid : Prop := base64BothUptoRow.holds Try.pinned (OpenSpec.upto base64BothSpec)

/-- 'roostlaw06.Base64Back', WHERE WHAT IT READS IS OF BULK AT MOST 1048576: true; the input reads as it did. -/
def base64BackUptoRow : OpenClaim := { program := "ytmmjeikmifhekaa", sum := "673dbbdce7718d282e28f87fc70895e0f16a7288459734c030bfd1dc03ecbfc7", func := "roost/roostlaw06.Base64Back", spec := "base64Back", inPlace := ["internal/bytealg.IndexByteString"], apart := false, narrowed := true }
def Base64BackUptoSaid : Prop := base64BackUptoRow.holds Try.pinned (OpenSpec.upto base64BackSpec)

/-- 'roostlaw06.Base64Own', WHERE WHAT IT READS IS OF BULK AT MOST 1048576: true; the input reads as it did. -/
def base64OwnUptoRow : OpenClaim := { program := "ytmmjeikmifhekaa", sum := "673dbbdce7718d282e28f87fc70895e0f16a7288459734c030bfd1dc03ecbfc7", func := "roost/roostlaw06.Base64Own", spec := "base64Own", inPlace := ["internal/bytealg.IndexByteString"], apart := false, narrowed := true }
def Base64OwnUptoSaid : Prop := base64OwnUptoRow.holds Try.pinned (OpenSpec.upto base64OwnSpec)

/-- 'roostlaw06.Base64Joins', WHERE WHAT IT READS IS OF BULK AT MOST 1048576: true; the input reads as it did. -/
def base64JoinsUptoRow : OpenClaim := { program := "ytmmjeikmifhekaa", sum := "673dbbdce7718d282e28f87fc70895e0f16a7288459734c030bfd1dc03ecbfc7", func := "roost/roostlaw06.Base64Joins", spec := "base64Joins", inPlace := ["internal/bytealg.IndexByteString"], apart := false, narrowed := true }
def Base64JoinsUptoSaid : Prop := base64JoinsUptoRow.holds Try.pinned (OpenSpec.upto base64JoinsSpec)

end Rows
end Go.Proofs.Ytmmjeikmifhekaa
