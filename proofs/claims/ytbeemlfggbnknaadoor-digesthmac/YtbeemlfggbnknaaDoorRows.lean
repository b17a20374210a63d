/-
  NARROWER THAN 'FOR EVERY INPUT', by the rows' own cells (each row's printed sentence says how): DigestSha: laid · DigestHmac: laid · DigestHi: laid · DigestRounds: laid · DigestEqual: laid · DigestOwn: laid.
  DERIVED. THE GIVEN ROWS OF THIS SEAT. 6 by the template 'for every input the law returns true; each argument reads behind the call as it read before'; 0 by the template 'total and deterministic' (their statements: YtbeemlfggbnknaaDoorTotals.lean).
  GIVEN WITH THE SEED: the statements are not yours to turn. If you find one false, say at which input.
  Laid BY PROGRAM, IN A SANDBOX (cutbox-rows.mjs): the forced cells as the released guide's own fill.sh prints them over the translation fbf3b6b761fd1d77… (all of the seat's roots in one cut). By AI agents, Wed Nov 11 2026. No macro, syntax, notation, axiom, sorry.
-/
import Derived.Test.YtbeemlfggbnknaaDoorChecked
import GoSem.Claim
import GoSem.ClaimJoined
import GoSem.ClaimMapViews
import Derived.JoinedTies
import Derived.KernelRfl
namespace Go.Proofs.YtbeemlfggbnknaaDoor
/- THE CELL 'sum', in the pinned program and in every row, IS THE sha256 OF THE DUMP (.gsa) THAT YtbeemlfggbnknaaDoorProg.lean LOADS. Nothing in Lean hashes anything: it is a label: what it is worth is what the hold of that sum in a sandbox is worth. -/
noncomputable def Tryd.pinned : Pinned := { name := "ytbeemlfggbnknaadoor", sum := "fbf3b6b761fd1d77e04e5ff0edb5724ef44957dbcfd4ad74725dc35c51f30ead", checked := Tryd.checked }
namespace Rows
def none {H : Type} : Left H := { results := [], args := [] }

/- WHAT THE LISTED PACKAGE-LEVEL VARIABLES READ AS WHEN THE CALL BEGINS. Each datum BY PROGRAM (the guide's laid-datum.mjs) off the statement by which the dump's own 'gosem.cut.vars' lays the variable. In a bare row this is a premise. The card (YtbeemlfggbnknaaDoorCards.lean) ties it to the program's text. -/
def laid_roost_digest_firstState {H : Type} : DataW H := .agg [.lit (.int .u32 1779033703), .lit (.int .u32 3144134277), .lit (.int .u32 1013904242), .lit (.int .u32 2773480762), .lit (.int .u32 1359893119), .lit (.int .u32 2600822924), .lit (.int .u32 528734635), .lit (.int .u32 1541459225)]
def laid_roost_digest_roundWords {H : Type} : DataW H := .agg [.lit (.int .u32 1116352408), .lit (.int .u32 1899447441), .lit (.int .u32 3049323471), .lit (.int .u32 3921009573), .lit (.int .u32 961987163), .lit (.int .u32 1508970993), .lit (.int .u32 2453635748), .lit (.int .u32 2870763221), .lit (.int .u32 3624381080), .lit (.int .u32 310598401), .lit (.int .u32 607225278), .lit (.int .u32 1426881987), .lit (.int .u32 1925078388), .lit (.int .u32 2162078206), .lit (.int .u32 2614888103), .lit (.int .u32 3248222580), .lit (.int .u32 3835390401), .lit (.int .u32 4022224774), .lit (.int .u32 264347078), .lit (.int .u32 604807628), .lit (.int .u32 770255983), .lit (.int .u32 1249150122), .lit (.int .u32 1555081692), .lit (.int .u32 1996064986), .lit (.int .u32 2554220882), .lit (.int .u32 2821834349), .lit (.int .u32 2952996808), .lit (.int .u32 3210313671), .lit (.int .u32 3336571891), .lit (.int .u32 3584528711), .lit (.int .u32 113926993), .lit (.int .u32 338241895), .lit (.int .u32 666307205), .lit (.int .u32 773529912), .lit (.int .u32 1294757372), .lit (.int .u32 1396182291), .lit (.int .u32 1695183700), .lit (.int .u32 1986661051), .lit (.int .u32 2177026350), .lit (.int .u32 2456956037), .lit (.int .u32 2730485921), .lit (.int .u32 2820302411), .lit (.int .u32 3259730800), .lit (.int .u32 3345764771), .lit (.int .u32 3516065817), .lit (.int .u32 3600352804), .lit (.int .u32 4094571909), .lit (.int .u32 275423344), .lit (.int .u32 430227734), .lit (.int .u32 506948616), .lit (.int .u32 659060556), .lit (.int .u32 883997877), .lit (.int .u32 958139571), .lit (.int .u32 1322822218), .lit (.int .u32 1537002063), .lit (.int .u32 1747873779), .lit (.int .u32 1955562222), .lit (.int .u32 2024104815), .lit (.int .u32 2227730452), .lit (.int .u32 2361852424), .lit (.int .u32 2428436474), .lit (.int .u32 2756734187), .lit (.int .u32 3204031479), .lit (.int .u32 3329325298)]

/-- 'roostlaw05.DigestSha': WHATEVER THE INPUT: true; the input reads as it did. -/
def digestShaSpec : ChangeSpec := { name := "digestSha", fn := fun _ => fun
  | [d] => { results := [.lit (.bool true)], args := [d] }
  | _ => none }
def digestShaRow : OpenClaim := { program := "ytbeemlfggbnknaadoor", sum := "fbf3b6b761fd1d77e04e5ff0edb5724ef44957dbcfd4ad74725dc35c51f30ead", func := "roost/roostlaw05.DigestSha", spec := "digestSha", named := ["roost/digest.firstState", "roost/digest.roundWords"], apart := false, laid := [("roost/digest.firstState", laid_roost_digest_firstState), ("roost/digest.roundWords", laid_roost_digest_roundWords)] }
def DigestShaSaid : Prop := digestShaRow.holds Tryd.pinned (OpenSpec.ofChange digestShaSpec)

/-- ITS FALSE NEIGHBOUR: 'it returns false'. Refute it at one input. -/
def digestShaWrong : ChangeSpec := { name := "digestSha", fn := fun _ => fun
  | [d] => { results := [.lit (.bool false)], args := [d] }
  | _ => none }
def DigestShaWrongFalsely : Prop := digestShaRow.holds Tryd.pinned (OpenSpec.ofChange digestShaWrong)

/-- 'roostlaw05.DigestHmac': WHATEVER THE INPUT: true; the input reads as it did. -/
def digestHmacSpec : ChangeSpec := { name := "digestHmac", fn := fun _ => fun
  | [d1, d2] => { results := [.lit (.bool true)], args := [d1, d2] }
  | _ => none }
def digestHmacRow : OpenClaim := { program := "ytbeemlfggbnknaadoor", sum := "fbf3b6b761fd1d77e04e5ff0edb5724ef44957dbcfd4ad74725dc35c51f30ead", func := "roost/roostlaw05.DigestHmac", spec := "digestHmac", named := ["roost/digest.firstState", "roost/digest.roundWords"], apart := false, laid := [("roost/digest.firstState", laid_roost_digest_firstState), ("roost/digest.roundWords", laid_roost_digest_roundWords)] }
def DigestHmacSaid : Prop := digestHmacRow.holds Tryd.pinned (OpenSpec.ofChange digestHmacSpec)

/-- ITS FALSE NEIGHBOUR: 'it returns false'. Refute it at one input. -/
def digestHmacWrong : ChangeSpec := { name := "digestHmac", fn := fun _ => fun
  | [d1, d2] => { results := [.lit (.bool false)], args := [d1, d2] }
  | _ => none }
def DigestHmacWrongFalsely : Prop := digestHmacRow.holds Tryd.pinned (OpenSpec.ofChange digestHmacWrong)

/-- 'roostlaw05.DigestHi': WHATEVER THE INPUT: true; the input reads as it did. -/
def digestHiSpec : ChangeSpec := { name := "digestHi", fn := fun _ => fun
  | [d1, d2, d3] => { results := [.lit (.bool true)], args := [d1, d2, d3] }
  | _ => none }
def digestHiRow : OpenClaim := { program := "ytbeemlfggbnknaadoor", sum := "fbf3b6b761fd1d77e04e5ff0edb5724ef44957dbcfd4ad74725dc35c51f30ead", func := "roost/roostlaw05.DigestHi", spec := "digestHi", named := ["roost/digest.firstState", "roost/digest.roundWords"], apart := false, laid := [("roost/digest.firstState", laid_roost_digest_firstState), ("roost/digest.roundWords", laid_roost_digest_roundWords)] }
def DigestHiSaid : Prop := digestHiRow.holds Tryd.pinned (OpenSpec.ofChange digestHiSpec)

/-- ITS FALSE NEIGHBOUR: 'it returns false'. Refute it at one input. -/
def digestHiWrong : ChangeSpec := { name := "digestHi", fn := fun _ => fun
  | [d1, d2, d3] => { results := [.lit (.bool false)], args := [d1, d2, d3] }
  | _ => none }
def DigestHiWrongFalsely : Prop := digestHiRow.holds Tryd.pinned (OpenSpec.ofChange digestHiWrong)

/-- 'roostlaw05.DigestRounds': WHATEVER THE INPUT: true; the input reads as it did. -/
def digestRoundsSpec : ChangeSpec := { name := "digestRounds", fn := fun _ => fun
  | [d1, d2, d3] => { results := [.lit (.bool true)], args := [d1, d2, d3] }
  | _ => none }
def digestRoundsRow : OpenClaim := { program := "ytbeemlfggbnknaadoor", sum := "fbf3b6b761fd1d77e04e5ff0edb5724ef44957dbcfd4ad74725dc35c51f30ead", func := "roost/roostlaw05.DigestRounds", spec := "digestRounds", named := ["roost/digest.firstState", "roost/digest.roundWords"], apart := false, laid := [("roost/digest.firstState", laid_roost_digest_firstState), ("roost/digest.roundWords", laid_roost_digest_roundWords)] }
def DigestRoundsSaid : Prop := digestRoundsRow.holds Tryd.pinned (OpenSpec.ofChange digestRoundsSpec)

/-- ITS FALSE NEIGHBOUR: 'it returns false'. Refute it at one input. -/
def digestRoundsWrong : ChangeSpec := { name := "digestRounds", fn := fun _ => fun
  | [d1, d2, d3] => { results := [.lit (.bool false)], args := [d1, d2, d3] }
  | _ => none }
def DigestRoundsWrongFalsely : Prop := digestRoundsRow.holds Tryd.pinned (OpenSpec.ofChange digestRoundsWrong)

/-- 'roostlaw05.DigestEqual': WHATEVER THE INPUT: true; the input reads as it did. -/
def digestEqualSpec : ChangeSpec := { name := "digestEqual", fn := fun _ => fun
  | [d1, d2, d3] => { results := [.lit (.bool true)], args := [d1, d2, d3] }
  | _ => none }
def digestEqualRow : OpenClaim := { program := "ytbeemlfggbnknaadoor", sum := "fbf3b6b761fd1d77e04e5ff0edb5724ef44957dbcfd4ad74725dc35c51f30ead", func := "roost/roostlaw05.DigestEqual", spec := "digestEqual", named := ["roost/digest.firstState", "roost/digest.roundWords"], apart := false, laid := [("roost/digest.firstState", laid_roost_digest_firstState), ("roost/digest.roundWords", laid_roost_digest_roundWords)] }
def DigestEqualSaid : Prop := digestEqualRow.holds Tryd.pinned (OpenSpec.ofChange digestEqualSpec)

/-- ITS FALSE NEIGHBOUR: 'it returns false'. Refute it at one input. -/
def digestEqualWrong : ChangeSpec := { name := "digestEqual", fn := fun _ => fun
  | [d1, d2, d3] => { results := [.lit (.bool false)], args := [d1, d2, d3] }
  | _ => none }
def DigestEqualWrongFalsely : Prop := digestEqualRow.holds Tryd.pinned (OpenSpec.ofChange digestEqualWrong)

/-- 'roostlaw05.DigestOwn': WHATEVER THE INPUT: true; the input reads as it did. -/
def digestOwnSpec : ChangeSpec := { name := "digestOwn", fn := fun _ => fun
  | [d1, d2] => { results := [.lit (.bool true)], args := [d1, d2] }
  | _ => none }
def digestOwnRow : OpenClaim := { program := "ytbeemlfggbnknaadoor", sum := "fbf3b6b761fd1d77e04e5ff0edb5724ef44957dbcfd4ad74725dc35c51f30ead", func := "roost/roostlaw05.DigestOwn", spec := "digestOwn", named := ["roost/digest.firstState", "roost/digest.roundWords"], apart := false, laid := [("roost/digest.firstState", laid_roost_digest_firstState), ("roost/digest.roundWords", laid_roost_digest_roundWords)] }
def DigestOwnSaid : Prop := digestOwnRow.holds Tryd.pinned (OpenSpec.ofChange digestOwnSpec)

/-- ITS FALSE NEIGHBOUR: 'it returns false'. Refute it at one input. -/
def digestOwnWrong : ChangeSpec := { name := "digestOwn", fn := fun _ => fun
  | [d1, d2] => { results := [.lit (.bool false)], args := [d1, d2] }
  | _ => none }
def DigestOwnWrongFalsely : Prop := digestOwnRow.holds Tryd.pinned (OpenSpec.ofChange digestOwnWrong)

/- THE SECOND FORM. 'bulk': how many values and letters a reading holds, each counted each time it is reached (what is shared counts as often as it is met; a slice's spare places count too). A statement '..UptoSaid' is the law's where the arguments, and the package variables that the reading takes, are together of bulk at most 1048576: NARROWER than '..Said'. Prove '..Said' where nothing that the law and all that it calls make is longer than what came in: it says more and counts as full. Else prove '..UptoSaid'. A law counts once. -/
mutual
def uptoBulk {H : Type} : DataW H → Nat
  | .lit (.string bytes) => bytes.length + 1
  | .lit _ => 1
  | .nil => 1
  | .ptr d => uptoBulk d + 1
  | .slice elems spare => uptoBulkAll elems + uptoBulkAll spare + 1
  | .agg parts => uptoBulkAll parts + 1
  | .iface _ d => uptoBulk d + 1
  | .map entries => uptoBulkEntries entries + 1
  | .held _ => 1
def uptoBulkAll {H : Type} : List (DataW H) → Nat
  | [] => 0
  | d :: r => uptoBulk d + uptoBulkAll r
def uptoBulkEntries {H : Type} : List (Lit × DataW H) → Nat
  | [] => 0
  | x :: r => uptoBulkEntry x + uptoBulkEntries r
def uptoBulkEntry {H : Type} : Lit × DataW H → Nat
  | (.string bytes, d) => bytes.length + uptoBulk d + 1
  | (_, d) => uptoBulk d + 1
 end
def uptoSmall : (H : Type) → List (DataW H) → Bool := fun _ ds => decide (uptoBulkAll ds ≤ 1048576)
def OpenSpec.upto (s : _root_.Go.ChangeSpec) : _root_.Go.OpenSpec := { _root_.Go.OpenSpec.ofChange s with cond := some uptoSmall }

/-- 'roostlaw05.DigestSha', WHERE WHAT IT READS IS OF BULK AT MOST 1048576: true; the input reads as it did. -/
def digestShaUptoRow : OpenClaim := { program := "ytbeemlfggbnknaadoor", sum := "fbf3b6b761fd1d77e04e5ff0edb5724ef44957dbcfd4ad74725dc35c51f30ead", func := "roost/roostlaw05.DigestSha", spec := "digestSha", named := ["roost/digest.firstState", "roost/digest.roundWords"], apart := false, laid := [("roost/digest.firstState", laid_roost_digest_firstState), ("roost/digest.roundWords", laid_roost_digest_roundWords)], narrowed := true }
def DigestShaUptoSaid : Prop := digestShaUptoRow.holds Tryd.pinned (OpenSpec.upto digestShaSpec)

/-- 'roostlaw05.DigestHmac', WHERE WHAT IT READS IS OF BULK AT MOST 1048576: true; the input reads as it did. -/
def digestHmacUptoRow : OpenClaim := { program := "ytbeemlfggbnknaadoor", sum := "fbf3b6b761fd1d77e04e5ff0edb5724ef44957dbcfd4ad74725dc35c51f30ead", func := "roost/roostlaw05.DigestHmac", spec := "digestHmac", named := ["roost/digest.firstState", "roost/digest.roundWords"], apart := false, laid := [("roost/digest.firstState", laid_roost_digest_firstState), ("roost/digest.roundWords", laid_roost_digest_roundWords)], narrowed := true }
def DigestHmacUptoSaid : Prop := digestHmacUptoRow.holds Tryd.pinned (OpenSpec.upto digestHmacSpec)

/-- 'roostlaw05.DigestHi', WHERE WHAT IT READS IS OF BULK AT MOST 1048576: true; the input reads as it did. -/
def digestHiUptoRow : OpenClaim := { program := "ytbeemlfggbnknaadoor", sum := "fbf3b6b761fd1d77e04e5ff0edb5724ef44957dbcfd4ad74725dc35c51f30ead", func := "roost/roostlaw05.DigestHi", spec := "digestHi", named := ["roost/digest.firstState", "roost/digest.roundWords"], apart := false, laid := [("roost/digest.firstState", laid_roost_digest_firstState), ("roost/digest.roundWords", laid_roost_digest_roundWords)], narrowed := true }
def DigestHiUptoSaid : Prop := digestHiUptoRow.holds Tryd.pinned (OpenSpec.upto digestHiSpec)

/-- 'roostlaw05.DigestRounds', WHERE WHAT IT READS IS OF BULK AT MOST 1048576: true; the input reads as it did. -/
def digestRoundsUptoRow : OpenClaim := { program := "ytbeemlfggbnknaadoor", sum := "fbf3b6b761fd1d77e04e5ff0edb5724ef44957dbcfd4ad74725dc35c51f30ead", func := "roost/roostlaw05.DigestRounds", spec := "digestRounds", named := ["roost/digest.firstState", "roost/digest.roundWords"], apart := false, laid := [("roost/digest.firstState", laid_roost_digest_firstState), ("roost/digest.roundWords", laid_roost_digest_roundWords)], narrowed := true }
def DigestRoundsUptoSaid : Prop := digestRoundsUptoRow.holds Tryd.pinned (OpenSpec.upto digestRoundsSpec)

/-- 'roostlaw05.DigestEqual', WHERE WHAT IT READS IS OF BULK AT MOST 1048576: true; the input reads as it did. -/
def digestEqualUptoRow : OpenClaim := { program := "ytbeemlfggbnknaadoor", sum := "fbf3b6b761fd1d77e04e5ff0edb5724ef44957dbcfd4ad74725dc35c51f30ead", func := "roost/roostlaw05.DigestEqual", spec := "digestEqual", named := ["roost/digest.firstState", "roost/digest.roundWords"], apart := false, laid := [("roost/digest.firstState", laid_roost_digest_firstState), ("roost/digest.roundWords", laid_roost_digest_roundWords)], narrowed := true }
def DigestEqualUptoSaid : Prop := digestEqualUptoRow.holds Tryd.pinned (OpenSpec.upto digestEqualSpec)

/-- 'roostlaw05.DigestOwn', WHERE WHAT IT READS IS OF BULK AT MOST 1048576: true; the input reads as it did. -/
def digestOwnUptoRow : OpenClaim := { program := "ytbeemlfggbnknaadoor", sum := "fbf3b6b761fd1d77e04e5ff0edb5724ef44957dbcfd4ad74725dc35c51f30ead", func := "roost/roostlaw05.DigestOwn", spec := "digestOwn", named := ["roost/digest.firstState", "roost/digest.roundWords"], apart := false, laid := [("roost/digest.firstState", laid_roost_digest_firstState), ("roost/digest.roundWords", laid_roost_digest_roundWords)], narrowed := true }
def DigestOwnUptoSaid : Prop := digestOwnUptoRow.holds Tryd.pinned (OpenSpec.upto digestOwnSpec)

end Rows
end Go.Proofs.YtbeemlfggbnknaaDoor
