/- octet.folded, octet.PutInt: the bytes ahead, and the form of the number. -/
import Derived.Test.YtiidjdedeenijaaDoorPut
import Derived.Test.YtiidjdedeenijaaDoorOrderA
namespace Go.Proofs.YtiidjdedeenijaaDoor
open Go.RowKit

/-- What a number with a sign is folded to. -/
def foldv (n : Int) : Nat := if n < 0 then (-(2 * n) - 1).toNat else (2 * n).toNat

theorem fold_lt (n : Int) (h0 : -9223372036854775808 ≤ n) (h1 : n ≤ 9223372036854775807) : foldv n < 18446744073709551616 := by unfold foldv; split <;> omega

theorem not_i64 (n : Int) (h0 : -9223372036854775808 ≤ n) (h1 : n ≤ 9223372036854775807) : bits .xor .i64 (-1) n = -n - 1 := by
  have e1 : (BitVec.ofInt 64 (-1) ^^^ BitVec.ofInt 64 n) = ~~~ (BitVec.ofInt 64 n) := by
    have : BitVec.ofInt 64 (-1) = BitVec.allOnes 64 := by decide
    rw [this, BitVec.allOnes_xor]
  show IntKind.i64.wrap ((BitVec.ofInt 64 (-1) ^^^ BitVec.ofInt 64 n).toNat : Int) = _
  rw [e1, BitVec.toNat_not, IntKind.wrap_i64]
  have e2 : ((BitVec.ofInt 64 n).toNat : Int) = n % 18446744073709551616 := by
    rw [BitVec.toNat_ofInt]
    have : (2 : Nat) ^ 64 = 18446744073709551616 := by decide
    rw [this]
    omega
  have e3 : (2 : Nat) ^ 64 = 18446744073709551616 := by decide
  have hlt : (BitVec.ofInt 64 n).toNat < 18446744073709551616 := by have := (BitVec.ofInt 64 n).isLt; omega
  rw [e3]
  generalize (BitVec.ofInt 64 n).toNat = m at e2 hlt
  omega

end Go.Proofs.YtiidjdedeenijaaDoor
