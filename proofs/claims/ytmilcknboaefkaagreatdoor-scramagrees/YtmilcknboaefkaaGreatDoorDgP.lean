/- SHA-256 on numbers, as functions: words are whole numbers below 2^32. -/
import Derived.Test.YtmilcknboaefkaaGreatDoorBytes
set_option maxRecDepth 100000
namespace Go.Proofs.YtmilcknboaefkaaGreatDoor
open Go.RowKit

def xr (a b : Int) : Int := bits .xor .u32 a b
def rr (x : Int) (b : Nat) : Int := bits .or .u32 (x / 2 ^ b) (x * 2 ^ (32 - b) % 4294967296)
def wS0 (x : Int) : Int := xr (xr (rr x 2) (rr x 13)) (rr x 22)
def wS1 (x : Int) : Int := xr (xr (rr x 6) (rr x 11)) (rr x 25)
def ws0 (x : Int) : Int := xr (xr (rr x 7) (rr x 18)) (x / 8)
def ws1 (x : Int) : Int := xr (xr (rr x 17) (rr x 19)) (x / 1024)
def wch (e f g : Int) : Int := xr (bits .and .u32 e f) (bits .and .u32 (xr 4294967295 e) g)
def wmaj (a b c : Int) : Int := xr (xr (bits .and .u32 a b) (bits .and .u32 a c)) (bits .and .u32 b c)
def ad (a b : Int) : Int := (a + b) % 4294967296

theorem bits_or_comm (k : IntKind) (a b : Int) : bits .or k a b = bits .or k b a := by unfold bits; simp only [BitVec.or_comm]

end Go.Proofs.YtmilcknboaefkaaGreatDoor
