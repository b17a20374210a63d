/- octet.folded, octet.PutInt: the bytes ahead, and the form of the number. -/
import Derived.Test.YtomkcmkbehcjnaaDoorPut
import Derived.Test.YtomkcmkbehcjnaaDoorOrderA
namespace Go.Proofs.YtomkcmkbehcjnaaDoor
open Go.RowKit

/-- What a number with a sign is folded to. -/
def foldv (n : Int) : Nat := if n < 0 then (-(2 * n) - 1).toNat else (2 * n).toNat

theorem fold_lt (n : Int) (h0 : -9223372036854775808 ≤ n) (h1 : n ≤ 9223372036854775807) : foldv n < 18446744073709551616 := by unfold foldv; split <;> omega

theorem not_i64 (n : Int) (h0 : -9223372036854775808 ≤ n) (h1 : n ≤ 9223372036854775807) : bits .xor .i64 (-1) n = -n - 1 := by
  have e1 : (BitVec.ofInt 64 (-1) ^^^ BitVec.ofInt 64 n) = ~~~ (BitVec.ofInt 64 n) := by
    have : BitVec.ofInt 64 (-1) = BitVec.allOnes 64 := by decide
    rw [this, BitVec.allOnes_xor]
  show IntKind.i64.wrap ((BitVec.ofInt 64 (-1) ^^^ BitVec.ofInt 64 n).toNat : Int) = _
  rw [e1, BitVec.toNat_not, IntKind.wrap_i64]
  have e2 : ((BitVec.ofInt 64 n).toNat : Int) = n % 18446744073709551616 := by
    rw [BitVec.toNat_ofInt]
    have : (2 : Nat) ^ 64 = 18446744073709551616 := by decide
    rw [this]
    omega
  have e3 : (2 : Nat) ^ 64 = 18446744073709551616 := by decide
  have hlt : (BitVec.ofInt 64 n).toNat < 18446744073709551616 := by have := (BitVec.ofInt 64 n).isLt; omega
  rw [e3]
  generalize (BitVec.ofInt 64 n).toNat = m at e2 hlt
  omega

set_option maxHeartbeats 800000 in
theorem folded_any (n : Int) (w : World) (h0 : -9223372036854775808 ≤ n) (h1 : n ≤ 9223372036854775807) : Calls Tryd.prog 67 #[.int .i64 n] w fun e w' => e = .returned (.int .u64 (foldv n)) ∧ w' = w := by
  by_cases hn : n < 0
  · have HF : Hid ((foldv n : Int) = -(2 * n) - 1) := (by unfold foldv; rw [if_pos hn]; omega : (foldv n : Int) = -(2 * n) - 1)
    have hx := not_i64 n h0 h1
    go_enter Tryd.func67, Tryd.ntmps67
    go_wp2
    go_ret
    refine ⟨ret_int ?_, rfl⟩
    rw [HF.out]
    simp only [IntKind.wrap_u64]
    omega
  · have HF : Hid ((foldv n : Int) = 2 * n) := (by unfold foldv; rw [if_neg hn]; omega : (foldv n : Int) = 2 * n)
    go_enter Tryd.func67, Tryd.ntmps67
    go_wp2
    go_ret
    refine ⟨ret_int ?_, rfl⟩
    rw [HF.out]
    omega

set_option maxHeartbeats 800000 in
theorem putInt_any (a : Option Addr) (n c : Nat) (xs : List Int) (k : Int) (w : World) (h : Rd w a n c xs) (hn : n ≤ 100000) (h0 : -9223372036854775808 ≤ k) (h1 : k ≤ 9223372036854775807) :
    Calls Tryd.prog 54 #[.slice a n c, .int .i64 k] w fun e w' => ∃ v,
      e = .returned v ∧ w'.ownsRow w.heap.size 5 1 v (n + (form (foldv k)).length) (bc (xs ++ form (foldv k))) ∧ Below w.heap.size w w' := by
  have hk := fold_lt k h0 h1
  have hl10 := form_len10 (foldv k) hk
  go_enter Tryd.func54, Tryd.ntmps54
  go_wp2_with (first
    | (go_at_call 67; refine (folded_any k _ (by assumption) (by assumption)).mono ?_; rintro e w0 ⟨rfl, rfl⟩)
    | (go_at_call 51; refine (numberForm_any (foldv k) _ (by assumption)).mono ?_; rintro e w1 ⟨v, rfl, hown, hb1⟩; obtain ⟨a1, c1, rfl, hr⟩ := Rd.ofOwn hown (form_bd (foldv k)))
    | (go_at_call 50; refine (behind1_any a n c xs _ a1 _ c1 (form (foldv k)) _ (h.carry (Nat.le_refl _) (hb1.alloc hb1.size _)) (hr.carry (Nat.le_refl _) ((Below.refl _ _).alloc (Nat.le_refl _) _)) (by simp) (by omega) (by omega)).mono ?_; rintro e w2 ⟨rfl, hown2, hb2⟩))
  go_ret
  have hs1 := hb1.size
  simp only [World.size_alloc] at hown2
  exact ⟨.slice (some ⟨w1.heap.size + 1, 0, none⟩) (n + (form (foldv k)).length) (n + (form (foldv k)).length), rfl, own_weaken hown2 (by omega), (hb1.alloc hb1.size _).trans (hb2.mono (by simp; omega))⟩

end Go.Proofs.YtomkcmkbehcjnaaDoor
