/- frame.length. -/
import Derived.Test.YtmpoddgmkneffaaFrBase
namespace Go.Proofs.Ytmpoddgmkneffaa
open Go.RowKit

theorem or_be {acc : Nat} {z : Int} (h0 : 0 ≤ z) (h1 : z ≤ 255) (ha : acc < 16777216) : bits .or .u64 ((acc : Int) * 256) z = ((acc * 256 + z.toNat : Nat) : Int) := by
  obtain ⟨d, rfl, hd⟩ : ∃ d : Nat, z = (d : Int) ∧ d < 256 := ⟨z.toNat, by omega, by omega⟩
  have e1 : ((acc : Int) * 256) = ((acc * 256 : Nat) : Int) := by omega
  rw [e1, u64_or_nat _ _ (by omega) (by omega)]
  congr 1
  have e2 : acc * 256 = acc <<< 8 := by rw [Nat.shiftLeft_eq]
  rw [e2, ← Nat.shiftLeft_add_eq_or_of_lt (show d < 2 ^ 8 by omega)]
  simp

set_option maxHeartbeats 800000 in
theorem length_any (b off n c : Nat) (xs : List Int) (w : World) (hR : Rd w (some ⟨b, off, none⟩) n c xs) (h4 : 4 ≤ n) :
    Calls Try.prog 28 #[.slice (some ⟨b, off, none⟩) n c] w fun e w' => e = .returned (.int .u64 (be xs)) ∧ w' = w := by
  have hl := hR.len
  have hcp := hR.cap
  have hmx : c ≤ 9223372036854775807 := hR.most
  have h4z : (4 : Int) ≤ (n : Int) := by omega
  have hcz : (4 : Int) ≤ (c : Int) := by omega
  go_enter Try.func28, Try.ntmps28
  go_wp2
  go_loop [2, 8] (fun s i => ∃ k : Nat, k ≤ 4 ∧ i = .int .i64 k ∧ s = .int .u64 (beK xs k)) (fun _ i => 4 - (intOf i).toNat)
  case atStart => exact ⟨0, by omega, rfl, rfl⟩
  case round =>
    obtain ⟨k, hk, rfl, rfl⟩ := hrel
    by_cases hlt : k < 4
    · have hlz : (k : Int) < 4 := by omega
      have hb := hR.bytes.get k
      have hlt2 := beK_lt hR.bytes k
      have hpow : 256 ^ k ≤ 16777216 := by
        have : 256 ^ k ≤ 256 ^ 3 := Nat.pow_le_pow_right (by omega) (by omega)
        simpa using this
      have hc1 := hR.cells _ rfl k (by omega)
      rw [add_flat] at hc1
      obtain ⟨z, hz⟩ : ∃ z, xs.getD k 0 = z := ⟨_, rfl⟩
      have HB : Hid (beK xs (k + 1) = beK xs k * 256 + z.toNat) := by rw [← hz]; exact rfl
      rw [hz] at hb hc1
      have ho := or_be (acc := beK xs k) hb.1 hb.2 (by omega)
      have hbk : ((beK xs k : Nat) : Int) < 16777216 := by omega
      clear hz
      go_wp2
      go_round
      case rel => exact ⟨k + 1, by omega, by go_num, by rw [HB.out]; congr 1; omega⟩
      case measure => simp [intOf]; omega
    · have hk4 : k = 4 := by omega
      subst hk4
      go_wp2
      go_ret
      exact ⟨rfl, rfl⟩

end Go.Proofs.Ytmpoddgmkneffaa
