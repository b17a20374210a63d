/- A quotient by a power of two is exact. -/
import Derived.Test.YtmlkeobmkjdefaaMtE
namespace Go.Proofs.Ytmlkeobmkjdefaa
open Go.RowKit

theorem two_parts {e : Nat} (he : e ≤ 1500) : (e + 1) * Fl.bin < Fl.inf ∧ Fl.mag ((e + 1) * Fl.bin) = Fl.bin ∧ Fl.ex ((e + 1) * Fl.bin) = e := by
  have hb : Fl.bin = 4503599627370496 := rfl
  have hi : Fl.inf = 9218868437227405312 := rfl
  refine ⟨by rw [hb, hi]; omega, ?_, ?_⟩
  · unfold Fl.mag
    rw [if_neg (by rw [hb]; omega), Nat.mul_mod_left, Nat.add_zero]
  · unfold Fl.ex
    rw [Nat.mul_div_cancel _ (by omega)]
    omega

theorem div_two {x e : Nat} (hx : x < Fl.inf) (he : e ≤ 1500) : Ieee.double.div x ((e + 1) * Fl.bin) = some (Fl.rnd (sc (Fl.val x) (3948 - e))) := by
  obtain ⟨hy, m2, x2⟩ := two_parts he
  obtain ⟨n1, r1⟩ := Fl.pos_parts (Nat.le_of_lt hx)
  obtain ⟨n2, r2⟩ := Fl.pos_parts (Nat.le_of_lt hy)
  have hb : Fl.bin = 2 ^ 52 := by decide
  unfold Ieee.Format.div
  rw [Fl.read_fin x (by rw [r1]; exact hx), Fl.read_fin _ (by rw [r2]; exact hy), n1, n2, r1, r2, m2, x2]
  have hlb : Fl.bin.log2 = 52 := by decide
  have hfb : Ieee.double.fractionBits + 2 = 54 := rfl
  have hm : Fl.mag x < 2 ^ 53 := by
    unfold Fl.mag
    have h2 : (2 : Nat) ^ 53 = 2 * Fl.bin := by decide
    have h3 := Nat.mod_lt x (show 0 < Fl.bin by decide)
    split <;> omega
  have hl : (Fl.mag x).log2 ≤ 52 := by
    by_cases h0 : Fl.mag x = 0
    · rw [h0]; decide
    · have := (Nat.log2_lt (k := 53) h0).2 hm
      omega
  have hxe : Fl.val x = Fl.mag x * 2 ^ Fl.ex x := rfl
  unfold Ieee.Datum.quotient
  simp only [if_neg (show Fl.bin ≠ 0 by decide), Option.map_some, hfb, hlb]
  generalize hmo : 54 + 52 - (Fl.mag x).log2 = more
  have hmore : 54 ≤ more ∧ more ≤ 106 := by omega
  have e1 : Fl.mag x <<< more = Fl.mag x * 2 ^ (more - 52) * Fl.bin := by
    rw [Nat.shiftLeft_eq, hb, Nat.mul_assoc, ← Nat.pow_add]
    congr 2
    omega
  rw [e1, Nat.mul_div_cancel _ (show 0 < Fl.bin by decide), Nat.mul_mod_left]
  simp only [bne_self_eq_false, Bool.toNat_false, Nat.add_zero]
  unfold Ieee.Format.write
  dsimp only
  have e3 : sc (2 * (Fl.mag x * 2 ^ (more - 52))) (3999 + Fl.ex x - e - more) = sc (Fl.val x) (3948 - e) := by
    have key : ∀ K L : Nat, 1 + (more - 52) + K = Fl.ex x + L → sc (2 * (Fl.mag x * 2 ^ (more - 52))) K = sc (Fl.mag x * 2 ^ Fl.ex x) L := fun K L h => by
      unfold sc
      rw [Nat.mul_assoc (Fl.mag x), ← Nat.pow_add, ← h, Nat.pow_add, Nat.pow_add, Nat.pow_one, Nat.mul_left_comm 2, Nat.mul_assoc (Fl.mag x)]
    rw [hxe]
    exact key _ _ (by omega)
  rw [Fl.least_eq, near_sc _ _ (3999 + Fl.ex x - e - more) (by omega), e3]

/-- A power of two, in sixty-fourths. -/
theorem E_two {j : Nat} (hj : j < 5) : E (64 * 2 ^ j) = (j + 1022 + 1) * Fl.bin := by
  have hr : 64 * 2 ^ j < 2 ^ 53 := by
    have : 2 ^ j ≤ 2 ^ 4 := Nat.pow_le_pow_right (by omega) (by omega)
    omega
  rw [← Fl.val_eq_iff, (E_val hr).2]
  have h1 := Fl.val_at (q := j + 1022) (k := Fl.bin) (by omega) (Or.inl (Nat.le_refl _))
  rw [Nat.add_mul, Nat.one_mul, h1]
  have hb : Fl.bin = 2 ^ 52 := by decide
  have h64 : (64 : Nat) = 2 ^ 6 := rfl
  have key : ∀ K L : Nat, 6 + j + K = 52 + L → sc (64 * 2 ^ j) K = Fl.bin * 2 ^ L := fun K L h => by
    unfold sc
    rw [h64, hb, ← Nat.pow_add, ← Nat.pow_add, ← Nat.pow_add, h]
  exact key _ _ (by omega)

theorem E_div {j c : Nat} (hj : j < 5) (hc : 64 * c < 2 ^ 53) : Ieee.double.div (E (64 * c)) (E (64 * 2 ^ j)) = some (E (c * 2 ^ (6 - j))) := by
  rw [E_two hj, div_two (E_val hc).1 (by omega), (E_val hc).2, sc_sc]
  unfold E
  have key : ∀ K L : Nat, 6 + K = 6 - j + L → sc (64 * c) K = sc (c * 2 ^ (6 - j)) L := fun K L h => by
    rw [← sc_64]
    unfold sc
    rw [h, Nat.pow_add, Nat.mul_assoc]
  rw [key (1068 + (3948 - (j + 1022))) 3994 (by omega)]

end Go.Proofs.Ytmlkeobmkjdefaa
