/- Floats that are sixty-fourths: their sums, differences and products are exact. -/
import Derived.Test.YtmlkeobmkjdefaaMtG
namespace Go.Proofs.Ytmlkeobmkjdefaa
open Go.RowKit

namespace Fl
/-- A number of so few digits is a float. -/
theorem rep {n k : Nat} (hn : n < 2 ^ 53) (h1 : k ≤ 1200) : ∃ x, x < inf ∧ val x = n * 2 ^ k := by
  have hb : bin = 2 ^ 52 := by decide
  have hi : inf = 2047 * bin := by decide
  by_cases h0 : n = 0
  · subst h0; exact ⟨0, by decide, by rw [val_zero, Nat.zero_mul]⟩
  have hl : n.log2 ≤ 52 := by
    have := (Nat.log2_lt (k := 53) h0).2 hn
    omega
  have g1 := Nat.log2_self_le h0
  have g2 : n < 2 ^ (n.log2 + 1) := Nat.lt_log2_self
  by_cases hs : 52 - n.log2 ≤ k
  · refine ⟨(k - (52 - n.log2)) * bin + n * 2 ^ (52 - n.log2), ?_, ?_⟩
    · have a1 : n * 2 ^ (52 - n.log2) < 2 ^ 53 := by
        have := Nat.mul_lt_mul_of_pos_right g2 (Nat.two_pow_pos (52 - n.log2))
        rw [← Nat.pow_add] at this
        have e : n.log2 + 1 + (52 - n.log2) = 53 := by omega
        rw [e] at this
        exact this
      have a2 : (k - (52 - n.log2)) * bin ≤ 1200 * bin := Nat.mul_le_mul_right _ (by omega)
      have a3 : (2 : Nat) ^ 53 = 2 * bin := by decide
      rw [hi]
      omega
    · rw [val_at]
      · rw [Nat.mul_assoc, ← Nat.pow_add]
        congr 2
        omega
      · have := Nat.mul_lt_mul_of_pos_right g2 (Nat.two_pow_pos (52 - n.log2))
        rw [← Nat.pow_add] at this
        have e : n.log2 + 1 + (52 - n.log2) = 53 := by omega
        rw [e] at this
        have a3 : (2 : Nat) ^ 53 = 2 * bin := by decide
        omega
      · left
        have := Nat.mul_le_mul_right (2 ^ (52 - n.log2)) g1
        rw [← Nat.pow_add] at this
        have e : n.log2 + (52 - n.log2) = 52 := by omega
        rw [e] at this
        omega
  · have a1 : n * 2 ^ k < 2 ^ 53 := by
      have := Nat.mul_lt_mul_of_pos_right g2 (Nat.two_pow_pos k)
      rw [← Nat.pow_add] at this
      exact Nat.lt_of_lt_of_le this (Nat.pow_le_pow_right (by omega) (by omega))
    have a3 : (2 : Nat) ^ 53 = 2 * bin := by decide
    refine ⟨n * 2 ^ k, ?_, ?_⟩
    · rw [hi]; omega
    · have := val_at (q := 0) (k := n * 2 ^ k) (by omega) (Or.inr rfl)
      rw [Nat.zero_mul, Nat.zero_add, Nat.pow_zero, Nat.mul_one] at this
      exact this
end Fl

/-- n * 2 ^ K, kept shut. -/
def sc (n K : Nat) : Nat := n * 2 ^ K
theorem sc_lt (a b K : Nat) : sc a K < sc b K ↔ a < b := Nat.mul_lt_mul_right (Nat.two_pow_pos K)
theorem sc_add (a b K : Nat) : sc a K + sc b K = sc (a + b) K := (Nat.add_mul ..).symm
theorem sc_sub (a b K : Nat) : sc a K - sc b K = sc (a - b) K := (Nat.sub_mul ..).symm
theorem sc_sc (n a b : Nat) : sc (sc n a) b = sc n (a + b) := by unfold sc; rw [Nat.pow_add, Nat.mul_assoc]
theorem sc_zero (K : Nat) : sc 0 K = 0 := Nat.zero_mul _
theorem vl_sc (x : Nat) : Fl.vl x = sc (Fl.val x) 2926 := rfl

/-- n sixty-fourths. -/
def E (n : Nat) : Nat := Fl.rnd (sc n 3994)

theorem E_val {n : Nat} (h : n < 2 ^ 53) : E n < Fl.inf ∧ Fl.val (E n) = sc n 1068 := by
  obtain ⟨x, h1, h2⟩ := Fl.rep (k := 1068) h (by omega)
  have h3 : Fl.val x = sc n 1068 := h2
  have e1 : Fl.vl x = sc n 3994 := by rw [vl_sc, h3, sc_sc]
  have e2 : E n = x := by
    unfold E
    rw [← e1]
    exact Fl.rnd_vl (Nat.le_of_lt h1)
  rw [e2]
  exact ⟨h1, h3⟩

theorem E_vl {n : Nat} (h : n < 2 ^ 53) : Fl.vl (E n) = sc n 3994 := by rw [vl_sc, (E_val h).2, sc_sc]

theorem E_lt_iff {a b : Nat} (ha : a < 2 ^ 53) (hb : b < 2 ^ 53) : E a < E b ↔ a < b := by
  rw [← Fl.vl_lt_iff, E_vl ha, E_vl hb]
  exact sc_lt a b 3994
theorem E_le_iff {a b : Nat} (ha : a < 2 ^ 53) (hb : b < 2 ^ 53) : E a ≤ E b ↔ a ≤ b := by
  have := E_lt_iff hb ha
  omega
theorem E_zero : E 0 = 0 := by unfold E; rw [sc_zero]; exact Fl.rnd_zero
theorem E_pos {a : Nat} (ha : a < 2 ^ 53) (h : 0 < a) : 0 < E a := by
  have := (E_lt_iff (a := 0) (by decide) ha).2 h
  rw [E_zero] at this
  exact this
theorem E_le {a : Nat} (ha : a < 2 ^ 53) : E a ≤ Fl.inf := Nat.le_of_lt (E_val ha).1
theorem E_64 {a : Nat} (ha : a < 2 ^ 53) : E a < 2 ^ 64 := Nat.lt_of_lt_of_le (E_val ha).1 (by decide)
theorem E_amt {a : Nat} (ha : a < 2 ^ 53) : amt (E a) = true := (amt_iff (E_64 ha)).2 (Or.inl (E_le ha))
theorem E_nz {a : Nat} (ha : a < 2 ^ 53) : nz (E a) = E a := by
  rcases nz_cases (E_amt ha) (E_64 ha) with g | ⟨g1, g2⟩
  · exact g
  · have := (E_val ha).1
    rw [g1] at this
    exact absurd this (by decide)
theorem E_ninf {a : Nat} (ha : a < 2 ^ 53) : E a ≠ Fl.inf := Nat.ne_of_lt (E_val ha).1
theorem E_nNI {a : Nat} (ha : a < 2 ^ 53) : E a ≠ NI := fun e => by
  have := (E_val ha).1
  rw [e] at this
  exact absurd this (by decide)

theorem E_add {a b : Nat} (ha : a < 2 ^ 53) (hb : b < 2 ^ 53) : Ieee.double.add (E a) (E b) = some (E (a + b)) := by
  rw [Fl.add_pos (E_val ha).1 (E_val hb).1, E_vl ha, E_vl hb, sc_add]
  rfl
theorem E_sub {a b : Nat} (ha : a < 2 ^ 53) (h : b ≤ a) : Ieee.double.sub (E a) (E b) = some (E (a - b)) := by
  have hb : b < 2 ^ 53 := by omega
  rw [Fl.sub_pos (E_val ha).1 ((E_le_iff hb ha).2 h), E_vl ha, E_vl hb, sc_sub]
  rfl
theorem sc_mul (a b K L M : Nat) : sc (sc a K * sc (64 * b) L) M = sc (a * b) (6 + (K + L + M)) := by
  unfold sc
  rw [Nat.pow_add, Nat.pow_add, Nat.pow_add]
  have : (2 : Nat) ^ 6 = 64 := rfl
  rw [this]
  generalize 2 ^ K = x
  generalize 2 ^ L = y
  generalize 2 ^ M = z
  rw [Nat.mul_comm 64 b]
  simp only [Nat.mul_assoc]
  congr 1
  rw [Nat.mul_left_comm x b]
  congr 1
  rw [Nat.mul_left_comm x 64]
theorem mul_sc {x y : Nat} (hx : x < Fl.inf) (hy : y < Fl.inf) : Ieee.double.mul x y = some (Fl.rnd (sc (Fl.val x * Fl.val y) 1852)) := Fl.mul_pos hx hy
theorem E_mul {a b : Nat} (ha : a < 2 ^ 53) (hb : 64 * b < 2 ^ 53) : Ieee.double.mul (E a) (E (64 * b)) = some (E (a * b)) := by
  rw [mul_sc (E_val ha).1 (E_val hb).1, (E_val ha).2, (E_val hb).2, sc_mul]
  rfl

/-- A whole number as a float. -/
theorem near_sc (n : Nat) (p : Int) (k : Nat) (h : p = -4000 + (k : Int)) : Ieee.double.nearest false n p = Fl.rnd (sc n k) := Fl.nearest_rnd n p k h
theorem sc_64 (n K : Nat) : sc n (6 + K) = sc (64 * n) K := by
  unfold sc
  rw [Nat.pow_add]
  have : (2 : Nat) ^ 6 = 64 := rfl
  rw [this, ← Nat.mul_assoc, Nat.mul_comm n 64]
theorem E_int (n : Nat) : floatOfInt .f64 (n : Int) = E (64 * n) := by
  show Ieee.double.nearest (decide ((n : Int) < 0)) (n : Int).natAbs 0 = _
  rw [decide_eq_false (by omega), Int.natAbs_natCast, near_sc n 0 (6 + 3994) (by omega), sc_64]
  rfl

theorem E_one : 4607182418800017408 = E 64 := by decide +kernel
theorem E_least : 4580160821035794432 = E 1 := by decide +kernel

end Go.Proofs.Ytmlkeobmkjdefaa
