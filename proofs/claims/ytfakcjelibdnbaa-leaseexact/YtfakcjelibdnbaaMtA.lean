/- meter: floats that are compared; the small functions. -/
import Derived.Test.YtfakcjelibdnbaaFlM
import Derived.Test.YtfakcjelibdnbaaDrF
import Derived.Test.YtfakcjelibdnbaaOwnA
import Derived.BigFrame
namespace Go.Proofs.Ytfakcjelibdnbaa
open Go.RowKit

def fle (x y : Nat) : Bool := !Fl.nan x && !Fl.nan y && decide (Fl.sr x ≤ Fl.sr y)
def feq (x y : Nat) : Bool := !Fl.nan x && !Fl.nan y && decide (Fl.sr x = Fl.sr y)

theorem f64_le (x y : Nat) : (FloatKind.f64.format.order x y == some .lt || FloatKind.f64.format.order x y == some .eq) = fle x y := by
  show (Ieee.double.order x y == some .lt || Ieee.double.order x y == some .eq) = _
  unfold fle Fl.nan
  by_cases hx : Fl.inf < Fl.rung x
  · rw [Fl.order_nan x y (Or.inl hx), decide_eq_true hx]; rfl
  · by_cases hy : Fl.inf < Fl.rung y
    · rw [Fl.order_nan x y (Or.inr hy), decide_eq_true hy]; simp
    · rw [Fl.order_eq x y (by omega) (by omega), decide_eq_false hx, decide_eq_false hy, Fl.cmp_int]
      by_cases h : Fl.sr x < Fl.sr y
      · rw [if_pos h, decide_eq_true (by omega)]; rfl
      · rw [if_neg h]
        by_cases h2 : Fl.sr x = Fl.sr y
        · rw [if_pos h2, decide_eq_true (by omega)]; rfl
        · rw [if_neg h2, decide_eq_false (by omega)]; rfl

theorem f64_ge (x y : Nat) : (FloatKind.f64.format.order x y == some .gt || FloatKind.f64.format.order x y == some .eq) = fle y x := by
  show (Ieee.double.order x y == some .gt || Ieee.double.order x y == some .eq) = _
  unfold fle Fl.nan
  by_cases hx : Fl.inf < Fl.rung x
  · rw [Fl.order_nan x y (Or.inl hx), decide_eq_true hx]; simp
  · by_cases hy : Fl.inf < Fl.rung y
    · rw [Fl.order_nan x y (Or.inr hy), decide_eq_true hy]; rfl
    · rw [Fl.order_eq x y (by omega) (by omega), decide_eq_false hx, decide_eq_false hy, Fl.cmp_int]
      by_cases h : Fl.sr x < Fl.sr y
      · rw [if_pos h, decide_eq_false (by omega)]; rfl
      · rw [if_neg h, decide_eq_true (by omega)]
        by_cases h2 : Fl.sr x = Fl.sr y
        · rw [if_pos h2]; rfl
        · rw [if_neg h2]; rfl

theorem f64_eq (x y : Nat) : (FloatKind.f64.format.order x y == some .eq) = feq x y := by
  show (Ieee.double.order x y == some .eq) = _
  unfold feq Fl.nan
  by_cases hx : Fl.inf < Fl.rung x
  · rw [Fl.order_nan x y (Or.inl hx), decide_eq_true hx]; rfl
  · by_cases hy : Fl.inf < Fl.rung y
    · rw [Fl.order_nan x y (Or.inr hy), decide_eq_true hy]; simp
    · rw [Fl.order_eq x y (by omega) (by omega), decide_eq_false hx, decide_eq_false hy, Fl.cmp_int]
      by_cases h : Fl.sr x < Fl.sr y
      · rw [if_pos h, decide_eq_false (by omega)]; rfl
      · rw [if_neg h]
        by_cases h2 : Fl.sr x = Fl.sr y
        · rw [if_pos h2, decide_eq_true h2]; rfl
        · rw [if_neg h2, decide_eq_false h2]; rfl

theorem f64_ne (x y : Nat) : (FloatKind.f64.format.order x y != some .eq) = !feq x y := by rw [← f64_eq]; rfl

theorem sr_pos {x : Nat} (h : x ≤ Fl.inf) : Fl.sr x = (x : Int) := by
  unfold Fl.sr
  rw [(Fl.pos_parts h).1, (Fl.pos_parts h).2]
  rfl
theorem nan_pos {x : Nat} (h : x ≤ Fl.inf) : Fl.nan x = false := by
  unfold Fl.nan
  rw [(Fl.pos_parts h).2]
  exact decide_eq_false (by omega)
theorem flt_pos {x y : Nat} (hx : x ≤ Fl.inf) (hy : y ≤ Fl.inf) : flt x y = decide (x < y) := by
  unfold flt
  rw [nan_pos hx, nan_pos hy, sr_pos hx, sr_pos hy]
  simp
theorem fle_pos {x y : Nat} (hx : x ≤ Fl.inf) (hy : y ≤ Fl.inf) : fle x y = decide (x ≤ y) := by
  unfold fle
  rw [nan_pos hx, nan_pos hy, sr_pos hx, sr_pos hy]
  simp
theorem feq_pos {x y : Nat} (hx : x ≤ Fl.inf) (hy : y ≤ Fl.inf) : feq x y = decide (x = y) := by
  unfold feq
  rw [nan_pos hx, nan_pos hy, sr_pos hx, sr_pos hy]
  simp
  omega
theorem zero_inf : 0 ≤ Fl.inf := Nat.zero_le _

/-- Not negative, and a number: the words up to infinity's, and -0. -/
def amt (x : Nat) : Bool := fle 0 x
theorem amt_iff {x : Nat} (h : x < 2 ^ 64) : amt x = true ↔ x ≤ Fl.inf ∨ x = Fl.sgn := by
  have hs : Fl.sgn = 9223372036854775808 := rfl
  have hi : Fl.inf = 9218868437227405312 := rfl
  unfold amt fle
  rw [nan_pos zero_inf, sr_pos zero_inf]
  unfold Fl.nan Fl.sr Fl.neg Fl.rung
  rw [hs, hi] at *
  constructor
  · intro g
    simp only [Bool.not_false, Bool.true_and, Bool.and_eq_true, Bool.not_eq_true', decide_eq_false_iff_not, decide_eq_true_eq] at g
    obtain ⟨g1, g2⟩ := g
    by_cases c : x < 9223372036854775808
    · left; rw [Nat.mod_eq_of_lt c] at g1; omega
    · right
      have : (x / 9223372036854775808 % 2 == 1) = true := by
        have : x / 9223372036854775808 = 1 := by omega
        rw [this]; rfl
      rw [this, if_pos rfl] at g2
      omega
  · rintro (g | rfl)
    · have c : x < 9223372036854775808 := by omega
      rw [Nat.mod_eq_of_lt c, Nat.div_eq_of_lt c, decide_eq_false (by omega)]
      simp
    · rfl

theorem nan_amt {x : Nat} (h : amt x = true) : Fl.nan x = false := by
  unfold amt fle at h
  cases g : Fl.nan x
  · rfl
  · rw [g] at h; simp at h

/-- Plus infinity, minus infinity: one word each. -/
theorem flt_max (x : Nat) (h : x < 2 ^ 64) : flt 9218868437227405311 x = decide (x = Fl.inf) := by
  have hs : Fl.sgn = 9223372036854775808 := rfl
  have hi : Fl.inf = 9218868437227405312 := rfl
  by_cases g : x = Fl.inf
  · subst g; rfl
  · rw [decide_eq_false g]
    unfold flt
    by_cases hn : Fl.nan x = true
    · simp [hn]
    · have hn' : Fl.nan x = false := by simpa using hn
      have : ¬ (Fl.sr 9218868437227405311 < Fl.sr x) := by
        have e : Fl.sr 9218868437227405311 = 9218868437227405311 := by decide
        rw [e]
        unfold Fl.nan at hn'
        have hr : Fl.rung x ≤ Fl.inf := by simpa using hn'
        unfold Fl.sr
        cases hne : Fl.neg x
        · simp only [Bool.false_eq_true, if_false]
          have : Fl.rung x = x := by
            unfold Fl.neg at hne
            unfold Fl.rung
            rw [hs] at *
            have : x / 9223372036854775808 % 2 ≠ 1 := by simpa using hne
            omega
          rw [this] at hr ⊢
          omega
        · simp only [if_true]
          omega
      rw [decide_eq_false this]; simp

theorem negF (x : Nat) : Op.negFloat .f64 x = x ^^^ 9223372036854775808 := rfl
theorem neg_eq (x : Nat) (h : x < 2 ^ 64) : x ^^^ 9223372036854775808 = if x < Fl.sgn then x + Fl.sgn else x - Fl.sgn := by
  have hs : Fl.sgn = 2 ^ 63 := rfl
  have e2 : (9223372036854775808 : Nat) = 2 ^ 63 := rfl
  rw [hs, e2]
  apply Nat.eq_of_testBit_eq
  intro i
  rw [Nat.testBit_xor, Nat.testBit_two_pow]
  split
  · rename_i c
    rw [Nat.add_comm]
    by_cases hi : i = 63
    · subst hi
      rw [Nat.testBit_two_pow_add_eq]
      simp
    · rw [decide_eq_false (by omega), Bool.xor_false]
      by_cases hlt : i < 63
      · rw [Nat.testBit_two_pow_add_gt hlt]
      · rw [Nat.testBit_lt_two_pow (Nat.lt_of_lt_of_le c (Nat.pow_le_pow_right (by omega) (by omega))), Nat.testBit_lt_two_pow]
        refine Nat.lt_of_lt_of_le (m := 2 ^ 64) (by omega) (Nat.pow_le_pow_right (by omega) (by omega))
  · rename_i c
    obtain ⟨y, rfl⟩ : ∃ y, x = 2 ^ 63 + y := ⟨x - 2 ^ 63, by omega⟩
    have hy : y < 2 ^ 63 := by omega
    have e : 2 ^ 63 + y - 2 ^ 63 = y := by omega
    rw [e]
    by_cases hi : i = 63
    · subst hi
      rw [Nat.testBit_two_pow_add_eq, Nat.testBit_lt_two_pow hy]
      simp
    · rw [decide_eq_false (by omega), Bool.xor_false]
      by_cases hlt : i < 63
      · rw [Nat.testBit_two_pow_add_gt hlt]
      · rw [Nat.testBit_lt_two_pow (Nat.lt_of_lt_of_le hy (Nat.pow_le_pow_right (by omega) (by omega))), Nat.testBit_lt_two_pow]
        refine Nat.lt_of_lt_of_le (m := 2 ^ 64) (by omega) (Nat.pow_le_pow_right (by omega) (by omega))

theorem flt_maxN (x : Nat) (h : x < 2 ^ 64) : flt 9218868437227405311 (x ^^^ 9223372036854775808) = decide (x = NI) := by
  have hs : Fl.sgn = 9223372036854775808 := rfl
  have hi : Fl.inf = 9218868437227405312 := rfl
  have hN : NI = 18442240474082181120 := rfl
  rw [neg_eq x h, flt_max _ (by split <;> omega)]
  by_cases g : x = NI
  · subst g; rfl
  · rw [decide_eq_false g, decide_eq_false]
    split <;> omega

set_option maxHeartbeats 400000 in
theorem isInf_pos (x : Nat) (h : x < 2 ^ 64) (w : World) : Calls Try.prog 23 #[.float .f64 x, .int .i64 1] w fun e w' => e = .returned (.bool (decide (x = Fl.inf))) ∧ w' = w := by
  have hg := f64_gt x 9218868437227405311
  rw [flt_max x h] at hg
  generalize decide (x = Fl.inf) = b at *
  go_enter Try.func23, Try.ntmps23
  go_wp2
  go_ret
  exact ⟨rfl, rfl⟩

set_option maxHeartbeats 400000 in
theorem isInf_neg (x : Nat) (h : x < 2 ^ 64) (w : World) : Calls Try.prog 23 #[.float .f64 x, .int .i64 (-1)] w fun e w' => e = .returned (.bool (decide (x = NI))) ∧ w' = w := by
  have hg := f64_gt (x ^^^ 9223372036854775808) 9218868437227405311
  rw [flt_maxN x h] at hg
  have hn : ∀ w : World, (Op.unary .neg (.float .f64 x)).run Try.prog w = .ok (.float .f64 (x ^^^ 9223372036854775808)) w := fun _ => rfl
  go_enter Try.func23, Try.ntmps23
  go_wp2
  go_ret
  exact ⟨rfl, rfl⟩

set_option maxHeartbeats 400000 in
theorem infP_any (w : World) : Calls Try.prog 13 #[.int .i64 1] w fun e w' => e = .returned (.float .f64 Fl.inf) ∧ w' = w := by
  have h := run_from
  go_enter Try.func13, Try.ntmps13
  go_wp2
  go_ret
  exact ⟨rfl, rfl⟩

/-- Go's NaN. -/
def NaN : Nat := 9221120237041090561

end Go.Proofs.Ytfakcjelibdnbaa
