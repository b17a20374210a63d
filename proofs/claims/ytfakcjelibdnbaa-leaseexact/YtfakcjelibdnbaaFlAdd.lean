/- A sum of floats rounds to a neighbour: what is added to a number that is not too great makes it greater. -/
import Derived.Test.YtfakcjelibdnbaaFloat
namespace Go.Proofs.Ytfakcjelibdnbaa.Fl
open Ieee

theorem cut_near (n : Bool) (N d : Nat) : Toward.even.cut n N d * 2 ^ d ≤ N + 2 ^ d ∧ N ≤ Toward.even.cut n N d * 2 ^ d + 2 ^ d := by
  unfold Toward.cut
  dsimp only
  rw [Nat.shiftLeft_eq, Nat.one_mul]
  by_cases h : d ≤ N.log2 + 2
  · rw [Nat.min_eq_left h]
    have hp : 0 < 2 ^ d := Nat.two_pow_pos d
    have hd := Nat.div_add_mod N (2 ^ d)
    have hm := Nat.mod_lt N hp
    generalize 2 ^ d = G at *
    generalize hq : N / G = q at *
    generalize hr : N % G = r at *
    have hb : ∀ b : Bool, b.toNat ≤ 1 := fun b => by cases b <;> decide
    have hb1 := hb (decide (G < 2 * r) || G == 2 * r && q % 2 == 1)
    generalize (decide (G < 2 * r) || G == 2 * r && q % 2 == 1).toNat = m at *
    have e1 : (q + m) * G = G * q + m * G := by rw [Nat.add_mul, Nat.mul_comm q]
    rw [e1]
    rcases Nat.le_one_iff_eq_zero_or_eq_one.1 hb1 with rfl | rfl <;> constructor <;> omega
  · rw [Nat.min_eq_right (by omega)]
    have hN : N < 2 ^ (N.log2 + 1) := by
      by_cases h0 : N = 0
      · subst h0; decide
      · exact Nat.lt_log2_self
    have hG : 2 ^ (N.log2 + 2) = 2 * 2 ^ (N.log2 + 1) := by rw [Nat.pow_succ, Nat.mul_comm]
    have hd : 2 ^ (N.log2 + 2) ≤ 2 ^ d := Nat.pow_le_pow_right (by omega) (by omega)
    rw [Nat.div_eq_of_lt (by omega), Nat.mod_eq_of_lt (by omega)]
    have e1 : (decide (2 ^ (N.log2 + 2) < 2 * N) || 2 ^ (N.log2 + 2) == 2 * N && 0 % 2 == 1) = false := by
      rw [decide_eq_false (by omega)]; simp
    rw [e1]
    constructor
    · show (0 + 0) * 2 ^ d ≤ _; omega
    · show _ ≤ (0 + 0) * 2 ^ d + 2 ^ d; omega

theorem cut_le (n : Bool) (N d M : Nat) (h : N < M * 2 ^ d) : Toward.even.cut n N d ≤ M := by
  unfold Toward.cut
  dsimp only
  rw [Nat.shiftLeft_eq, Nat.one_mul]
  have hb : ∀ b : Bool, b.toNat ≤ 1 := fun b => by cases b <;> decide
  by_cases hl : d ≤ N.log2 + 2
  · rw [Nat.min_eq_left hl]
    have h1 : N / 2 ^ d < M := (Nat.div_lt_iff_lt_mul (Nat.two_pow_pos d)).2 h
    have := hb (decide (2 ^ d < 2 * (N % 2 ^ d)) || 2 ^ d == 2 * (N % 2 ^ d) && N / 2 ^ d % 2 == 1)
    omega
  · rw [Nat.min_eq_right (by omega)]
    have hN : N < 2 ^ (N.log2 + 1) := by
      by_cases h0 : N = 0
      · subst h0; decide
      · exact Nat.lt_log2_self
    have hG : 2 ^ (N.log2 + 2) = 2 * 2 ^ (N.log2 + 1) := by rw [Nat.pow_succ, Nat.mul_comm]
    rw [Nat.div_eq_of_lt (by omega), Nat.mod_eq_of_lt (by omega)]
    have e1 : (decide (2 ^ (N.log2 + 2) < 2 * N) || 2 ^ (N.log2 + 2) == 2 * N && 0 % 2 == 1) = false := by
      rw [decide_eq_false (by omega)]; simp
    rw [e1]
    show 0 + 0 ≤ M
    omega

theorem cut_ge (n : Bool) (N d M : Nat) (h : M * 2 ^ d ≤ N) (hl : d ≤ N.log2 + 2) : M ≤ Toward.even.cut n N d := by
  unfold Toward.cut
  dsimp only
  rw [Nat.shiftLeft_eq, Nat.one_mul, Nat.min_eq_left hl]
  have h1 : M ≤ N / 2 ^ d := (Nat.le_div_iff_mul_le (Nat.two_pow_pos d)).2 h
  omega

/-- A rung that lies k above the foot of binade q. -/
theorem val_at {q k : Nat} (hk : k ≤ 2 * bin) (h : bin ≤ k ∨ q = 0) : val (q * bin + k) = k * 2 ^ q := by
  have hb : bin = 4503599627370496 := rfl
  unfold val mag ex
  by_cases h1 : k < bin
  · obtain rfl : q = 0 := by omega
    rw [Nat.zero_mul, Nat.zero_add, if_pos h1, Nat.div_eq_of_lt h1]
  · by_cases h2 : k = 2 * bin
    · subst h2
      have e1 : q * bin + 2 * bin = bin * (q + 2) := by rw [Nat.mul_comm bin, Nat.add_mul]
      rw [e1, Nat.mul_mod_right, Nat.mul_div_cancel_left _ (by omega), if_neg (by rw [hb]; omega)]
      have e2 : q + 2 - 1 = q + 1 := by omega
      rw [e2, Nat.pow_succ]
      generalize 2 ^ q = p
      rw [hb]; omega
    · obtain ⟨j, rfl⟩ : ∃ j, k = bin + j := ⟨k - bin, by omega⟩
      have hj : j < bin := by omega
      have e1 : q * bin + (bin + j) = j + bin * (q + 1) := by rw [Nat.mul_comm bin, Nat.add_mul]; omega
      rw [e1, Nat.add_mul_mod_self_left, Nat.mod_eq_of_lt hj, Nat.add_mul_div_left _ _ (by omega), Nat.div_eq_of_lt hj, if_neg (by rw [hb] at *; omega)]
      congr 2
      omega

/-- The word nearest to a number that is not too great lies within its last digit. -/
theorem nearest_near (K : Nat) (hK : K ≤ 1052) (s : Bool) (mag p : Nat) (h0 : mag ≠ 0) (hl : p + mag.log2 ≤ K + 52) :
    ∃ r, double.nearest s mag (double.leastPlace + p) = double.word s r ∧ r < inf ∧ val r ≤ mag * 2 ^ p + 2 ^ K ∧ mag * 2 ^ p ≤ val r + 2 ^ K := by
  have hb : bin = 4503599627370496 := rfl
  have hL : double.leastPlace = -1074 := rfl
  have hfb : double.fractionBits = 52 := rfl
  unfold Format.nearest
  rw [if_neg h0]
  dsimp only
  simp only [binade_eq, inf_eq, hL, hfb]
  obtain ⟨q, hq⟩ : ∃ q : Nat, q = p + mag.log2 - 52 := ⟨_, rfl⟩
  have elast : max (-1074 + (p : Int) + (mag.log2 : Int) - ((52 : Nat) : Int)) (-1074) = -1074 + (q : Int) := by omega
  rw [elast]
  have e1 : (-1074 + (p : Int) - (-1074 + (q : Int))).toNat = p - q := by omega
  have e2 : (-1074 + (q : Int) - (-1074 + (p : Int))).toNat = q - p := by omega
  have e3 : (-1074 + (q : Int) - -1074).toNat = q := by omega
  rw [e1, e2, e3, Nat.shiftLeft_eq]
  have hlt : mag < 2 ^ (mag.log2 + 1) := Nat.lt_log2_self
  have hge : 2 ^ mag.log2 ≤ mag := Nat.log2_self_le h0
  -- in units of the least place
  have near := cut_near s (mag * 2 ^ (p - q)) (q - p)
  have le2 : Toward.even.cut s (mag * 2 ^ (p - q)) (q - p) ≤ 2 * bin := by
    refine cut_le s _ _ _ ?_
    have hb2 : 2 * bin = 2 ^ 53 := by decide
    rw [hb2, ← Nat.pow_add]
    have h1 : mag * 2 ^ (p - q) < 2 ^ (mag.log2 + 1) * 2 ^ (p - q) := Nat.mul_lt_mul_of_pos_right hlt (Nat.two_pow_pos _)
    rw [← Nat.pow_add] at h1
    exact Nat.lt_of_lt_of_le h1 (Nat.pow_le_pow_right (by omega) (by omega))
  have ge1 : bin ≤ Toward.even.cut s (mag * 2 ^ (p - q)) (q - p) ∨ q = 0 := by
    by_cases hq0 : q = 0
    · exact Or.inr hq0
    · refine Or.inl (cut_ge s _ _ _ ?_ ?_)
      · have hb1 : bin = 2 ^ 52 := by decide
        rw [hb1, ← Nat.pow_add]
        have h1 : 2 ^ mag.log2 * 2 ^ (p - q) ≤ mag * 2 ^ (p - q) := Nat.mul_le_mul_right _ hge
        rw [← Nat.pow_add] at h1
        exact Nat.le_trans (Nat.pow_le_pow_right (by omega) (by omega)) h1
      · by_cases hpq : q ≤ p
        · have : q - p = 0 := by omega
          omega
        · have : p - q = 0 := by omega
          rw [this, Nat.pow_zero, Nat.mul_one]; omega
  generalize hk : Toward.even.cut s (mag * 2 ^ (p - q)) (q - p) = k at *
  have hr : q * bin + k < inf := by
    have : inf = 2047 * bin := by decide
    have h2 : q * bin ≤ 1052 * bin := Nat.mul_le_mul_right _ (by omega)
    rw [this]; omega
  refine ⟨q * bin + k, ?_, hr, ?_⟩
  · rw [Nat.min_eq_left (Nat.le_of_lt hr)]
  · rw [val_at le2 ge1]
    have hq2 : 2 ^ q ≤ 2 ^ K := Nat.pow_le_pow_right (by omega) (by omega)
    -- multiply the bounds
    have key : k * 2 ^ q ≤ mag * 2 ^ p + 2 ^ q ∧ mag * 2 ^ p ≤ k * 2 ^ q + 2 ^ q := by
      by_cases hpq : q ≤ p
      · have z : q - p = 0 := by omega
        rw [z, Nat.pow_zero, Nat.mul_one] at near
        have e5 : mag * 2 ^ p = mag * 2 ^ (p - q) * 2 ^ q := by rw [Nat.mul_assoc, ← Nat.pow_add]; congr 2; omega
        rw [e5]
        generalize mag * 2 ^ (p - q) = N at *
        generalize 2 ^ q = G at *
        have a1 := Nat.mul_le_mul_right G near.1
        have a2 := Nat.mul_le_mul_right G near.2
        rw [Nat.add_mul, Nat.one_mul] at a1 a2
        exact ⟨a1, a2⟩
      · have z : p - q = 0 := by omega
        rw [z, Nat.pow_zero, Nat.mul_one] at near
        have e5 : 2 ^ q = 2 ^ (q - p) * 2 ^ p := by rw [← Nat.pow_add]; congr 1; omega
        rw [e5, ← Nat.mul_assoc]
        generalize 2 ^ (q - p) = G at *
        generalize 2 ^ p = F at *
        have a1 := Nat.mul_le_mul_right F near.1
        have a2 := Nat.mul_le_mul_right F near.2
        rw [Nat.add_mul] at a1 a2
        exact ⟨a1, a2⟩
    omega

theorem word_parts (s : Bool) {r : Nat} (h : r < inf) : neg (double.word s r) = s ∧ rung (double.word s r) = r := by
  have hs : sgn = 9223372036854775808 := rfl
  have hi : inf = 9218868437227405312 := rfl
  unfold neg rung Format.word
  rw [sgn_eq]
  cases s
  · simp only [Bool.false_eq_true, if_false]
    rw [hs]; constructor
    · rw [Nat.div_eq_of_lt (by omega)]; rfl
    · omega
  · simp only [if_true]
    rw [hs]; constructor
    · have : (9223372036854775808 + r) / 9223372036854775808 = 1 := by omega
      rw [this]; rfl
    · omega

theorem signed_sum (s t : Bool) (m n i j : Nat) (p : Nat) (hp : p = min i j) :
    (signed s m (i - p) + signed t n (j - p)) * (2 ^ p : Nat) = (if s then -((m * 2 ^ i : Nat) : Int) else ((m * 2 ^ i : Nat) : Int)) + (if t then -((n * 2 ^ j : Nat) : Int) else ((n * 2 ^ j : Nat) : Int)) := by
  have e1 : m * 2 ^ i = (m * 2 ^ (i - p)) * 2 ^ p := by
    rw [Nat.mul_assoc, ← Nat.pow_add]; congr 2; omega
  have e2 : n * 2 ^ j = (n * 2 ^ (j - p)) * 2 ^ p := by
    rw [Nat.mul_assoc, ← Nat.pow_add]; congr 2; omega
  unfold signed
  rw [sh_eq, sh_eq, e1, e2]
  generalize m * 2 ^ (i - p) = a
  generalize n * 2 ^ (j - p) = b
  generalize 2 ^ p = g
  rw [Int.add_mul]
  cases s <;> cases t <;> simp [Int.natCast_mul, Int.neg_mul]

/-- A positive float that is added to one that is not too great makes it greater. -/
theorem add_gt (K : Nat) (hK : K ≤ 1052) (x y : Nat) (hx : rung x < inf) (hy : rung y < inf) (hpos : neg y = false) (hx2 : val (rung x) ≤ 2 ^ (K + 52)) (hy1 : 2 ^ (K + 2) ≤ val (rung y)) (hy2 : val (rung y) < 2 ^ (K + 52)) :
    ∃ r, double.add x y = some r ∧ rung r < inf ∧ sr x < sr r := by
  unfold Format.add
  rw [read_fin x hx, read_fin y hy]
  unfold Datum.sum
  dsimp only
  have eb : min (double.leastPlace + (ex (rung x) : Nat)) (double.leastPlace + (ex (rung y) : Nat)) = double.leastPlace + ((min (ex (rung x)) (ex (rung y)) : Nat) : Int) := by omega
  rw [eb]
  obtain ⟨p, hp⟩ : ∃ p, p = min (ex (rung x)) (ex (rung y)) := ⟨_, rfl⟩
  rw [← hp]
  have d1 : (double.leastPlace + ((ex (rung x) : Nat) : Int) - (double.leastPlace + (p : Int))).toNat = ex (rung x) - p := by omega
  have d2 : (double.leastPlace + ((ex (rung y) : Nat) : Int) - (double.leastPlace + (p : Int))).toNat = ex (rung y) - p := by omega
  rw [d1, d2]
  have hs := signed_sum (neg x) (neg y) (mag (rung x)) (mag (rung y)) (ex (rung x)) (ex (rung y)) p hp
  have hsv : (if neg x then -((mag (rung x) * 2 ^ ex (rung x) : Nat) : Int) else ((mag (rung x) * 2 ^ ex (rung x) : Nat) : Int)) = sv x := rfl
  have hsy : (if neg y then -((mag (rung y) * 2 ^ ex (rung y) : Nat) : Int) else ((mag (rung y) * 2 ^ ex (rung y) : Nat) : Int)) = (val (rung y) : Int) := by rw [hpos]; rfl
  rw [hsv, hsy] at hs
  generalize signed (neg x) (mag (rung x)) (ex (rung x) - p) + signed (neg y) (mag (rung y)) (ex (rung y) - p) = T at hs
  have hG : 0 < 2 ^ p := Nat.two_pow_pos p
  have hxv : sv x = (val (rung x) : Int) ∨ sv x = -(val (rung x) : Int) := by unfold sv; cases neg x <;> simp
  have fin : ∀ r, sv x < sv r → sr x < sr r := fun r h => by
    have c := sv_cmp x r
    rw [cmp_int, if_pos h, cmp_int] at c
    by_cases g : sr x < sr r
    · exact g
    · rw [if_neg g] at c
      split at c <;> cases c
  simp only [Option.map_some]
  unfold Format.write
  dsimp only
  by_cases hT : T = 0
  · subst hT
    have z : double.nearest (if (0 : Int) = 0 then neg x && neg y else decide ((0 : Int) < 0)) (Int.natAbs 0) (double.leastPlace + (p : Int)) = 0 := by
      rw [if_pos rfl, hpos, Bool.and_false]; rfl
    rw [z]
    refine ⟨0, rfl, by decide, fin 0 ?_⟩
    have e0 : sv 0 = 0 := by decide
    rw [e0]
    have : (0 : Int) = sv x + (val (rung y) : Int) := by simpa using hs
    have hK2 := Nat.two_pow_pos (K + 2)
    omega
  · rw [if_neg hT]
    have habs : T.natAbs * 2 ^ p = (sv x + (val (rung y) : Int)).natAbs := by
      rw [← hs, Int.natAbs_mul, Int.natAbs_natCast]
    have hlog : p + T.natAbs.log2 ≤ K + 52 := by
      have h0 : T.natAbs ≠ 0 := by omega
      have h1 : 2 ^ T.natAbs.log2 * 2 ^ p ≤ T.natAbs * 2 ^ p := Nat.mul_le_mul_right _ (Nat.log2_self_le h0)
      rw [habs, ← Nat.pow_add] at h1
      have h2 : (sv x + (val (rung y) : Int)).natAbs < 2 ^ (K + 53) := by
        have e5 : 2 ^ (K + 53) = 2 * 2 ^ (K + 52) := by rw [Nat.pow_succ, Nat.mul_comm]
        omega
      have h3 : 2 ^ (T.natAbs.log2 + p) < 2 ^ (K + 53) := Nat.lt_of_le_of_lt h1 h2
      have := (Nat.pow_lt_pow_iff_right (by omega : 1 < 2)).1 h3
      omega
    obtain ⟨r, hr, hri, hr1, hr2⟩ := nearest_near K hK (decide (T < 0)) T.natAbs p (by omega) hlog
    rw [hr]
    have hw := word_parts (decide (T < 0)) hri
    refine ⟨_, rfl, by rw [hw.2]; exact hri, fin _ ?_⟩
    have e6 : sv (double.word (decide (T < 0)) r) = if decide (T < 0) then -(val r : Int) else (val r : Int) := by
      unfold sv; rw [hw.1, hw.2]
    rw [e6]
    rw [habs] at hr1 hr2
    have hsgn : (T < 0 ↔ sv x + (val (rung y) : Int) < 0) := by
      rw [← hs]
      have hG' : (0 : Int) < ((2 ^ p : Nat) : Int) := by omega
      constructor
      · intro h; exact Int.mul_neg_of_neg_of_pos h hG'
      · intro h
        by_cases g : T < 0
        · exact g
        · have := Int.mul_nonneg (show 0 ≤ T by omega) (Int.le_of_lt hG')
          omega
    have e7 : (2 : Nat) ^ (K + 2) = 4 * 2 ^ K := by rw [Nat.pow_add, Nat.mul_comm]
    have e8 : 0 < (2 : Nat) ^ K := Nat.two_pow_pos _
    by_cases hneg : T < 0
    · rw [decide_eq_true hneg, if_pos rfl]
      have := hsgn.1 hneg
      generalize (2 : Nat) ^ K = E at *
      generalize (2 : Nat) ^ (K + 2) = E4 at *
      omega
    · rw [decide_eq_false hneg, if_neg (by decide)]
      have : ¬ (sv x + (val (rung y) : Int) < 0) := fun h => hneg (hsgn.2 h)
      generalize (2 : Nat) ^ K = E at *
      generalize (2 : Nat) ^ (K + 2) = E4 at *
      omega

end Go.Proofs.Ytfakcjelibdnbaa.Fl
