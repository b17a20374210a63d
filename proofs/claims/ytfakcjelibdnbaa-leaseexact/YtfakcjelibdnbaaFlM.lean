/- Rounding as a plain function of a natural number: it never falls, and a float's own value is rounded to itself; the operations of floats that are not negative by it. -/
import Derived.Test.YtfakcjelibdnbaaFlAdd
namespace Go.Proofs.Ytfakcjelibdnbaa.Fl
open Ieee

theorem log2_le {a b : Nat} (h : a ≤ b) : a.log2 ≤ b.log2 := by
  by_cases ha : a = 0
  · subst ha; exact Nat.zero_le _
  · have hb : b ≠ 0 := by omega
    exact (Nat.le_log2 hb).2 (Nat.le_trans (Nat.log2_self_le ha) h)

theorem log2_eq {a k : Nat} (h1 : 2 ^ k ≤ a) (h2 : a < 2 ^ (k + 1)) : a.log2 = k := by
  have h0 : a ≠ 0 := by have := Nat.two_pow_pos k; omega
  have l1 := (Nat.le_log2 h0).2 h1
  have l2 := (Nat.log2_lt h0).2 h2
  omega

theorem log2_scale {m : Nat} (h : m ≠ 0) (k : Nat) : (m * 2 ^ k).log2 = m.log2 + k := by
  refine log2_eq ?_ ?_
  · rw [Nat.pow_add]; exact Nat.mul_le_mul_right _ (Nat.log2_self_le h)
  · have : m < 2 ^ (m.log2 + 1) := Nat.lt_log2_self
    have e : 2 ^ (m.log2 + k + 1) = 2 ^ (m.log2 + 1) * 2 ^ k := by rw [← Nat.pow_add]; congr 1; omega
    rw [e]
    exact Nat.mul_lt_mul_of_pos_right this (Nat.two_pow_pos k)

/-- Half a unit and more goes up; just half a unit to the even one. -/
def up (G q r : Nat) : Nat := (decide (G < 2 * r) || (G == 2 * r && q % 2 == 1)).toNat

theorem up_le (G q r : Nat) : up G q r ≤ 1 := by unfold up; cases (decide (G < 2 * r) || (G == 2 * r && q % 2 == 1)) <;> decide
theorem up_mono {G q r s : Nat} (h : r ≤ s) : up G q r ≤ up G q s := by
  unfold up
  by_cases h1 : G < 2 * r
  · rw [decide_eq_true h1, decide_eq_true (by omega)]; simp
  · rw [decide_eq_false h1]
    by_cases h2 : G = 2 * r
    · by_cases h3 : s = r
      · subst h3; rw [decide_eq_false h1]; exact Nat.le_refl _
      · rw [decide_eq_true (show G < 2 * s by omega)]
        simp only [Bool.true_or, Bool.false_or]
        cases (G == 2 * r && q % 2 == 1) <;> decide
    · have : (G == 2 * r) = false := by simpa using h2
      rw [this]
      exact Nat.zero_le _

theorem cut_plain (s : Bool) (N d : Nat) : Toward.even.cut s N d = N / 2 ^ d + up (2 ^ d) (N / 2 ^ d) (N % 2 ^ d) := by
  unfold Toward.cut up
  dsimp only
  rw [Nat.shiftLeft_eq, Nat.one_mul]
  by_cases hl : d ≤ N.log2 + 2
  · rw [Nat.min_eq_left hl]
  · rw [Nat.min_eq_right (by omega)]
    have hN : N < 2 ^ (N.log2 + 1) := by
      by_cases h0 : N = 0
      · subst h0; decide
      · exact Nat.lt_log2_self
    have hG : 2 ^ (N.log2 + 2) = 2 * 2 ^ (N.log2 + 1) := by rw [Nat.pow_succ, Nat.mul_comm]
    have hd : 2 ^ (N.log2 + 2) ≤ 2 ^ d := Nat.pow_le_pow_right (by omega) (by omega)
    rw [Nat.div_eq_of_lt (show N < 2 ^ (N.log2 + 2) by omega), Nat.mod_eq_of_lt (show N < 2 ^ (N.log2 + 2) by omega), Nat.div_eq_of_lt (show N < 2 ^ d by omega), Nat.mod_eq_of_lt (show N < 2 ^ d by omega)]
    have e1 : (decide (2 ^ (N.log2 + 2) < 2 * N) || 2 ^ (N.log2 + 2) == 2 * N && 0 % 2 == 1) = false := by
      rw [decide_eq_false (by omega)]; simp
    have e2 : (decide (2 ^ d < 2 * N) || 2 ^ d == 2 * N && 0 % 2 == 1) = false := by
      rw [decide_eq_false (by omega)]; simp
    rw [e1, e2]

theorem cut_mono (s : Bool) {N M : Nat} (h : N ≤ M) (d : Nat) : Toward.even.cut s N d ≤ Toward.even.cut s M d := by
  rw [cut_plain, cut_plain]
  have hG := Nat.two_pow_pos d
  generalize 2 ^ d = G at *
  have h1 : N / G ≤ M / G := Nat.div_le_div_right h
  rcases Nat.lt_or_eq_of_le h1 with h2 | h2
  · have := up_le G (N / G) (N % G)
    omega
  · rw [h2]
    refine Nat.add_le_add_left (up_mono ?_) _
    have a1 := Nat.div_add_mod N G
    have a2 := Nat.div_add_mod M G
    rw [h2] at a1
    omega

theorem up_scale (G q r : Nat) {c : Nat} (hc : 0 < c) : up (G * c) q (r * c) = up G q r := by
  unfold up
  have e : 2 * (r * c) = 2 * r * c := (Nat.mul_assoc ..).symm
  rw [e]
  have h1 : (G * c < 2 * r * c) ↔ (G < 2 * r) := Nat.mul_lt_mul_right hc
  have h2 : (G * c == 2 * r * c) = (G == 2 * r) := by
    rw [Bool.eq_iff_iff, beq_iff_eq, beq_iff_eq]
    exact ⟨Nat.eq_of_mul_eq_mul_right hc, fun h => by rw [h]⟩
  rw [h2]
  simp only [h1]

theorem cut_scale (s : Bool) (N d k : Nat) : Toward.even.cut s (N * 2 ^ k) (d + k) = Toward.even.cut s N d := by
  rw [cut_plain, cut_plain, Nat.pow_add]
  have hk := Nat.two_pow_pos k
  rw [Nat.mul_div_mul_right _ _ hk, Nat.mul_mod_mul_right, up_scale _ _ _ hk]

theorem cut_zero (s : Bool) (N : Nat) : Toward.even.cut s N 0 = N := by
  rw [cut_plain]
  simp only [Nat.pow_zero, Nat.div_one, Nat.mod_one]
  unfold up
  simp

theorem nearest_scale (s : Bool) (m k : Nat) (p : Int) : double.nearest s (m * 2 ^ k) p = double.nearest s m (p + k) := by
  unfold Format.nearest
  by_cases h0 : m = 0
  · subst h0; simp
  · have hk := Nat.two_pow_pos k
    have h1 : m * 2 ^ k ≠ 0 := Nat.mul_ne_zero h0 (by omega)
    rw [if_neg h0, if_neg h1]
    dsimp only
    rw [log2_scale h0]
    have e1 : p + ((m.log2 + k : Nat) : Int) - (double.fractionBits : Int) = p + k + (m.log2 : Int) - (double.fractionBits : Int) := by omega
    rw [e1]
    generalize max (p + k + (m.log2 : Int) - (double.fractionBits : Int)) double.leastPlace = last
    congr 2
    congr 1
    rw [Nat.shiftLeft_eq, Nat.shiftLeft_eq]
    by_cases c1 : last ≤ p
    · have a1 : (last - p).toNat = 0 := by omega
      have a2 : (last - (p + k)).toNat = 0 := by omega
      have a3 : (p + k - last).toNat = k + (p - last).toNat := by omega
      rw [a1, a2, a3, Nat.mul_assoc, ← Nat.pow_add]
    · by_cases c2 : last ≤ p + k
      · have a1 : (p - last).toNat = 0 := by omega
        have a2 : (last - (p + k)).toNat = 0 := by omega
        rw [a1, a2, Nat.pow_zero, Nat.mul_one, cut_zero]
        have a3 : k = (p + k - last).toNat + (last - p).toNat := by omega
        have a4 : m * 2 ^ k = m * 2 ^ (p + k - last).toNat * 2 ^ (last - p).toNat := by rw [Nat.mul_assoc, ← Nat.pow_add, ← a3]
        have a5 := cut_scale s (m * 2 ^ (p + k - last).toNat) 0 (last - p).toNat
        rw [Nat.zero_add, cut_zero] at a5
        rw [a4, a5]
      · have a1 : (p - last).toNat = 0 := by omega
        have a2 : (p + k - last).toNat = 0 := by omega
        have a3 : (last - p).toNat = (last - (p + k)).toNat + k := by omega
        rw [a1, a2, a3, Nat.pow_zero, Nat.mul_one, Nat.mul_one, cut_scale]

/-- The float nearest to N / 2 ^ 4000. -/
def rnd (N : Nat) : Nat := double.nearest false N (-4000)

theorem nearest_rnd (m : Nat) (p : Int) (k : Nat) (h : p = -4000 + (k : Int)) : double.nearest false m p = rnd (m * 2 ^ k) := by
  unfold rnd
  rw [nearest_scale, h]

/-- How far the last digit that is kept lies. -/
def dgt (N : Nat) : Nat := max (N.log2 - 52) 2926

theorem rnd_eq (N : Nat) (h : N ≠ 0) : rnd N = min ((dgt N - 2926) * bin + Toward.even.cut false N (dgt N)) inf := by
  unfold rnd Format.nearest
  rw [if_neg h]
  dsimp only
  have hL : double.leastPlace = -1074 := rfl
  have hfb : double.fractionBits = 52 := rfl
  rw [hL, hfb, binade_eq, inf_eq]
  have e : max ((-4000 : Int) + (N.log2 : Int) - ((52 : Nat) : Int)) (-1074) = -4000 + (dgt N : Int) := by unfold dgt; omega
  have hd : 2926 ≤ dgt N := by unfold dgt; omega
  rw [e]
  have e1 : ((-4000 : Int) - (-4000 + (dgt N : Int))).toNat = 0 := by omega
  have e2 : (-4000 + (dgt N : Int) - -4000).toNat = dgt N := by omega
  have e3 : (-4000 + (dgt N : Int) - -1074).toNat = dgt N - 2926 := by omega
  rw [e1, e2, e3, Nat.shiftLeft_eq, Nat.pow_zero, Nat.mul_one]
  unfold Format.word
  simp

theorem rnd_le (N : Nat) : rnd N ≤ inf := by
  by_cases h : N = 0
  · subst h; decide
  · rw [rnd_eq N h]; exact Nat.min_le_right _ _

theorem rnd_zero : rnd 0 = 0 := by decide

theorem dgt_le2 (N : Nat) : Toward.even.cut false N (dgt N) ≤ 2 * bin := by
  by_cases h0 : N = 0
  · subst h0; rw [cut_plain]; simp [up]
  · refine cut_le false _ _ _ ?_
    have hb2 : 2 * bin = 2 ^ 53 := by decide
    rw [hb2, ← Nat.pow_add]
    exact Nat.lt_of_lt_of_le Nat.lt_log2_self (Nat.pow_le_pow_right (by omega) (by unfold dgt; omega))

theorem dgt_ge (N : Nat) (h : 2926 < dgt N) : bin ≤ Toward.even.cut false N (dgt N) := by
  have h0 : N ≠ 0 := fun e => by subst e; revert h; decide
  have hd : dgt N = N.log2 - 52 := by unfold dgt at *; omega
  refine cut_ge false _ _ _ ?_ (by omega)
  have hb1 : bin = 2 ^ 52 := by decide
  rw [hb1, ← Nat.pow_add]
  exact Nat.le_trans (Nat.pow_le_pow_right (by omega) (by unfold dgt at *; omega)) (Nat.log2_self_le h0)

/-- Rounding never falls. -/
theorem rnd_mono {N M : Nat} (h : N ≤ M) : rnd N ≤ rnd M := by
  by_cases h0 : N = 0
  · subst h0; rw [rnd_zero]; exact Nat.zero_le _
  · rw [rnd_eq N h0, rnd_eq M (by omega)]
    refine Nat.le_min.2 ⟨Nat.le_trans (Nat.min_le_left _ _) ?_, Nat.min_le_right _ _⟩
    have hl := log2_le h
    have hd : dgt N ≤ dgt M := by unfold dgt; omega
    rcases Nat.lt_or_eq_of_le hd with g | g
    · have a1 := dgt_le2 N
      have hN : 2926 ≤ dgt N := by unfold dgt; omega
      have a2 := dgt_ge M (by omega)
      have a3 : (dgt N - 2926 + 1) * bin ≤ (dgt M - 2926) * bin := Nat.mul_le_mul_right _ (by omega)
      rw [Nat.add_mul, Nat.one_mul] at a3
      omega
    · rw [g]
      exact Nat.add_le_add_left (cut_mono false h _) _

/-- A float's value, counted in the unit of 'rnd'. -/
def vl (x : Nat) : Nat := val x * 2 ^ 2926

theorem vl_lt_iff (x y : Nat) : vl x < vl y ↔ x < y := by
  unfold vl
  rw [Nat.mul_lt_mul_right (Nat.two_pow_pos 2926)]
  exact val_lt_iff x y
theorem vl_le_iff (x y : Nat) : vl x ≤ vl y ↔ x ≤ y := by
  have := vl_lt_iff y x
  omega
theorem val_up (K : Nat) : val 0 * 2 ^ K = 0 := by rw [val_zero, Nat.zero_mul]
theorem val_ex (x K : Nat) : val x * 2 ^ K = mag x * 2 ^ (ex x + K) := by unfold val; rw [Nat.mul_assoc, ← Nat.pow_add]
theorem vl_zero : vl 0 = 0 := val_up 2926

/-- A float's own value is rounded to itself. -/
theorem rnd_vl {x : Nat} (h : x ≤ inf) : rnd (vl x) = x := by
  have hb : bin = 4503599627370496 := rfl
  by_cases h0 : x = 0
  · subst h0; rw [vl_zero, rnd_zero]
  · have hv0 : vl x ≠ 0 := fun e => by
      have := (vl_lt_iff 0 x).2 (by omega)
      rw [vl_zero] at this; omega
    rw [rnd_eq _ hv0]
    have hX : vl x = mag x * 2 ^ (ex x + 2926) := val_ex x 2926
    by_cases h1 : x < bin
    · have em : mag x = x := by unfold mag; rw [if_pos h1]
      have ee : ex x = 0 := by unfold ex; rw [Nat.div_eq_of_lt h1]
      rw [em, ee, Nat.zero_add] at hX
      have hl : x.log2 ≤ 51 := by
        have := (Nat.log2_lt (k := 52) h0).2 (by rw [hb] at h1; exact h1)
        omega
      have el : (vl x).log2 = x.log2 + 2926 := (congrArg Nat.log2 hX).trans (log2_scale h0 2926)
      have ed : dgt (vl x) = 2926 := by unfold dgt; omega
      rw [ed, hX]
      have e2 : (2926 : Nat) = 0 + 2926 := rfl
      have e3 := cut_scale false x 0 2926
      rw [Nat.zero_add, cut_zero] at e3
      rw [e3]
      simp only [Nat.sub_self, Nat.zero_mul, Nat.zero_add]
      exact Nat.min_eq_left h
    · have em : mag x = bin + x % bin := by unfold mag; rw [if_neg h1]
      have hm0 : mag x ≠ 0 := by omega
      have hlm : (mag x).log2 = 52 := by
        refine log2_eq ?_ ?_
        · rw [em]; have : bin = 2 ^ 52 := by decide
          omega
        · rw [em]; have : 2 ^ (52 + 1) = 2 * bin := by decide
          rw [this]; have := Nat.mod_lt x (show 0 < bin by omega); omega
      have ed : dgt (vl x) = ex x + 2926 := by unfold dgt; rw [hX, log2_scale hm0, hlm]; omega
      rw [ed, hX]
      have e3 := cut_scale false (mag x) 0 (ex x + 2926)
      rw [Nat.zero_add, cut_zero] at e3
      rw [e3, em]
      have e4 : ex x + 2926 - 2926 = ex x := by omega
      rw [e4]
      have e5 : ex x * bin + (bin + x % bin) = x := by
        unfold ex
        have d1 := Nat.div_add_mod x bin
        have d2 : 1 ≤ x / bin := (Nat.le_div_iff_mul_le (by omega)).2 (by omega)
        obtain ⟨q, hq⟩ : ∃ q, x / bin = q + 1 := ⟨x / bin - 1, by omega⟩
        rw [hq] at d1 ⊢
        have e6 : q + 1 - 1 = q := by omega
        rw [e6]
        rw [Nat.mul_add, Nat.mul_one, Nat.mul_comm] at d1
        omega
      rw [e5]
      exact Nat.min_eq_left h

theorem pos_parts {x : Nat} (h : x ≤ inf) : neg x = false ∧ rung x = x := by
  have h1 : x < sgn := Nat.lt_of_le_of_lt h (by decide)
  unfold neg rung
  rw [Nat.div_eq_of_lt h1, Nat.mod_eq_of_lt h1]
  exact ⟨rfl, rfl⟩

theorem least_eq : double.leastPlace = -1074 := rfl

/-- The sum of two signed numbers, written: where it is not below nothing. -/
theorem sum_write (s t : Bool) (m n i j : Nat) (Z : Int) (hZ : Z = (if s then -((m * 2 ^ i : Nat) : Int) else ((m * 2 ^ i : Nat) : Int)) + (if t then -((n * 2 ^ j : Nat) : Int) else ((n * 2 ^ j : Nat) : Int))) (h0 : 0 ≤ Z) (hst : (s && t) = false) :
    ((Datum.number s m (double.leastPlace + (i : Int))).sum (Datum.number t n (double.leastPlace + (j : Int)))).map double.write = some (rnd (Z.toNat * 2 ^ 2926)) := by
  unfold Datum.sum
  dsimp only
  have eb : min (double.leastPlace + (i : Int)) (double.leastPlace + (j : Int)) = double.leastPlace + ((min i j : Nat) : Int) := by omega
  rw [eb]
  obtain ⟨p, hp⟩ : ∃ p, p = min i j := ⟨_, rfl⟩
  rw [← hp]
  have d1 : (double.leastPlace + (i : Int) - (double.leastPlace + (p : Int))).toNat = i - p := by omega
  have d2 : (double.leastPlace + (j : Int) - (double.leastPlace + (p : Int))).toNat = j - p := by omega
  rw [d1, d2]
  have hs := signed_sum s t m n i j p hp
  rw [← hZ] at hs
  generalize signed s m (i - p) + signed t n (j - p) = T at hs
  have hG : 0 < 2 ^ p := Nat.two_pow_pos p
  have hT : 0 ≤ T := by
    by_cases g : 0 ≤ T
    · exact g
    · have hG' : (0 : Int) < ((2 ^ p : Nat) : Int) := by omega
      have := Int.mul_neg_of_neg_of_pos (show T < 0 by omega) hG'
      omega
  have hn : (if T = 0 then s && t else decide (T < 0)) = false := by
    split
    · exact hst
    · exact decide_eq_false (by omega)
  rw [hn]
  simp only [Option.map_some]
  unfold Format.write
  dsimp only
  rw [least_eq, nearest_rnd _ _ (p + 2926) (by omega)]
  have e9 : ((T.natAbs * 2 ^ p : Nat) : Int) = Z := by
    rw [← hs, Int.natCast_mul]
    congr 1
    omega
  have e10 : T.natAbs * 2 ^ p = Z.toNat := by omega
  rw [Nat.pow_add, ← Nat.mul_assoc, e10]

theorem add_pos {x y : Nat} (hx : x < inf) (hy : y < inf) : double.add x y = some (rnd (vl x + vl y)) := by
  obtain ⟨n1, r1⟩ := pos_parts (Nat.le_of_lt hx)
  obtain ⟨n2, r2⟩ := pos_parts (Nat.le_of_lt hy)
  unfold Format.add
  rw [read_fin x (by rw [r1]; exact hx), read_fin y (by rw [r2]; exact hy), n1, n2, r1, r2]
  rw [sum_write false false _ _ _ _ ((val x + val y : Nat) : Int) (by simp [val]) (by omega) rfl]
  unfold vl
  rw [Int.toNat_natCast, Nat.add_mul]

theorem add_inf {x : Nat} (hx : x < inf) : double.add x inf = some inf := by
  obtain ⟨n1, r1⟩ := pos_parts (Nat.le_of_lt hx)
  unfold Format.add
  rw [read_fin x (by rw [r1]; exact hx), read_inf inf (by decide)]
  show some (double.write (.infinity (neg inf))) = _
  rw [(pos_parts (Nat.le_refl inf)).1]
  rfl

/-- A difference that is not negative. -/
theorem sub_ge {x y : Nat} (hx : rung x < inf) (hy : rung y < inf) (h : sv y < sv x) : double.sub x y = some (rnd ((sv x - sv y).toNat * 2 ^ 2926)) := by
  unfold Format.sub
  rw [read_fin x hx, read_fin y hy]
  unfold Datum.opposite
  dsimp only
  have key : sv x - sv y = (if neg x then -((mag (rung x) * 2 ^ ex (rung x) : Nat) : Int) else ((mag (rung x) * 2 ^ ex (rung x) : Nat) : Int)) + (if !neg y then -((mag (rung y) * 2 ^ ex (rung y) : Nat) : Int) else ((mag (rung y) * 2 ^ ex (rung y) : Nat) : Int)) := by
    unfold sv val
    cases neg x <;> cases neg y <;> simp <;> omega
  by_cases hst : (neg x && !neg y) = false
  · exact sum_write _ _ _ _ _ _ _ key (by omega) hst
  · exfalso
    unfold sv at h
    cases hx : neg x <;> cases hy : neg y <;> simp [hx, hy] at hst h <;> omega

theorem sub_pos {x y : Nat} (hx : x < inf) (h : y ≤ x) : double.sub x y = some (rnd (vl x - vl y)) := by
  obtain ⟨n1, r1⟩ := pos_parts (Nat.le_of_lt hx)
  obtain ⟨n2, r2⟩ := pos_parts (show y ≤ inf by omega)
  unfold Format.sub
  rw [read_fin x (by rw [r1]; exact hx), read_fin y (by rw [r2]; omega), n1, n2, r1, r2]
  unfold Datum.opposite
  dsimp only
  have hv : val y ≤ val x := by
    have := val_lt_iff x y
    omega
  rw [show (!false) = true from rfl]
  have hz : ((val x - val y : Nat) : Int) = (if false then -((mag x * 2 ^ ex x : Nat) : Int) else ((mag x * 2 ^ ex x : Nat) : Int)) + (if true then -((mag y * 2 ^ ex y : Nat) : Int) else ((mag y * 2 ^ ex y : Nat) : Int)) := by
    rw [if_neg (by decide), if_pos rfl]
    unfold val at *
    omega
  rw [sum_write false true _ _ _ _ ((val x - val y : Nat) : Int) hz (by omega) rfl]
  unfold vl
  rw [Int.toNat_natCast, Nat.sub_mul]

theorem mul_pos {x y : Nat} (hx : x < inf) (hy : y < inf) : double.mul x y = some (rnd (val x * val y * 2 ^ 1852)) := by
  obtain ⟨n1, r1⟩ := pos_parts (Nat.le_of_lt hx)
  obtain ⟨n2, r2⟩ := pos_parts (Nat.le_of_lt hy)
  unfold Format.mul
  rw [read_fin x (by rw [r1]; exact hx), read_fin y (by rw [r2]; exact hy), n1, n2, r1, r2]
  unfold Datum.product
  simp only [Option.map_some]
  unfold Format.write
  dsimp only
  rw [show (false ^^ false) = false from rfl, least_eq, nearest_rnd _ _ (ex x + ex y + 1852) (by omega)]
  have e9 : mag x * mag y * (2 ^ ex x * 2 ^ ex y) = val x * val y := by
    unfold val
    exact Nat.mul_mul_mul_comm _ _ _ _
  rw [Nat.pow_add, Nat.pow_add, ← Nat.mul_assoc, e9]

theorem mul_inf {y : Nat} (h0 : y ≠ 0) (hy : y < inf) : double.mul inf y = some inf := by
  obtain ⟨n2, r2⟩ := pos_parts (Nat.le_of_lt hy)
  unfold Format.mul
  rw [read_inf inf (by decide), read_fin y (by rw [r2]; exact hy), n2, r2]
  have hm : mag y ≠ 0 := by
    unfold mag
    have hb : bin = 4503599627370496 := rfl
    split <;> omega
  unfold Datum.product
  simp only [if_neg hm]
  decide

/-- A quotient is a float that is not negative. -/
theorem div_pos {x y : Nat} (hx : x < inf) (h0 : y ≠ 0) (hy : y < inf) : ∃ w, double.div x y = some w ∧ w ≤ inf := by
  obtain ⟨n1, r1⟩ := pos_parts (Nat.le_of_lt hx)
  obtain ⟨n2, r2⟩ := pos_parts (Nat.le_of_lt hy)
  unfold Format.div
  rw [read_fin x (by rw [r1]; exact hx), read_fin y (by rw [r2]; exact hy), n1, n2, r1, r2]
  have hm : mag y ≠ 0 := by
    unfold mag
    have hb : bin = 4503599627370496 := rfl
    split <;> omega
  unfold Datum.quotient
  simp only [if_neg hm, Option.map_some]
  refine ⟨_, rfl, ?_⟩
  unfold Format.write Format.nearest Format.word
  rw [inf_eq]
  simp only [Bool.xor_self, Bool.false_eq_true, if_false]
  split
  · exact Nat.zero_le _
  · exact Nat.min_le_right _ _

end Go.Proofs.Ytfakcjelibdnbaa.Fl
