/- lease: now and some seconds more: the sum is not less than now. -/
import Derived.Test.YtfakcjelibdnbaaMtA
namespace Go.Proofs.Ytfakcjelibdnbaa.Fl
open Ieee

theorem nearest_true (m : Nat) (p : Int) (h : m ≠ 0) : double.nearest true m p = sgn + double.nearest false m p := by
  unfold Format.nearest
  rw [if_neg h, if_neg h]
  dsimp only
  unfold Format.word
  rw [sgn_eq, if_pos rfl, if_neg (by decide), cut_plain, cut_plain]

/-- The sum of two signed numbers, written: where it is below nothing. -/
theorem sum_writeN (s t : Bool) (m n i j : Nat) (Z : Int) (hZ : Z = (if s then -((m * 2 ^ i : Nat) : Int) else ((m * 2 ^ i : Nat) : Int)) + (if t then -((n * 2 ^ j : Nat) : Int) else ((n * 2 ^ j : Nat) : Int))) (h0 : Z < 0) :
    ((Datum.number s m (double.leastPlace + (i : Int))).sum (Datum.number t n (double.leastPlace + (j : Int)))).map double.write = some (sgn + rnd ((-Z).toNat * 2 ^ 2926)) := by
  unfold Datum.sum
  dsimp only
  have eb : min (double.leastPlace + (i : Int)) (double.leastPlace + (j : Int)) = double.leastPlace + ((min i j : Nat) : Int) := by omega
  rw [eb]
  obtain ⟨p, hp⟩ : ∃ p, p = min i j := ⟨_, rfl⟩
  rw [← hp]
  have d1 : (double.leastPlace + (i : Int) - (double.leastPlace + (p : Int))).toNat = i - p := by omega
  have d2 : (double.leastPlace + (j : Int) - (double.leastPlace + (p : Int))).toNat = j - p := by omega
  rw [d1, d2]
  have hs := signed_sum s t m n i j p hp
  rw [← hZ] at hs
  generalize signed s m (i - p) + signed t n (j - p) = T at hs
  have hG : 0 < 2 ^ p := Nat.two_pow_pos p
  have hT : T < 0 := by
    by_cases g : T < 0
    · exact g
    · have hG' : (0 : Int) ≤ ((2 ^ p : Nat) : Int) := by omega
      have := Int.mul_nonneg (show 0 ≤ T by omega) hG'
      omega
  have hn : (if T = 0 then s && t else decide (T < 0)) = true := by
    rw [if_neg (by omega)]
    exact decide_eq_true hT
  rw [hn]
  simp only [Option.map_some]
  unfold Format.write
  dsimp only
  rw [nearest_true _ _ (by omega), least_eq, nearest_rnd _ _ (p + 2926) (by omega)]
  have e9 : ((T.natAbs * 2 ^ p : Nat) : Int) = -Z := by
    rw [← hs, Int.natCast_mul, ← Int.neg_mul]
    congr 1
    omega
  have e10 : T.natAbs * 2 ^ p = (-Z).toNat := by omega
  rw [Nat.pow_add, ← Nat.mul_assoc, e10]

theorem add_ge {x y : Nat} (hx : rung x < inf) (hy : y ≤ inf) : ∃ r, double.add x y = some r ∧ fle x r = true := by
  have nx : nan x = false := by unfold nan; exact decide_eq_false (by omega)
  have hs : sgn = 9223372036854775808 := rfl
  have hi : inf = 9218868437227405312 := rfl
  rcases Nat.lt_or_eq_of_le hy with hy | rfl
  · obtain ⟨n2, r2⟩ := pos_parts (Nat.le_of_lt hy)
    unfold Format.add
    rw [read_fin x hx, read_fin y (by rw [r2]; exact hy), n2, r2]
    have key : sv x + (val y : Int) = (if neg x then -((mag (rung x) * 2 ^ ex (rung x) : Nat) : Int) else ((mag (rung x) * 2 ^ ex (rung x) : Nat) : Int)) + (if false then -((mag y * 2 ^ ex y : Nat) : Int) else ((mag y * 2 ^ ex y : Nat) : Int)) := by
      unfold sv val
      cases neg x <;> simp
    by_cases hZ : 0 ≤ sv x + (val y : Int)
    · refine ⟨_, sum_write _ _ _ _ _ _ _ key hZ (by simp), ?_⟩
      have hle := rnd_le ((sv x + (val y : Int)).toNat * 2 ^ 2926)
      unfold fle
      rw [nx, nan_pos hle, sr_pos hle]
      simp only [Bool.not_false, Bool.true_and, decide_eq_true_eq]
      cases hn : neg x with
      | true =>
        unfold sr; rw [hn, if_pos rfl]; omega
      | false =>
        have hv : sv x = (val (rung x) : Int) := by unfold sv; rw [hn]; rfl
        have e : sr x = (rung x : Int) := by unfold sr; rw [hn]; rfl
        rw [e]
        have hq : val (rung x) ≤ (sv x + (val y : Int)).toNat := by omega
        have := rnd_mono (N := vl (rung x)) (M := (sv x + (val y : Int)).toNat * 2 ^ 2926) (Nat.mul_le_mul_right _ hq)
        rw [rnd_vl (Nat.le_of_lt hx)] at this
        exact Int.ofNat_le.2 this
    · refine ⟨_, sum_writeN _ _ _ _ _ _ _ key (by omega), ?_⟩
      have hn : neg x = true := by
        cases hn : neg x with
        | true => rfl
        | false => exfalso; apply hZ; unfold sv; rw [hn]; simp; omega
      have hv : sv x = -(val (rung x) : Int) := by unfold sv; rw [hn]; rfl
      have hq : (-(sv x + (val y : Int))).toNat ≤ val (rung x) := by omega
      have hm := rnd_mono (N := (-(sv x + (val y : Int))).toNat * 2 ^ 2926) (M := vl (rung x)) (by unfold vl; exact Nat.mul_le_mul_right _ hq)
      rw [rnd_vl (Nat.le_of_lt hx)] at hm
      generalize rnd ((-(sv x + (val y : Int))).toNat * 2 ^ 2926) = r at hm
      have hw := word_parts true (r := r) (by omega)
      have ew : double.word true r = sgn + r := by unfold Format.word; rw [sgn_eq]; rfl
      rw [ew] at hw
      unfold fle nan sr
      rw [hw.1, hw.2, hn]
      simp
      omega
  · unfold Format.add
    rw [read_fin x hx, read_inf inf (by decide)]
    refine ⟨_, rfl, ?_⟩
    rw [(pos_parts (Nat.le_refl inf)).1]
    have e : double.write (.infinity false) = inf := rfl
    show fle x (double.write (.infinity false)) = true
    rw [e]
    unfold fle
    rw [nx, nan_pos (Nat.le_refl inf), sr_pos (Nat.le_refl inf)]
    simp only [Bool.not_false, Bool.true_and, decide_eq_true_eq]
    unfold sr
    split <;> omega

end Go.Proofs.Ytfakcjelibdnbaa.Fl
