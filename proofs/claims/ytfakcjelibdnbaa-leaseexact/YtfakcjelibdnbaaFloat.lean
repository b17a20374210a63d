/- The order of all floats, as plain arithmetic on their 64 bits: what Ieee's order says of two words is what their signed rungs say. -/
import Derived.Laws.Cover2
namespace Go.Proofs.Ytfakcjelibdnbaa.Fl
open Ieee

def inf : Nat := 9218868437227405312
def sgn : Nat := 9223372036854775808
def bin : Nat := 4503599627370496

theorem binade_eq : double.binade = bin := rfl
theorem sgn_eq : double.signWeight = sgn := rfl
theorem inf_eq : double.infRung = inf := rfl

/-- The magnitude and the exponent (counted from the least) of a rung. -/
def mag (r : Nat) : Nat := if r < bin then r else bin + r % bin
def ex (r : Nat) : Nat := r / bin - 1
def val (r : Nat) : Nat := mag r * 2 ^ ex r

theorem val_step (r : Nat) : val r < val (r + 1) := by
  unfold val mag ex
  have hb : bin = 4503599627370496 := rfl
  by_cases h1 : r + 1 < bin
  · rw [if_pos h1, if_pos (by omega)]
    have e1 : r / bin = 0 := Nat.div_eq_of_lt (by omega)
    have e2 : (r + 1) / bin = 0 := Nat.div_eq_of_lt h1
    rw [e1, e2]; omega
  · rw [if_neg h1]
    by_cases h2 : r < bin
    · have hr : r + 1 = bin := by omega
      rw [if_pos h2, hr]
      have e1 : r / bin = 0 := Nat.div_eq_of_lt h2
      rw [e1, Nat.div_self (by omega), Nat.mod_self]
      omega
    · rw [if_neg h2]
      by_cases h3 : (r + 1) % bin = 0
      · have e1 : r % bin = bin - 1 := by rw [hb] at *; omega
        have e2 : (r + 1) / bin = r / bin + 1 := by rw [hb] at *; omega
        have e3 : 1 ≤ r / bin := by rw [hb] at *; omega
        rw [h3, e1, e2]
        have e4 : r / bin + 1 - 1 = (r / bin - 1) + 1 := by omega
        rw [e4, Nat.pow_succ]
        have hp : 0 < 2 ^ (r / bin - 1) := Nat.two_pow_pos _
        generalize 2 ^ (r / bin - 1) = p at hp
        rw [hb]
        omega
      · have e1 : (r + 1) % bin = r % bin + 1 := by rw [hb] at *; omega
        have e2 : (r + 1) / bin = r / bin := by rw [hb] at *; omega
        rw [e1, e2]
        have hp : 0 < 2 ^ (r / bin - 1) := Nat.two_pow_pos _
        exact Nat.mul_lt_mul_of_pos_right (by omega) hp

theorem val_lt {r s : Nat} (h : r < s) : val r < val s := by
  induction h with
  | refl => exact val_step r
  | step _ ih => exact Nat.lt_trans ih (val_step _)

theorem val_zero : val 0 = 0 := by simp [val, mag, ex, bin]

theorem val_lt_iff (r s : Nat) : val r < val s ↔ r < s := by
  constructor
  · intro h
    rcases Nat.lt_trichotomy r s with g | g | g
    · exact g
    · subst g; omega
    · have := val_lt g; omega
  · exact val_lt

theorem val_eq_iff (r s : Nat) : val r = val s ↔ r = s := by
  constructor
  · intro h
    rcases Nat.lt_trichotomy r s with g | g | g
    · have := val_lt g; omega
    · exact g
    · have := val_lt g; omega
  · intro h; rw [h]

/-- The sign and the rung of a word. -/
def neg (x : Nat) : Bool := x / sgn % 2 == 1
def rung (x : Nat) : Nat := x % sgn
def sr (x : Nat) : Int := if neg x then -(rung x : Int) else (rung x : Int)
def sv (x : Nat) : Int := if neg x then -(val (rung x) : Int) else (val (rung x) : Int)

theorem cmp_int (a b : Int) : compare a b = if a < b then .lt else if a = b then .eq else .gt := rfl

theorem sv_cmp (x y : Nat) : compare (sv x) (sv y) = compare (sr x) (sr y) := by
  have L := val_lt_iff (rung x) (rung y)
  have E := val_eq_iff (rung x) (rung y)
  have z0 : val 0 = 0 := val_zero
  have Lx := val_lt_iff 0 (rung x)
  have Ly := val_lt_iff 0 (rung y)
  rw [z0] at Lx Ly
  have key : (sv x < sv y ↔ sr x < sr y) ∧ (sv x = sv y ↔ sr x = sr y) := by
    unfold sv sr
    cases neg x <;> cases neg y <;> simp <;> omega
  rw [cmp_int, cmp_int]
  by_cases g : sr x < sr y
  · rw [if_pos g, if_pos (key.1.2 g)]
  · rw [if_neg g, if_neg (fun h => g (key.1.1 h))]
    by_cases g2 : sr x = sr y
    · rw [if_pos g2, if_pos (key.2.2 g2)]
    · rw [if_neg g2, if_neg (fun h => g2 (key.2.1 h))]

theorem sh_eq (m d : Nat) : m <<< d = m * 2 ^ d := Nat.shiftLeft_eq m d

/-- A number's two words, at a common place, stand as their values do. -/
theorem cmp_scale (s t : Bool) (m n i j : Nat) :
    compare (signed s m (i - min i j)) (signed t n (j - min i j)) = compare (if s then -((m * 2 ^ i : Nat) : Int) else ((m * 2 ^ i : Nat) : Int)) (if t then -((n * 2 ^ j : Nat) : Int) else ((n * 2 ^ j : Nat) : Int)) := by
  have hp : 0 < 2 ^ min i j := Nat.two_pow_pos _
  have e1 : m * 2 ^ i = (m * 2 ^ (i - min i j)) * 2 ^ min i j := by
    rw [Nat.mul_assoc, ← Nat.pow_add]; congr 2; omega
  have e2 : n * 2 ^ j = (n * 2 ^ (j - min i j)) * 2 ^ min i j := by
    rw [Nat.mul_assoc, ← Nat.pow_add]; congr 2; omega
  unfold signed
  rw [sh_eq, sh_eq, e1, e2]
  generalize m * 2 ^ (i - min i j) = a
  generalize n * 2 ^ (j - min i j) = b
  generalize 2 ^ min i j = p at hp
  have hlt : ∀ x y : Nat, x < y ↔ x * p < y * p := fun x y => (Nat.mul_lt_mul_right hp).symm
  have l1 := hlt a b
  have l2 := hlt b a
  have l3 := hlt 0 a
  have l4 := hlt 0 b
  rw [Nat.zero_mul] at l3 l4
  generalize a * p = A at *
  generalize b * p = B at *
  rw [cmp_int, cmp_int]
  cases s <;> cases t <;> simp only [Bool.false_eq_true, if_true, if_false]
  all_goals
    congr 1
    · rw [eq_iff_iff]; omega
    · congr 1
      rw [eq_iff_iff]; omega

theorem read_fin (x : Nat) (h : rung x < inf) : double.read x = .number (neg x) (mag (rung x)) (double.leastPlace + (ex (rung x) : Nat)) := by
  unfold Format.read
  simp only [binade_eq, sgn_eq, inf_eq]
  show (if rung x < bin then Datum.number (neg x) (rung x) double.leastPlace else if rung x < inf then .number (neg x) (bin + rung x % bin) (double.leastPlace + (rung x / bin - 1 : Nat)) else if rung x = inf then .infinity (neg x) else .nan (neg x) (rung x - inf)) = _
  unfold mag ex
  by_cases hb : rung x < bin
  · rw [if_pos hb, if_pos hb, Nat.div_eq_of_lt hb]; simp
  · rw [if_neg hb, if_neg hb, if_pos h]

theorem read_inf (x : Nat) (h : rung x = inf) : double.read x = .infinity (neg x) := by
  unfold Format.read
  simp only [binade_eq, sgn_eq, inf_eq]
  show (if rung x < bin then Datum.number (neg x) (rung x) double.leastPlace else if rung x < inf then .number (neg x) (bin + rung x % bin) (double.leastPlace + (rung x / bin - 1 : Nat)) else if rung x = inf then .infinity (neg x) else .nan (neg x) (rung x - inf)) = _
  rw [if_neg (by rw [h]; decide), if_neg (by omega), if_pos h]

theorem read_nan (x : Nat) (h : inf < rung x) : double.read x = .nan (neg x) (rung x - inf) := by
  unfold Format.read
  simp only [binade_eq, sgn_eq, inf_eq]
  show (if rung x < bin then Datum.number (neg x) (rung x) double.leastPlace else if rung x < inf then .number (neg x) (bin + rung x % bin) (double.leastPlace + (rung x / bin - 1 : Nat)) else if rung x = inf then .infinity (neg x) else .nan (neg x) (rung x - inf)) = _
  have : bin < inf := by decide
  rw [if_neg (by omega), if_neg (by omega), if_neg (by omega)]

theorem order_nan (x y : Nat) (h : inf < rung x ∨ inf < rung y) : double.order x y = none := by
  unfold Format.order
  rcases h with h | h
  · rw [read_nan x h]; rfl
  · rw [read_nan y h]; cases double.read x <;> rfl

/-- Two words that are no NaNs stand as their signed rungs do. -/
theorem order_eq (x y : Nat) (hx : rung x ≤ inf) (hy : rung y ≤ inf) : double.order x y = some (compare (sr x) (sr y)) := by
  unfold Format.order
  have h0 : (0 : Nat) < inf := by decide
  rcases Nat.lt_or_eq_of_le hx with gx | gx <;> rcases Nat.lt_or_eq_of_le hy with gy | gy
  · rw [read_fin x gx, read_fin y gy, ← sv_cmp]
    show some (compare (signed (neg x) (mag (rung x)) ((double.leastPlace + (ex (rung x) : Nat)) - min (double.leastPlace + (ex (rung x) : Nat)) (double.leastPlace + (ex (rung y) : Nat))).toNat) (signed (neg y) (mag (rung y)) ((double.leastPlace + (ex (rung y) : Nat)) - min (double.leastPlace + (ex (rung x) : Nat)) (double.leastPlace + (ex (rung y) : Nat))).toNat)) = _
    have e1 : ((double.leastPlace + (ex (rung x) : Nat)) - min (double.leastPlace + (ex (rung x) : Nat)) (double.leastPlace + (ex (rung y) : Nat))).toNat = ex (rung x) - min (ex (rung x)) (ex (rung y)) := by omega
    have e2 : ((double.leastPlace + (ex (rung y) : Nat)) - min (double.leastPlace + (ex (rung x) : Nat)) (double.leastPlace + (ex (rung y) : Nat))).toNat = ex (rung y) - min (ex (rung x)) (ex (rung y)) := by omega
    rw [e1, e2, cmp_scale]
    rfl
  · rw [read_fin x gx, read_inf y gy]
    show some (if neg y then Ordering.gt else .lt) = _
    rw [cmp_int]; unfold sr; rw [gy]
    cases neg x <;> cases neg y <;> simp only [Bool.false_eq_true, if_true, if_false] <;> first | rw [if_pos (by omega)] | rw [if_neg (by omega), if_neg (by omega)]
  · rw [read_inf x gx, read_fin y gy]
    show some (if neg x then Ordering.lt else .gt) = _
    rw [cmp_int]; unfold sr; rw [gx]
    cases neg x <;> cases neg y <;> simp only [Bool.false_eq_true, if_true, if_false] <;> first | rw [if_pos (by omega)] | rw [if_neg (by omega), if_neg (by omega)]
  · rw [read_inf x gx, read_inf y gy]
    show some (compare (neg y).toNat (neg x).toNat) = _
    rw [cmp_int]; unfold sr; rw [gx, gy]
    cases neg x <;> cases neg y <;> simp <;> first | rfl | omega | (simp only [inf]; rfl)

/-- Is it a NaN? -/
def nan (x : Nat) : Bool := decide (inf < rung x)

/-- A float's place in the one order of all floats. -/
def key (x : Nat) : Nat := if inf < rung x then 18446744073709551615 else if sgn ≤ x then 18446744073709551615 - x else x + sgn

/-- How two floats stand. -/
def ordv (x y : Nat) : Int := if key x < key y then -1 else if key y < key x then 1 else 0

end Go.Proofs.Ytfakcjelibdnbaa.Fl
