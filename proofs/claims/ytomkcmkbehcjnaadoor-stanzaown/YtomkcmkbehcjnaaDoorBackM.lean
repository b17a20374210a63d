/- There and back, on lists: forms of numbers, floats and texts. -/
import Derived.Test.YtomkcmkbehcjnaaDoorReadI
import Derived.Test.YtomkcmkbehcjnaaDoorReadF
import Derived.Test.YtomkcmkbehcjnaaDoorTexts
namespace Go.Proofs.YtomkcmkbehcjnaaDoor
open Go.RowKit

theorem pow7 (i : Nat) : 2 ^ (7 * (i + 1)) = 128 * 2 ^ (7 * i) := by rw [Nat.mul_add 7 i 1, Nat.pow_add, Nat.mul_comm]

theorem scan_form (ys : List Int) (n : Nat) : ∀ i acc, n * 2 ^ (7 * i) < 18446744073709551616 → (n ≠ 0 ∨ i = 0) → i ≤ 9 → scan (form n ++ ys) i acc = (acc + n * 2 ^ (7 * i), i + (form n).length, 0) := by
  have e63 : (2 : Nat) ^ (7 * 9) = 9223372036854775808 := by decide
  induction n using form_induct with
  | case1 n h =>
    intro i acc hb h0 hi
    rw [form_small h, List.singleton_append, scan_end ?_ (by omega) (by omega)]
    · have : ((n : Int) % 128).toNat = n := by omega
      rw [this]; rfl
    · rintro ⟨rfl, h1⟩
      rw [e63] at hb
      omega
  | case2 n h ih =>
    intro i acc hb h0 hi
    have hp : 0 < 2 ^ (7 * i) := Nat.two_pow_pos _
    have hne9 : i ≠ 9 := by
      rintro rfl
      rw [e63] at hb
      omega
    have hmul : n / 128 * 2 ^ (7 * (i + 1)) ≤ n * 2 ^ (7 * i) := by
      rw [pow7, ← Nat.mul_assoc]
      exact Nat.mul_le_mul_right _ (Nat.div_mul_le_self n 128)
    rw [form_big h, List.cons_append, scan_more (by omega) (by omega), ih (i + 1) _ (by omega) (Or.inl (by omega)) (by omega)]
    have e1 : (((n % 128 + 128 : Nat) : Int) % 128).toNat = n % 128 := by omega
    rw [e1]
    have e2 : n * 2 ^ (7 * i) = n % 128 * 2 ^ (7 * i) + n / 128 * 2 ^ (7 * (i + 1)) := by
      rw [pow7, ← Nat.mul_assoc, ← Nat.add_mul, Nat.mul_comm (n / 128) 128, Nat.mod_add_div]
    rw [e2]
    simp only [List.length_cons, Prod.mk.injEq, and_true]
    omega

theorem scan_put (ys : List Int) (n : Nat) (h : n < 18446744073709551616) : scan (form n ++ ys) 0 0 = (n, (form n).length, 0) := by
  rw [scan_form ys n 0 0 (by simpa using h) (Or.inr rfl) (by omega)]; simp

theorem scan_back (xs : List Int) : ∀ i acc, Bd xs → (scan xs i acc).2.2 = 0 → ∃ q k, scan xs i acc = (acc + q * 2 ^ (7 * i), i + k, 0) ∧ form q = xs.take k ∧ k ≤ xs.length ∧ (q ≠ 0 ∨ i = 0) := by
  induction xs with
  | nil => intro i acc _ h; simp [scan] at h
  | cons c r ih =>
    intro i acc hb h
    have hc := hb c (List.mem_cons_self ..)
    have hbr : Bd r := fun x hx => hb x (List.mem_cons_of_mem _ hx)
    by_cases h9 : i = 9 ∧ 1 < c
    · obtain ⟨rfl, h1⟩ := h9
      rw [scan_far h1] at h; cases h
    · by_cases h128 : 128 ≤ c
      · rw [scan_more h9 h128] at h ⊢
        obtain ⟨q, k, e1, e2, e3, e4⟩ := ih _ _ hbr h
        have hq : q ≠ 0 := by rcases e4 with g | g <;> omega
        refine ⟨(c % 128).toNat + 128 * q, k + 1, ?_, ?_, by simp; omega, Or.inl (by omega)⟩
        · rw [e1, pow7]
          have : ((c % 128).toNat + 128 * q) * 2 ^ (7 * i) = (c % 128).toNat * 2 ^ (7 * i) + q * (128 * 2 ^ (7 * i)) := by
            rw [Nat.add_mul]; congr 1; rw [Nat.mul_comm 128 q, Nat.mul_assoc]
          rw [this]
          simp only [Prod.mk.injEq, and_true]; omega
        · rw [form_big (by omega), List.take_succ_cons]
          have g1 : ((c % 128).toNat + 128 * q) / 128 = q := by omega
          have g2 : ((((c % 128).toNat + 128 * q) % 128 + 128 : Nat) : Int) = c := by omega
          rw [g1, g2, e2]
      · by_cases h0 : c = 0 ∧ 0 < i
        · obtain ⟨rfl, h1⟩ := h0
          rw [scan_zero h1] at h; cases h
        · rw [scan_end h9 h128 h0]
          have g : (c % 128).toNat = c.toNat := by omega
          refine ⟨c.toNat, 1, by rw [g], ?_, by simp, by omega⟩
          rw [form_small (by omega)]
          have : ((c.toNat : Nat) : Int) = c := by omega
          rw [this]; rfl

theorem scan_whole (xs : List Int) (hb : Bd xs) (h : (scan xs 0 0).2.2 = 0) : form (scan xs 0 0).1 ++ xs.drop (scan xs 0 0).2.1 = xs := by
  obtain ⟨q, k, e1, e2, e3, _⟩ := scan_back xs 0 0 hb h
  rw [e1]
  simp only [Nat.zero_add, Nat.mul_zero, Nat.pow_zero, Nat.mul_one]
  rw [e2, List.take_append_drop]

/-! ### Floats -/
theorem fv_take {xs : List Int} (hb : Bd xs) : ∀ d k, fv xs (k + d) / 256 ^ d = fv xs k
  | 0, k => by simp
  | d + 1, k => by
    rw [Nat.pow_succ, Nat.mul_comm, ← Nat.div_div_eq_div_mul, ← Nat.add_assoc, (fv_div hb (k + d)).1, fv_take hb d k]

theorem fbl_fv' {xs : List Int} (hb : Bd xs) (hl : 8 ≤ xs.length) : ∀ j, j ≤ 8 → fbl (fv xs 8) j = xs.take j
  | 0, _ => rfl
  | j + 1, h => by
    rw [fbl, fbl_fv' hb hl j (by omega)]
    have e1 : fv xs 8 / 2 ^ (8 * (7 - j)) = fv xs (j + 1) := by
      have e2 : (2 : Nat) ^ (8 * (7 - j)) = 256 ^ (7 - j) := by rw [Nat.pow_mul]
      have := fv_take hb (7 - j) (j + 1)
      rw [show j + 1 + (7 - j) = 8 by omega] at this
      rw [e2, this]
    rw [e1, (fv_div hb j).2, List.take_succ_eq_append_getElem (by omega)]
    simp [List.getD, List.getElem?_eq_getElem (show j < xs.length by omega)]

theorem fbl_fv {xs : List Int} (hb : Bd xs) (hl : 8 ≤ xs.length) : fbl (fv xs 8) 8 = xs.take 8 := fbl_fv' hb hl 8 (Nat.le_refl _)

theorem fv_append (l r : List Int) : ∀ k, k ≤ l.length → fv (l ++ r) k = fv l k
  | 0, _ => rfl
  | k + 1, h => by
    rw [fv, fv, fv_append l r k (by omega)]
    simp [List.getD, List.getElem?_append_left (show k < l.length by omega)]

theorem fv_fbl' (b : Nat) (hb : b < 18446744073709551616) : ∀ j, j ≤ 8 → fv (fbl b j) j = b / 2 ^ (8 * (8 - j))
  | 0, _ => by
    have : (2 : Nat) ^ (8 * (8 - 0)) = 18446744073709551616 := by decide
    rw [this, Nat.div_eq_of_lt hb]; rfl
  | j + 1, h => by
    rw [fv, fbl, fv_append _ _ j (by rw [fbl_len]; omega), fv_fbl' b hb j (by omega)]
    have e1 : ((fbl b j ++ [((b / 2 ^ (8 * (7 - j)) % 256 : Nat) : Int)]).getD j 0) = ((b / 2 ^ (8 * (7 - j)) % 256 : Nat) : Int) := by
      have := fbl_len b j
      simp [List.getD, this]
    rw [e1]
    have e2 : (2 : Nat) ^ (8 * (8 - j)) = 2 ^ (8 * (7 - j)) * 256 := by
      rw [show 8 * (8 - j) = 8 * (7 - j) + 8 by omega, Nat.pow_add]
    have e3 : 8 - (j + 1) = 7 - j := by omega
    rw [e2, e3, ← Nat.div_div_eq_div_mul]
    omega

theorem fv_fbl (b : Nat) (hb : b < 18446744073709551616) (ys : List Int) : fv (fbl b 8 ++ ys) 8 = b := by
  rw [fv_append _ _ 8 (by rw [fbl_len]; omega), fv_fbl' b hb 8 (Nat.le_refl _)]; simp

theorem bitsv_lt (x : Nat) (hx : x < 18446744073709551616) : bitsv x < 18446744073709551616 := by unfold bitsv; split <;> omega
theorem nan_NANF : Fl.nan NANF = true := by decide
theorem bitsv_nan (x : Nat) (h : Fl.nan (bitsv x) = true) : bitsv x = NANF := by
  unfold bitsv at h ⊢
  by_cases g : Fl.nan x = true
  · rw [if_pos g]; rfl
  · rw [if_neg g] at h; exact absurd h g

theorem fbad_put (x : Nat) (hx : x < 18446744073709551616) (ys : List Int) : fbad (fbl (bitsv x) 8 ++ ys) = false := by
  unfold fbad
  rw [fv_fbl _ (bitsv_lt x hx), decide_eq_false (by rw [List.length_append, fbl_len]; omega), Bool.false_or]
  cases h : Fl.nan (bitsv x) with
  | false => rfl
  | true => rw [Bool.true_and, decide_eq_false]; intro k; exact k (bitsv_nan x h)

theorem bitsv_fv {xs : List Int} (h : fbad xs = false) : bitsv (fv xs 8) = fv xs 8 := by
  unfold fbad at h
  simp only [Bool.or_eq_false_iff] at h
  unfold bitsv
  cases g : Fl.nan (fv xs 8) with
  | false => rfl
  | true =>
    have := h.2
    rw [g, Bool.true_and] at this
    have := of_decide_eq_false this
    simp only [ne_eq, Decidable.not_not] at this
    rw [this]; rfl

theorem float_whole {xs : List Int} (hb : Bd xs) (h : fbad xs = false) : fbl (bitsv (fv xs 8)) 8 ++ xs.drop 8 = xs := by
  have hl : 8 ≤ xs.length := by
    unfold fbad at h
    simp only [Bool.or_eq_false_iff] at h
    have := of_decide_eq_false h.1
    omega
  rw [bitsv_fv h, fbl_fv hb hl, List.take_append_drop]

/-! ### Texts -/
theorem nums_str {l : List Int} (h : Bd l) : nums (strOfNums l) = l := by
  unfold nums
  rw [strOfNums_data, List.map_map]
  conv => rhs; rw [← List.map_id l]
  refine List.map_congr_left fun x hx => ?_
  have := h x hx
  simp only [Function.comp, id]
  rw [UInt8.toNat_ofNat']
  omega

end Go.Proofs.YtomkcmkbehcjnaaDoor
