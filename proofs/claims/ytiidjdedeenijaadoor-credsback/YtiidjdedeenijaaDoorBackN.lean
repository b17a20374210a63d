/- There and back, on lists: forms of numbers (the part of BackM that needs no floats). -/
import Derived.Test.YtiidjdedeenijaaDoorReadI
import Derived.Test.YtiidjdedeenijaaDoorTexts
namespace Go.Proofs.YtiidjdedeenijaaDoor
open Go.RowKit

theorem pow7 (i : Nat) : 2 ^ (7 * (i + 1)) = 128 * 2 ^ (7 * i) := by rw [Nat.mul_add 7 i 1, Nat.pow_add, Nat.mul_comm]

theorem scan_form (ys : List Int) (n : Nat) : ∀ i acc, n * 2 ^ (7 * i) < 18446744073709551616 → (n ≠ 0 ∨ i = 0) → i ≤ 9 → scan (form n ++ ys) i acc = (acc + n * 2 ^ (7 * i), i + (form n).length, 0) := by
  have e63 : (2 : Nat) ^ (7 * 9) = 9223372036854775808 := by decide
  induction n using form_induct with
  | case1 n h =>
    intro i acc hb h0 hi
    rw [form_small h, List.singleton_append, scan_end ?_ (by omega) (by omega)]
    · have : ((n : Int) % 128).toNat = n := by omega
      rw [this]; rfl
    · rintro ⟨rfl, h1⟩
      rw [e63] at hb
      omega
  | case2 n h ih =>
    intro i acc hb h0 hi
    have hp : 0 < 2 ^ (7 * i) := Nat.two_pow_pos _
    have hne9 : i ≠ 9 := by
      rintro rfl
      rw [e63] at hb
      omega
    have hmul : n / 128 * 2 ^ (7 * (i + 1)) ≤ n * 2 ^ (7 * i) := by
      rw [pow7, ← Nat.mul_assoc]
      exact Nat.mul_le_mul_right _ (Nat.div_mul_le_self n 128)
    rw [form_big h, List.cons_append, scan_more (by omega) (by omega), ih (i + 1) _ (by omega) (Or.inl (by omega)) (by omega)]
    have e1 : (((n % 128 + 128 : Nat) : Int) % 128).toNat = n % 128 := by omega
    rw [e1]
    have e2 : n * 2 ^ (7 * i) = n % 128 * 2 ^ (7 * i) + n / 128 * 2 ^ (7 * (i + 1)) := by
      rw [pow7, ← Nat.mul_assoc, ← Nat.add_mul, Nat.mul_comm (n / 128) 128, Nat.mod_add_div]
    rw [e2]
    simp only [List.length_cons, Prod.mk.injEq, and_true]
    omega

theorem scan_put (ys : List Int) (n : Nat) (h : n < 18446744073709551616) : scan (form n ++ ys) 0 0 = (n, (form n).length, 0) := by
  rw [scan_form ys n 0 0 (by simpa using h) (Or.inr rfl) (by omega)]; simp

theorem scan_back (xs : List Int) : ∀ i acc, Bd xs → (scan xs i acc).2.2 = 0 → ∃ q k, scan xs i acc = (acc + q * 2 ^ (7 * i), i + k, 0) ∧ form q = xs.take k ∧ k ≤ xs.length ∧ (q ≠ 0 ∨ i = 0) := by
  induction xs with
  | nil => intro i acc _ h; simp [scan] at h
  | cons c r ih =>
    intro i acc hb h
    have hc := hb c (List.mem_cons_self ..)
    have hbr : Bd r := fun x hx => hb x (List.mem_cons_of_mem _ hx)
    by_cases h9 : i = 9 ∧ 1 < c
    · obtain ⟨rfl, h1⟩ := h9
      rw [scan_far h1] at h; cases h
    · by_cases h128 : 128 ≤ c
      · rw [scan_more h9 h128] at h ⊢
        obtain ⟨q, k, e1, e2, e3, e4⟩ := ih _ _ hbr h
        have hq : q ≠ 0 := by rcases e4 with g | g <;> omega
        refine ⟨(c % 128).toNat + 128 * q, k + 1, ?_, ?_, by simp; omega, Or.inl (by omega)⟩
        · rw [e1, pow7]
          have : ((c % 128).toNat + 128 * q) * 2 ^ (7 * i) = (c % 128).toNat * 2 ^ (7 * i) + q * (128 * 2 ^ (7 * i)) := by
            rw [Nat.add_mul]; congr 1; rw [Nat.mul_comm 128 q, Nat.mul_assoc]
          rw [this]
          simp only [Prod.mk.injEq, and_true]; omega
        · rw [form_big (by omega), List.take_succ_cons]
          have g1 : ((c % 128).toNat + 128 * q) / 128 = q := by omega
          have g2 : ((((c % 128).toNat + 128 * q) % 128 + 128 : Nat) : Int) = c := by omega
          rw [g1, g2, e2]
      · by_cases h0 : c = 0 ∧ 0 < i
        · obtain ⟨rfl, h1⟩ := h0
          rw [scan_zero h1] at h; cases h
        · rw [scan_end h9 h128 h0]
          have g : (c % 128).toNat = c.toNat := by omega
          refine ⟨c.toNat, 1, by rw [g], ?_, by simp, by omega⟩
          rw [form_small (by omega)]
          have : ((c.toNat : Nat) : Int) = c := by omega
          rw [this]; rfl

theorem scan_whole (xs : List Int) (hb : Bd xs) (h : (scan xs 0 0).2.2 = 0) : form (scan xs 0 0).1 ++ xs.drop (scan xs 0 0).2.1 = xs := by
  obtain ⟨q, k, e1, e2, e3, _⟩ := scan_back xs 0 0 hb h
  rw [e1]
  simp only [Nat.zero_add, Nat.mul_zero, Nat.pow_zero, Nat.mul_one]
  rw [e2, List.take_append_drop]

end Go.Proofs.YtiidjdedeenijaaDoor
