/- There and back, on lists: forms of numbers (the part of BackM that needs no floats). -/
import Derived.Test.YtiidjdedeenijaaDoorReadI
import Derived.Test.YtiidjdedeenijaaDoorTexts
import Derived.Test.YtiidjdedeenijaaDoorCwG
import Derived.Test.YtiidjdedeenijaaDoorNmVld
namespace Go.Proofs.YtiidjdedeenijaaDoor
open Go.RowKit

theorem pow7 (i : Nat) : 2 ^ (7 * (i + 1)) = 128 * 2 ^ (7 * i) := by rw [Nat.mul_add 7 i 1, Nat.pow_add, Nat.mul_comm]

theorem scan_form (ys : List Int) (n : Nat) : ∀ i acc, n * 2 ^ (7 * i) < 18446744073709551616 → (n ≠ 0 ∨ i = 0) → i ≤ 9 → scan (form n ++ ys) i acc = (acc + n * 2 ^ (7 * i), i + (form n).length, 0) := by
  have e63 : (2 : Nat) ^ (7 * 9) = 9223372036854775808 := by decide
  induction n using form_induct with
  | case1 n h =>
    intro i acc hb h0 hi
    rw [form_small h, List.singleton_append, scan_end ?_ (by omega) (by omega)]
    · have : ((n : Int) % 128).toNat = n := by omega
      rw [this]; rfl
    · rintro ⟨rfl, h1⟩
      rw [e63] at hb
      omega
  | case2 n h ih =>
    intro i acc hb h0 hi
    have hp : 0 < 2 ^ (7 * i) := Nat.two_pow_pos _
    have hne9 : i ≠ 9 := by
      rintro rfl
      rw [e63] at hb
      omega
    have hmul : n / 128 * 2 ^ (7 * (i + 1)) ≤ n * 2 ^ (7 * i) := by
      rw [pow7, ← Nat.mul_assoc]
      exact Nat.mul_le_mul_right _ (Nat.div_mul_le_self n 128)
    rw [form_big h, List.cons_append, scan_more (by omega) (by omega), ih (i + 1) _ (by omega) (Or.inl (by omega)) (by omega)]
    have e1 : (((n % 128 + 128 : Nat) : Int) % 128).toNat = n % 128 := by omega
    rw [e1]
    have e2 : n * 2 ^ (7 * i) = n % 128 * 2 ^ (7 * i) + n / 128 * 2 ^ (7 * (i + 1)) := by
      rw [pow7, ← Nat.mul_assoc, ← Nat.add_mul, Nat.mul_comm (n / 128) 128, Nat.mod_add_div]
    rw [e2]
    simp only [List.length_cons, Prod.mk.injEq, and_true]
    omega

theorem scan_put (ys : List Int) (n : Nat) (h : n < 18446744073709551616) : scan (form n ++ ys) 0 0 = (n, (form n).length, 0) := by
  rw [scan_form ys n 0 0 (by simpa using h) (Or.inr rfl) (by omega)]; simp

theorem scan_back (xs : List Int) : ∀ i acc, Bd xs → (scan xs i acc).2.2 = 0 → ∃ q k, scan xs i acc = (acc + q * 2 ^ (7 * i), i + k, 0) ∧ form q = xs.take k ∧ k ≤ xs.length ∧ (q ≠ 0 ∨ i = 0) := by
  induction xs with
  | nil => intro i acc _ h; simp [scan] at h
  | cons c r ih =>
    intro i acc hb h
    have hc := hb c (List.mem_cons_self ..)
    have hbr : Bd r := fun x hx => hb x (List.mem_cons_of_mem _ hx)
    by_cases h9 : i = 9 ∧ 1 < c
    · obtain ⟨rfl, h1⟩ := h9
      rw [scan_far h1] at h; cases h
    · by_cases h128 : 128 ≤ c
      · rw [scan_more h9 h128] at h ⊢
        obtain ⟨q, k, e1, e2, e3, e4⟩ := ih _ _ hbr h
        have hq : q ≠ 0 := by rcases e4 with g | g <;> omega
        refine ⟨(c % 128).toNat + 128 * q, k + 1, ?_, ?_, by simp; omega, Or.inl (by omega)⟩
        · rw [e1, pow7]
          have : ((c % 128).toNat + 128 * q) * 2 ^ (7 * i) = (c % 128).toNat * 2 ^ (7 * i) + q * (128 * 2 ^ (7 * i)) := by
            rw [Nat.add_mul]; congr 1; rw [Nat.mul_comm 128 q, Nat.mul_assoc]
          rw [this]
          simp only [Prod.mk.injEq, and_true]; omega
        · rw [form_big (by omega), List.take_succ_cons]
          have g1 : ((c % 128).toNat + 128 * q) / 128 = q := by omega
          have g2 : ((((c % 128).toNat + 128 * q) % 128 + 128 : Nat) : Int) = c := by omega
          rw [g1, g2, e2]
      · by_cases h0 : c = 0 ∧ 0 < i
        · obtain ⟨rfl, h1⟩ := h0
          rw [scan_zero h1] at h; cases h
        · rw [scan_end h9 h128 h0]
          have g : (c % 128).toNat = c.toNat := by omega
          refine ⟨c.toNat, 1, by rw [g], ?_, by simp, by omega⟩
          rw [form_small (by omega)]
          have : ((c.toNat : Nat) : Int) = c := by omega
          rw [this]; rfl

theorem scan_whole (xs : List Int) (hb : Bd xs) (h : (scan xs 0 0).2.2 = 0) : form (scan xs 0 0).1 ++ xs.drop (scan xs 0 0).2.1 = xs := by
  obtain ⟨q, k, e1, e2, e3, _⟩ := scan_back xs 0 0 hb h
  rw [e1]
  simp only [Nat.zero_add, Nat.mul_zero, Nat.pow_zero, Nat.mul_one]
  rw [e2, List.take_append_drop]

end Go.Proofs.YtiidjdedeenijaaDoor

/- A record's form, there and back. -/
namespace Go.Proofs.YtiidjdedeenijaaDoor
open Go.RowKit

theorem local_zero {l : List UInt8} (h : (Nm.localN l).2 = 0) : l.length ≤ 64 ∧ Lib.validD l = true := by
  unfold Nm.localN Nm.prep at h
  by_cases h1 : 64 < l.length
  · rw [if_pos h1] at h; cases h
  rw [if_neg h1] at h
  by_cases h2 : l = [] ∨ Lib.validD l = false
  · rw [if_pos h2] at h; cases h
  refine ⟨by omega, ?_⟩
  cases hv : Lib.validD l with
  | true => rfl
  | false => exact absurd (.inr hv) h2
theorem prep_vld {u : ByteArray} (h : prepB u = true) : u.size ≤ 64 ∧ vld (nums u) = true := by
  obtain ⟨h1, _⟩ := of_decide_eq_true h
  obtain ⟨h2, h3⟩ := local_zero h1
  refine ⟨by simpa using h2, ?_⟩
  exact (Nm.vld_nums u).trans h3
theorem form_one {n : Nat} (h : n < 128) : (form n).length = 1 := by rw [form_small h]; rfl

theorem drop_app (a b : List Int) {k : Nat} (h : k = a.length) : (a ++ b).drop k = b := by rw [h, List.drop_left]
theorem take_app (a b : List Int) {k : Nat} (h : k = a.length) : (a ++ b).take k = a := by rw [h, List.take_left]

theorem rec_there (u : ByteArray) (ss : List Int) (z : Nat) (K V : List Int) (hK : K.length = 32) (hV : V.length = 32) (h : rightB u ss.length z = true) :
    recOk (recForm u ss z K V) = true ∧ usrT (recForm u ss z K V) = u ∧ saltT (rx1 (recForm u ss z K V)) = ss ∧ (scan (rx2 (recForm u ss z K V)) 0 0).1 = z ∧ (rx3 (recForm u ss z K V)).take 32 = K ∧ (rx4 (recForm u ss z K V)).take 32 = V := by
  unfold rightB at h
  simp only [Bool.and_eq_true] at h
  obtain ⟨⟨hp, h2⟩, h3⟩ := h
  have h2 := of_decide_eq_true h2
  have h3 := of_decide_eq_true h3
  obtain ⟨hu, hv⟩ := prep_vld hp
  have hX : recForm u ss z K V = form u.size ++ (nums u ++ (form ss.length ++ (ss ++ (form z ++ (K ++ V))))) := by simp [recForm]
  have nl := nums_len u
  have s0 : scan (recForm u ss z K V) 0 0 = (u.size, (form u.size).length, 0) := by rw [hX]; exact scan_put _ _ (by omega)
  have d0 : (recForm u ss z K V).drop (form u.size).length = nums u ++ (form ss.length ++ (ss ++ (form z ++ (K ++ V)))) := by rw [hX]; exact drop_app _ _ rfl
  have e1 : usrT (recForm u ss z K V) = u := by
    unfold usrT
    rw [s0]
    dsimp only
    rw [d0, take_app _ _ nl.symm]
    exact str_nums u
  have r1 : rx1 (recForm u ss z K V) = form ss.length ++ (ss ++ (form z ++ (K ++ V))) := by
    unfold rx1 usrR
    rw [s0]
    dsimp only
    rw [d0, drop_app _ _ nl.symm]
  have lX : (recForm u ss z K V).length = (form u.size).length + (u.size + ((form ss.length).length + (ss.length + ((form z).length + 64)))) := by
    rw [hX]
    simp [nl, hK, hV]
  have l1 := form_one (n := u.size) (by omega)
  have l2 := form_one (n := ss.length) (by omega)
  have l3 : (form z).length ≤ 2 := by
    by_cases q : z < 128
    · rw [form_one q]; omega
    · rw [form_big q, List.length_cons, form_one (by omega)]; omega
  have ht : terr (recForm u ss z K V) 64 = 0 := by
    unfold terr
    rw [s0]
    dsimp only
    rw [if_neg (by simp), if_neg (by omega), if_neg (by omega), d0, take_app _ _ nl.symm, if_pos hv]
  have s1 : scan (rx1 (recForm u ss z K V)) 0 0 = (ss.length, (form ss.length).length, 0) := by rw [r1]; exact scan_put _ _ (by omega)
  have d1 : (rx1 (recForm u ss z K V)).drop (form ss.length).length = ss ++ (form z ++ (K ++ V)) := by rw [r1]; exact drop_app _ _ rfl
  have e2 : saltT (rx1 (recForm u ss z K V)) = ss := by
    unfold saltT
    rw [s1]
    dsimp only
    rw [d1, take_app _ _ rfl]
  have r2 : rx2 (recForm u ss z K V) = form z ++ (K ++ V) := by
    unfold rx2 saltR
    rw [s1]
    dsimp only
    rw [d1, drop_app _ _ rfl]
  have s2 : scan (rx2 (recForm u ss z K V)) 0 0 = (z, (form z).length, 0) := by rw [r2]; exact scan_put _ _ (by omega)
  have r3 : rx3 (recForm u ss z K V) = K ++ V := by
    unfold rx3
    rw [s2]
    dsimp only
    rw [r2, drop_app _ _ rfl]
  have r4 : rx4 (recForm u ss z K V) = V := by unfold rx4; rw [r3, drop_app _ _ hK.symm]
  have r5 : rx5 (recForm u ss z K V) = [] := by unfold rx5; rw [r4]; exact List.drop_eq_nil_of_le (by omega)
  refine ⟨?_, e1, e2, by rw [s2], by rw [r3, take_app _ _ hK.symm], by rw [r4]; exact List.take_of_length_le (by omega)⟩
  unfold recOk usrOk saltOk numOk
  rw [e1, s1, s2, ht, r5, r4, r3, hp]
  have lr1 : (rx1 (recForm u ss z K V)).length = 1 + (ss.length + ((form z).length + 64)) := by rw [r1]; simp [l2, hK, hV]
  simp only [Bool.and_eq_true, decide_eq_true_eq]
  refine ⟨by omega, ⟨trivial, trivial⟩, ⟨⟨trivial, by omega, by omega⟩, ?_⟩, ⟨trivial, by omega, by omega⟩, by simp [hK, hV], by omega, rfl⟩
  rw [lr1, l2]
  omega

theorem rec_back (xs : List Int) (hb : Bd xs) (h : recOk xs = true) :
    rightB (usrT xs) (saltT (rx1 xs)).length (scan (rx2 xs) 0 0).1 = true ∧ recForm (usrT xs) (saltT (rx1 xs)) (scan (rx2 xs) 0 0).1 ((rx3 xs).take 32) ((rx4 xs).take 32) = xs := by
  unfold recOk usrOk saltOk numOk at h
  simp only [Bool.and_eq_true, decide_eq_true_eq] at h
  obtain ⟨h1, ⟨ht, hp⟩, ⟨⟨a1, a2, a3⟩, a4⟩, ⟨b1, b2, b3⟩, h5, h6, h7⟩ := h
  have hs0 : (scan xs 0 0).2.2 = 0 := by
    unfold terr at ht
    by_cases q : (scan xs 0 0).2.2 ≠ 0
    · rw [if_pos q] at ht; exact ht
    · simpa using q
  have hs1 : ¬ xs.length - (scan xs 0 0).2.1 < (scan xs 0 0).1 := by
    intro q
    unfold terr at ht
    rw [if_neg (by simp [hs0])] at ht
    rw [if_pos q] at ht
    split at ht <;> cases ht
  have w0 := scan_whole xs hb hs0
  have hb0 : Bd (xs.drop (scan xs 0 0).2.1) := hb.drop _
  have hbr1 : Bd (rx1 xs) := hb0.drop _
  have w1 := scan_whole (rx1 xs) hbr1 a1
  have hbr2 : Bd (rx2 xs) := (hbr1.drop _).drop _
  have w2 := scan_whole (rx2 xs) hbr2 b1
  have lT : (usrT xs).size = (scan xs 0 0).1 := by
    unfold usrT
    rw [strOf_size, List.length_take, List.length_drop]
    omega
  have nT : nums (usrT xs) = (xs.drop (scan xs 0 0).2.1).take (scan xs 0 0).1 := nums_str (hb0.take _)
  have lS : (saltT (rx1 xs)).length = (scan (rx1 xs) 0 0).1 := by
    unfold saltT
    rw [List.length_take, List.length_drop]
    omega
  refine ⟨?_, ?_⟩
  · unfold rightB
    rw [hp, lS]
    simp only [Bool.and_eq_true, decide_eq_true_eq]
    exact ⟨⟨trivial, by omega, by omega⟩, by omega, by omega⟩
  · have e5 : rx5 xs = [] := List.eq_nil_of_length_eq_zero h7
    have e4 : (rx4 xs).take 32 = rx4 xs := by
      have := List.take_append_drop 32 (rx4 xs)
      rw [show (rx4 xs).drop 32 = [] from e5, List.append_nil] at this
      exact this
    have e3 : (rx3 xs).take 32 ++ rx4 xs = rx3 xs := List.take_append_drop 32 (rx3 xs)
    have e2 : form (scan (rx2 xs) 0 0).1 ++ rx3 xs = rx2 xs := w2
    have e1 : saltT (rx1 xs) ++ rx2 xs = (rx1 xs).drop (scan (rx1 xs) 0 0).2.1 := List.take_append_drop _ _
    have e0 : nums (usrT xs) ++ rx1 xs = xs.drop (scan xs 0 0).2.1 := by rw [nT]; exact List.take_append_drop _ _
    unfold recForm
    rw [lT, lS, e4]
    simp only [List.append_assoc]
    rw [e3, e2, e1, w1, e0, w0]

end Go.Proofs.YtiidjdedeenijaaDoor

/- What the document reads as a record is what the program reads. -/
namespace Go.Proofs.YtiidjdedeenijaaDoor
open Go.RowKit

/-- What the document asks of bytes. -/
def rOk (xs : List Int) : Bool :=
  decide (terr xs 64 = 0) && (saltOk (rx1 xs) && (decide ((scan (rx2 xs) 0 0).2.2 = 0 ∧ (scan (rx2 xs) 0 0).1 ≤ 4096) && (decide ((rx3 xs).length = 64) && rightB (usrT xs) (saltT (rx1 xs)).length (scan (rx2 xs) 0 0).1)))

theorem form_two {n : Nat} (h : n ≤ 4096) : (form n).length ≤ 2 := by
  by_cases h1 : n < 128
  · rw [form_one h1]; omega
  · rw [form_big (by omega), List.length_cons, form_one (by omega)]; omega
theorem terr_zero {xs : List Int} (ht : terr xs 64 = 0) : (scan xs 0 0).2.2 = 0 ∧ ¬ xs.length - (scan xs 0 0).2.1 < (scan xs 0 0).1 := by
  have hs0 : (scan xs 0 0).2.2 = 0 := by
    unfold terr at ht
    by_cases q : (scan xs 0 0).2.2 ≠ 0
    · rw [if_pos q] at ht; exact ht
    · simpa using q
  refine ⟨hs0, fun q => ?_⟩
  unfold terr at ht
  rw [if_neg (by simp [hs0])] at ht
  rw [if_pos q] at ht
  split at ht <;> cases ht

theorem rOk_rec (xs : List Int) (hb : Bd xs) : rOk xs = recOk xs := by
  rw [Bool.eq_iff_iff]
  constructor
  · intro h
    unfold rOk saltOk numOk at h
    simp only [Bool.and_eq_true, decide_eq_true_eq] at h
    obtain ⟨ht, ⟨⟨a1, a2, a3⟩, a4⟩, ⟨b1, b2⟩, h5, h6⟩ := h
    obtain ⟨hs0, hs1⟩ := terr_zero ht
    have h6' := h6
    unfold rightB at h6'
    simp only [Bool.and_eq_true, decide_eq_true_eq] at h6'
    obtain ⟨⟨hp, _⟩, h7⟩ := h6'
    have hb0 : Bd (xs.drop (scan xs 0 0).2.1) := hb.drop _
    have hbr1 : Bd (rx1 xs) := hb0.drop _
    have hbr2 : Bd (rx2 xs) := (hbr1.drop _).drop _
    have w0 := congrArg List.length (scan_whole xs hb hs0)
    have w1 := congrArg List.length (scan_whole (rx1 xs) hbr1 a1)
    have w2 := congrArg List.length (scan_whole (rx2 xs) hbr2 b1)
    have lT : (usrT xs).size = (scan xs 0 0).1 := by
      unfold usrT
      rw [strOf_size, List.length_take, List.length_drop]
      omega
    have hsz := (prep_vld hp).1
    rw [lT] at hsz
    have f0 := form_one (n := (scan xs 0 0).1) (by omega)
    have f1 := form_one (n := (scan (rx1 xs) 0 0).1) (by omega)
    have f2 := form_two (n := (scan (rx2 xs) 0 0).1) (by omega)
    have e1 : (rx1 xs).length = (xs.drop (scan xs 0 0).2.1).length - (scan xs 0 0).1 := by unfold rx1 usrR; rw [List.length_drop]
    have e2 : (rx2 xs).length = ((rx1 xs).drop (scan (rx1 xs) 0 0).2.1).length - (scan (rx1 xs) 0 0).1 := by unfold rx2 saltR; rw [List.length_drop]
    have e3 : (rx3 xs).length = ((rx2 xs).drop (scan (rx2 xs) 0 0).2.1).length := rfl
    rw [List.length_append] at w0 w1 w2
    have e4 : (rx4 xs).length = 32 := by unfold rx4; rw [List.length_drop, h5]
    have e5 : (rx5 xs).length = 0 := by unfold rx5; rw [List.length_drop, e4]
    have hl : xs.length ≤ 164 := by rw [List.length_drop] at e1 e2; rw [List.length_drop] at w0 w1; omega
    unfold recOk usrOk saltOk numOk
    simp only [Bool.and_eq_true, decide_eq_true_eq]
    exact ⟨hl, ⟨ht, hp⟩, ⟨⟨a1, a2, a3⟩, a4⟩, ⟨b1, by omega, b2⟩, by omega, by omega, e5⟩
  · intro h
    have hr := (rec_back xs hb h).1
    unfold recOk usrOk numOk at h
    simp only [Bool.and_eq_true, decide_eq_true_eq] at h
    obtain ⟨h1, ⟨ht, hp⟩, hs, ⟨b1, b2, b3⟩, h5, h6, h7⟩ := h
    unfold rOk
    simp only [Bool.and_eq_true, decide_eq_true_eq]
    refine ⟨ht, hs, ⟨b1, b3⟩, ?_, hr⟩
    unfold rx5 at h7
    rw [List.length_drop] at h7
    unfold rx4 at h6 h7
    rw [List.length_drop] at h6 h7
    omega
end Go.Proofs.YtiidjdedeenijaaDoor
