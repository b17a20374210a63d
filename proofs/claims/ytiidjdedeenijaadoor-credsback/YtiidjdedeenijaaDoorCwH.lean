/- A record's form, there and back. -/
import Derived.Test.YtiidjdedeenijaaDoorCwG
import Derived.Test.YtiidjdedeenijaaDoorBackN
import Derived.Test.YtiidjdedeenijaaDoorNmVld
namespace Go.Proofs.YtiidjdedeenijaaDoor
open Go.RowKit

theorem local_zero {l : List UInt8} (h : (Nm.localN l).2 = 0) : l.length ≤ 64 ∧ Lib.validD l = true := by
  unfold Nm.localN Nm.prep at h
  by_cases h1 : 64 < l.length
  · rw [if_pos h1] at h; cases h
  rw [if_neg h1] at h
  by_cases h2 : l = [] ∨ Lib.validD l = false
  · rw [if_pos h2] at h; cases h
  refine ⟨by omega, ?_⟩
  cases hv : Lib.validD l with
  | true => rfl
  | false => exact absurd (.inr hv) h2
theorem prep_vld {u : ByteArray} (h : prepB u = true) : u.size ≤ 64 ∧ vld (nums u) = true := by
  obtain ⟨h1, _⟩ := of_decide_eq_true h
  obtain ⟨h2, h3⟩ := local_zero h1
  refine ⟨by simpa using h2, ?_⟩
  exact (Nm.vld_nums u).trans h3
theorem form_one {n : Nat} (h : n < 128) : (form n).length = 1 := by rw [form_small h]; rfl

theorem drop_app (a b : List Int) {k : Nat} (h : k = a.length) : (a ++ b).drop k = b := by rw [h, List.drop_left]
theorem take_app (a b : List Int) {k : Nat} (h : k = a.length) : (a ++ b).take k = a := by rw [h, List.take_left]

theorem rec_there (u : ByteArray) (ss : List Int) (z : Nat) (K V : List Int) (hK : K.length = 32) (hV : V.length = 32) (h : rightB u ss.length z = true) :
    recOk (recForm u ss z K V) = true ∧ usrT (recForm u ss z K V) = u ∧ saltT (rx1 (recForm u ss z K V)) = ss ∧ (scan (rx2 (recForm u ss z K V)) 0 0).1 = z ∧ (rx3 (recForm u ss z K V)).take 32 = K ∧ (rx4 (recForm u ss z K V)).take 32 = V := by
  unfold rightB at h
  simp only [Bool.and_eq_true] at h
  obtain ⟨⟨hp, h2⟩, h3⟩ := h
  have h2 := of_decide_eq_true h2
  have h3 := of_decide_eq_true h3
  obtain ⟨hu, hv⟩ := prep_vld hp
  have hX : recForm u ss z K V = form u.size ++ (nums u ++ (form ss.length ++ (ss ++ (form z ++ (K ++ V))))) := by simp [recForm]
  have nl := nums_len u
  have s0 : scan (recForm u ss z K V) 0 0 = (u.size, (form u.size).length, 0) := by rw [hX]; exact scan_put _ _ (by omega)
  have d0 : (recForm u ss z K V).drop (form u.size).length = nums u ++ (form ss.length ++ (ss ++ (form z ++ (K ++ V)))) := by rw [hX]; exact drop_app _ _ rfl
  have e1 : usrT (recForm u ss z K V) = u := by
    unfold usrT
    rw [s0]
    dsimp only
    rw [d0, take_app _ _ nl.symm]
    exact str_nums u
  have r1 : rx1 (recForm u ss z K V) = form ss.length ++ (ss ++ (form z ++ (K ++ V))) := by
    unfold rx1 usrR
    rw [s0]
    dsimp only
    rw [d0, drop_app _ _ nl.symm]
  have lX : (recForm u ss z K V).length = (form u.size).length + (u.size + ((form ss.length).length + (ss.length + ((form z).length + 64)))) := by
    rw [hX]
    simp [nl, hK, hV]
  have l1 := form_one (n := u.size) (by omega)
  have l2 := form_one (n := ss.length) (by omega)
  have l3 : (form z).length ≤ 2 := by
    by_cases q : z < 128
    · rw [form_one q]; omega
    · rw [form_big q, List.length_cons, form_one (by omega)]; omega
  have ht : terr (recForm u ss z K V) 64 = 0 := by
    unfold terr
    rw [s0]
    dsimp only
    rw [if_neg (by simp), if_neg (by omega), if_neg (by omega), d0, take_app _ _ nl.symm, if_pos hv]
  have s1 : scan (rx1 (recForm u ss z K V)) 0 0 = (ss.length, (form ss.length).length, 0) := by rw [r1]; exact scan_put _ _ (by omega)
  have d1 : (rx1 (recForm u ss z K V)).drop (form ss.length).length = ss ++ (form z ++ (K ++ V)) := by rw [r1]; exact drop_app _ _ rfl
  have e2 : saltT (rx1 (recForm u ss z K V)) = ss := by
    unfold saltT
    rw [s1]
    dsimp only
    rw [d1, take_app _ _ rfl]
  have r2 : rx2 (recForm u ss z K V) = form z ++ (K ++ V) := by
    unfold rx2 saltR
    rw [s1]
    dsimp only
    rw [d1, drop_app _ _ rfl]
  have s2 : scan (rx2 (recForm u ss z K V)) 0 0 = (z, (form z).length, 0) := by rw [r2]; exact scan_put _ _ (by omega)
  have r3 : rx3 (recForm u ss z K V) = K ++ V := by
    unfold rx3
    rw [s2]
    dsimp only
    rw [r2, drop_app _ _ rfl]
  have r4 : rx4 (recForm u ss z K V) = V := by unfold rx4; rw [r3, drop_app _ _ hK.symm]
  have r5 : rx5 (recForm u ss z K V) = [] := by unfold rx5; rw [r4]; exact List.drop_eq_nil_of_le (by omega)
  refine ⟨?_, e1, e2, by rw [s2], by rw [r3, take_app _ _ hK.symm], by rw [r4]; exact List.take_of_length_le (by omega)⟩
  unfold recOk usrOk saltOk numOk
  rw [e1, s1, s2, ht, r5, r4, r3, hp]
  have lr1 : (rx1 (recForm u ss z K V)).length = 1 + (ss.length + ((form z).length + 64)) := by rw [r1]; simp [l2, hK, hV]
  simp only [Bool.and_eq_true, decide_eq_true_eq]
  refine ⟨by omega, ⟨trivial, trivial⟩, ⟨⟨trivial, by omega, by omega⟩, ?_⟩, ⟨trivial, by omega, by omega⟩, by simp [hK, hV], by omega, rfl⟩
  rw [lr1, l2]
  omega

theorem rec_back (xs : List Int) (hb : Bd xs) (h : recOk xs = true) :
    rightB (usrT xs) (saltT (rx1 xs)).length (scan (rx2 xs) 0 0).1 = true ∧ recForm (usrT xs) (saltT (rx1 xs)) (scan (rx2 xs) 0 0).1 ((rx3 xs).take 32) ((rx4 xs).take 32) = xs := by
  unfold recOk usrOk saltOk numOk at h
  simp only [Bool.and_eq_true, decide_eq_true_eq] at h
  obtain ⟨h1, ⟨ht, hp⟩, ⟨⟨a1, a2, a3⟩, a4⟩, ⟨b1, b2, b3⟩, h5, h6, h7⟩ := h
  have hs0 : (scan xs 0 0).2.2 = 0 := by
    unfold terr at ht
    by_cases q : (scan xs 0 0).2.2 ≠ 0
    · rw [if_pos q] at ht; exact ht
    · simpa using q
  have hs1 : ¬ xs.length - (scan xs 0 0).2.1 < (scan xs 0 0).1 := by
    intro q
    unfold terr at ht
    rw [if_neg (by simp [hs0])] at ht
    rw [if_pos q] at ht
    split at ht <;> cases ht
  have w0 := scan_whole xs hb hs0
  have hb0 : Bd (xs.drop (scan xs 0 0).2.1) := hb.drop _
  have hbr1 : Bd (rx1 xs) := hb0.drop _
  have w1 := scan_whole (rx1 xs) hbr1 a1
  have hbr2 : Bd (rx2 xs) := (hbr1.drop _).drop _
  have w2 := scan_whole (rx2 xs) hbr2 b1
  have lT : (usrT xs).size = (scan xs 0 0).1 := by
    unfold usrT
    rw [strOf_size, List.length_take, List.length_drop]
    omega
  have nT : nums (usrT xs) = (xs.drop (scan xs 0 0).2.1).take (scan xs 0 0).1 := nums_str (hb0.take _)
  have lS : (saltT (rx1 xs)).length = (scan (rx1 xs) 0 0).1 := by
    unfold saltT
    rw [List.length_take, List.length_drop]
    omega
  refine ⟨?_, ?_⟩
  · unfold rightB
    rw [hp, lS]
    simp only [Bool.and_eq_true, decide_eq_true_eq]
    exact ⟨⟨trivial, by omega, by omega⟩, by omega, by omega⟩
  · have e5 : rx5 xs = [] := List.eq_nil_of_length_eq_zero h7
    have e4 : (rx4 xs).take 32 = rx4 xs := by
      have := List.take_append_drop 32 (rx4 xs)
      rw [show (rx4 xs).drop 32 = [] from e5, List.append_nil] at this
      exact this
    have e3 : (rx3 xs).take 32 ++ rx4 xs = rx3 xs := List.take_append_drop 32 (rx3 xs)
    have e2 : form (scan (rx2 xs) 0 0).1 ++ rx3 xs = rx2 xs := w2
    have e1 : saltT (rx1 xs) ++ rx2 xs = (rx1 xs).drop (scan (rx1 xs) 0 0).2.1 := List.take_append_drop _ _
    have e0 : nums (usrT xs) ++ rx1 xs = xs.drop (scan xs 0 0).2.1 := by rw [nT]; exact List.take_append_drop _ _
    unfold recForm
    rw [lT, lS, e4]
    simp only [List.append_assoc]
    rw [e3, e2, e1, w1, e0, w0]

end Go.Proofs.YtiidjdedeenijaaDoor
