/- The document's Parse. -/
import Derived.Test.YtikklhnkkfimfaaDoorNmRefP
namespace Go.Proofs.YtikklhnkkfimfaaDoor
open Go.RowKit

theorem ext_take (s : ByteArray) (i : Nat) : s.extract 0 i = ⟨(s.data.toList.take i).toArray⟩ := by rw [Lib.extract_eq]; simp
theorem ext_drop (s : ByteArray) (i : Nat) : s.extract i s.size = ⟨(s.data.toList.drop i).toArray⟩ := by
  rw [Lib.extract_eq, List.take_of_length_le (by rw [List.length_drop]; simp)]

theorem cutR_any (s : ByteArray) (c : UInt8) (hs : s.size ≤ 9223372036854775807) : CutR s c.toNat (if hasB c s.data.toList = true then (ix c s.data.toList : Int) else -1) := fun W => refCut_any s c W hs
theorem partL_any (l : List UInt8) (h : l.length ≤ 9223372036854775807) : PartR 10 ⟨l.toArray⟩ (localN l) := fun W => by
  have := refLocal_any ⟨l.toArray⟩ W (by rw [arr_size]; exact h)
  rwa [back_list] at this
theorem partH_any (l : List UInt8) (h : l.length ≤ 9223372036854775807) : PartR 12 ⟨l.toArray⟩ (hostN l) := fun W => by
  have := refHost_any ⟨l.toArray⟩ W (by rw [arr_size]; exact h)
  rwa [back_list] at this
theorem partRes_any (l : List UInt8) (h : l.length ≤ 9223372036854775807) : PartR 14 ⟨l.toArray⟩ (resN l) := fun W => by
  have := refResource_any ⟨l.toArray⟩ W (by rw [arr_size]; exact h)
  rwa [back_list] at this

theorem refParse_any (l : List UInt8) (w : World) (h : l.length ≤ 9223372036854775807) :
    Calls Tryd.prog 17 #[.string ⟨l.toArray⟩] w fun e w' => e = .returned (ToldJ (parseN l)) ∧ Below w.heap.size w w' := by
  have hA := cutA_len 47 l
  have hZ := cutZ_len 47 l
  have hA2 := cutA_len 64 (cutA 47 l)
  have hZ2 := cutZ_len 64 (cutA 47 l)
  have C1 := cutR_any ⟨l.toArray⟩ 47 (by rw [arr_size]; exact h)
  rw [back_list] at C1
  have x1 : (⟨l.toArray⟩ : ByteArray).extract 0 (ix 47 l) = ⟨(cutA 47 l).toArray⟩ := by rw [ext_take, back_list]; rfl
  have x2 : (⟨l.toArray⟩ : ByteArray).extract (ix 47 l + 1) (⟨l.toArray⟩ : ByteArray).size = ⟨(cutZ 47 l).toArray⟩ := by rw [ext_drop, back_list]; rfl
  have y1 : (⟨(cutA 47 l).toArray⟩ : ByteArray).extract 0 (ix 64 (cutA 47 l)) = ⟨(cutA 64 (cutA 47 l)).toArray⟩ := by rw [ext_take, back_list]; rfl
  have y2 : (⟨(cutA 47 l).toArray⟩ : ByteArray).extract (ix 64 (cutA 47 l) + 1) (⟨(cutA 47 l).toArray⟩ : ByteArray).size = ⟨(cutZ 64 (cutA 47 l)).toArray⟩ := by rw [ext_drop, back_list]; rfl
  have C2 := cutR_any ⟨(cutA 47 l).toArray⟩ 64 (by rw [arr_size]; omega)
  rw [back_list] at C2
  have RL := partL_any (cutA 64 (cutA 47 l)) (by omega)
  have RH1 := partH_any (cutZ 64 (cutA 47 l)) (by omega)
  have RH2 := partH_any (cutA 47 l) (by omega)
  have RR := partRes_any (cutZ 47 l) (by omega)
  have hs : (⟨l.toArray⟩ : ByteArray).size ≤ 9223372036854775807 := by rw [arr_size]; exact h
  have ha : (⟨(cutA 47 l).toArray⟩ : ByteArray).size ≤ 9223372036854775807 := by rw [arr_size]; omega
  have hi : hasB 47 l = true → ix 47 l < (⟨l.toArray⟩ : ByteArray).size := fun q => by rw [arr_size]; exact of_decide_eq_true q
  have hk : hasB 64 (cutA 47 l) = true → ix 64 (cutA 47 l) < (⟨(cutA 47 l).toArray⟩ : ByteArray).size := fun q => by rw [arr_size]; exact of_decide_eq_true q
  have noR : hasB 47 l = false → (⟨l.toArray⟩ : ByteArray) = ⟨(cutA 47 l).toArray⟩ := fun q => by
    have : ¬ ix 47 l < l.length := of_decide_eq_false q
    rw [cutA, List.take_of_length_le (by omega)]
  unfold parseN partL partH partR ToldJ cellsJ
  generalize hR : hasB 47 l = R at C1 hi noR ⊢
  generalize hL : hasB 64 (cutA 47 l) = L at C2 hk ⊢
  generalize localN (cutA 64 (cutA 47 l)) = pL at RL ⊢
  generalize resN (cutZ 47 l) = pR at RR ⊢
  cases R with
  | true =>
    simp only [if_true] at C1 ⊢
    cases L with
    | true =>
      simp only [if_true] at C2 ⊢
      generalize hostN (cutZ 64 (cutA 47 l)) = pH at RH1 ⊢
      by_cases kL : pL.2 = 0
      · rw [if_neg (by simp [kL])]
        by_cases kH : pH.2 = 0
        · rw [if_neg (by simp [kH])]
          by_cases kR : pR.2 = 0
          · rw [if_neg (by simp [kR])]
            exact rparse_tto _ _ _ _ _ _ _ pL pH pR w C1 hs (hi rfl) x1 x2 C2 ha (hk rfl) y1 y2 RL kL RH1 kH RR kR
          · rw [if_pos kR]
            exact rparse_ttR _ _ _ _ _ _ _ pL pH pR w C1 hs (hi rfl) x1 x2 C2 ha (hk rfl) y1 y2 RL kL RH1 kH RR kR
        · rw [if_pos kH]
          exact rparse_ttH _ _ _ _ _ _ _ pL pH w C1 hs (hi rfl) x1 x2 C2 ha (hk rfl) y1 y2 RL kL RH1 kH
      · rw [if_pos kL]
        exact rparse_ttL _ _ _ _ _ _ _ pL w C1 hs (hi rfl) x1 x2 C2 ha (hk rfl) y1 y2 RL kL
    | false =>
      simp only [Bool.false_eq_true, if_false] at C2 ⊢
      generalize hostN (cutA 47 l) = pH at RH2 ⊢
      rw [if_neg (by simp)]
      by_cases kH : pH.2 = 0
      · rw [if_neg (by simp [kH])]
        by_cases kR : pR.2 = 0
        · rw [if_neg (by simp [kR])]
          exact rparse_tfo _ _ _ _ pH pR w C1 hs (hi rfl) x1 x2 C2 RH2 kH RR kR
        · rw [if_pos kR]
          exact rparse_tfR _ _ _ _ pH pR w C1 hs (hi rfl) x1 x2 C2 RH2 kH RR kR
      · rw [if_pos kH]
        exact rparse_tfH _ _ _ _ pH w C1 hs (hi rfl) x1 x2 C2 RH2 kH
  | false =>
    simp only [Bool.false_eq_true, if_false] at C1 ⊢
    rw [noR rfl] at C1 ⊢
    cases L with
    | true =>
      simp only [if_true] at C2 ⊢
      generalize hostN (cutZ 64 (cutA 47 l)) = pH at RH1 ⊢
      by_cases kL : pL.2 = 0
      · rw [if_neg (by simp [kL])]
        by_cases kH : pH.2 = 0
        · rw [if_neg (by simp [kH]), if_neg (by simp)]
          exact rparse_fto _ _ _ _ pL pH w C1 C2 ha (hk rfl) y1 y2 RL kL RH1 kH
        · rw [if_pos kH]
          exact rparse_ftH _ _ _ _ pL pH w C1 C2 ha (hk rfl) y1 y2 RL kL RH1 kH
      · rw [if_pos kL]
        exact rparse_ftL _ _ _ _ pL w C1 C2 ha (hk rfl) y1 y2 RL kL
    | false =>
      simp only [Bool.false_eq_true, if_false] at C2 ⊢
      generalize hostN (cutA 47 l) = pH at RH2 ⊢
      rw [if_neg (by simp)]
      by_cases kH : pH.2 = 0
      · rw [if_neg (by simp [kH]), if_neg (by simp)]
        exact rparse_ffo _ pH w C1 C2 RH2 kH
      · rw [if_pos kH]
        exact rparse_ffH _ pH w C1 C2 RH2 kH
end Go.Proofs.YtikklhnkkfimfaaDoor
