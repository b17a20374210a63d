/- Stanzas there and back, on lists: what is written is read again, what is read is written again. -/
import Derived.Test.YtomkcmkbehcjnaaDoorStzK
import Derived.Test.YtomkcmkbehcjnaaDoorStzE
namespace Go.Proofs.YtomkcmkbehcjnaaDoor
open Go.RowKit

/-! ### A text -/
theorem isEmpty_nil {s : ByteArray} (h : s.toList.isEmpty = true) : s = ⟨#[]⟩ := by
  rw [Lib.toList_data] at h
  obtain ⟨d⟩ := s
  congr 1
  rw [← Array.toList_inj]
  simpa using h
theorem str_nums (s : ByteArray) : strOfNums (nums s) = s := by
  cases s with
  | mk d =>
    simp only [strOfNums, nums, List.map_map]
    congr 1
    rw [← Array.toList_inj]
    dsimp only
    conv => rhs; rw [← List.map_id d.toList]
    refine List.map_congr_left fun x _ => ?_
    simp
theorem txt_scan (s : ByteArray) (Y : List Int) (h : s.size ≤ 1024) : scan (tform s ++ Y) 0 0 = (s.size, (form s.size).length, 0) := by
  unfold tform; rw [List.append_assoc]; exact scan_put _ _ (by omega)
theorem txt_drop (s : ByteArray) (Y : List Int) : (tform s ++ Y).drop (form s.size).length = nums s ++ Y := by
  unfold tform; rw [List.append_assoc, List.drop_left]
theorem txt_take (s : ByteArray) (Y : List Int) : (nums s ++ Y).take s.size = nums s := by rw [← nums_len s, List.take_left]
theorem txt_err (s : ByteArray) (Y : List Int) (h : terr1 s = 0) : terr (tform s ++ Y) 1024 = 0 := by
  have hs := terr1_le h
  have hv : vld (nums s) = true := by
    unfold terr1 at h
    rw [if_neg (by omega)] at h
    split at h
    · assumption
    · cases h
  unfold terr
  rw [txt_scan s Y hs]
  simp only [txt_drop, txt_take, hv]
  rw [if_neg (by simp), if_neg (by omega), if_neg]
  · simp
  · unfold tform
    simp only [List.length_append, nums_len]
    omega
theorem txt_N (s : ByteArray) (Y : List Int) (h : terr1 s = 0) : tN (tform s ++ Y) 1024 = s := by
  have hs := terr1_le h
  unfold tN
  rw [if_pos (txt_err s Y h), txt_scan s Y hs]
  simp only [txt_drop, txt_take]
  exact str_nums s
theorem txt_len (s : ByteArray) (Y : List Int) (h : s.size ≤ 1024) : (tform s ++ Y).drop (tlen (tform s ++ Y)) = Y := by
  unfold tlen
  rw [txt_scan s Y h]
  simp only
  rw [← List.drop_drop, txt_drop, ← nums_len s, List.drop_left]
/-- What is read as a text is its form. -/
theorem txt_whole {X : List Int} (hb : Bd X) (h : terr X 1024 = 0) : terr1 (tN X 1024) = 0 ∧ tform (tN X 1024) ++ X.drop (tlen X) = X := by
  have hN : tN X 1024 = strOfNums ((X.drop (scan X 0 0).2.1).take (scan X 0 0).1) := by unfold tN; rw [if_pos h]
  unfold terr at h
  split at h
  · next q => exact absurd h q
  next hE =>
  split at h
  · cases h
  next hM =>
  split at h
  · cases h
  next hl =>
  split at h
  · next hv =>
    have hw := scan_whole X hb (by simpa using hE)
    obtain ⟨p, s, e, hs⟩ : ∃ p s e, scan X 0 0 = (p, s, e) := ⟨_, _, _, rfl⟩
    rw [hs] at hE hM hl hv hw hN
    simp only at hE hM hl hv hw hN
    have hb2 : Bd ((X.drop s).take p) := (hb.drop s).take p
    have hnum : nums (tN X 1024) = (X.drop s).take p := by rw [hN]; exact nums_str hb2
    have hsz : (tN X 1024).size = p := by rw [← nums_len, hnum, List.length_take, List.length_drop]; omega
    refine ⟨?_, ?_⟩
    · unfold terr1
      rw [if_neg (by omega), hnum, hv]
      rfl
    · unfold tform tlen
      rw [hs, hsz, hnum]
      simp only
      rw [← List.drop_drop, List.append_assoc, List.take_append_drop]
      exact hw
  · cases h

/-! ### A list of texts -/
theorem texts_put : ∀ (L : List ByteArray) (Y : List Int), terrs L = 0 → rdTexts L.length (texts L ++ Y) = (L, Y, 0)
  | [], Y, _ => rfl
  | s :: r, Y, h => by
    have h1 : terr1 s = 0 := by
      refine Classical.byContradiction fun q => ?_
      rw [terrs_stop q] at h; exact q h
    rw [terrs_pass h1] at h
    rw [texts, List.append_assoc, List.length_cons, rdTexts, if_neg (by rw [txt_err s _ h1]; simp), txt_N s _ h1, txt_len s _ (terr1_le h1), texts_put r Y h]
theorem list_put (L : List ByteArray) (Y : List Int) (h64 : L.length ≤ 64) (h : terrs L = 0) : rdList (lform L ++ Y) = (L, Y, 0) := by
  unfold rdList lform
  rw [List.append_assoc, scan_put _ _ (by omega)]
  simp only
  rw [if_neg (by simp), if_neg (by omega), List.drop_left, texts_put L Y h]
theorem texts_whole : ∀ (m : Nat) (X : List Int), Bd X → (rdTexts m X).2.2 = 0 → (rdTexts m X).1.length = m ∧ terrs (rdTexts m X).1 = 0 ∧ texts (rdTexts m X).1 ++ (rdTexts m X).2.1 = X ∧ Bd (rdTexts m X).2.1
  | 0, X, hb, _ => ⟨rfl, rfl, rfl, hb⟩
  | m + 1, X, hb, h => by
    by_cases hE : terr X 1024 = 0
    · have e : rdTexts (m + 1) X = (tN X 1024 :: (rdTexts m (X.drop (tlen X))).1, (rdTexts m (X.drop (tlen X))).2) := by rw [rdTexts, if_neg (by simp [hE])]
      rw [e] at h ⊢
      simp only at h ⊢
      obtain ⟨h1, h2, h3, h4⟩ := texts_whole m (X.drop (tlen X)) (hb.drop _) h
      obtain ⟨g1, g2⟩ := txt_whole hb hE
      refine ⟨by rw [List.length_cons, h1], by rw [terrs_pass g1, h2], ?_, h4⟩
      rw [texts, List.append_assoc, h3, g2]
    · have e : rdTexts (m + 1) X = ([], [], terr X 1024) := by rw [rdTexts, if_pos hE]
      rw [e] at h
      exact absurd h hE
theorem list_whole {X : List Int} (hb : Bd X) (h : (rdList X).2.2 = 0) : (rdList X).1.length ≤ 64 ∧ terrs (rdList X).1 = 0 ∧ lform (rdList X).1 ++ (rdList X).2.1 = X ∧ Bd (rdList X).2.1 := by
  by_cases hE : (scan X 0 0).2.2 = 0
  · by_cases h64 : 64 < (scan X 0 0).1
    · have e : rdList X = ([], [], 5) := by unfold rdList; rw [if_neg (by simp [hE]), if_pos h64]
      rw [e] at h; cases h
    · have e : rdList X = rdTexts (scan X 0 0).1 (X.drop (scan X 0 0).2.1) := by unfold rdList; rw [if_neg (by simp [hE]), if_neg h64]
      rw [e] at h ⊢
      obtain ⟨h1, h2, h3, h4⟩ := texts_whole _ _ (hb.drop _) h
      refine ⟨by omega, h2, ?_, h4⟩
      unfold lform
      rw [h1, List.append_assoc, h3]
      exact scan_whole X hb hE
  · have e : rdList X = ([], [], (scan X 0 0).2.2) := by unfold rdList; rw [if_pos hE]
    rw [e] at h; exact absurd h hE

/-! ### The parts, one by one -/
/-- A stanza whose parts are right. -/
structure Fit (z : Sz) : Prop where
  a : terr1 z.A = 0
  b : terr1 z.B = 0
  t : terr1 z.T = 0
  l : z.L.length ≤ 64
  ls : terrs z.L = 0
  n0 : -9223372036854775808 ≤ z.N
  n1 : z.N ≤ 9223372036854775807
  f : z.F < 18446744073709551616
def pfz (z : Sz) : Nat → List Int := pf z.A z.B z.T z.L z.N z.F
def spt (z : Sz) (k : Nat) : List Int := if z.bits.getD k false = true then pfz z k else []
theorem bitsv_zero : bitsv 0 = 0 := by decide +kernel
theorem bitsv_ne {F : Nat} (h : (F != 0) = true) : (bitsv F != 0) = true := by
  unfold bitsv
  split
  · rfl
  · exact h
theorem fwd0 {x : Int} {m : Nat} (t z : Sz) (Y : List Int) (hF : Fit t) (hx : hbit x 0 = t.bits.getD 0 false) (hz : z.A = ⟨#[]⟩) : rdFrom x (m + 1) 0 z (spt t 0 ++ Y) = rdFrom x m 1 ⟨t.A, z.B, z.T, z.L, z.N, z.F⟩ Y := by
  unfold spt
  by_cases hb : t.bits.getD 0 false = true
  · rw [if_pos hb]
    rw [hb] at hx
    have e : rdPart 0 z (pfz t 0 ++ Y) = (⟨t.A, z.B, z.T, z.L, z.N, z.F⟩, Y, 0) := by
      show (_, _, _) = _
      rw [show pfz t 0 = tform t.A from rfl, txt_N _ _ hF.a, txt_len _ _ (terr1_le hF.a), txt_err _ _ hF.a]
    rw [rdFrom_go hx (by rw [e]) (by rw [e]; exact hb), e]
  · rw [if_neg hb]
    have hb2 : t.bits.getD 0 false = false := by simpa using hb
    rw [hb2] at hx
    rw [rdFrom_no hx, List.nil_append]
    have h0 : t.A = ⟨#[]⟩ := isEmpty_nil (by simpa [Sz.bits, tbits] using hb2)
    rw [h0, ← hz]
theorem fwd1 {x : Int} {m : Nat} (t z : Sz) (Y : List Int) (hF : Fit t) (hx : hbit x 1 = t.bits.getD 1 false) (hz : z.B = ⟨#[]⟩) : rdFrom x (m + 1) 1 z (spt t 1 ++ Y) = rdFrom x m 2 ⟨z.A, t.B, z.T, z.L, z.N, z.F⟩ Y := by
  unfold spt
  by_cases hb : t.bits.getD 1 false = true
  · rw [if_pos hb]
    rw [hb] at hx
    have e : rdPart 1 z (pfz t 1 ++ Y) = (⟨z.A, t.B, z.T, z.L, z.N, z.F⟩, Y, 0) := by
      show (_, _, _) = _
      rw [show pfz t 1 = tform t.B from rfl, txt_N _ _ hF.b, txt_len _ _ (terr1_le hF.b), txt_err _ _ hF.b]
    rw [rdFrom_go hx (by rw [e]) (by rw [e]; exact hb), e]
  · rw [if_neg hb]
    have hb2 : t.bits.getD 1 false = false := by simpa using hb
    rw [hb2] at hx
    rw [rdFrom_no hx, List.nil_append]
    have h0 : t.B = ⟨#[]⟩ := isEmpty_nil (by simpa [Sz.bits, tbits] using hb2)
    rw [h0, ← hz]
theorem fwd2 {x : Int} {m : Nat} (t z : Sz) (Y : List Int) (hF : Fit t) (hx : hbit x 2 = t.bits.getD 2 false) (hz : z.T = ⟨#[]⟩) : rdFrom x (m + 1) 2 z (spt t 2 ++ Y) = rdFrom x m 3 ⟨z.A, z.B, t.T, z.L, z.N, z.F⟩ Y := by
  unfold spt
  by_cases hb : t.bits.getD 2 false = true
  · rw [if_pos hb]
    rw [hb] at hx
    have e : rdPart 2 z (pfz t 2 ++ Y) = (⟨z.A, z.B, t.T, z.L, z.N, z.F⟩, Y, 0) := by
      show (_, _, _) = _
      rw [show pfz t 2 = tform t.T from rfl, txt_N _ _ hF.t, txt_len _ _ (terr1_le hF.t), txt_err _ _ hF.t]
    rw [rdFrom_go hx (by rw [e]) (by rw [e]; exact hb), e]
  · rw [if_neg hb]
    have hb2 : t.bits.getD 2 false = false := by simpa using hb
    rw [hb2] at hx
    rw [rdFrom_no hx, List.nil_append]
    have h0 : t.T = ⟨#[]⟩ := isEmpty_nil (by simpa [Sz.bits, tbits] using hb2)
    rw [h0, ← hz]
theorem fwd3 {x : Int} {m : Nat} (t z : Sz) (Y : List Int) (hF : Fit t) (hx : hbit x 3 = t.bits.getD 3 false) (hz : z.L = []) : rdFrom x (m + 1) 3 z (spt t 3 ++ Y) = rdFrom x m 4 ⟨z.A, z.B, z.T, t.L, z.N, z.F⟩ Y := by
  unfold spt
  by_cases hb : t.bits.getD 3 false = true
  · rw [if_pos hb]
    rw [hb] at hx
    have e : rdPart 3 z (pfz t 3 ++ Y) = (⟨z.A, z.B, z.T, t.L, z.N, z.F⟩, Y, 0) := by
      show (_, _, _) = _
      rw [show pfz t 3 = lform t.L from rfl, list_put _ _ hF.l hF.ls]
    rw [rdFrom_go hx (by rw [e]) (by rw [e]; exact hb), e]
  · rw [if_neg hb]
    have hb2 : t.bits.getD 3 false = false := by simpa using hb
    rw [hb2] at hx
    rw [rdFrom_no hx, List.nil_append]
    have h0 : t.L = [] := List.eq_nil_of_length_eq_zero (by simpa [Sz.bits, tbits] using hb2)
    rw [h0, ← hz]
theorem fwd4 {x : Int} {m : Nat} (t z : Sz) (Y : List Int) (hF : Fit t) (hx : hbit x 4 = t.bits.getD 4 false) (hz : z.N = 0) : rdFrom x (m + 1) 4 z (spt t 4 ++ Y) = rdFrom x m 5 ⟨z.A, z.B, z.T, z.L, t.N, z.F⟩ Y := by
  unfold spt
  by_cases hb : t.bits.getD 4 false = true
  · rw [if_pos hb]
    rw [hb] at hx
    have e : rdPart 4 z (pfz t 4 ++ Y) = (⟨z.A, z.B, z.T, z.L, t.N, z.F⟩, Y, 0) := by
      show (_, _, _) = _
      rw [show pfz t 4 = form (foldv t.N) from rfl, scan_put _ _ (fold_lt _ hF.n0 hF.n1), unf_fold, List.drop_left]
    rw [rdFrom_go hx (by rw [e]) (by rw [e]; exact hb), e]
  · rw [if_neg hb]
    have hb2 : t.bits.getD 4 false = false := by simpa using hb
    rw [hb2] at hx
    rw [rdFrom_no hx, List.nil_append]
    have h0 : t.N = 0 := by simpa [Sz.bits, tbits] using hb2
    rw [h0, ← hz]
theorem fwd5 {x : Int} {m : Nat} (t z : Sz) (Y : List Int) (hF : Fit t) (hx : hbit x 5 = t.bits.getD 5 false) (hz : z.F = 0) : rdFrom x (m + 1) 5 z (spt t 5 ++ Y) = rdFrom x m 6 ⟨z.A, z.B, z.T, z.L, z.N, bitsv t.F⟩ Y := by
  unfold spt
  by_cases hb : t.bits.getD 5 false = true
  · rw [if_pos hb]
    rw [hb] at hx
    have e : rdPart 5 z (pfz t 5 ++ Y) = (⟨z.A, z.B, z.T, z.L, z.N, bitsv t.F⟩, Y, 0) := by
      show (_, _, _) = _
      have hp := fbad_put t.F hF.f Y
      have h8 : (fbl (bitsv t.F) 8).length = 8 := fbl_len _ _
      rw [show pfz t 5 = fbl (bitsv t.F) 8 from rfl]
      unfold fN fE
      rw [hp, if_neg (by simp), if_neg (by simp), fv_fbl _ (bitsv_lt _ hF.f)]
      congr 1
    rw [rdFrom_go hx (by rw [e]) (by rw [e]; exact bitsv_ne hb), e]
  · rw [if_neg hb]
    have hb2 : t.bits.getD 5 false = false := by simpa using hb
    rw [hb2] at hx
    rw [rdFrom_no hx, List.nil_append]
    have h0 : t.F = 0 := by simpa [Sz.bits, tbits] using hb2
    rw [h0, bitsv_zero, ← hz]
theorem terr1_nil : terr1 ⟨#[]⟩ = 0 := by decide +kernel
theorem bwd0 {x : Int} {m : Nat} {z zf : Sz} {X R : List Int} (hb : Bd X) (hz : z.A = ⟨#[]⟩) (h : rdFrom x (m + 1) 0 z X = (zf, R, 0)) : ∃ (p : ByteArray) (X' : List Int), rdFrom x m 1 ⟨p, z.B, z.T, z.L, z.N, z.F⟩ X' = (zf, R, 0) ∧ Bd X' ∧ (terr1 p = 0) ∧ (!p.toList.isEmpty) = hbit x 0 ∧ X = (if hbit x 0 = true then tform p else []) ++ X' := by
  cases hx : hbit x 0 with
  | false =>
    rw [rdFrom_no hx] at h
    refine ⟨z.A, X, h, hb, ?_, ?_, by simp⟩
    · rw [hz]; exact terr1_nil
    · rw [hz]; rw [Lib.toList_data]; rfl
  | true =>
    by_cases hE : (rdPart 0 z X).2.2 = 0
    · cases hv : (rdPart 0 z X).1.bits.getD 0 false with
      | false =>
        rw [rdFrom_void hx hE hv] at h
        simp only [Prod.mk.injEq] at h
        exact absurd h.2.2 (by decide)
      | true =>
        rw [rdFrom_go hx hE hv] at h
        have hE2 : terr X 1024 = 0 := hE
        obtain ⟨g1, g2⟩ := txt_whole hb hE2
        exact ⟨tN X 1024, X.drop (tlen X), h, hb.drop _, g1, hv, by rw [if_pos rfl, g2]⟩
    · rw [rdFrom_err hx hE] at h
      rw [h] at hE
      exact absurd rfl hE
theorem bwd1 {x : Int} {m : Nat} {z zf : Sz} {X R : List Int} (hb : Bd X) (hz : z.B = ⟨#[]⟩) (h : rdFrom x (m + 1) 1 z X = (zf, R, 0)) : ∃ (p : ByteArray) (X' : List Int), rdFrom x m 2 ⟨z.A, p, z.T, z.L, z.N, z.F⟩ X' = (zf, R, 0) ∧ Bd X' ∧ (terr1 p = 0) ∧ (!p.toList.isEmpty) = hbit x 1 ∧ X = (if hbit x 1 = true then tform p else []) ++ X' := by
  cases hx : hbit x 1 with
  | false =>
    rw [rdFrom_no hx] at h
    refine ⟨z.B, X, h, hb, ?_, ?_, by simp⟩
    · rw [hz]; exact terr1_nil
    · rw [hz]; rw [Lib.toList_data]; rfl
  | true =>
    by_cases hE : (rdPart 1 z X).2.2 = 0
    · cases hv : (rdPart 1 z X).1.bits.getD 1 false with
      | false =>
        rw [rdFrom_void hx hE hv] at h
        simp only [Prod.mk.injEq] at h
        exact absurd h.2.2 (by decide)
      | true =>
        rw [rdFrom_go hx hE hv] at h
        have hE2 : terr X 1024 = 0 := hE
        obtain ⟨g1, g2⟩ := txt_whole hb hE2
        exact ⟨tN X 1024, X.drop (tlen X), h, hb.drop _, g1, hv, by rw [if_pos rfl, g2]⟩
    · rw [rdFrom_err hx hE] at h
      rw [h] at hE
      exact absurd rfl hE
theorem bwd2 {x : Int} {m : Nat} {z zf : Sz} {X R : List Int} (hb : Bd X) (hz : z.T = ⟨#[]⟩) (h : rdFrom x (m + 1) 2 z X = (zf, R, 0)) : ∃ (p : ByteArray) (X' : List Int), rdFrom x m 3 ⟨z.A, z.B, p, z.L, z.N, z.F⟩ X' = (zf, R, 0) ∧ Bd X' ∧ (terr1 p = 0) ∧ (!p.toList.isEmpty) = hbit x 2 ∧ X = (if hbit x 2 = true then tform p else []) ++ X' := by
  cases hx : hbit x 2 with
  | false =>
    rw [rdFrom_no hx] at h
    refine ⟨z.T, X, h, hb, ?_, ?_, by simp⟩
    · rw [hz]; exact terr1_nil
    · rw [hz]; rw [Lib.toList_data]; rfl
  | true =>
    by_cases hE : (rdPart 2 z X).2.2 = 0
    · cases hv : (rdPart 2 z X).1.bits.getD 2 false with
      | false =>
        rw [rdFrom_void hx hE hv] at h
        simp only [Prod.mk.injEq] at h
        exact absurd h.2.2 (by decide)
      | true =>
        rw [rdFrom_go hx hE hv] at h
        have hE2 : terr X 1024 = 0 := hE
        obtain ⟨g1, g2⟩ := txt_whole hb hE2
        exact ⟨tN X 1024, X.drop (tlen X), h, hb.drop _, g1, hv, by rw [if_pos rfl, g2]⟩
    · rw [rdFrom_err hx hE] at h
      rw [h] at hE
      exact absurd rfl hE
theorem bwd3 {x : Int} {m : Nat} {z zf : Sz} {X R : List Int} (hb : Bd X) (hz : z.L = []) (h : rdFrom x (m + 1) 3 z X = (zf, R, 0)) : ∃ (p : List ByteArray) (X' : List Int), rdFrom x m 4 ⟨z.A, z.B, z.T, p, z.N, z.F⟩ X' = (zf, R, 0) ∧ Bd X' ∧ (p.length ≤ 64 ∧ terrs p = 0) ∧ (decide (0 < p.length)) = hbit x 3 ∧ X = (if hbit x 3 = true then lform p else []) ++ X' := by
  cases hx : hbit x 3 with
  | false =>
    rw [rdFrom_no hx] at h
    refine ⟨z.L, X, h, hb, ?_, ?_, by simp⟩
    · rw [hz]; exact ⟨by simp, rfl⟩
    · rw [hz]; rfl
  | true =>
    by_cases hE : (rdPart 3 z X).2.2 = 0
    · cases hv : (rdPart 3 z X).1.bits.getD 3 false with
      | false =>
        rw [rdFrom_void hx hE hv] at h
        simp only [Prod.mk.injEq] at h
        exact absurd h.2.2 (by decide)
      | true =>
        rw [rdFrom_go hx hE hv] at h
        have hE2 : (rdList X).2.2 = 0 := hE
        obtain ⟨g1, g2, g3, g4⟩ := list_whole hb hE2
        exact ⟨(rdList X).1, (rdList X).2.1, h, g4, ⟨g1, g2⟩, hv, by rw [if_pos rfl, g3]⟩
    · rw [rdFrom_err hx hE] at h
      rw [h] at hE
      exact absurd rfl hE
theorem bwd4 {x : Int} {m : Nat} {z zf : Sz} {X R : List Int} (hb : Bd X) (hz : z.N = 0) (h : rdFrom x (m + 1) 4 z X = (zf, R, 0)) : ∃ (p : Int) (X' : List Int), rdFrom x m 5 ⟨z.A, z.B, z.T, z.L, p, z.F⟩ X' = (zf, R, 0) ∧ Bd X' ∧ (-9223372036854775808 ≤ p ∧ p ≤ 9223372036854775807) ∧ (p != 0) = hbit x 4 ∧ X = (if hbit x 4 = true then form (foldv p) else []) ++ X' := by
  cases hx : hbit x 4 with
  | false =>
    rw [rdFrom_no hx] at h
    refine ⟨z.N, X, h, hb, ?_, ?_, by simp⟩
    · rw [hz]; exact ⟨by omega, by omega⟩
    · rw [hz]; rfl
  | true =>
    by_cases hE : (rdPart 4 z X).2.2 = 0
    · cases hv : (rdPart 4 z X).1.bits.getD 4 false with
      | false =>
        rw [rdFrom_void hx hE hv] at h
        simp only [Prod.mk.injEq] at h
        exact absurd h.2.2 (by decide)
      | true =>
        rw [rdFrom_go hx hE hv] at h
        have hE2 : (scan X 0 0).2.2 = 0 := hE
        have hlt := scan_lt X 0 0 hb (by omega) (by decide)
        have hw := scan_whole X hb hE2
        refine ⟨unfv (scan X 0 0).1, X.drop (scan X 0 0).2.1, h, hb.drop _, ?_, hv, by rw [if_pos rfl, fold_unf, hw]⟩
        unfold unfv
        split <;> omega
    · rw [rdFrom_err hx hE] at h
      rw [h] at hE
      exact absurd rfl hE
theorem bwd5 {x : Int} {m : Nat} {z zf : Sz} {X R : List Int} (hb : Bd X) (hz : z.F = 0) (h : rdFrom x (m + 1) 5 z X = (zf, R, 0)) : ∃ (p : Nat) (X' : List Int), rdFrom x m 6 ⟨z.A, z.B, z.T, z.L, z.N, p⟩ X' = (zf, R, 0) ∧ Bd X' ∧ (p < 18446744073709551616 ∧ bitsv p = p) ∧ (p != 0) = hbit x 5 ∧ X = (if hbit x 5 = true then fbl (bitsv p) 8 else []) ++ X' := by
  cases hx : hbit x 5 with
  | false =>
    rw [rdFrom_no hx] at h
    refine ⟨z.F, X, h, hb, ?_, ?_, by simp⟩
    · rw [hz]; exact ⟨by omega, bitsv_zero⟩
    · rw [hz]; rfl
  | true =>
    by_cases hE : (rdPart 5 z X).2.2 = 0
    · cases hv : (rdPart 5 z X).1.bits.getD 5 false with
      | false =>
        rw [rdFrom_void hx hE hv] at h
        simp only [Prod.mk.injEq] at h
        exact absurd h.2.2 (by decide)
      | true =>
        rw [rdFrom_go hx hE hv] at h
        have hf : fbad X = false := by
          have hE2 : fE X = 0 := hE
          unfold fE at hE2
          cases q : fbad X with
          | false => rfl
          | true => rw [q, if_pos rfl] at hE2; cases hE2
        have hN : fN X = fv X 8 := by unfold fN; rw [hf, if_neg (by simp)]
        refine ⟨fN X, X.drop 8, h, hb.drop _, ?_, hv, ?_⟩
        · rw [hN]; exact ⟨fv_lt8 hb (by omega), bitsv_fv hf⟩
        · rw [if_pos rfl, hN, float_whole hb hf]
    · rw [rdFrom_err hx hE] at h
      rw [h] at hE
      exact absurd rfl hE
end Go.Proofs.YtomkcmkbehcjnaaDoor
