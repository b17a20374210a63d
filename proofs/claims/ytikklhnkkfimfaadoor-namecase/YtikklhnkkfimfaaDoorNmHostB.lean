/- A host by its bytes. No program in this text. -/
import Derived.Test.YtikklhnkkfimfaaDoorNmDef
import Derived.Laws.RangeAny
namespace Go.Proofs.YtikklhnkkfimfaaDoor
open Go.Lib

def goodB (last c : Int) : Bool := decide ((97 ≤ c ∧ c ≤ 122) ∨ (48 ≤ c ∧ c ≤ 57) ∨ (c = 45 ∧ last ≠ 46) ∨ (c = 46 ∧ last ≠ 46 ∧ last ≠ 45))
def hgo : Int → List UInt8 → Option (List UInt8 × Int)
  | last, [] => some ([], last)
  | last, b :: t => if goodB last (small b.toNat) = true then (match hgo (small b.toNat) t with | none => none | some (bs, z) => some ((small b.toNat).toNat.toUInt8 :: bs, z)) else none
def hostE : Option (List UInt8 × Int) → List UInt8 × Nat
  | none => ([], 4)
  | some (bs, last) => if last = 46 ∨ last = 45 then ([], 4) else (bs, 0)
def hostB (l : List UInt8) : List UInt8 × Nat := if 64 < l.length then ([], 5) else hostE (hgo 46 l)

def okLast (z : Int) : Prop := z = 46 ∨ z = 45 ∨ labelB z = true

theorem labelB_iff (r : Int) : labelB r = true ↔ (97 ≤ r ∧ r ≤ 122) ∨ (48 ≤ r ∧ r ≤ 57) := by simp [labelB]
theorem followsB_goodB (last c : Int) (h : okLast last) : followsB last c = goodB last c := by
  unfold followsB goodB
  have hl := labelB_iff last
  have hc := labelB_iff c
  by_cases h1 : c = 46
  · rw [if_pos h1, Bool.eq_iff_iff]
    rw [hl]
    simp only [decide_eq_true_eq]
    rcases h with h | h | h
    · omega
    · omega
    · rw [hl] at h; omega
  · rw [if_neg h1]
    by_cases h2 : c = 45
    · rw [if_pos h2, Bool.eq_iff_iff]
      simp only [decide_eq_true_eq]
      omega
    · rw [if_neg h2, Bool.eq_iff_iff, hc]
      simp only [decide_eq_true_eq]
      omega
theorem okLast_good (last c : Int) (h : goodB last c = true) : okLast c := by
  unfold goodB at h
  simp only [decide_eq_true_eq] at h
  unfold okLast
  rw [labelB_iff]
  omega

theorem small_nat (r : Int) (h0 : 0 ≤ r) (h1 : r < 128) : 0 ≤ small r ∧ small r < 128 := by unfold small; split <;> omega
theorem enc_one (r : Int) (h0 : 0 ≤ r) (h1 : r < 128) : encodeRune r = [r.toNat.toUInt8] := by
  rw [encodeRune, encodeRuneZ_one h0 (by omega)]; rfl

theorem decL_high (b : UInt8) (t : List UInt8) (h : ¬ b.toNat < 128) : 128 ≤ (decodeL (b :: t)).1 := by
  have hd := decodeL_drop ⟨(b :: t).toArray⟩ 0
  have := (decode_high ⟨(b :: t).toArray⟩ 0 (by simp [ByteArray.size]) (by show 128 ≤ b.toNat; omega)).1
  simp only [List.drop_zero] at hd
  rw [hd]
  exact this

theorem each_hgo : ∀ (l : List UInt8) (st : Int), okLast st → each stepH st l = hgo st l
  | [], st, _ => by rw [each_nil, hgo]
  | b :: t, st, hst => by
    rw [each_step stepH st _ (by simp), hgo]
    by_cases hb : b.toNat < 128
    · rw [decodeL_ascii b t hb]
      simp only [List.drop_succ_cons, List.drop_zero]
      have hse : stepH st (b.toNat : Int) = if goodB st (small b.toNat) = true then some (small b.toNat) else none := by
        unfold stepH; rw [followsB_goodB st _ hst]
      by_cases hg : goodB st (small b.toNat) = true
      · rw [if_pos hg] at hse
        rw [if_pos hg]
        have hs := small_nat b.toNat (by omega) (by omega)
        simp only [hse]
        rw [each_hgo t (small b.toNat) (okLast_good _ _ hg), enc_one _ hs.1 hs.2]
        cases hgo (small b.toNat) t with
        | none => rfl
        | some p => rfl
      · rw [if_neg hg] at hse
        rw [if_neg hg, hse]
    · have h1 := decL_high b t hb
      have h2 := b.toNat_lt
      have e1 : small ((decodeL (b :: t)).1 : Int) = ((decodeL (b :: t)).1 : Int) := by unfold small; rw [if_neg (by omega)]
      have e2 : small (b.toNat : Int) = (b.toNat : Int) := by unfold small; rw [if_neg (by omega)]
      have g1 : ¬ goodB st (small (b.toNat : Int)) = true := by rw [e2]; unfold goodB; simp only [decide_eq_true_eq]; omega
      have g2 : stepH st ((decodeL (b :: t)).1 : Int) = none := by
        unfold stepH
        rw [followsB_goodB st _ hst, e1, if_neg]
        unfold goodB; simp only [decide_eq_true_eq]; omega
      rw [if_neg g1, g2]

theorem hgo_valid : ∀ (l : List UInt8) (st : Int) (p : List UInt8 × Int), hgo st l = some p → validD l = true
  | [], _, _, _ => validD_nil
  | b :: t, st, p, h => by
    rw [hgo] at h
    by_cases hg : goodB st (small b.toNat) = true
    · rw [if_pos hg] at h
      have hb : b.toNat < 128 := by
        unfold goodB small at hg
        have h2 := b.toNat_lt
        simp only [decide_eq_true_eq] at hg
        split at hg <;> omega
      rw [validD_cons b t hb]
      cases ht : hgo (small b.toNat) t with
      | none => rw [ht] at h; cases h
      | some q => exact hgo_valid t _ q ht
    · rw [if_neg hg] at h; cases h

theorem hgo_last : ∀ (l : List UInt8) (st : Int) (bs : List UInt8) (z : Int), okLast st → hgo st l = some (bs, z) → okLast z
  | [], st, _, _, hs, h => by rw [hgo] at h; cases h; exact hs
  | b :: t, st, bs, z, hs, h => by
    rw [hgo] at h
    by_cases hg : goodB st (small b.toNat) = true
    · rw [if_pos hg] at h
      cases ht : hgo (small b.toNat) t with
      | none => rw [ht] at h; cases h
      | some q =>
        obtain ⟨cs, y⟩ := q
        rw [ht] at h
        cases h
        exact hgo_last t _ _ _ (okLast_good _ _ hg) ht
    · rw [if_neg hg] at h; cases h

theorem hostN_hostB (l : List UInt8) : hostN l = hostB l := by
  unfold hostN prep hostB
  by_cases h64 : 64 < l.length
  · rw [if_pos h64, if_pos h64]
  rw [if_neg h64, if_neg h64, each_hgo l 46 (.inl rfl)]
  by_cases h0 : l = []
  · rw [if_pos (.inl h0), h0]; rfl
  cases hh : hgo 46 l with
  | none =>
    split
    · rfl
    · rfl
  | some p =>
    obtain ⟨bs, z⟩ := p
    have hv := hgo_valid l 46 _ hh
    rw [if_neg (by simp [h0, hv])]
    have hz := hgo_last l 46 bs z (.inl rfl) hh
    have hf : followsB z 46 = labelB z := by unfold followsB; rw [if_pos rfl]
    simp only [hf, hostE]
    have hl := labelB_iff z
    by_cases hb : labelB z = true
    · rw [if_pos hb]
      rw [hl] at hb
      rw [if_neg (by omega)]
    · rw [if_neg hb, if_pos]
      rcases hz with h | h | h
      · exact .inl h
      · exact .inr h
      · exact absurd h hb
end Go.Proofs.YtikklhnkkfimfaaDoor
