/- Names, by definition: what is prepared is prepared. No program in this text. -/
import Derived.Test.YtikklhnkkfimfaaDoorNmHostB
import Derived.Test.YtikklhnkkfimfaaDoorNmRefR
namespace Go.Proofs.YtikklhnkkfimfaaDoor
open Go.Lib

theorem foldR_idem (r : Int) : foldR (foldR r) = foldR r := by
  unfold foldR
  by_cases h : (65 ≤ r ∧ r ≤ 90) ∨ (192 ≤ r ∧ r ≤ 222 ∧ r ≠ 215) ∨ (913 ≤ r ∧ r ≤ 937 ∧ r ≠ 930) ∨ (1040 ≤ r ∧ r ≤ 1071)
  · rw [if_pos h, if_neg (by omega)]
  · rw [if_neg h, if_neg h]
theorem small_idem (r : Int) : small (small r) = small r := by
  unfold small
  by_cases h : 65 ≤ r ∧ r ≤ 90
  · rw [if_pos h, if_neg (by omega)]
  · rw [if_neg h, if_neg h]

/-- A rune of one or two bytes is read as it was written. -/
theorem dec_enc (F : Int) (t : List UInt8) (h0 : 0 ≤ F) (h1 : F < 2048) : ((decodeL (encodeRune F ++ t)).1 : Int) = F ∧ (decodeL (encodeRune F ++ t)).2 = (encodeRune F).length := by
  obtain ⟨n, rfl⟩ := Int.eq_ofNat_of_zero_le h0
  by_cases h : n < 128
  · rw [enc_one _ (by omega) (by omega)]
    rw [List.singleton_append, decodeL_ascii _ _ (by simp; omega)]
    constructor
    · simp; omega
    · rfl
  · have hx : (192 + (n : Int) / 64).toNat.toUInt8.toNat = 192 + n / 64 := by
      rw [show (192 + (n : Int) / 64).toNat = 192 + n / 64 by omega]
      simp; omega
    have hy : (128 + (n : Int) % 64).toNat.toUInt8.toNat = 128 + n % 64 := by
      rw [show (128 + (n : Int) % 64).toNat = 128 + n % 64 by omega]
      simp; omega
    rw [encodeRune, encodeRuneZ_two (by omega) (by omega), decodeL_N]
    simp only [List.map_cons, List.map_nil, List.cons_append, List.nil_append, List.length_cons, List.getD_cons_zero, List.getD_cons_succ]
    rw [hx, hy, decodeN, if_neg (by omega), if_pos ⟨by omega, by omega, by omega⟩, if_pos (by omega)]
    constructor
    · show (((192 + n / 64) % 32 * 64 + (128 + n % 64) % 64 : Nat) : Int) = (n : Int)
      omega
    · rfl

theorem enc_len1 (x : Int) (h0 : 0 ≤ x) (h1 : x < 128) : (encodeRune x).length = 1 := by rw [enc_one x h0 h1]; rfl
theorem enc_len2 (x : Int) (h0 : 128 ≤ x) (h1 : x < 2048) : (encodeRune x).length = 2 := by rw [encodeRune, encodeRuneZ_two h0 (by omega)]; rfl
theorem letterB_iff (r : Int) : letterB r = true ↔ (97 ≤ r ∧ r ≤ 122) ∨ (48 ≤ r ∧ r ≤ 57) ∨ r = 46 ∨ r = 45 ∨ r = 95 ∨ (223 ≤ r ∧ r ≤ 255 ∧ r ≠ 247) ∨ (945 ≤ r ∧ r ≤ 969) ∨ (1072 ≤ r ∧ r ≤ 1103) := by simp [letterB]
theorem fold_len (r : Int) (h0 : 0 ≤ r) (h : letterB (foldR r) = true) : (encodeRune (foldR r)).length = (encodeRune r).length := by
  rw [letterB_iff] at h
  by_cases hr : r < 128
  · rw [enc_len1 r h0 hr]
    unfold foldR at h ⊢
    split at h
    · rename_i hc
      rw [if_pos hc]
      exact enc_len1 _ (by omega) (by omega)
    · rename_i hc
      rw [if_neg hc]
      exact enc_len1 _ (by omega) (by omega)
  · unfold foldR at h ⊢
    split at h
    · rename_i hc
      rw [if_pos hc, enc_len2 r (by omega) (by omega)]
      exact enc_len2 _ (by omega) (by omega)
    · rename_i hc
      rw [if_neg hc]
theorem enc_bytes (F : Int) (h : letterB F = true) : ∀ b ∈ encodeRune F, b ≠ 47 ∧ b ≠ 64 := by
  rw [letterB_iff] at h
  intro b hb
  have key : ∀ m : Nat, m < 256 → m ≠ 47 → m ≠ 64 → b = m.toUInt8 → b ≠ 47 ∧ b ≠ 64 := fun m h1 h2 h3 e => by
    subst e
    constructor
    · intro q
      have := congrArg UInt8.toNat q
      simp at this; omega
    · intro q
      have := congrArg UInt8.toNat q
      simp at this; omega
  by_cases hF : F < 128
  · rw [enc_one F (by omega) hF] at hb
    simp at hb
    exact key F.toNat (by omega) (by omega) (by omega) (by simpa using hb)
  · rw [encodeRune, encodeRuneZ_two (by omega) (by omega)] at hb
    simp only [List.map_cons, List.map_nil, List.mem_cons, List.not_mem_nil, or_false] at hb
    rcases hb with hb | hb
    · exact key _ (by omega) (by omega) (by omega) hb
    · exact key _ (by omega) (by omega) (by omega) hb

theorem stepL_some {st r F : Int} (h : stepL st r = some F) : F = foldR r ∧ letterB F = true := by
  unfold stepL at h
  split at h
  · rename_i hl; cases h; exact ⟨rfl, hl⟩
  · cases h

theorem eachL_prep : ∀ (n : Nat) (st : Int) (l bs : List UInt8) (z : Int), l.length ≤ n → validD l = true → each stepL st l = some (bs, z) →
    validD bs = true ∧ bs.length = l.length ∧ (∀ b ∈ bs, b ≠ 47 ∧ b ≠ 64) ∧ ∀ st', ∃ z', each stepL st' bs = some (bs, z')
  | n, st, [], bs, z, _, _, h => by
    rw [each_nil] at h; cases h
    exact ⟨validD_nil, rfl, (fun b hb => by cases hb), fun st' => ⟨st', each_nil _ _⟩⟩
  | 0, st, b :: t, bs, z, hn, _, _ => by simp at hn
  | n + 1, st, b :: t, bs, z, hn, hv, h => by
    have hne : b :: t ≠ [] := by simp
    rw [validD_step (b :: t) hne] at hv
    by_cases hbad : (decodeL (b :: t)).1 = 65533 ∧ (decodeL (b :: t)).2 = 1
    · rw [if_pos hbad] at hv; cases hv
    rw [if_neg hbad] at hv
    rw [each_step stepL st _ hne] at h
    have hw := decodeL_width (b :: t)
    have hwl := decodeL_le (b :: t) hne
    have hl : ((b :: t).drop (decodeL (b :: t)).2).length ≤ n := by rw [List.length_drop]; omega
    cases hs : stepL st ((decodeL (b :: t)).1 : Int) with
    | none => simp only [hs] at h; cases h
    | some F =>
      simp only [hs] at h
      obtain ⟨hF, hlet⟩ := stepL_some hs
      cases he : each stepL F ((b :: t).drop (decodeL (b :: t)).2) with
      | none => simp only [he] at h; cases h
      | some p =>
        obtain ⟨cs, s2⟩ := p
        simp only [he] at h
        cases h
        obtain ⟨i1, i2, i3, i4⟩ := eachL_prep n _ _ _ _ hl hv he
        have hlim : 0 ≤ F ∧ F < 2048 := letter_lim F hlet
        obtain ⟨d1, d2⟩ := dec_enc F cs hlim.1 hlim.2
        have hen : (encodeRune F).length = (decodeL (b :: t)).2 := by
          rw [hF, fold_len _ (by omega) (by rw [← hF]; exact hlet), encode_decode (b :: t) hne hbad, List.length_take, Nat.min_eq_left hwl]
        have hbne : encodeRune F ++ cs ≠ [] := by
          intro q
          have := congrArg List.length q
          rw [List.length_append, hen] at this
          simp at this; omega
        refine ⟨?_, ?_, ?_, fun st' => ?_⟩
        · rw [validD_step _ hbne, if_neg (by omega), d2, List.drop_left]
          exact i1
        · rw [List.length_append, hen, i2, List.length_drop]; omega
        · intro x hx
          rcases List.mem_append.1 hx with q | q
          · exact enc_bytes F hlet x q
          · exact i3 x q
        · obtain ⟨z', hz⟩ := i4 F
          have hst : stepL st' F = some F := by
            have hff : foldR F = F := by rw [hF]; exact foldR_idem _
            unfold stepL; rw [hff, if_pos hlet]
          refine ⟨z', ?_⟩
          rw [each_step stepL st' _ hbne, d1, d2, List.drop_left]
          simp only [hst, hz]

theorem prep_zero {step : Int → Int → Option Int} {fin : Int → Bool} {l bs : List UInt8} (h : prep step fin l = (bs, 0)) :
    l.length ≤ 64 ∧ l ≠ [] ∧ validD l = true ∧ ∃ z, each step 46 l = some (bs, z) ∧ fin z = true := by
  unfold prep at h
  by_cases h1 : 64 < l.length
  · rw [if_pos h1] at h; cases h
  rw [if_neg h1] at h
  by_cases h2 : l = [] ∨ validD l = false
  · rw [if_pos h2] at h; cases h
  rw [if_neg h2] at h
  cases he : each step 46 l with
  | none => simp only [he] at h; cases h
  | some p =>
    obtain ⟨cs, z⟩ := p
    simp only [he] at h
    by_cases h3 : fin z = true
    · rw [if_pos h3] at h
      cases h
      refine ⟨by omega, fun q => h2 (.inl q), ?_, z, rfl, h3⟩
      cases hv : validD l with
      | true => rfl
      | false => exact absurd (.inr hv) h2
    · rw [if_neg h3] at h; cases h
theorem prep_of {step : Int → Int → Option Int} {fin : Int → Bool} {l bs : List UInt8} {z : Int} (h1 : l.length ≤ 64) (h2 : l ≠ []) (h3 : validD l = true) (h4 : each step 46 l = some (bs, z)) (h5 : fin z = true) : prep step fin l = (bs, 0) := by
  unfold prep
  rw [if_neg (by omega), if_neg (by simp [h2, h3])]
  simp only [h4, h5, if_true]

theorem local_idem {l a : List UInt8} (h : localN l = (a, 0)) : localN a = (a, 0) ∧ a ≠ [] ∧ a.length ≤ 64 ∧ ∀ b ∈ a, b ≠ 47 ∧ b ≠ 64 := by
  obtain ⟨h1, h2, h3, z, h4, _⟩ := prep_zero h
  obtain ⟨i1, i2, i3, i4⟩ := eachL_prep _ _ _ _ _ (Nat.le_refl _) h3 h4
  obtain ⟨z', hz⟩ := i4 46
  have hane : a ≠ [] := by
    intro q
    rw [q] at i2
    exact h2 (List.length_eq_zero_iff.1 i2.symm)
  exact ⟨prep_of (by omega) hane i1 hz rfl, hane, by omega, i3⟩
theorem res_idem {l a : List UInt8} (h : resN l = (a, 0)) : a = l := by
  obtain ⟨h1, h2, h3, z, h4, _⟩ := prep_zero h
  exact eachR_same _ _ _ _ _ (Nat.le_refl _) h3 h4

theorem hgo_prep : ∀ (l : List UInt8) (st : Int) (bs : List UInt8) (z : Int), hgo st l = some (bs, z) → hgo st bs = some (bs, z) ∧ bs.length = l.length ∧ ∀ b ∈ bs, b ≠ 47 ∧ b ≠ 64
  | [], st, bs, z, h => by rw [hgo] at h; cases h; exact ⟨rfl, rfl, fun b hb => by cases hb⟩
  | b :: t, st, bs, z, h => by
    rw [hgo] at h
    by_cases hg : goodB st (small b.toNat) = true
    · rw [if_pos hg] at h
      cases ht : hgo (small b.toNat) t with
      | none => rw [ht] at h; cases h
      | some q =>
        obtain ⟨cs, y⟩ := q
        rw [ht] at h
        cases h
        obtain ⟨i1, i2, i3⟩ := hgo_prep t _ _ _ ht
        have hgi : (97 ≤ small b.toNat ∧ small b.toNat ≤ 122) ∨ (48 ≤ small b.toNat ∧ small b.toNat ≤ 57) ∨ small b.toNat = 45 ∨ small b.toNat = 46 := by
          unfold goodB at hg
          simp only [decide_eq_true_eq] at hg
          omega
        have hback : (((small b.toNat).toNat.toUInt8.toNat : Nat) : Int) = small b.toNat := by
          have : (small b.toNat).toNat < 256 := by omega
          simp
          omega
        refine ⟨?_, by rw [List.length_cons, List.length_cons, i2], fun x hx => ?_⟩
        · rw [hgo, hback, small_idem, if_pos hg, i1]
        · rcases List.mem_cons.1 hx with q | q
          · subst q
            constructor
            · intro q
              have := congrArg UInt8.toNat q
              rw [show ((47 : UInt8).toNat) = 47 from rfl] at this
              omega
            · intro q
              have := congrArg UInt8.toNat q
              rw [show ((64 : UInt8).toNat) = 64 from rfl] at this
              omega
          · exact i3 x q
    · rw [if_neg hg] at h; cases h
theorem host_idem {l a : List UInt8} (h : hostN l = (a, 0)) : hostN a = (a, 0) ∧ ∀ b ∈ a, b ≠ 47 ∧ b ≠ 64 := by
  rw [hostN_hostB] at h ⊢
  unfold hostB at h ⊢
  by_cases h64 : 64 < l.length
  · rw [if_pos h64] at h; cases h
  rw [if_neg h64] at h
  cases hh : hgo 46 l with
  | none => rw [hh] at h; cases h
  | some p =>
    obtain ⟨bs, z⟩ := p
    rw [hh] at h
    simp only [hostE] at h
    by_cases hz : z = 46 ∨ z = 45
    · rw [if_pos hz] at h; cases h
    rw [if_neg hz] at h
    cases h
    obtain ⟨i1, i2, i3⟩ := hgo_prep l 46 _ _ hh
    rw [if_neg (by omega), i1]
    simp only [hostE, if_neg hz]
    exact ⟨trivial, i3⟩

/-! ### cutting -/
theorem ix_app (c : UInt8) : ∀ (a b : List UInt8), (∀ x ∈ a, x ≠ c) → ix c (a ++ c :: b) = a.length
  | [], b, _ => by simp [ix, List.findIdx_cons]
  | x :: a, b, h => by
    have hx : (x == c) = false := by simpa using h x (by simp)
    have ih := ix_app c a b (fun y hy => h y (by simp [hy]))
    unfold ix at ih ⊢
    rw [List.cons_append, List.findIdx_cons, hx, cond_false, ih, List.length_cons]
theorem ix_no (c : UInt8) (a : List UInt8) (h : ∀ x ∈ a, x ≠ c) : ix c a = a.length := by
  unfold ix
  rw [List.findIdx_eq_length]
  intro x hx
  simpa using h x hx
theorem cut_app (c : UInt8) (a b : List UInt8) (h : ∀ x ∈ a, x ≠ c) : cutA c (a ++ c :: b) = a ∧ cutZ c (a ++ c :: b) = b ∧ hasB c (a ++ c :: b) = true := by
  unfold cutA cutZ hasB
  rw [ix_app c a b h]
  refine ⟨List.take_left, ?_, by simp⟩
  rw [show a ++ c :: b = (a ++ [c]) ++ b by simp, show a.length + 1 = (a ++ [c]).length by simp]
  exact List.drop_left
theorem cut_no (c : UInt8) (a : List UInt8) (h : ∀ x ∈ a, x ≠ c) : cutA c a = a ∧ hasB c a = false := by
  unfold cutA hasB
  rw [ix_no c a h]
  exact ⟨List.take_length, by simp⟩

/-! ### an address, written and read -/
structure Ready (k : Jid) : Prop where
  l : k.l = [] ∨ localN k.l = (k.l, 0)
  h : hostN k.h = (k.h, 0)
  r : k.r = [] ∨ resN k.r = (k.r, 0)
def headF (k : Jid) : List UInt8 := (if k.l = [] then [] else k.l ++ [64]) ++ k.h
def formJ (k : Jid) : List UInt8 := headF k ++ (if k.r = [] then [] else 47 :: k.r)

theorem ready_text (k : Jid) (hk : Ready k) : textN k = (formJ k, 0) := by
  unfold textN optL optR formJ headF
  have h1 := hk.h
  rw [h1, if_neg (by simp)]
  by_cases hl : k.l = []
  · rw [if_pos hl, if_neg (by simp)]
    by_cases hr : k.r = []
    · rw [if_pos hr, if_neg (by simp)]; simp [hl, hr]
    · have h3 := hk.r.resolve_left hr
      rw [if_neg hr, h3, if_neg (by simp)]; simp [hl, hr]
  · have h2 := hk.l.resolve_left hl
    rw [if_neg hl, h2, if_neg (by simp)]
    by_cases hr : k.r = []
    · rw [if_pos hr, if_neg (by simp)]; simp [hl, hr]
    · have h3 := hk.r.resolve_left hr
      rw [if_neg hr, h3, if_neg (by simp)]

theorem ready_parse (k : Jid) (hk : Ready k) : parseN (formJ k) = (k, 0) := by
  have hh := host_idem hk.h
  have hll : ∀ x ∈ k.l, x ≠ 47 ∧ x ≠ 64 := by
    rcases hk.l with q | q
    · rw [q]; intro x hx; cases hx
    · exact (local_idem q).2.2.2
  have hhead : ∀ x ∈ headF k, x ≠ 47 := by
    intro x hx
    unfold headF at hx
    rcases List.mem_append.1 hx with q | q
    · by_cases hl : k.l = []
      · rw [if_pos hl] at q; cases q
      · rw [if_neg hl] at q
        rcases List.mem_append.1 q with q | q
        · exact (hll x q).1
        · simp at q; subst q; decide
    · exact (hh.2 x q).1
  have c47 : cutA 47 (formJ k) = headF k ∧ hasB 47 (formJ k) = (!k.r.isEmpty) ∧ (k.r ≠ [] → cutZ 47 (formJ k) = k.r) := by
    unfold formJ
    by_cases hr : k.r = []
    · rw [if_pos hr, List.append_nil]
      have := cut_no 47 _ hhead
      exact ⟨this.1, by rw [this.2, hr]; rfl, fun q => absurd hr q⟩
    · rw [if_neg hr]
      have := cut_app 47 _ k.r hhead
      refine ⟨this.1, ?_, fun _ => this.2.1⟩
      rw [this.2.2]
      cases hkr : k.r with
      | nil => exact absurd hkr hr
      | cons => rfl
  have c64 : hasB 64 (headF k) = (!k.l.isEmpty) ∧ (k.l ≠ [] → cutA 64 (headF k) = k.l ∧ cutZ 64 (headF k) = k.h) ∧ (k.l = [] → headF k = k.h) := by
    unfold headF
    by_cases hl : k.l = []
    · rw [if_pos hl, List.nil_append]
      have := cut_no 64 k.h (fun x hx => (hh.2 x hx).2)
      exact ⟨by rw [this.2, hl]; rfl, fun q => absurd hl q, fun _ => rfl⟩
    · rw [if_neg hl, List.append_assoc, List.singleton_append]
      have := cut_app 64 k.l k.h (fun x hx => (hll x hx).2)
      refine ⟨?_, fun _ => ⟨this.1, this.2.1⟩, fun q => absurd q hl⟩
      rw [this.2.2]
      cases hkl : k.l with
      | nil => exact absurd hkl hl
      | cons => rfl
  have pL : partL (formJ k) = (k.l, 0) := by
    unfold partL
    rw [c47.1, c64.1]
    by_cases hl : k.l = []
    · rw [hl]; rfl
    · have he : (!k.l.isEmpty) = true := by
        cases hkl : k.l with
        | nil => exact absurd hkl hl
        | cons => rfl
      rw [he, if_pos rfl, (c64.2.1 hl).1]
      exact hk.l.resolve_left hl
  have pH : partH (formJ k) = (k.h, 0) := by
    unfold partH
    rw [c47.1, c64.1]
    by_cases hl : k.l = []
    · rw [c64.2.2 hl, hl]; exact hk.h
    · have he : (!k.l.isEmpty) = true := by
        cases hkl : k.l with
        | nil => exact absurd hkl hl
        | cons => rfl
      rw [he, if_pos rfl, (c64.2.1 hl).2]
      exact hk.h
  have pR : partR (formJ k) = (k.r, 0) := by
    unfold partR
    rw [c47.2.1]
    by_cases hr : k.r = []
    · rw [hr]; rfl
    · have he : (!k.r.isEmpty) = true := by
        cases hkr : k.r with
        | nil => exact absurd hkr hr
        | cons => rfl
      rw [he, if_pos rfl, c47.2.2 hr]
      exact hk.r.resolve_left hr
  unfold parseN
  rw [pL, pH, pR]
  simp

/-- What is written is ready. -/
theorem text_ready {j : Jid} {t : List UInt8} (h : textN j = (t, 0)) : ∃ k, Ready k ∧ t = formJ k ∧ (k.l = [] ↔ j.l = []) ∧ k.r = j.r := by
  unfold textN at h
  by_cases h1 : (hostN j.h).2 ≠ 0
  · rw [if_pos h1] at h; exact absurd (congrArg Prod.snd h) h1
  rw [if_neg h1] at h
  by_cases h2 : (optL j.l).2 ≠ 0
  · rw [if_pos h2] at h; exact absurd (congrArg Prod.snd h) h2
  rw [if_neg h2] at h
  by_cases h3 : (optR j.r).2 ≠ 0
  · rw [if_pos h3] at h; exact absurd (congrArg Prod.snd h) h3
  rw [if_neg h3] at h
  have eH : hostN j.h = ((hostN j.h).1, 0) := Prod.ext rfl (by simpa using h1)
  have hH := (host_idem eH).1
  have eL : j.l = [] ∨ localN j.l = ((localN j.l).1, 0) := by
    by_cases q : j.l = []
    · exact .inl q
    · unfold optL at h2; rw [if_neg q] at h2; exact .inr (Prod.ext rfl (by simpa using h2))
  have eR : j.r = [] ∨ resN j.r = (j.r, 0) := by
    by_cases q : j.r = []
    · exact .inl q
    · unfold optR at h3; rw [if_neg q] at h3
      have e : resN j.r = ((resN j.r).1, 0) := Prod.ext rfl (by simpa using h3)
      have := res_idem e
      rw [this] at e
      exact .inr e
  cases h
  by_cases hl : j.l = []
  · refine ⟨⟨[], (hostN j.h).1, j.r⟩, ⟨.inl rfl, hH, eR⟩, ?_, by simp [hl], rfl⟩
    unfold formJ headF
    simp only [if_true, hl]
    by_cases hr : j.r = []
    · simp [hr]
    · have := eR.resolve_left hr
      simp [hr, this]
  · have e1 := eL.resolve_left hl
    obtain ⟨i1, i2, _, _⟩ := local_idem e1
    refine ⟨⟨(localN j.l).1, (hostN j.h).1, j.r⟩, ⟨.inr i1, hH, eR⟩, ?_, ⟨fun q => absurd q i2, fun q => absurd q hl⟩, rfl⟩
    unfold formJ headF
    simp only [if_neg hl, if_neg i2]
    by_cases hr : j.r = []
    · simp [hr]
    · have := eR.resolve_left hr
      simp [hr, this]

/-- What is read is ready. -/
theorem parse_ready {l : List UInt8} {k : Jid} (h : parseN l = (k, 0)) : Ready k := by
  unfold parseN at h
  by_cases h1 : (partL l).2 ≠ 0
  · rw [if_pos h1] at h; exact absurd (congrArg Prod.snd h) h1
  rw [if_neg h1] at h
  by_cases h2 : (partH l).2 ≠ 0
  · rw [if_pos h2] at h; exact absurd (congrArg Prod.snd h) h2
  rw [if_neg h2] at h
  by_cases h3 : (partR l).2 ≠ 0
  · rw [if_pos h3] at h; exact absurd (congrArg Prod.snd h) h3
  rw [if_neg h3] at h
  cases h
  refine ⟨?_, ?_, ?_⟩
  · show (partL l).1 = [] ∨ localN (partL l).1 = ((partL l).1, 0)
    unfold partL at h1 ⊢
    by_cases q : hasB 64 (cutA 47 l) = true
    · rw [if_pos q] at h1 ⊢
      exact .inr (local_idem (Prod.ext rfl (by simpa using h1))).1
    · rw [if_neg q]; exact .inl rfl
  · show hostN (partH l).1 = ((partH l).1, 0)
    unfold partH at h2 ⊢
    exact (host_idem (Prod.ext rfl (by simpa using h2))).1
  · show (partR l).1 = [] ∨ resN (partR l).1 = ((partR l).1, 0)
    unfold partR at h3 ⊢
    by_cases q : hasB 47 l = true
    · rw [if_pos q] at h3 ⊢
      have e : resN (cutZ 47 l) = ((resN (cutZ 47 l)).1, 0) := Prod.ext rfl (by simpa using h3)
      have := res_idem e
      rw [this] at e ⊢
      exact .inr e
    · rw [if_neg q]; exact .inl rfl
theorem parse_none {l : List UInt8} {k : Jid} {n : Nat} (h : parseN l = (k, n)) (hn : n ≠ 0) : k = ⟨[], [], []⟩ := by
  unfold parseN at h
  split at h
  · cases h; rfl
  · split at h
    · cases h; rfl
    · split at h
      · cases h; rfl
      · cases h; exact absurd rfl hn
end Go.Proofs.YtikklhnkkfimfaaDoor
