/- The case of A to Z does not count. No program in this text. -/
import Derived.Test.YtikklhnkkfimfaaDoorNmHostB
import Derived.Lib.DecodeN
import Derived.Lib.TrimUEq
namespace Go.Proofs.YtikklhnkkfimfaaDoor
open Go.Lib

/-- The same byte, or a small letter and its great one. -/
def cs (b c : UInt8) : Prop := c = b ∨ (97 ≤ b.toNat ∧ b.toNat ≤ 122 ∧ c.toNat + 32 = b.toNat)
def Cs (l m : List UInt8) : Prop := l.length = m.length ∧ ∀ i, cs (l.getD i 0) (m.getD i 0)

theorem cs_refl (b : UInt8) : cs b b := .inl rfl
theorem Cs.refl (l : List UInt8) : Cs l l := ⟨rfl, fun _ => cs_refl _⟩
theorem Cs.tail {b c : UInt8} {l m : List UInt8} (h : Cs (b :: l) (c :: m)) : Cs l m := ⟨by simpa using h.1, fun i => by simpa using h.2 (i + 1)⟩
theorem Cs.head {b c : UInt8} {l m : List UInt8} (h : Cs (b :: l) (c :: m)) : cs b c := h.2 0
theorem Cs.drop {l m : List UInt8} (h : Cs l m) (k : Nat) : Cs (l.drop k) (m.drop k) :=
  ⟨by rw [List.length_drop, List.length_drop, h.1], fun i => by
    have := h.2 (k + i)
    simpa [List.getD, List.getElem?_drop] using this⟩
theorem Cs.take {l m : List UInt8} (h : Cs l m) (k : Nat) : Cs (l.take k) (m.take k) :=
  ⟨by rw [List.length_take, List.length_take, h.1], fun i => by
    have := h.2 i
    simp only [List.getD, List.getElem?_take] at this ⊢
    split
    · exact this
    · exact cs_refl _⟩
theorem Cs.nil {m : List UInt8} (h : Cs [] m) : m = [] := List.length_eq_zero_iff.1 h.1.symm
theorem Cs.cons {b : UInt8} {l m : List UInt8} (h : Cs (b :: l) m) : ∃ c t, m = c :: t := by
  cases m with
  | nil => have := h.1; simp at this
  | cons c t => exact ⟨c, t, rfl⟩

theorem cs_small {b c : UInt8} (h : cs b c) : small (c.toNat : Int) = small (b.toNat : Int) := by
  rcases h with rfl | ⟨h1, h2, h3⟩
  · rfl
  · unfold small; rw [if_pos (by omega), if_neg (by omega)]; omega
theorem cs_fold {b c : UInt8} (h : cs b c) : foldR (c.toNat : Int) = foldR (b.toNat : Int) := by
  rcases h with rfl | ⟨h1, h2, h3⟩
  · rfl
  · unfold foldR; rw [if_pos (by omega), if_neg (by omega)]; omega

theorem hgo_cs : ∀ (l m : List UInt8) (st : Int), Cs l m → hgo st l = hgo st m
  | [], m, st, h => by rw [h.nil]
  | b :: l, m, st, h => by
    obtain ⟨c, t, rfl⟩ := h.cons
    rw [hgo, hgo, cs_small h.head, hgo_cs l t _ h.tail]
theorem host_cs {l m : List UInt8} (h : Cs l m) : hostN l = hostN m := by
  rw [hostN_hostB, hostN_hostB]
  unfold hostB
  rw [h.1, hgo_cs l m 46 h]

theorem cs_nat {b c : UInt8} (h : cs b c) : c.toNat = b.toNat ∨ (b.toNat / 64 = 1 ∧ c.toNat / 64 = 1) := by
  rcases h with rfl | ⟨h1, h2, h3⟩
  · exact .inl rfl
  · exact .inr ⟨by omega, by omega⟩

set_option maxHeartbeats 4000000 in
theorem decodeN_cs (n b0 b1 b2 b3 c1 c2 c3 : Nat) (h1 : c1 = b1 ∨ (b1 / 64 = 1 ∧ c1 / 64 = 1)) (h2 : c2 = b2 ∨ (b2 / 64 = 1 ∧ c2 / 64 = 1)) (h3 : c3 = b3 ∨ (b3 / 64 = 1 ∧ c3 / 64 = 1)) :
    decodeN n b0 b1 b2 b3 = decodeN n b0 c1 c2 c3 := by
  unfold decodeN
  rcases h1 with rfl | ⟨p1, q1⟩
  · rcases h2 with rfl | ⟨p2, q2⟩
    · rcases h3 with rfl | ⟨p3, q3⟩
      · rfl
      · simp [p3, q3]
    · rcases h3 with rfl | ⟨p3, q3⟩
      · simp [p2, q2]
      · simp [p2, q2, p3, q3]
  · simp [p1, q1]

theorem decode_cs {b : UInt8} {l m : List UInt8} (hb : ¬ b.toNat < 128) (h : Cs (b :: l) m) : ∃ t, m = b :: t ∧ decodeL m = decodeL (b :: l) := by
  obtain ⟨c, t, rfl⟩ := h.cons
  have hc : c = b := by
    rcases h.head with q | q
    · exact q
    · omega
  subst hc
  refine ⟨t, rfl, ?_⟩
  rw [decodeL_N, decodeL_N, h.1]
  have e0 : (c :: t).getD 0 0 = (c :: l).getD 0 0 := rfl
  rw [e0]
  exact (decodeN_cs _ _ _ _ _ _ _ _ (cs_nat (h.2 1)) (cs_nat (h.2 2)) (cs_nat (h.2 3))).symm

theorem valid_cs : ∀ (n : Nat) (l m : List UInt8), l.length ≤ n → Cs l m → validD l = validD m
  | _, [], m, _, h => by rw [h.nil]
  | 0, b :: l, m, hn, _ => by simp at hn
  | n + 1, b :: l, m, hn, h => by
    by_cases hb : b.toNat < 128
    · obtain ⟨c, t, rfl⟩ := h.cons
      have hc : c.toNat < 128 := by
        rcases h.head with q | q
        · rw [q]; exact hb
        · omega
      rw [validD_cons b l hb, validD_cons c t hc]
      exact valid_cs n l t (by simp at hn; omega) h.tail
    · obtain ⟨t, rfl, hd⟩ := decode_cs hb h
      rw [validD_step (b :: l) (by simp), validD_step (b :: t) (by simp), hd]
      split
      · rfl
      · have hw := decodeL_width (b :: l)
        exact valid_cs n _ _ (by rw [List.length_drop]; omega) (h.drop _)

theorem eachL_cs : ∀ (n : Nat) (l m : List UInt8) (st : Int), l.length ≤ n → Cs l m → each stepL st l = each stepL st m
  | _, [], m, st, _, h => by rw [h.nil]
  | 0, b :: l, m, st, hn, _ => by simp at hn
  | n + 1, b :: l, m, st, hn, h => by
    by_cases hb : b.toNat < 128
    · obtain ⟨c, t, rfl⟩ := h.cons
      have hc : c.toNat < 128 := by
        rcases h.head with q | q
        · rw [q]; exact hb
        · omega
      rw [each_step stepL st _ (by simp), each_step stepL st _ (by simp), decodeL_ascii b l hb, decodeL_ascii c t hc]
      have hs : stepL st (c.toNat : Int) = stepL st (b.toNat : Int) := by unfold stepL; rw [cs_fold h.head]
      simp only [hs, List.drop_succ_cons, List.drop_zero]
      cases stepL st (b.toNat : Int) with
      | none => rfl
      | some F => simp only [eachL_cs n l t F (by simp at hn; omega) h.tail]
    · obtain ⟨t, rfl, hd⟩ := decode_cs hb h
      rw [each_step stepL st _ (by simp), each_step stepL st _ (by simp), hd]
      cases stepL st ((decodeL (b :: l)).1 : Int) with
      | none => rfl
      | some F =>
        have hw := decodeL_width (b :: l)
        simp only [eachL_cs n _ _ F (by rw [List.length_drop]; omega) (h.drop (decodeL (b :: l)).2)]

theorem local_cs {l m : List UInt8} (h : Cs l m) : localN l = localN m := by
  unfold localN prep
  have he : (l = []) = (m = []) := propext ⟨fun q => by rw [q] at h; exact h.nil, fun q => by rw [q] at h; exact List.length_eq_zero_iff.1 h.1⟩
  rw [h.1, valid_cs _ l m (Nat.le_refl _) h, eachL_cs _ l m 46 (Nat.le_refl _) h]
  simp only [he]

theorem ix_cs (x : UInt8) (hx : ¬ (65 ≤ x.toNat ∧ x.toNat ≤ 90)) (hy : ¬ (97 ≤ x.toNat ∧ x.toNat ≤ 122)) : ∀ (l m : List UInt8), Cs l m → ix x l = ix x m
  | [], m, h => by rw [h.nil]
  | b :: l, m, h => by
    obtain ⟨c, t, rfl⟩ := h.cons
    have ih := ix_cs x hx hy l t h.tail
    unfold ix at ih ⊢
    have hbc : (b == x) = (c == x) := by
      rcases h.head with q | ⟨q1, q2, q3⟩
      · rw [q]
      · have e1 : (b == x) = false := by
          simp only [beq_eq_false_iff_ne]; intro e; rw [e] at q1 q2; omega
        have e2 : (c == x) = false := by
          simp only [beq_eq_false_iff_ne]; intro e; rw [e] at q3; omega
        rw [e1, e2]
    rw [List.findIdx_cons, List.findIdx_cons, hbc, ih]

theorem parse_cs {l m : List UInt8} (h : Cs l m) : parseN l = parseN (m.take (ix 47 m) ++ l.drop (ix 47 m)) := by
  have hix : ix 47 l = ix 47 m := ix_cs 47 (by decide) (by decide) l m h
  obtain ⟨y, hy⟩ : ∃ y, m.take (ix 47 m) ++ l.drop (ix 47 m) = y := ⟨_, rfl⟩
  rw [hy]
  have hle : ix 47 m ≤ m.length := ix_le 47 m
  have hlm := h.1
  have htl : (m.take (ix 47 m)).length = ix 47 m := by rw [List.length_take]; omega
  have hyl : y.length = l.length := by rw [← hy, List.length_append, htl, List.length_drop]; omega
  have hyt : y.take (ix 47 m) = m.take (ix 47 m) := by rw [← hy, List.take_left' htl]
  have hyd : y.drop (ix 47 m) = l.drop (ix 47 m) := by rw [← hy, List.drop_left' htl]
  have hCy : Cs l y := by
    refine ⟨hyl.symm, fun i => ?_⟩
    by_cases hi : i < ix 47 m
    · have e : y.getD i 0 = m.getD i 0 := by
        have := congrArg (fun q : List UInt8 => q.getD i 0) hyt
        simpa [List.getD, List.getElem?_take, hi] using this
      rw [e]; exact h.2 i
    · have e : y.getD i 0 = l.getD i 0 := by
        have := congrArg (fun q : List UInt8 => q.getD (i - ix 47 m) 0) hyd
        simpa [List.getD, List.getElem?_drop, show ix 47 m + (i - ix 47 m) = i by omega] using this
      rw [e]; exact cs_refl _
  have hiy : ix 47 y = ix 47 l := (ix_cs 47 (by decide) (by decide) l y hCy).symm
  have a1 : Cs (cutA 47 l) (cutA 47 y) := by unfold cutA; rw [hiy]; exact hCy.take _
  have z1 : cutZ 47 y = cutZ 47 l := by
    unfold cutZ
    rw [hiy, hix]
    have := congrArg (fun q : List UInt8 => q.drop 1) hyd
    simpa [List.drop_drop] using this
  have g1 : hasB 47 y = hasB 47 l := by unfold hasB; rw [hiy, hyl]
  have i2 : ix 64 (cutA 47 l) = ix 64 (cutA 47 y) := ix_cs 64 (by decide) (by decide) _ _ a1
  have a2 : Cs (cutA 64 (cutA 47 l)) (cutA 64 (cutA 47 y)) := by
    have := a1.take (ix 64 (cutA 47 l))
    unfold cutA at this ⊢
    unfold cutA at i2
    rw [← i2]; exact this
  have z2 : Cs (cutZ 64 (cutA 47 l)) (cutZ 64 (cutA 47 y)) := by
    have := a1.drop (ix 64 (cutA 47 l) + 1)
    unfold cutZ
    rw [← i2]; exact this
  have g2 : hasB 64 (cutA 47 y) = hasB 64 (cutA 47 l) := by unfold hasB; rw [← i2, a1.1]
  have pL : partL y = partL l := by unfold partL; rw [g2, local_cs a2]
  have pH : partH y = partH l := by
    unfold partH
    rw [g2]
    by_cases q : hasB 64 (cutA 47 l) = true
    · rw [if_pos q, if_pos q, host_cs z2]
    · rw [if_neg q, if_neg q, host_cs a1]
  have pR : partR y = partR l := by unfold partR; rw [g1, z1]
  unfold parseN
  rw [pL, pH, pR]
end Go.Proofs.YtikklhnkkfimfaaDoor
