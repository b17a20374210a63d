/- A text's bytes as numbers; what a step of the document's Valid owes. -/
import Derived.Test.YtiplalbicibahaaDoorUtf
import Derived.Test.YtiplalbicibahaaDoorNmSmall
import Derived.Lib.ValidLaws
namespace Go.Proofs.YtiplalbicibahaaDoor.Nm
open Go.RowKit

def nums (s : ByteArray) : List Int := s.data.toList.map fun b => (b.toNat : Int)
theorem nums_len (s : ByteArray) : (nums s).length = s.size := by simp [nums]
theorem nums_bd (s : ByteArray) : Bd (nums s) := by
  intro x hx; simp [nums] at hx; obtain ⟨b, _, rfl⟩ := hx; have := b.toNat_lt; omega

theorem drop_cons {xs : List Int} {k : Nat} (h : k < xs.length) : xs.drop k = xs.getD k 0 :: xs.drop (k + 1) := by
  rw [List.drop_eq_getElem_cons h]; simp [List.getD, List.getElem?_eq_getElem h]
theorem usz_1234 (z : Int) : usz z = 1 ∨ usz z = 2 ∨ usz z = 3 ∨ usz z = 4 := by
  unfold usz; split
  · simp
  · split
    · simp
    · split <;> simp
theorem dropD (c : Int) (r : List Int) (j : Nat) : (c :: r).getD (j + 1) 0 = r.getD j 0 := by simp [List.getD]

theorem bad1 {ys : List Int} {z : Int} (hd : ys = z :: ys.drop 1) (ha : ¬ z < 128) (hk : usz z = 1) : vld ys = false := by
  rw [hd, vld_cons, if_neg ha, if_neg (by omega), if_neg (by omega), if_neg (by omega)]
theorem bad2 {ys : List Int} {z : Int} (hd : ys = z :: ys.drop 1) (ha : ¬ z < 128) (hk : usz z = 2) (h : ys.length < 2 ∨ ys.getD 1 0 < ulo z ∨ uhi z < ys.getD 1 0) : vld ys = false := by
  have e1 : ys.getD 1 0 = (ys.drop 1).getD 0 0 := by conv => lhs; rw [hd, dropD]
  have e2 : ys.length = (ys.drop 1).length + 1 := congrArg List.length hd
  rw [e1, e2] at h
  rw [hd, vld_cons, if_neg ha, if_pos hk]
  generalize ys.drop 1 = r at *
  by_cases hl : 1 ≤ r.length
  · rw [if_pos hl]
    have : oks z (r.getD 0 0) = false := by
      cases q : oks z (r.getD 0 0) with
      | false => rfl
      | true => simp only [oks, Bool.and_eq_true, decide_eq_true_eq] at q; omega
    rw [this, Bool.false_and]
  · rw [if_neg hl]
theorem ok2 {ys : List Int} {z : Int} (hd : ys = z :: ys.drop 1) (ha : ¬ z < 128) (hk : usz z = 2) (h0 : 2 ≤ ys.length) (h1 : ulo z ≤ ys.getD 1 0) (h2 : ys.getD 1 0 ≤ uhi z) : vld ys = vld (ys.drop 2) := by
  have e1 : ys.getD 1 0 = (ys.drop 1).getD 0 0 := by conv => lhs; rw [hd, dropD]
  have e2 : ys.length = (ys.drop 1).length + 1 := congrArg List.length hd
  have e3 : ys.drop 2 = (ys.drop 1).drop 1 := by rw [List.drop_drop]
  rw [e1] at h1 h2
  rw [e2] at h0
  rw [e3]
  conv => lhs; rw [hd, vld_cons, if_neg ha, if_pos hk]
  generalize ys.drop 1 = r at *
  rw [if_pos (by omega)]
  have : oks z (r.getD 0 0) = true := by
    simp only [oks, Bool.and_eq_true, decide_eq_true_eq]; omega
  rw [this, Bool.true_and]
theorem bad3 {ys : List Int} {z : Int} (hd : ys = z :: ys.drop 1) (ha : ¬ z < 128) (hk : usz z = 3) (h : ys.length < 3 ∨ ys.getD 1 0 < ulo z ∨ uhi z < ys.getD 1 0 ∨ ys.getD 2 0 < 128 ∨ 191 < ys.getD 2 0) : vld ys = false := by
  have e1 : ys.getD 1 0 = (ys.drop 1).getD 0 0 := by conv => lhs; rw [hd, dropD]
  have e4 : ys.getD 2 0 = (ys.drop 1).getD 1 0 := by conv => lhs; rw [hd, dropD]
  have e2 : ys.length = (ys.drop 1).length + 1 := congrArg List.length hd
  rw [e1, e2, e4] at h
  rw [hd, vld_cons, if_neg ha, if_neg (by omega), if_pos hk]
  generalize ys.drop 1 = r at *
  by_cases hl : 2 ≤ r.length
  · rw [if_pos hl]
    have : (oks z (r.getD 0 0) && okc (r.getD 1 0)) = false := by
      cases q : oks z (r.getD 0 0) && okc (r.getD 1 0) with
      | false => rfl
      | true => simp only [oks, okc, Bool.and_eq_true, decide_eq_true_eq] at q; omega
    rw [this, Bool.false_and]
  · rw [if_neg hl]
theorem ok3 {ys : List Int} {z : Int} (hd : ys = z :: ys.drop 1) (ha : ¬ z < 128) (hk : usz z = 3) (h0 : 3 ≤ ys.length) (h1 : ulo z ≤ ys.getD 1 0) (h2 : ys.getD 1 0 ≤ uhi z) (h3 : 128 ≤ ys.getD 2 0) (h4 : ys.getD 2 0 ≤ 191) : vld ys = vld (ys.drop 3) := by
  have e1 : ys.getD 1 0 = (ys.drop 1).getD 0 0 := by conv => lhs; rw [hd, dropD]
  have e4 : ys.getD 2 0 = (ys.drop 1).getD 1 0 := by conv => lhs; rw [hd, dropD]
  have e2 : ys.length = (ys.drop 1).length + 1 := congrArg List.length hd
  have e3 : ys.drop 3 = (ys.drop 1).drop 2 := by rw [List.drop_drop]
  rw [e1] at h1 h2
  rw [e4] at h3 h4
  rw [e2] at h0
  rw [e3]
  conv => lhs; rw [hd, vld_cons, if_neg ha, if_neg (by omega), if_pos hk]
  generalize ys.drop 1 = r at *
  rw [if_pos (by omega)]
  have : (oks z (r.getD 0 0) && okc (r.getD 1 0)) = true := by
    simp only [oks, okc, Bool.and_eq_true, decide_eq_true_eq]; omega
  rw [this, Bool.true_and]
theorem bad4 {ys : List Int} {z : Int} (hd : ys = z :: ys.drop 1) (ha : ¬ z < 128) (hk : usz z = 4) (h : ys.length < 4 ∨ ys.getD 1 0 < ulo z ∨ uhi z < ys.getD 1 0 ∨ ys.getD 2 0 < 128 ∨ 191 < ys.getD 2 0 ∨ ys.getD 3 0 < 128 ∨ 191 < ys.getD 3 0) : vld ys = false := by
  have e1 : ys.getD 1 0 = (ys.drop 1).getD 0 0 := by conv => lhs; rw [hd, dropD]
  have e4 : ys.getD 2 0 = (ys.drop 1).getD 1 0 := by conv => lhs; rw [hd, dropD]
  have e5 : ys.getD 3 0 = (ys.drop 1).getD 2 0 := by conv => lhs; rw [hd, dropD]
  have e2 : ys.length = (ys.drop 1).length + 1 := congrArg List.length hd
  rw [e1, e2, e4, e5] at h
  rw [hd, vld_cons, if_neg ha, if_neg (by omega), if_neg (by omega), if_pos hk]
  generalize ys.drop 1 = r at *
  by_cases hl : 3 ≤ r.length
  · rw [if_pos hl]
    have : (oks z (r.getD 0 0) && okc (r.getD 1 0) && okc (r.getD 2 0)) = false := by
      cases q : oks z (r.getD 0 0) && okc (r.getD 1 0) && okc (r.getD 2 0) with
      | false => rfl
      | true => simp only [oks, okc, Bool.and_eq_true, decide_eq_true_eq] at q; omega
    rw [this, Bool.false_and]
  · rw [if_neg hl]
theorem ok4 {ys : List Int} {z : Int} (hd : ys = z :: ys.drop 1) (ha : ¬ z < 128) (hk : usz z = 4) (h0 : 4 ≤ ys.length) (h1 : ulo z ≤ ys.getD 1 0) (h2 : ys.getD 1 0 ≤ uhi z) (h3 : 128 ≤ ys.getD 2 0) (h4 : ys.getD 2 0 ≤ 191) (h5 : 128 ≤ ys.getD 3 0) (h6 : ys.getD 3 0 ≤ 191) : vld ys = vld (ys.drop 4) := by
  have e1 : ys.getD 1 0 = (ys.drop 1).getD 0 0 := by conv => lhs; rw [hd, dropD]
  have e4 : ys.getD 2 0 = (ys.drop 1).getD 1 0 := by conv => lhs; rw [hd, dropD]
  have e5 : ys.getD 3 0 = (ys.drop 1).getD 2 0 := by conv => lhs; rw [hd, dropD]
  have e2 : ys.length = (ys.drop 1).length + 1 := congrArg List.length hd
  have e3 : ys.drop 4 = (ys.drop 1).drop 3 := by rw [List.drop_drop]
  rw [e1] at h1 h2
  rw [e4] at h3 h4
  rw [e5] at h5 h6
  rw [e2] at h0
  rw [e3]
  conv => lhs; rw [hd, vld_cons, if_neg ha, if_neg (by omega), if_neg (by omega), if_pos hk]
  generalize ys.drop 1 = r at *
  rw [if_pos (by omega)]
  have : (oks z (r.getD 0 0) && okc (r.getD 1 0) && okc (r.getD 2 0)) = true := by
    simp only [oks, okc, Bool.and_eq_true, decide_eq_true_eq]; omega
  rw [this, Bool.true_and]


theorem tab_eq : ∀ c : Nat, c < 256 → 128 ≤ c → Lib.firstT c % 8 = usz (c : Int) ∧ (usz (c : Int) ≠ 1 → ((Lib.accLo (Lib.firstT c / 16) : Nat) : Int) = ulo (c : Int) ∧ ((Lib.accHi (Lib.firstT c / 16) : Nat) : Int) = uhi (c : Int)) := by decide +kernel

theorem getN (l : List UInt8) (j : Nat) : (l.map fun b => (b.toNat : Int)).getD j 0 = ((l.getD j 0).toNat : Int) := by
  rw [List.getD, List.getElem?_map, List.getD]
  cases l[j]? <;> simp

theorem vld_valid : ∀ (n : Nat) (l : List UInt8), l.length ≤ n → vld (l.map fun b => (b.toNat : Int)) = Lib.validD l
  | _, [], _ => by rw [List.map_nil, vld_nil, Lib.validD_nil]
  | 0, b :: t, h => by simp at h
  | n + 1, b :: t, h => by
    have hb := b.toNat_lt
    by_cases ha : b.toNat < 128
    · rw [List.map_cons, vld_ascii (by omega), Lib.validD_cons b t ha]
      exact vld_valid n t (by simp at h; omega)
    · rw [Lib.validD_lead (b :: t) (by simp) (by simp; omega)]
      have e0 : (b :: t).getD 0 0 = b := rfl
      rw [e0]
      obtain ⟨hsz, hlh⟩ := tab_eq b.toNat hb (by omega)
      rw [hsz]
      have hd : ((b :: t).map fun b => (b.toNat : Int)) = (b.toNat : Int) :: ((b :: t).map fun b => (b.toNat : Int)).drop 1 := rfl
      have hlen : ((b :: t).map fun b => (b.toNat : Int)).length = (b :: t).length := by simp
      have hdr : ∀ k, ((b :: t).map fun b => (b.toNat : Int)).drop k = ((b :: t).drop k).map fun b => (b.toNat : Int) := fun k => by rw [List.map_drop]
      have ih : ∀ k, 1 ≤ k → vld (((b :: t).map fun b => (b.toNat : Int)).drop k) = Lib.validD ((b :: t).drop k) := fun k hk => by
        rw [hdr]; exact vld_valid n _ (by rw [List.length_drop]; simp at h ⊢; omega)
      have g1 := getN (b :: t) 1
      have g2 := getN (b :: t) 2
      have g3 := getN (b :: t) 3
      rcases usz_1234 (b.toNat : Int) with hu | hu | hu | hu
      · rw [bad1 hd (by omega) hu, hu]; rfl
      · obtain ⟨h1, h2⟩ := hlh (by omega)
        rw [hu]
        simp only [Lib.checkN]
        by_cases hc : (b :: t).length < 2 ∨ ((b :: t).getD 1 0).toNat < Lib.accLo (Lib.firstT b.toNat / 16) ∨ Lib.accHi (Lib.firstT b.toNat / 16) < ((b :: t).getD 1 0).toNat
        · rw [if_pos trivial, if_pos hc]
          exact bad2 hd (by omega) hu (by rw [hlen, g1]; omega)
        · rw [if_pos trivial, if_neg hc]
          rw [ok2 hd (by omega) hu (by rw [hlen]; omega) (by rw [g1]; omega) (by rw [g1]; omega)]
          exact ih 2 (by omega)
      · obtain ⟨h1, h2⟩ := hlh (by omega)
        rw [hu]
        simp only [Lib.checkN]
        rw [if_neg (by omega), if_pos trivial]
        by_cases hc : (b :: t).length < 3 ∨ ((b :: t).getD 1 0).toNat < Lib.accLo (Lib.firstT b.toNat / 16) ∨ Lib.accHi (Lib.firstT b.toNat / 16) < ((b :: t).getD 1 0).toNat ∨ ((b :: t).getD 2 0).toNat < 128 ∨ 191 < ((b :: t).getD 2 0).toNat
        · rw [if_pos hc]
          exact bad3 hd (by omega) hu (by rw [hlen, g1, g2]; omega)
        · rw [if_neg hc]
          rw [ok3 hd (by omega) hu (by rw [hlen]; omega) (by rw [g1]; omega) (by rw [g1]; omega) (by rw [g2]; omega) (by rw [g2]; omega)]
          exact ih 3 (by omega)
      · obtain ⟨h1, h2⟩ := hlh (by omega)
        rw [hu]
        simp only [Lib.checkN]
        rw [if_neg (by omega), if_neg (by omega), if_pos trivial]
        by_cases hc : (b :: t).length < 4 ∨ ((b :: t).getD 1 0).toNat < Lib.accLo (Lib.firstT b.toNat / 16) ∨ Lib.accHi (Lib.firstT b.toNat / 16) < ((b :: t).getD 1 0).toNat ∨ ((b :: t).getD 2 0).toNat < 128 ∨ 191 < ((b :: t).getD 2 0).toNat ∨ ((b :: t).getD 3 0).toNat < 128 ∨ 191 < ((b :: t).getD 3 0).toNat
        · rw [if_pos hc]
          exact bad4 hd (by omega) hu (by rw [hlen, g1, g2, g3]; omega)
        · rw [if_neg hc]
          rw [ok4 hd (by omega) hu (by rw [hlen]; omega) (by rw [g1]; omega) (by rw [g1]; omega) (by rw [g2]; omega) (by rw [g2]; omega) (by rw [g3]; omega) (by rw [g3]; omega)]
          exact ih 4 (by omega)
theorem vld_nums (s : ByteArray) : vld (nums s) = Lib.validD s.data.toList := vld_valid _ _ (Nat.le_refl _)
end Go.Proofs.YtiplalbicibahaaDoor.Nm
