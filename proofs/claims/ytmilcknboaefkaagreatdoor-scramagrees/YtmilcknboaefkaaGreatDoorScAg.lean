/- UTF-8 as a function on lists of bytes; Go's two tables. -/
import Derived.Test.YtmilcknboaefkaaGreatDoorBytes
import Derived.Test.YtmilcknboaefkaaGreatDoorExt
import Derived.Test.YtmilcknboaefkaaGreatDoorB6A
import Derived.Lib.ValidLaws
import Derived.Test.YtmilcknboaefkaaGreatDoorScLe
import Derived.Test.YtmilcknboaefkaaGreatDoorScCk
import Derived.Test.YtmilcknboaefkaaGreatDoorScI
namespace Go.Proofs.YtmilcknboaefkaaGreatDoor
open Go.RowKit

/-- How many bytes a rune with this first byte has (1: no first byte), and the bounds of the second. -/
def usz (c : Int) : Nat := if 194 ≤ c ∧ c ≤ 223 then 2 else if 224 ≤ c ∧ c ≤ 239 then 3 else if 240 ≤ c ∧ c ≤ 244 then 4 else 1
def ulo (c : Int) : Int := if c = 224 then 160 else if c = 240 then 144 else 128
def uhi (c : Int) : Int := if c = 237 then 159 else if c = 244 then 143 else 191
def oks (c p : Int) : Bool := decide (ulo c ≤ p) && decide (p ≤ uhi c)
def okc (p : Int) : Bool := decide (128 ≤ p) && decide (p ≤ 191)

def vldF : Nat → List Int → Bool
  | 0, _ => true
  | _ + 1, [] => true
  | n + 1, c :: r =>
    if c < 128 then vldF n r
    else if usz c = 2 then (if 1 ≤ r.length then oks c (r.getD 0 0) && vldF n (r.drop 1) else false)
    else if usz c = 3 then (if 2 ≤ r.length then oks c (r.getD 0 0) && okc (r.getD 1 0) && vldF n (r.drop 2) else false)
    else if usz c = 4 then (if 3 ≤ r.length then oks c (r.getD 0 0) && okc (r.getD 1 0) && okc (r.getD 2 0) && vldF n (r.drop 3) else false)
    else false
/-- More steps than bytes make no difference. -/
theorem vldF_eq : ∀ (n m : Nat) (l : List Int), l.length ≤ n → l.length ≤ m → vldF n l = vldF m l
  | 0, 0, _, _, _ => rfl
  | 0, _ + 1, [], _, _ => rfl
  | 0, _ + 1, _ :: _, h, _ => by simp at h
  | _ + 1, 0, [], _, _ => rfl
  | _ + 1, 0, _ :: _, _, h => by simp at h
  | _ + 1, _ + 1, [], _, _ => rfl
  | n + 1, m + 1, c :: r, h, h' => by
    have h1 : r.length ≤ n := by simp at h; exact h
    have h2 : r.length ≤ m := by simp at h'; exact h'
    have e : ∀ k, vldF n (r.drop k) = vldF m (r.drop k) := fun k => vldF_eq n m (r.drop k) (by rw [List.length_drop]; omega) (by rw [List.length_drop]; omega)
    have e0 := vldF_eq n m r h1 h2
    unfold vldF
    rw [e0, e 1, e 2, e 3]
def vld (l : List Int) : Bool := vldF l.length l
theorem vldF_vld {n : Nat} {l : List Int} (h : l.length ≤ n) : vldF n l = vld l := vldF_eq n l.length l h (Nat.le_refl _)
theorem vld_cons (c : Int) (r : List Int) : vld (c :: r) =
    if c < 128 then vld r
    else if usz c = 2 then (if 1 ≤ r.length then oks c (r.getD 0 0) && vld (r.drop 1) else false)
    else if usz c = 3 then (if 2 ≤ r.length then oks c (r.getD 0 0) && okc (r.getD 1 0) && vld (r.drop 2) else false)
    else if usz c = 4 then (if 3 ≤ r.length then oks c (r.getD 0 0) && okc (r.getD 1 0) && okc (r.getD 2 0) && vld (r.drop 3) else false)
    else false := by
  have e : ∀ k, vldF r.length (r.drop k) = vld (r.drop k) := fun k => vldF_vld (by rw [List.length_drop]; omega)
  show vldF (r.length + 1) (c :: r) = _
  unfold vldF
  rw [e 1, e 2, e 3]
  rfl

theorem vld_nil : vld [] = true := rfl
theorem vld_ascii {c : Int} {r : List Int} (h : c < 128) : vld (c :: r) = vld r := by rw [vld_cons, if_pos h]

/-- The first byte's entry in Go's table 'first'. -/
def fT (c : Nat) : Nat := if c < 128 then 240 else if c < 194 then 241 else if c < 224 then 2 else if c = 224 then 19 else if c = 237 then 35 else if c < 240 then 3 else if c = 240 then 52 else if c < 244 then 4 else if c = 244 then 68 else 241
def aLo (i : Nat) : Nat := if i = 1 then 160 else if i = 3 then 144 else if i < 5 then 128 else 0
def aHi (i : Nat) : Nat := if i = 2 then 159 else if i = 4 then 143 else if i < 5 then 191 else 0

theorem fT_2 (z : Int) (h : 194 ≤ z ∧ z ≤ 223) : fT z.toNat = 2 := by unfold fT; rw [if_neg (by omega), if_neg (by omega), if_pos (by omega)]
theorem fT_3a (z : Int) (h : z = 224) : fT z.toNat = 19 := by subst h; decide
theorem fT_3b (z : Int) (h : z = 237) : fT z.toNat = 35 := by subst h; decide
theorem fT_3 (z : Int) (h : 224 ≤ z ∧ z ≤ 239) (h1 : z ≠ 224) (h2 : z ≠ 237) : fT z.toNat = 3 := by unfold fT; rw [if_neg (by omega), if_neg (by omega), if_neg (by omega), if_neg (by omega), if_neg (by omega), if_pos (by omega)]
theorem fT_4a (z : Int) (h : z = 240) : fT z.toNat = 52 := by subst h; decide
theorem fT_4b (z : Int) (h : z = 244) : fT z.toNat = 68 := by subst h; decide
theorem fT_4 (z : Int) (h : 240 ≤ z ∧ z ≤ 244) (h1 : z ≠ 240) (h2 : z ≠ 244) : fT z.toNat = 4 := by unfold fT; rw [if_neg (by omega), if_neg (by omega), if_neg (by omega), if_neg (by omega), if_neg (by omega), if_neg (by omega), if_neg (by omega), if_pos (by omega)]
theorem fT_1 (z : Int) (h0 : ¬ z < 128) (h1 : z ≤ 255) (k2 : ¬ (194 ≤ z ∧ z ≤ 223)) (k3 : ¬ (224 ≤ z ∧ z ≤ 239)) (k4 : ¬ (240 ≤ z ∧ z ≤ 244)) : fT z.toNat = 241 := by
  unfold fT
  rw [if_neg (by omega)]
  by_cases g : z.toNat < 194
  · rw [if_pos g]
  · rw [if_neg g, if_neg (by omega), if_neg (by omega), if_neg (by omega), if_neg (by omega), if_neg (by omega), if_neg (by omega), if_neg (by omega)]

structure Tabs (w : World) : Prop where
  first : ∀ c : Nat, c < 256 → w.cell? ⟨1, c, none⟩ = some (.int .u8 (fT c))
  lo : ∀ i : Nat, i < 16 → w.cell? ⟨2, 2 * i, none⟩ = some (.int .u8 (aLo i))
  hi : ∀ i : Nat, i < 16 → w.cell? ⟨2, 2 * i + 1, none⟩ = some (.int .u8 (aHi i))

theorem Tabs.carry {w w' : World} (h : Tabs w) (k : Ext w w') : Tabs w' :=
  ⟨fun c hc => (Below.cell k (p := ⟨1, c, none⟩) (World.block_lt_of_cell? w _ (h.first c hc))).trans (h.first c hc),
   fun i hi => (Below.cell k (p := ⟨2, 2 * i, none⟩) (World.block_lt_of_cell? w _ (h.lo i hi))).trans (h.lo i hi),
   fun i hi => (Below.cell k (p := ⟨2, 2 * i + 1, none⟩) (World.block_lt_of_cell? w _ (h.hi i hi))).trans (h.hi i hi)⟩

theorem drop_vld {ys : List Int} : ∀ k, k ≤ ys.length → (∀ j, j < k → ys.getD j 0 < 128) → vld (ys.drop k) = vld ys
  | 0, _, _ => by simp
  | k + 1, hk, h => by
    have h1 := drop_vld k (by omega) (fun j hj => h j (by omega))
    rw [← h1, List.drop_eq_getElem_cons (show k < ys.length by omega)]
    have := h k (by omega)
    simp [List.getD, List.getElem?_eq_getElem (show k < ys.length by omega)] at this
    rw [vld_ascii this]

def slen : Value → Nat
  | .slice _ n _ => n
  | _ => 0

end Go.Proofs.YtmilcknboaefkaaGreatDoor

/- UTF-8: this proof's own word on it is the library's. -/
namespace Go.Proofs.YtmilcknboaefkaaGreatDoor
open Go.RowKit

theorem usz_1234 (z : Int) : usz z = 1 ∨ usz z = 2 ∨ usz z = 3 ∨ usz z = 4 := by
  unfold usz; split
  · simp
  · split
    · simp
    · split <;> simp
theorem dropD (c : Int) (r : List Int) (j : Nat) : (c :: r).getD (j + 1) 0 = r.getD j 0 := by simp [List.getD]

theorem bad1 {ys : List Int} {z : Int} (hd : ys = z :: ys.drop 1) (ha : ¬ z < 128) (hk : usz z = 1) : vld ys = false := by
  rw [hd, vld_cons, if_neg ha, if_neg (by omega), if_neg (by omega), if_neg (by omega)]
theorem bad2 {ys : List Int} {z : Int} (hd : ys = z :: ys.drop 1) (ha : ¬ z < 128) (hk : usz z = 2) (h : ys.length < 2 ∨ ys.getD 1 0 < ulo z ∨ uhi z < ys.getD 1 0) : vld ys = false := by
  have e1 : ys.getD 1 0 = (ys.drop 1).getD 0 0 := by conv => lhs; rw [hd, dropD]
  have e2 : ys.length = (ys.drop 1).length + 1 := congrArg List.length hd
  rw [e1, e2] at h
  rw [hd, vld_cons, if_neg ha, if_pos hk]
  generalize ys.drop 1 = r at *
  by_cases hl : 1 ≤ r.length
  · rw [if_pos hl]
    have : oks z (r.getD 0 0) = false := by
      cases q : oks z (r.getD 0 0) with
      | false => rfl
      | true => simp only [oks, Bool.and_eq_true, decide_eq_true_eq] at q; omega
    rw [this, Bool.false_and]
  · rw [if_neg hl]
theorem ok2 {ys : List Int} {z : Int} (hd : ys = z :: ys.drop 1) (ha : ¬ z < 128) (hk : usz z = 2) (h0 : 2 ≤ ys.length) (h1 : ulo z ≤ ys.getD 1 0) (h2 : ys.getD 1 0 ≤ uhi z) : vld ys = vld (ys.drop 2) := by
  have e1 : ys.getD 1 0 = (ys.drop 1).getD 0 0 := by conv => lhs; rw [hd, dropD]
  have e2 : ys.length = (ys.drop 1).length + 1 := congrArg List.length hd
  have e3 : ys.drop 2 = (ys.drop 1).drop 1 := by rw [List.drop_drop]
  rw [e1] at h1 h2
  rw [e2] at h0
  rw [e3]
  conv => lhs; rw [hd, vld_cons, if_neg ha, if_pos hk]
  generalize ys.drop 1 = r at *
  rw [if_pos (by omega)]
  have : oks z (r.getD 0 0) = true := by
    simp only [oks, Bool.and_eq_true, decide_eq_true_eq]; omega
  rw [this, Bool.true_and]
theorem bad3 {ys : List Int} {z : Int} (hd : ys = z :: ys.drop 1) (ha : ¬ z < 128) (hk : usz z = 3) (h : ys.length < 3 ∨ ys.getD 1 0 < ulo z ∨ uhi z < ys.getD 1 0 ∨ ys.getD 2 0 < 128 ∨ 191 < ys.getD 2 0) : vld ys = false := by
  have e1 : ys.getD 1 0 = (ys.drop 1).getD 0 0 := by conv => lhs; rw [hd, dropD]
  have e4 : ys.getD 2 0 = (ys.drop 1).getD 1 0 := by conv => lhs; rw [hd, dropD]
  have e2 : ys.length = (ys.drop 1).length + 1 := congrArg List.length hd
  rw [e1, e2, e4] at h
  rw [hd, vld_cons, if_neg ha, if_neg (by omega), if_pos hk]
  generalize ys.drop 1 = r at *
  by_cases hl : 2 ≤ r.length
  · rw [if_pos hl]
    have : (oks z (r.getD 0 0) && okc (r.getD 1 0)) = false := by
      cases q : oks z (r.getD 0 0) && okc (r.getD 1 0) with
      | false => rfl
      | true => simp only [oks, okc, Bool.and_eq_true, decide_eq_true_eq] at q; omega
    rw [this, Bool.false_and]
  · rw [if_neg hl]
theorem ok3 {ys : List Int} {z : Int} (hd : ys = z :: ys.drop 1) (ha : ¬ z < 128) (hk : usz z = 3) (h0 : 3 ≤ ys.length) (h1 : ulo z ≤ ys.getD 1 0) (h2 : ys.getD 1 0 ≤ uhi z) (h3 : 128 ≤ ys.getD 2 0) (h4 : ys.getD 2 0 ≤ 191) : vld ys = vld (ys.drop 3) := by
  have e1 : ys.getD 1 0 = (ys.drop 1).getD 0 0 := by conv => lhs; rw [hd, dropD]
  have e4 : ys.getD 2 0 = (ys.drop 1).getD 1 0 := by conv => lhs; rw [hd, dropD]
  have e2 : ys.length = (ys.drop 1).length + 1 := congrArg List.length hd
  have e3 : ys.drop 3 = (ys.drop 1).drop 2 := by rw [List.drop_drop]
  rw [e1] at h1 h2
  rw [e4] at h3 h4
  rw [e2] at h0
  rw [e3]
  conv => lhs; rw [hd, vld_cons, if_neg ha, if_neg (by omega), if_pos hk]
  generalize ys.drop 1 = r at *
  rw [if_pos (by omega)]
  have : (oks z (r.getD 0 0) && okc (r.getD 1 0)) = true := by
    simp only [oks, okc, Bool.and_eq_true, decide_eq_true_eq]; omega
  rw [this, Bool.true_and]
theorem bad4 {ys : List Int} {z : Int} (hd : ys = z :: ys.drop 1) (ha : ¬ z < 128) (hk : usz z = 4) (h : ys.length < 4 ∨ ys.getD 1 0 < ulo z ∨ uhi z < ys.getD 1 0 ∨ ys.getD 2 0 < 128 ∨ 191 < ys.getD 2 0 ∨ ys.getD 3 0 < 128 ∨ 191 < ys.getD 3 0) : vld ys = false := by
  have e1 : ys.getD 1 0 = (ys.drop 1).getD 0 0 := by conv => lhs; rw [hd, dropD]
  have e4 : ys.getD 2 0 = (ys.drop 1).getD 1 0 := by conv => lhs; rw [hd, dropD]
  have e5 : ys.getD 3 0 = (ys.drop 1).getD 2 0 := by conv => lhs; rw [hd, dropD]
  have e2 : ys.length = (ys.drop 1).length + 1 := congrArg List.length hd
  rw [e1, e2, e4, e5] at h
  rw [hd, vld_cons, if_neg ha, if_neg (by omega), if_neg (by omega), if_pos hk]
  generalize ys.drop 1 = r at *
  by_cases hl : 3 ≤ r.length
  · rw [if_pos hl]
    have : (oks z (r.getD 0 0) && okc (r.getD 1 0) && okc (r.getD 2 0)) = false := by
      cases q : oks z (r.getD 0 0) && okc (r.getD 1 0) && okc (r.getD 2 0) with
      | false => rfl
      | true => simp only [oks, okc, Bool.and_eq_true, decide_eq_true_eq] at q; omega
    rw [this, Bool.false_and]
  · rw [if_neg hl]
theorem ok4 {ys : List Int} {z : Int} (hd : ys = z :: ys.drop 1) (ha : ¬ z < 128) (hk : usz z = 4) (h0 : 4 ≤ ys.length) (h1 : ulo z ≤ ys.getD 1 0) (h2 : ys.getD 1 0 ≤ uhi z) (h3 : 128 ≤ ys.getD 2 0) (h4 : ys.getD 2 0 ≤ 191) (h5 : 128 ≤ ys.getD 3 0) (h6 : ys.getD 3 0 ≤ 191) : vld ys = vld (ys.drop 4) := by
  have e1 : ys.getD 1 0 = (ys.drop 1).getD 0 0 := by conv => lhs; rw [hd, dropD]
  have e4 : ys.getD 2 0 = (ys.drop 1).getD 1 0 := by conv => lhs; rw [hd, dropD]
  have e5 : ys.getD 3 0 = (ys.drop 1).getD 2 0 := by conv => lhs; rw [hd, dropD]
  have e2 : ys.length = (ys.drop 1).length + 1 := congrArg List.length hd
  have e3 : ys.drop 4 = (ys.drop 1).drop 3 := by rw [List.drop_drop]
  rw [e1] at h1 h2
  rw [e4] at h3 h4
  rw [e5] at h5 h6
  rw [e2] at h0
  rw [e3]
  conv => lhs; rw [hd, vld_cons, if_neg ha, if_neg (by omega), if_neg (by omega), if_pos hk]
  generalize ys.drop 1 = r at *
  rw [if_pos (by omega)]
  have : (oks z (r.getD 0 0) && okc (r.getD 1 0) && okc (r.getD 2 0)) = true := by
    simp only [oks, okc, Bool.and_eq_true, decide_eq_true_eq]; omega
  rw [this, Bool.true_and]

theorem tab_eq : ∀ c : Nat, c < 256 → 128 ≤ c → Lib.firstT c % 8 = usz (c : Int) ∧ (usz (c : Int) ≠ 1 → ((Lib.accLo (Lib.firstT c / 16) : Nat) : Int) = ulo (c : Int) ∧ ((Lib.accHi (Lib.firstT c / 16) : Nat) : Int) = uhi (c : Int)) := by decide +kernel

theorem getN (l : List UInt8) (j : Nat) : (l.map fun b => (b.toNat : Int)).getD j 0 = ((l.getD j 0).toNat : Int) := by
  rw [List.getD, List.getElem?_map, List.getD]
  cases l[j]? <;> simp

theorem vld_valid : ∀ (n : Nat) (l : List UInt8), l.length ≤ n → vld (l.map fun b => (b.toNat : Int)) = Lib.validD l
  | _, [], _ => by rw [List.map_nil, vld_nil, Lib.validD_nil]
  | 0, b :: t, h => by simp at h
  | n + 1, b :: t, h => by
    have hb := b.toNat_lt
    by_cases ha : b.toNat < 128
    · rw [List.map_cons, vld_ascii (by omega), Lib.validD_cons b t ha]
      exact vld_valid n t (by simp at h; omega)
    · rw [Lib.validD_lead (b :: t) (by simp) (by simp; omega)]
      have e0 : (b :: t).getD 0 0 = b := rfl
      rw [e0]
      obtain ⟨hsz, hlh⟩ := tab_eq b.toNat hb (by omega)
      rw [hsz]
      have hd : ((b :: t).map fun b => (b.toNat : Int)) = (b.toNat : Int) :: ((b :: t).map fun b => (b.toNat : Int)).drop 1 := rfl
      have hlen : ((b :: t).map fun b => (b.toNat : Int)).length = (b :: t).length := by simp
      have hdr : ∀ k, ((b :: t).map fun b => (b.toNat : Int)).drop k = ((b :: t).drop k).map fun b => (b.toNat : Int) := fun k => by rw [List.map_drop]
      have ih : ∀ k, 1 ≤ k → vld (((b :: t).map fun b => (b.toNat : Int)).drop k) = Lib.validD ((b :: t).drop k) := fun k hk => by
        rw [hdr]; exact vld_valid n _ (by rw [List.length_drop]; simp at h ⊢; omega)
      have g1 := getN (b :: t) 1
      have g2 := getN (b :: t) 2
      have g3 := getN (b :: t) 3
      rcases usz_1234 (b.toNat : Int) with hu | hu | hu | hu
      · rw [bad1 hd (by omega) hu, hu]; rfl
      · obtain ⟨h1, h2⟩ := hlh (by omega)
        rw [hu]
        simp only [Lib.checkN]
        by_cases hc : (b :: t).length < 2 ∨ ((b :: t).getD 1 0).toNat < Lib.accLo (Lib.firstT b.toNat / 16) ∨ Lib.accHi (Lib.firstT b.toNat / 16) < ((b :: t).getD 1 0).toNat
        · rw [if_pos trivial, if_pos hc]
          exact bad2 hd (by omega) hu (by rw [hlen, g1]; omega)
        · rw [if_pos trivial, if_neg hc]
          rw [ok2 hd (by omega) hu (by rw [hlen]; omega) (by rw [g1]; omega) (by rw [g1]; omega)]
          exact ih 2 (by omega)
      · obtain ⟨h1, h2⟩ := hlh (by omega)
        rw [hu]
        simp only [Lib.checkN]
        rw [if_neg (by omega), if_pos trivial]
        by_cases hc : (b :: t).length < 3 ∨ ((b :: t).getD 1 0).toNat < Lib.accLo (Lib.firstT b.toNat / 16) ∨ Lib.accHi (Lib.firstT b.toNat / 16) < ((b :: t).getD 1 0).toNat ∨ ((b :: t).getD 2 0).toNat < 128 ∨ 191 < ((b :: t).getD 2 0).toNat
        · rw [if_pos hc]
          exact bad3 hd (by omega) hu (by rw [hlen, g1, g2]; omega)
        · rw [if_neg hc]
          rw [ok3 hd (by omega) hu (by rw [hlen]; omega) (by rw [g1]; omega) (by rw [g1]; omega) (by rw [g2]; omega) (by rw [g2]; omega)]
          exact ih 3 (by omega)
      · obtain ⟨h1, h2⟩ := hlh (by omega)
        rw [hu]
        simp only [Lib.checkN]
        rw [if_neg (by omega), if_neg (by omega), if_pos trivial]
        by_cases hc : (b :: t).length < 4 ∨ ((b :: t).getD 1 0).toNat < Lib.accLo (Lib.firstT b.toNat / 16) ∨ Lib.accHi (Lib.firstT b.toNat / 16) < ((b :: t).getD 1 0).toNat ∨ ((b :: t).getD 2 0).toNat < 128 ∨ 191 < ((b :: t).getD 2 0).toNat ∨ ((b :: t).getD 3 0).toNat < 128 ∨ 191 < ((b :: t).getD 3 0).toNat
        · rw [if_pos hc]
          exact bad4 hd (by omega) hu (by rw [hlen, g1, g2, g3]; omega)
        · rw [if_neg hc]
          rw [ok4 hd (by omega) hu (by rw [hlen]; omega) (by rw [g1]; omega) (by rw [g1]; omega) (by rw [g2]; omega) (by rw [g2]; omega) (by rw [g3]; omega) (by rw [g3]; omega)]
          exact ih 4 (by omega)
theorem vld_nums (s : ByteArray) : vld (nums s) = Lib.validD s.data.toList := vld_valid _ _ (Nat.le_refl _)

end Go.Proofs.YtmilcknboaefkaaGreatDoor

/- scram.Prove. -/
namespace Go.Proofs.YtmilcknboaefkaaGreatDoor
open Go.RowKit Go.Shelf

def bareT (H n : Tx) : Tx := [99, 61] ++ tx (enc (il H)) ++ [44, 114, 61] ++ n
def finT (H n : Tx) (pf : List Int) : Tx := bareT H n ++ [44, 112, 61] ++ tx (enc pf)
theorem bytes_runH (H : Tx) (w : World) (h : H.length ≤ 100000) : ∃ c w', (convert 9 22 (.string ⟨H.toArray⟩)).run Tryz.prog w = .ok (.slice (some ⟨w.heap.size, 0, none⟩) H.length c) w' ∧ Rd w' (some ⟨w.heap.size, 0, none⟩) H.length c (il H) ∧ Below w.heap.size w w' := bytes_big H w (by omega)
theorem rd_rowA {w : World} {g : Nat} {X : List Int} (h : Ar w g 27 .u8 X) (hl : X.length = 32) (hb : Bd X) : Rd w (some ⟨g, 0, none⟩) 32 32 X := by
  have := rd_row h hb (by rw [hl]; unfold maxLen; omega)
  rw [hl] at this
  exact this

set_option maxHeartbeats 4000000 in
set_option maxRecDepth 100000 in
theorem prove_no2 (P H U F B C : Tx) (Q : QP) (w : World) (hC : C.length ≤ 1000000) (hM : Mx w) (hEr : Er w) (hP : Pw w) (hq : questE C = (Q, 2)) :
    Calls Tryz.prog 15 #[.string ⟨P.toArray⟩, .agg (fcells ⟨H, U, F, B⟩), .string ⟨C.toArray⟩] w fun e w' => e = .returned (.tuple #[.string ⟨#[]⟩, .int .i64 2]) ∧ Below w.heap.size w w' := by
  have hmf : ∀ (fn : Fn) (first cap : Array Value) (w : World), (Instr.makeFunc fn first cap).run Tryz.prog w = .ok (.func fn first cap) w := fun _ _ _ _ => rfl
  have hgE := hEr.lt
  have hb1 : Below w.heap.size w (w.alloc (.cells #[.string ⟨H.toArray⟩, .string ⟨U.toArray⟩, .string ⟨F.toArray⟩, .string ⟨B.toArray⟩] 35)) := (Below.refl _ _).alloc (Nat.le_refl _) _
  have hF1 : FAt (w.alloc (.cells #[.string ⟨H.toArray⟩, .string ⟨U.toArray⟩, .string ⟨F.toArray⟩, .string ⟨B.toArray⟩] 35)) w.heap.size (.string ⟨H.toArray⟩) (.string ⟨U.toArray⟩) (.string ⟨F.toArray⟩) (.string ⟨B.toArray⟩) := heap_alloc_new w _
  have hz1 : (w.alloc (.cells #[.string ⟨H.toArray⟩, .string ⟨U.toArray⟩, .string ⟨F.toArray⟩, .string ⟨B.toArray⟩] 35)).heap.size = w.heap.size + 1 := by simp
  unfold fcells
  dsimp only
  go_enter Tryz.func15, Tryz.ntmps15
  go_upto_region 2 with fail
  generalize hW1 : w.alloc (.cells #[.string ⟨H.toArray⟩, .string ⟨U.toArray⟩, .string ⟨F.toArray⟩, .string ⟨B.toArray⟩] 35) = W1 at hb1 hF1 hz1 ⊢
  clear hW1
  have hb2 : Below w.heap.size w (W1.alloc (.cells #[.string ⟨C.toArray⟩] 70)) := hb1.alloc (by omega) _
  have hz2 : (W1.alloc (.cells #[.string ⟨C.toArray⟩] 70)).heap.size = w.heap.size + 2 := by simp [hz1]
  have hF2 : FAt (W1.alloc (.cells #[.string ⟨C.toArray⟩] 70)) w.heap.size (.string ⟨H.toArray⟩) (.string ⟨U.toArray⟩) (.string ⟨F.toArray⟩) (.string ⟨B.toArray⟩) := hF1.below ((Below.refl _ _).alloc (Nat.le_refl _) _)
  have hr2 : RAt (W1.alloc (.cells #[.string ⟨C.toArray⟩] 70)) (w.heap.size + 1) C := by
    have := heap_alloc_new W1 (.cells #[.string ⟨C.toArray⟩] 70)
    rw [hz1] at this
    exact this
  have cB := begunQ_any 37 (w.heap.size + 1) (questE C) (W1.alloc (.cells #[.string ⟨C.toArray⟩] 70)) (enters_of Tryz.func37 (by kernel_rfl) rfl) (questE_cases C) (by omega)
    (fun W hbW => rquestion_any (w.heap.size + 1) C W (hr2.below hbW) hC ((hM.below hb2).below hbW) ((hEr.below hb2).below hbW) ((hP.below hb2).below hbW) (by omega))
  generalize W1.alloc (.cells #[.string ⟨C.toArray⟩] 70) = W2 at hb2 hz2 hF2 hr2 cB ⊢
  rw [hq] at cB
  unfold ToldQ qcells at cB
  dsimp only at cB
  clear hM hr2 hF1 hb1 hz1 hEr hP hgE hq
  have hn1 : ¬ w.heap.size = w.heap.size + 1 := by omega
  go_wp2_with (go_at_call 36; refine cB.mono ?_; rintro e w3 ⟨⟨v, rfl, hnew⟩, hk⟩; obtain ⟨va, vc, rfl, R3⟩ := hnew.rd)
  have hb3 : Below w.heap.size w w3 := ((Keep.ofBelow (S := fun _ => False) hb2).andThen hk (fun i hi h => by omega)).below (Nat.le_refl _) (fun k h => h.elim)
  go_ret2
  exact ⟨rfl, hb3.alloc hb3.size _⟩

set_option maxHeartbeats 4000000 in
set_option maxRecDepth 100000 in
theorem prove_no3 (P H U F B C : Tx) (Q : QP) (w : World) (hC : C.length ≤ 1000000) (hM : Mx w) (hEr : Er w) (hP : Pw w) (hq : questE C = (Q, 0))
    (cK : ∀ (u : World) (a : Option Addr) (n c : Nat), Calls Tryz.prog 26 #[.string ⟨P.toArray⟩, .slice a n c, .int .i64 (Q.n : Int)] u fun e w' => e = .returned (.tuple #[.agg (ic .u8 (List.replicate 32 0)).toArray, .agg (ic .u8 (List.replicate 32 0)).toArray, .int .i64 3]) ∧ Below u.heap.size u w') :
    Calls Tryz.prog 15 #[.string ⟨P.toArray⟩, .agg (fcells ⟨H, U, F, B⟩), .string ⟨C.toArray⟩] w fun e w' => e = .returned (.tuple #[.string ⟨#[]⟩, .int .i64 3]) ∧ Below w.heap.size w w' := by
  have hmf : ∀ (fn : Fn) (first cap : Array Value) (w : World), (Instr.makeFunc fn first cap).run Tryz.prog w = .ok (.func fn first cap) w := fun _ _ _ _ => rfl
  have hgE := hEr.lt
  have hb1 : Below w.heap.size w (w.alloc (.cells #[.string ⟨H.toArray⟩, .string ⟨U.toArray⟩, .string ⟨F.toArray⟩, .string ⟨B.toArray⟩] 35)) := (Below.refl _ _).alloc (Nat.le_refl _) _
  have hF1 : FAt (w.alloc (.cells #[.string ⟨H.toArray⟩, .string ⟨U.toArray⟩, .string ⟨F.toArray⟩, .string ⟨B.toArray⟩] 35)) w.heap.size (.string ⟨H.toArray⟩) (.string ⟨U.toArray⟩) (.string ⟨F.toArray⟩) (.string ⟨B.toArray⟩) := heap_alloc_new w _
  have hz1 : (w.alloc (.cells #[.string ⟨H.toArray⟩, .string ⟨U.toArray⟩, .string ⟨F.toArray⟩, .string ⟨B.toArray⟩] 35)).heap.size = w.heap.size + 1 := by simp
  unfold fcells
  dsimp only
  go_enter Tryz.func15, Tryz.ntmps15
  go_upto_region 2 with fail
  generalize hW1 : w.alloc (.cells #[.string ⟨H.toArray⟩, .string ⟨U.toArray⟩, .string ⟨F.toArray⟩, .string ⟨B.toArray⟩] 35) = W1 at hb1 hF1 hz1 ⊢
  clear hW1
  have hb2 : Below w.heap.size w (W1.alloc (.cells #[.string ⟨C.toArray⟩] 70)) := hb1.alloc (by omega) _
  have hz2 : (W1.alloc (.cells #[.string ⟨C.toArray⟩] 70)).heap.size = w.heap.size + 2 := by simp [hz1]
  have hF2 : FAt (W1.alloc (.cells #[.string ⟨C.toArray⟩] 70)) w.heap.size (.string ⟨H.toArray⟩) (.string ⟨U.toArray⟩) (.string ⟨F.toArray⟩) (.string ⟨B.toArray⟩) := hF1.below ((Below.refl _ _).alloc (Nat.le_refl _) _)
  have hr2 : RAt (W1.alloc (.cells #[.string ⟨C.toArray⟩] 70)) (w.heap.size + 1) C := by
    have := heap_alloc_new W1 (.cells #[.string ⟨C.toArray⟩] 70)
    rw [hz1] at this
    exact this
  have cB := begunQ_any 37 (w.heap.size + 1) (questE C) (W1.alloc (.cells #[.string ⟨C.toArray⟩] 70)) (enters_of Tryz.func37 (by kernel_rfl) rfl) (questE_cases C) (by omega)
    (fun W hbW => rquestion_any (w.heap.size + 1) C W (hr2.below hbW) hC ((hM.below hb2).below hbW) ((hEr.below hb2).below hbW) ((hP.below hb2).below hbW) (by omega))
  generalize W1.alloc (.cells #[.string ⟨C.toArray⟩] 70) = W2 at hb2 hz2 hF2 hr2 cB ⊢
  rw [hq] at cB
  unfold ToldQ qcells at cB
  dsimp only at cB
  clear hM hr2 hF1 hb1 hz1 hEr hP hgE hq
  have hn1 : ¬ w.heap.size = w.heap.size + 1 := by omega
  go_upto_region 5 with (go_at_call 36; refine cB.mono ?_; rintro e w3 ⟨⟨v, rfl, hnew⟩, hk⟩; obtain ⟨va, vc, rfl, R3⟩ := hnew.rd)
  have hb3 : Below w.heap.size w w3 := ((Keep.ofBelow (S := fun _ => False) hb2).andThen hk (fun i hi h => by omega)).below (Nat.le_refl _) (fun k h => h.elim)
  have hF3 := hF2.keep hk hn1
  have hQ4 : QAt (w3.alloc (.cells #[.string ⟨Q.no.toArray⟩, .slice va Q.sa.length vc, .int .i64 (Q.n : Int)] 72)) w3.heap.size (.string ⟨Q.no.toArray⟩) (.slice va Q.sa.length vc) (.int .i64 (Q.n : Int)) := heap_alloc_new w3 _
  have b34 : Below w3.heap.size w3 (w3.alloc (.cells #[.string ⟨Q.no.toArray⟩, .slice va Q.sa.length vc, .int .i64 (Q.n : Int)] 72)) := (Below.refl _ _).alloc (Nat.le_refl _) _
  have R4 := R3.carry (Nat.le_refl _) b34
  have hF4 := hF3.below b34
  have b4 := hb3.trans (b34.mono hb3.size)
  obtain ⟨g9, Hg9⟩ : ∃ g, Hid (w3.heap.size = g) := ⟨_, rfl⟩
  rw [Hg9.out] at hQ4 ⊢
  obtain ⟨g4, Hg4⟩ : ∃ g, Hid (w.heap.size = g) := ⟨_, rfl⟩
  have hF4' : FAt (w3.alloc (.cells #[.string ⟨Q.no.toArray⟩, .slice va Q.sa.length vc, .int .i64 (Q.n : Int)] 72)) g4 (.string ⟨H.toArray⟩) (.string ⟨U.toArray⟩) (.string ⟨F.toArray⟩) (.string ⟨B.toArray⟩) := by rw [← Hg4.out]; exact hF4
  generalize w3.alloc (.cells #[.string ⟨Q.no.toArray⟩, .slice va Q.sa.length vc, .int .i64 (Q.n : Int)] 72) = w4 at hQ4 R4 hF4 hF4' b4 ⊢
  have q1 := hQ4.c1
  have q2 := hQ4.c2
  clear b34 hF3 R3 hnew hk hb3 hb2 hF2 cB hz2 hn1 hF4 Hg9
  have tk1 : True := trivial
  have tk2 : True := trivial
  have hi23 := (size_of Tryz.u23).2
  obtain ⟨ZZ, HZZ⟩ : ∃ Z : List Int, Hid (List.replicate 32 0 = Z) := ⟨_, rfl⟩
  have hZl : ZZ.length = 32 := by rw [← HZZ.out]; rfl
  rw [HZZ.out] at cK
  go_wp2_with (first
    | (go_at_call 26; refine (cK _ _ _ _).mono ?_; rintro e w5 ⟨rfl, hb5⟩; have b5 := b4.trans (hb5.mono b4.size))
    | (clear tk1; refine wp_alloc_ar rfl 27 rfl .u8 (List.replicate 32 0) 32 Tryz.z23 ?_; intro g11 w6 A11 hg11 hb6; have b6 := b5.trans (hb6.mono b5.size))
    | (clear tk2; refine wp_alloc_ar rfl 27 rfl .u8 (List.replicate 32 0) 32 Tryz.z23 ?_; intro g12 w7 A12 hg12 hb7; have b7 := b6.trans (hb7.mono b6.size); have A11' := A11.below hb7 A11.lt; have l11 := A11.lt)
    | (refine wp_store_ar rfl 27 (.tmp 11) (.tmp 32) rfl g11 rfl .u8 ZZ rfl 27 _ A11' (by rw [hZl]; rfl) (by rw [hZl]; exact hi23) ?_; intro w8 B11 hk8 hs8; clear hs8; have A12' := A12.keep hk8 (by omega); have b8 : Below w.heap.size w w8 := b7.trans (hk8.below b7.size (fun q hq => by have := b5.size; omega)))
    | (refine wp_store_ar rfl 27 (.tmp 12) (.tmp 33) rfl g12 rfl .u8 ZZ rfl 27 _ A12' (by rw [hZl]; rfl) (by rw [hZl]; exact hi23) ?_; intro w9 B12 hk9 hs9; clear hs9; have b9 : Below w.heap.size w w9 := b8.trans (hk9.below b8.size (fun q hq => by have := b6.size; omega))))
  go_ret2
  exact ⟨rfl, b9⟩

set_option maxHeartbeats 4000000 in
set_option maxRecDepth 100000 in
theorem prove_walk (P H U F B C : Tx) (Q : QP) (w : World) (hC : C.length ≤ 1000000) (hM : Mx w) (hEr : Er w) (hP : Pw w) (hK : Kt w) (hq : questE C = (Q, 0)) (CK SV ST Z X : List Int) (HE EX BR : Tx) (hCl : CK.length = 32) (hCb : Bd CK) (hSl : SV.length = 32) (hXl : X.length = 32) (hXb : Bd X) (hHE : HE.length ≤ 1000000) (hno : Q.no.length ≤ 1000000) (hHl : H.length ≤ 100000) (hEX : EX.length ≤ 1000000) (hBR : [99, 61] ++ HE ++ [44, 114, 61] ++ Q.no = BR)
    (cK : ∀ (u : World) (a : Option Addr) (n c : Nat), Rd u a n c Q.sa → Kt u → Calls Tryz.prog 26 #[.string ⟨P.toArray⟩, .slice a n c, .int .i64 (Q.n : Int)] u fun e w' => e = .returned (.tuple #[.agg (ic .u8 CK).toArray, .agg (ic .u8 SV).toArray, .int .i64 0]) ∧ Below u.heap.size u w')
    (cSha : ∀ (u : World) (g : Nat), Rd u (some ⟨g, 0, none⟩) 32 32 CK → Kt u → Calls Tryz.prog 25 #[.slice (some ⟨g, 0, none⟩) 32 32] u fun e w' => e = .returned (.agg (ic .u8 ST).toArray) ∧ Below u.heap.size u w')
    (cS : ∀ u : World, Kt u → Calls Tryz.prog 38 #[.agg (ic .u8 ST).toArray, .agg (fcells ⟨H, U, F, B⟩), .string ⟨C.toArray⟩, .string ⟨BR.toArray⟩] u fun e w' => e = .returned (.agg (ic .u8 Z).toArray) ∧ Below u.heap.size u w')
    (cX : ∀ u : World, Calls Tryz.prog 24 #[.agg (ic .u8 CK).toArray, .agg (ic .u8 Z).toArray] u fun e w' => e = .returned (.agg (ic .u8 X).toArray) ∧ Below u.heap.size u w')
    (cE1 : ∀ (u : World) (a : Option Addr) (c : Nat), Rd u a H.length c (il H) → Calls Tryz.prog 23 #[.slice a H.length c] u fun e w' => e = .returned (.string ⟨HE.toArray⟩) ∧ Below u.heap.size u w')
    (cE2 : ∀ (u : World) (g : Nat), Rd u (some ⟨g, 0, none⟩) 32 32 X → Calls Tryz.prog 23 #[.slice (some ⟨g, 0, none⟩) 32 32] u fun e w' => e = .returned (.string ⟨EX.toArray⟩) ∧ Below u.heap.size u w') :
    Calls Tryz.prog 15 #[.string ⟨P.toArray⟩, .agg (fcells ⟨H, U, F, B⟩), .string ⟨C.toArray⟩] w fun e w' => e = .returned (.tuple #[.string ⟨(BR ++ [44, 112, 61] ++ EX).toArray⟩, .int .i64 0]) ∧ Below w.heap.size w w' := by
  have hmf : ∀ (fn : Fn) (first cap : Array Value) (w : World), (Instr.makeFunc fn first cap).run Tryz.prog w = .ok (.func fn first cap) w := fun _ _ _ _ => rfl
  have hgE := hEr.lt
  have hb1 : Below w.heap.size w (w.alloc (.cells #[.string ⟨H.toArray⟩, .string ⟨U.toArray⟩, .string ⟨F.toArray⟩, .string ⟨B.toArray⟩] 35)) := (Below.refl _ _).alloc (Nat.le_refl _) _
  have hF1 : FAt (w.alloc (.cells #[.string ⟨H.toArray⟩, .string ⟨U.toArray⟩, .string ⟨F.toArray⟩, .string ⟨B.toArray⟩] 35)) w.heap.size (.string ⟨H.toArray⟩) (.string ⟨U.toArray⟩) (.string ⟨F.toArray⟩) (.string ⟨B.toArray⟩) := heap_alloc_new w _
  have hz1 : (w.alloc (.cells #[.string ⟨H.toArray⟩, .string ⟨U.toArray⟩, .string ⟨F.toArray⟩, .string ⟨B.toArray⟩] 35)).heap.size = w.heap.size + 1 := by simp
  unfold fcells
  dsimp only
  go_enter Tryz.func15, Tryz.ntmps15
  go_upto_region 2 with fail
  generalize hW1 : w.alloc (.cells #[.string ⟨H.toArray⟩, .string ⟨U.toArray⟩, .string ⟨F.toArray⟩, .string ⟨B.toArray⟩] 35) = W1 at hb1 hF1 hz1 ⊢
  clear hW1
  have hb2 : Below w.heap.size w (W1.alloc (.cells #[.string ⟨C.toArray⟩] 70)) := hb1.alloc (by omega) _
  have hz2 : (W1.alloc (.cells #[.string ⟨C.toArray⟩] 70)).heap.size = w.heap.size + 2 := by simp [hz1]
  have hF2 : FAt (W1.alloc (.cells #[.string ⟨C.toArray⟩] 70)) w.heap.size (.string ⟨H.toArray⟩) (.string ⟨U.toArray⟩) (.string ⟨F.toArray⟩) (.string ⟨B.toArray⟩) := hF1.below ((Below.refl _ _).alloc (Nat.le_refl _) _)
  have hr2 : RAt (W1.alloc (.cells #[.string ⟨C.toArray⟩] 70)) (w.heap.size + 1) C := by
    have := heap_alloc_new W1 (.cells #[.string ⟨C.toArray⟩] 70)
    rw [hz1] at this
    exact this
  have cB := begunQ_any 37 (w.heap.size + 1) (questE C) (W1.alloc (.cells #[.string ⟨C.toArray⟩] 70)) (enters_of Tryz.func37 (by kernel_rfl) rfl) (questE_cases C) (by omega)
    (fun W hbW => rquestion_any (w.heap.size + 1) C W (hr2.below hbW) hC ((hM.below hb2).below hbW) ((hEr.below hb2).below hbW) ((hP.below hb2).below hbW) (by omega))
  generalize W1.alloc (.cells #[.string ⟨C.toArray⟩] 70) = W2 at hb2 hz2 hF2 hr2 cB ⊢
  rw [hq] at cB
  unfold ToldQ qcells at cB
  dsimp only at cB
  clear hM hr2 hF1 hb1 hz1 hEr hP hgE hq
  have hn1 : ¬ w.heap.size = w.heap.size + 1 := by omega
  go_upto_region 5 with (go_at_call 36; refine cB.mono ?_; rintro e w3 ⟨⟨v, rfl, hnew⟩, hk⟩; obtain ⟨va, vc, rfl, R3⟩ := hnew.rd)
  have hb3 : Below w.heap.size w w3 := ((Keep.ofBelow (S := fun _ => False) hb2).andThen hk (fun i hi h => by omega)).below (Nat.le_refl _) (fun k h => h.elim)
  have hF3 := hF2.keep hk hn1
  have hQ4 : QAt (w3.alloc (.cells #[.string ⟨Q.no.toArray⟩, .slice va Q.sa.length vc, .int .i64 (Q.n : Int)] 72)) w3.heap.size (.string ⟨Q.no.toArray⟩) (.slice va Q.sa.length vc) (.int .i64 (Q.n : Int)) := heap_alloc_new w3 _
  have b34 : Below w3.heap.size w3 (w3.alloc (.cells #[.string ⟨Q.no.toArray⟩, .slice va Q.sa.length vc, .int .i64 (Q.n : Int)] 72)) := (Below.refl _ _).alloc (Nat.le_refl _) _
  have R4 := R3.carry (Nat.le_refl _) b34
  have hF4 := hF3.below b34
  have b4 := hb3.trans (b34.mono hb3.size)
  obtain ⟨g9, Hg9⟩ : ∃ g, Hid (w3.heap.size = g) := ⟨_, rfl⟩
  rw [Hg9.out] at hQ4 ⊢
  obtain ⟨g4, Hg4⟩ : ∃ g, Hid (w.heap.size = g) := ⟨_, rfl⟩
  have hF4' : FAt (w3.alloc (.cells #[.string ⟨Q.no.toArray⟩, .slice va Q.sa.length vc, .int .i64 (Q.n : Int)] 72)) g4 (.string ⟨H.toArray⟩) (.string ⟨U.toArray⟩) (.string ⟨F.toArray⟩) (.string ⟨B.toArray⟩) := by rw [← Hg4.out]; exact hF4
  generalize w3.alloc (.cells #[.string ⟨Q.no.toArray⟩, .slice va Q.sa.length vc, .int .i64 (Q.n : Int)] 72) = w4 at hQ4 R4 hF4 hF4' b4 ⊢
  have q1 := hQ4.c1
  have q2 := hQ4.c2
  clear b34 hF3 R3 hnew hk hb3 hb2 hF2 cB hz2 hn1 hF4 Hg9
  have tk1 : True := trivial
  have tk2 : True := trivial
  have hi23 := (size_of Tryz.u23).2
  have hi35 : (Tryz.prog.info? 35).map (·.size) = some 4 := by kernel_rfl
  have hK4 := hK.below (Nat.le_refl _) b4
  have hgw : w.heap.size ≤ g4 := Nat.le_of_eq Hg4.out
  go_upto_region 8 with (first
    | (go_at_call 26; refine (cK _ _ _ _ R4 hK4).mono ?_; rintro e w5 ⟨rfl, hb5⟩; have b5 := b4.trans (hb5.mono b4.size))
    | (clear tk1; refine wp_alloc_ar rfl 27 rfl .u8 (List.replicate 32 0) 32 Tryz.z23 ?_; intro g11 w6 A11 hg11 hb6; have b6 := b5.trans (hb6.mono b5.size))
    | (clear tk2; refine wp_alloc_ar rfl 27 rfl .u8 (List.replicate 32 0) 32 Tryz.z23 ?_; intro g12 w7 A12 hg12 hb7; have b7 := b6.trans (hb7.mono b6.size); have A11' := A11.below hb7 A11.lt; have l11 := A11.lt)
    | (refine wp_store_ar rfl 27 (.tmp 11) (.tmp 32) rfl g11 rfl .u8 CK rfl 27 _ A11' (by rw [hCl]; rfl) (by rw [hCl]; exact hi23) ?_; intro w8 B11 hk8 hs8; clear hs8; have A12' := A12.keep hk8 (by omega); have b8 : Below w.heap.size w w8 := b7.trans (hk8.below b7.size (fun q hq => by have := b5.size; omega)))
    | (refine wp_store_ar rfl 27 (.tmp 12) (.tmp 33) rfl g12 rfl .u8 SV rfl 27 _ A12' (by rw [hSl]; rfl) (by rw [hSl]; exact hi23) ?_; intro w9 B12 hk9 hs9; clear hs9; have b9 : Below w.heap.size w w9 := b8.trans (hk9.below b8.size (fun q hq => by have := b6.size; omega))))
  have lq := hQ4.lt
  have lf := hF4'.lt
  have s5 := hb5.size
  have s6 := hb6.size
  have hQ9 := ((((hQ4.below hb5).below hb6).below hb7).keep hk8 (by omega)).keep hk9 (by omega)
  have hF9 := ((((hF4'.below hb5).below hb6).below hb7).keep hk8 (by omega)).keep hk9 (by omega)
  have B119 := B11.keep hk9 (by omega)
  have hQ9' : QAt w9.drew g9 (.string ⟨Q.no.toArray⟩) (.slice va Q.sa.length vc) (.int .i64 (Q.n : Int)) := hQ9
  have hF9' : FAt w9.drew g4 (.string ⟨H.toArray⟩) (.string ⟨U.toArray⟩) (.string ⟨F.toArray⟩) (.string ⟨B.toArray⟩) := hF9
  have B119' : Ar w9.drew g11 27 .u8 CK := B119
  have e9 : Below w.heap.size w w9.drew := b9.drew
  clear hQ4 hF4' A11 A11' A12 A12' B11 B12 hb5 hb6 hb7 hk8 hk9 b4 b5 b6 b7 b8 q1 q2 R4 hK4 hQ9 hF9 B119 hg11 hg12 l11 lq lf s5 s6 cK
  rw [Hg4.out]
  refine wp_region_lx (fun w' => Below w9.drew.heap.size w9.drew w') [] 10 (by kernel_rfl) (by kernel_rfl) ?_
  obtain ⟨W, HW⟩ : ∃ W, Hid (w9.drew = W) := ⟨_, rfl⟩
  rw [HW.out] at hQ9' hF9' B119' e9 ⊢
  clear b9
  have HS0 : Below W.heap.size W W := Below.refl _ _
  refine lx_rd 0 (.pointer (some ⟨g4, 0, none⟩)) (by kernel_rfl) (fun _ _ d _ _ h => by cases d <;> exact h) (by kernel_rfl) HS0 rfl rfl rfl (fun w' hS => ?hA0) ?_
  case hA0 => first | (go_simp; rfl) | (go_simp; done) | (go_simp; exact idx_ok (by omega) (by omega)) | (go_simp; exact wi64' (by omega) (by omega) (by omega)) | (go_simp; intro hh; exfalso; omega)
  simp only [List.setIfInBounds_toArray, List.set_cons_zero, List.set_cons_succ]
  refine lx_rd 1 (.string ⟨H.toArray⟩) (by kernel_rfl) (fun _ _ d _ _ h => by cases d <;> exact h) (by kernel_rfl) HS0 rfl rfl rfl (fun w' hS => ?hA1) ?_
  case hA1 => have hc := (hF9'.below hS).c0; first | (go_simp; rfl) | (go_simp; done) | (go_simp; exact idx_ok (by omega) (by omega)) | (go_simp; exact wi64' (by omega) (by omega) (by omega)) | (go_simp; intro hh; exfalso; omega)
  simp only [List.setIfInBounds_toArray, List.set_cons_zero, List.set_cons_succ]
  refine lx_rd 6 (.pointer (some ⟨g9, 0, none⟩)) (by kernel_rfl) (fun _ _ d _ _ h => by cases d <;> exact h) (by kernel_rfl) HS0 rfl rfl rfl (fun w' hS => ?hA6) ?_
  case hA6 => first | (go_simp; rfl) | (go_simp; done) | (go_simp; exact idx_ok (by omega) (by omega)) | (go_simp; exact wi64' (by omega) (by omega) (by omega)) | (go_simp; intro hh; exfalso; omega)
  simp only [List.setIfInBounds_toArray, List.set_cons_zero, List.set_cons_succ]
  refine lx_rd 7 (.string ⟨Q.no.toArray⟩) (by kernel_rfl) (fun _ _ d _ _ h => by cases d <;> exact h) (by kernel_rfl) HS0 rfl rfl rfl (fun w' hS => ?hA7) ?_
  case hA7 => have hc := (hQ9'.below hS).c0; first | (go_simp; rfl) | (go_simp; done) | (go_simp; exact idx_ok (by omega) (by omega)) | (go_simp; exact wi64' (by omega) (by omega) (by omega)) | (go_simp; intro hh; exfalso; omega)
  simp only [List.setIfInBounds_toArray, List.set_cons_zero, List.set_cons_succ]
  obtain ⟨cc, w10, hcv, R10, hb10⟩ := bytes_runH H W hHl
  refine lx_one 2 (by kernel_rfl) (stepT_val (w' := w10) (.slice (some ⟨W.heap.size, 0, none⟩) H.length cc) rfl rfl rfl ?rA2 (fun _ => hb10) ?_)
  case rA2 => first | (go_simp; done) | (go_simp; rfl)
  simp only [List.setIfInBounds_toArray, List.set_cons_zero, List.set_cons_succ]
  refine lx_one 3 (by kernel_rfl) (stepT_call 23 #[.slice (some ⟨W.heap.size, 0, none⟩) H.length cc] rfl rfl rfl ?rA3 ?_)
  case rA3 => first | (go_simp; rfl) | go_simp
  refine (cE1 _ _ _ R10).mono ?_
  rintro e w11 ⟨rfl, hb11'⟩
  have hb11 := hb10.trans (hb11'.mono hb10.size)
  refine ⟨_, rfl, fun _ => hb11, ?_⟩
  simp only [List.setIfInBounds_toArray, List.set_cons_zero, List.set_cons_succ]
  refine lx_rd 4 (.string ⟨([99, 61] ++ HE).toArray⟩) (by kernel_rfl) (fun _ _ d _ _ h => by cases d <;> exact h) (by kernel_rfl) hb11 rfl rfl rfl (fun w' hS => ?hB4) ?_
  case hB4 => exact exec_addT rfl rfl rfl (by simp only [List.length_cons, List.length_nil]; omega)
  simp only [List.setIfInBounds_toArray, List.set_cons_zero, List.set_cons_succ]
  refine lx_rd 5 (.string ⟨([99, 61] ++ HE ++ [44, 114, 61]).toArray⟩) (by kernel_rfl) (fun _ _ d _ _ h => by cases d <;> exact h) (by kernel_rfl) hb11 rfl rfl rfl (fun w' hS => ?hB5) ?_
  case hB5 => exact exec_addT rfl rfl rfl (by simp only [List.length_append, List.length_cons, List.length_nil]; omega)
  simp only [List.setIfInBounds_toArray, List.set_cons_zero, List.set_cons_succ]
  refine lx_rd 8 (.string ⟨([99, 61] ++ HE ++ [44, 114, 61] ++ Q.no).toArray⟩) (by kernel_rfl) (fun _ _ d _ _ h => by cases d <;> exact h) (by kernel_rfl) hb11 rfl rfl rfl (fun w' hS => ?hB8) ?_
  case hB8 => exact exec_addT rfl rfl rfl (by simp only [List.length_append, List.length_cons, List.length_nil]; omega)
  simp only [List.setIfInBounds_toArray, List.set_cons_zero, List.set_cons_succ]
  refine lx_rd 9 (.string ⟨([99, 61] ++ HE ++ [44, 114, 61] ++ Q.no).toArray⟩) (by kernel_rfl) (fun _ _ d _ _ h => by cases d <;> exact h) (by kernel_rfl) hb11 rfl rfl rfl (fun w' hS => ?hB9) ?_
  case hB9 => first | (go_simp; rfl) | (go_simp; done) | (go_simp; exact idx_ok (by omega) (by omega)) | (go_simp; exact wi64' (by omega) (by omega) (by omega)) | (go_simp; intro hh; exfalso; omega)
  simp only [List.setIfInBounds_toArray, List.set_cons_zero, List.set_cons_succ]
  refine lx_nil (by kernel_rfl) ?_
  rw [hBR]
  have hBRl : BR.length ≤ 2000010 := by rw [← hBR]; simp only [List.length_append, List.length_cons, List.length_nil]; omega
  have e11 := e9.trans (hb11.mono e9.size)
  have hF11 := hF9'.below hb11
  have B11' := B119'.below hb11 B119'.lt
  have HE5 : Hid (Below w.heap.size w w11.drew) := e11.drew
  have hFX : FAt w11.drew g4 (.string ⟨H.toArray⟩) (.string ⟨U.toArray⟩) (.string ⟨F.toArray⟩) (.string ⟨B.toArray⟩) := hF11
  have A11X : Ar w11.drew g11 27 .u8 CK := B11'
  have hKX : Kt w11.drew := (hK.below (Nat.le_refl _) e11).drewN 1
  clear hb10 hb11 hb11' R10 hcv hF9' B119' hQ9' HS0 HW e9 hF11 B11' cE1
  obtain ⟨w5, Hw5⟩ : ∃ w5, Hid (w11 = w5) := ⟨_, rfl⟩
  rw [Hw5.out] at HE5 hFX A11X hKX e11 ⊢
  clear Hw5
  go_wp2_with fail
  refine wp_region_facts [0, 1, 2, 3, 4, 5, 6, 7, 8] (Gl [(fEq (.agg (ic .u8 CK).toArray)), (fEq (.slice (some ⟨g11, 0, none⟩) 32 32)), (fEq (.agg (ic .u8 ST).toArray)), (fEq (.agg (fcells ⟨H, U, F, B⟩))), (fEq (.string ⟨C.toArray⟩)), (fEq (.string ⟨BR.toArray⟩)), (fEq (.agg (ic .u8 Z).toArray)), (fEq (.agg (ic .u8 X).toArray)), (fArr w5.heap.size)]) 10 1 (by kernel_rfl) (by kernel_rfl) rfl (by kernel_rfl) (lasts_list ?olst) ?oob ?_
  case olst =>
    intro g hg
    simp only [List.mem_cons, List.not_mem_nil, or_false] at hg
    rcases hg with rfl | rfl | rfl | rfl | rfl | rfl | rfl | rfl | rfl
    · exact lasts_eq _
    · exact lasts_eq _
    · exact lasts_eq _
    · exact lasts_eq _
    · exact lasts_eq _
    · exact lasts_eq _
    · exact lasts_eq _
    · exact lasts_eq _
    · exact lasts_arr _
  case oob =>
    refine (allIn_cons ?o0 (allIn_cons ?o1 (allIn_cons ?o2 (allIn_cons ?o3 (allIn_cons ?o4 (allIn_cons ?o5 (allIn_cons ?o6 (allIn_cons ?o7 (allIn_cons ?o8 allIn_nil)))))))))
    case o0 =>
      refine ob_val 0 rfl rfl (by simp) (fun tm u h => ⟨?ow0, ?_⟩)
      case ow0 => exact wanted_none rfl
      have s11 : tm.getD 11 undef = .pointer (some ⟨g11, 0, none⟩) := h.same 11 (of_decide_eq_true (by kernel_rfl))
      exact ⟨_, u, exec_load_ar 27 (.tmp 11) rfl g11 s11 27 .u8 CK 5 32 (A11X.below h.s A11X.lt) Tryz.u23 hCl, rfl, Below.refl _ _⟩
    case o1 =>
      refine ob_val 1 rfl rfl (by simp) (fun tm u h => ⟨?ow1, ?_⟩)
      case ow1 => exact wanted_none rfl
      have s11 : tm.getD 11 undef = .pointer (some ⟨g11, 0, none⟩) := h.same 11 (of_decide_eq_true (by kernel_rfl))
      refine ⟨.slice (some ⟨g11, 0, none⟩) 32 32, u, ?_, rfl, Below.refl _ _⟩
      first | (go_simp; done) | (go_simp; rfl)
    case o2 =>
      refine ob_call 2 rfl rfl (by simp) (fun tm u h => ⟨?ow2, ?_⟩)
      case ow2 => exact wanted_none rfl
      have f1 : tm.getD 48 undef = .slice (some ⟨g11, 0, none⟩) 32 32 := h.dep 1 _ _ (by simp) rfl rfl ⟨_, rfl, by kernel_rfl⟩
      refine ⟨25, #[.slice (some ⟨g11, 0, none⟩) 32 32], by first | (go_simp; done) | (go_simp; rfl), ?_⟩
      refine (cSha u g11 (rd_rowA (A11X.below h.s A11X.lt) hCl hCb) (hKX.below (Nat.le_refl _) h.s)).mono ?_
      rintro e u2 ⟨rfl, hb2⟩
      exact ⟨_, rfl, rfl, hb2⟩
    case o3 =>
      refine ob_val 3 rfl rfl (by simp) (fun tm u h => ⟨?ow3, ?_⟩)
      case ow3 => exact wanted_none rfl
      have s4 : tm.getD 4 undef = .pointer (some ⟨g4, 0, none⟩) := h.same 4 (of_decide_eq_true (by kernel_rfl))
      exact ⟨_, u, exec_load_rowP 35 (.tmp 4) rfl g4 s4 35 _ _ (hFX.below h.s) Tryz.underlying35 hi35, rfl, Below.refl _ _⟩
    case o4 =>
      refine ob_val 4 rfl rfl (by simp) (fun tm u h => ⟨?ow4, ?_⟩)
      case ow4 => exact wanted_none rfl
      have s2 : tm.getD 2 undef = .string ⟨C.toArray⟩ := h.same 2 (of_decide_eq_true (by kernel_rfl))
      exact ⟨.string ⟨C.toArray⟩, u, by first | (go_simp; done) | (go_simp; rfl), rfl, Below.refl _ _⟩
    case o5 =>
      refine ob_val 5 rfl rfl (by simp) (fun tm u h => ⟨?ow5, ?_⟩)
      case ow5 => exact wanted_none rfl
      have s13 : tm.getD 13 undef = .string ⟨BR.toArray⟩ := h.same 13 (of_decide_eq_true (by kernel_rfl))
      exact ⟨.string ⟨BR.toArray⟩, u, by first | (go_simp; done) | (go_simp; rfl), rfl, Below.refl _ _⟩
    case o6 =>
      refine ob_call 6 rfl rfl (by simp) (fun tm u h => ⟨?ow6, ?_⟩)
      case ow6 => exact wanted_none rfl
      have f2 : tm.getD 49 undef = .agg (ic .u8 ST).toArray := h.dep 2 _ _ (by simp) rfl rfl ⟨_, rfl, by kernel_rfl⟩
      have f3 : tm.getD 50 undef = .agg (fcells ⟨H, U, F, B⟩) := h.dep 3 _ _ (by simp) rfl rfl ⟨_, rfl, by kernel_rfl⟩
      have f4 : tm.getD 51 undef = .string ⟨C.toArray⟩ := h.dep 4 _ _ (by simp) rfl rfl ⟨_, rfl, by kernel_rfl⟩
      have f5 : tm.getD 52 undef = .string ⟨BR.toArray⟩ := h.dep 5 _ _ (by simp) rfl rfl ⟨_, rfl, by kernel_rfl⟩
      refine ⟨38, #[.agg (ic .u8 ST).toArray, .agg (fcells ⟨H, U, F, B⟩), .string ⟨C.toArray⟩, .string ⟨BR.toArray⟩], by first | (go_simp; done) | (go_simp; rfl), ?_⟩
      refine (cS u (hKX.below (Nat.le_refl _) h.s)).mono ?_
      rintro e u2 ⟨rfl, hb2⟩
      exact ⟨_, rfl, rfl, hb2⟩
    case o7 =>
      refine ob_call 7 rfl rfl (by simp) (fun tm u h => ⟨?ow7, ?_⟩)
      case ow7 => exact wanted_none rfl
      have f0 : tm.getD 47 undef = .agg (ic .u8 CK).toArray := h.dep 0 _ _ (by simp) rfl rfl ⟨_, rfl, by kernel_rfl⟩
      have f6 : tm.getD 53 undef = .agg (ic .u8 Z).toArray := h.dep 6 _ _ (by simp) rfl rfl ⟨_, rfl, by kernel_rfl⟩
      refine ⟨24, #[.agg (ic .u8 CK).toArray, .agg (ic .u8 Z).toArray], by first | (go_simp; done) | (go_simp; rfl), ?_⟩
      refine (cX u).mono ?_
      rintro e u2 ⟨rfl, hb2⟩
      exact ⟨_, rfl, rfl, hb2⟩
    case o8 =>
      refine ob_val 8 rfl rfl (by simp) (fun tm u h => ⟨?ow8, ?_⟩)
      case ow8 => exact wanted_none rfl
      refine ⟨.pointer (some ⟨u.heap.size, 0, none⟩), u.alloc (.cells (ic .u8 (List.replicate 32 0)).toArray 27), ?_, ⟨u.heap.size, rfl, h.s.size, heap_alloc_new _ _⟩, (Below.refl _ _).alloc (Nat.le_refl _) _⟩
      first | (go_simp; done) | (go_simp; rfl) | (exact exec_alloc_ar rfl Tryz.z23)
  intro af wf hAO
  have k54 : af.tmps.getD 54 undef = .agg (ic .u8 X).toArray := hAO.got 7 _ _ rfl (by simp) rfl rfl
  obtain ⟨gX, p14, hgX, AX⟩ : fArr w5.heap.size (af.tmps.getD 14 undef) wf := hAO.got 8 _ _ rfl (by simp) rfl rfl
  have hs := hAO.s
  have p13 : af.tmps.getD 13 undef = .string ⟨BR.toArray⟩ := hAO.same 13 (of_decide_eq_true (by kernel_rfl))
  obtain ⟨tm, dfx⟩ := af
  obtain rfl : dfx = [] := hAO.df
  have hsz : tm.size = 60 := hAO.sz
  clear hAO
  have eF : tm = #[tm.getD 0 undef, tm.getD 1 undef, tm.getD 2 undef, tm.getD 3 undef, tm.getD 4 undef, tm.getD 5 undef, tm.getD 6 undef, tm.getD 7 undef, tm.getD 8 undef, tm.getD 9 undef, tm.getD 10 undef, tm.getD 11 undef, tm.getD 12 undef, tm.getD 13 undef, tm.getD 14 undef, tm.getD 15 undef, tm.getD 16 undef, tm.getD 17 undef, tm.getD 18 undef, tm.getD 19 undef, tm.getD 20 undef, tm.getD 21 undef, tm.getD 22 undef, tm.getD 23 undef, tm.getD 24 undef, tm.getD 25 undef, tm.getD 26 undef, tm.getD 27 undef, tm.getD 28 undef, tm.getD 29 undef, tm.getD 30 undef, tm.getD 31 undef, tm.getD 32 undef, tm.getD 33 undef, tm.getD 34 undef, tm.getD 35 undef, tm.getD 36 undef, tm.getD 37 undef, tm.getD 38 undef, tm.getD 39 undef, tm.getD 40 undef, tm.getD 41 undef, tm.getD 42 undef, tm.getD 43 undef, tm.getD 44 undef, tm.getD 45 undef, tm.getD 46 undef, tm.getD 47 undef, tm.getD 48 undef, tm.getD 49 undef, tm.getD 50 undef, tm.getD 51 undef, tm.getD 52 undef, tm.getD 53 undef, tm.getD 54 undef, tm.getD 55 undef, tm.getD 56 undef, tm.getD 57 undef, tm.getD 58 undef, tm.getD 59 undef] := eta_arr tm 60 hsz
  try dsimp only at eF
  have kF13 : tm.getD 13 undef = .string ⟨BR.toArray⟩ := p13
  have kF14 : tm.getD 14 undef = .pointer (some ⟨gX, 0, none⟩) := p14
  have kF54 : tm.getD 54 undef = .agg (ic .u8 X).toArray := k54
  rw [kF13, kF14, kF54] at eF
  clear kF13 kF14 kF54
  generalize tm.getD 0 undef = vF0 at eF
  generalize tm.getD 1 undef = vF1 at eF
  generalize tm.getD 2 undef = vF2 at eF
  generalize tm.getD 3 undef = vF3 at eF
  generalize tm.getD 4 undef = vF4 at eF
  generalize tm.getD 5 undef = vF5 at eF
  generalize tm.getD 6 undef = vF6 at eF
  generalize tm.getD 7 undef = vF7 at eF
  generalize tm.getD 8 undef = vF8 at eF
  generalize tm.getD 9 undef = vF9 at eF
  generalize tm.getD 10 undef = vF10 at eF
  generalize tm.getD 11 undef = vF11 at eF
  generalize tm.getD 12 undef = vF12 at eF
  generalize tm.getD 15 undef = vF15 at eF
  generalize tm.getD 16 undef = vF16 at eF
  generalize tm.getD 17 undef = vF17 at eF
  generalize tm.getD 18 undef = vF18 at eF
  generalize tm.getD 19 undef = vF19 at eF
  generalize tm.getD 20 undef = vF20 at eF
  generalize tm.getD 21 undef = vF21 at eF
  generalize tm.getD 22 undef = vF22 at eF
  generalize tm.getD 23 undef = vF23 at eF
  generalize tm.getD 24 undef = vF24 at eF
  generalize tm.getD 25 undef = vF25 at eF
  generalize tm.getD 26 undef = vF26 at eF
  generalize tm.getD 27 undef = vF27 at eF
  generalize tm.getD 28 undef = vF28 at eF
  generalize tm.getD 29 undef = vF29 at eF
  generalize tm.getD 30 undef = vF30 at eF
  generalize tm.getD 31 undef = vF31 at eF
  generalize tm.getD 32 undef = vF32 at eF
  generalize tm.getD 33 undef = vF33 at eF
  generalize tm.getD 34 undef = vF34 at eF
  generalize tm.getD 35 undef = vF35 at eF
  generalize tm.getD 36 undef = vF36 at eF
  generalize tm.getD 37 undef = vF37 at eF
  generalize tm.getD 38 undef = vF38 at eF
  generalize tm.getD 39 undef = vF39 at eF
  generalize tm.getD 40 undef = vF40 at eF
  generalize tm.getD 41 undef = vF41 at eF
  generalize tm.getD 42 undef = vF42 at eF
  generalize tm.getD 43 undef = vF43 at eF
  generalize tm.getD 44 undef = vF44 at eF
  generalize tm.getD 45 undef = vF45 at eF
  generalize tm.getD 46 undef = vF46 at eF
  generalize tm.getD 47 undef = vF47 at eF
  generalize tm.getD 48 undef = vF48 at eF
  generalize tm.getD 49 undef = vF49 at eF
  generalize tm.getD 50 undef = vF50 at eF
  generalize tm.getD 51 undef = vF51 at eF
  generalize tm.getD 52 undef = vF52 at eF
  generalize tm.getD 53 undef = vF53 at eF
  generalize tm.getD 55 undef = vF55 at eF
  generalize tm.getD 56 undef = vF56 at eF
  generalize tm.getD 57 undef = vF57 at eF
  generalize tm.getD 58 undef = vF58 at eF
  generalize tm.getD 59 undef = vF59 at eF
  subst eF
  have f1 := HE5.out.trans (hs.mono HE5.out.size)
  have hgw2 : w.heap.size ≤ gX := Nat.le_trans e11.size hgX
  refine lx_one 9 (by kernel_rfl) (stepT_store (w' := wf.setRow gX (ic .u8 X).toArray) rfl rfl rfl (exec_store_ar 27 (.tmp 14) (.tmp 54) rfl gX rfl .u8 X rfl 27 _ AX (by rw [hXl]; rfl) (by rw [hXl]; exact hi23)) (fun _ => trivial) ?_)
  refine lx_nil (by kernel_rfl) ?_
  have hk6 : Keep (fun j => j = gX) wf (wf.setRow gX (ic .u8 X).toArray) := ⟨rfl, rfl, rfl, by simp, fun j _ hj => setRow_other wf gX j _ hj⟩
  have AX6 : Ar (wf.setRow gX (ic .u8 X).toArray) gX 27 .u8 X := AX.row
  generalize wf.setRow gX (ic .u8 X).toArray = w6 at hk6 AX6 ⊢
  have e6 : Below w.heap.size w w6 := f1.trans (hk6.below f1.size (fun q hq => by omega))
  have hRX := rd_rowA AX6 hXl hXb
  have zB := size_tx BR
  have zE := size_tx EX
  have zA : (⟨BR.toArray⟩ : ByteArray) ++ ⟨#[44, 112, 61]⟩ = ⟨(BR ++ [44, 112, 61]).toArray⟩ := app_tx BR [44, 112, 61]
  have zC : (⟨(BR ++ [44, 112, 61]).toArray⟩ : ByteArray) ++ ⟨EX.toArray⟩ = ⟨(BR ++ [44, 112, 61] ++ EX).toArray⟩ := app_tx _ _
  rw [← zA] at zC
  have ZC : Hid (_ = _) := zC
  generalize (⟨BR.toArray⟩ : ByteArray) = tB at *
  generalize (⟨EX.toArray⟩ : ByteArray) = tE at *
  clear f1 hk6 hs HE5 hFX A11X hKX zA zC
  go_wp2_with (go_at_call 23; refine (cE2 _ _ hRX).mono ?_; rintro e w7 ⟨rfl, hb7⟩)
  go_ret2
  exact ⟨congrArg (fun s => Ending.returned (.tuple #[.string s, .int .i64 0])) ZC.out, e6.trans (hb7.mono e6.size)⟩

def ckP (P : Tx) (Q : QP) : List Int := hmac (sumK (il P) Q.sa (Q.n - 1)) ckey
def prf (P H B C : Tx) (Q : QP) : List Int := xb (ckP P Q) (hmac (sha (ckP P Q)) (il (authT B C (bareT H Q.no)))) 32
theorem prf_len (P H B C : Tx) (Q : QP) : (prf P H B C Q).length = 32 := by unfold prf; rw [xb_len]; exact hmac_len _ _
theorem prf_bd (P H B C : Tx) (Q : QP) : Bd (prf P H B C Q) := xb_bd (hmac_bd _ _) 32
theorem prove_ok (P H U F B C : Tx) (Q : QP) (w : World) (hC : C.length ≤ 1000000) (hM : Mx w) (hEr : Er w) (hP : Pw w) (hK : Kt w) (hq : questE C = (Q, 0)) (hN1 : 1 ≤ Q.n) (hN2 : Q.n ≤ 4096) (hPl : P.length ≤ 10000) (hHl : H.length ≤ 10000) (hB : B.length ≤ 1000000) (hno : Q.no.length ≤ 1000000) (hsa : Q.sa.length ≤ 10000) :
    Calls Tryz.prog 15 #[.string ⟨P.toArray⟩, .agg (fcells ⟨H, U, F, B⟩), .string ⟨C.toArray⟩] w fun e w' => e = .returned (.tuple #[.string ⟨(finT H Q.no (prf P H B C Q)).toArray⟩, .int .i64 0]) ∧ Below w.heap.size w w' := by
  have hHe : (tx (enc (il H))).length ≤ 20000 := by unfold tx; rw [List.length_map, enc_len, il_len]; omega
  have hXe : (tx (enc (prf P H B C Q))).length ≤ 100 := by unfold tx; rw [List.length_map, enc_len, prf_len]; omega
  have hbl : (bareT H Q.no).length ≤ 2000000 := by unfold bareT; simp only [List.length_append, List.length_cons, List.length_nil]; omega
  refine prove_walk P H U F B C Q w hC hM hEr hP hK hq (ckP P Q) (hmac (sumK (il P) Q.sa (Q.n - 1)) skey) (sha (ckP P Q)) (hmac (sha (ckP P Q)) (il (authT B C (bareT H Q.no)))) (prf P H B C Q) (tx (enc (il H))) (tx (enc (prf P H B C Q))) (bareT H Q.no) (hmac_len _ _) (hmac_bd _ _) (hmac_len _ _) (prf_len _ _ _ _ _) (prf_bd _ _ _ _ _) (by omega) hno (by omega) (by omega) rfl ?_ ?_ ?_ ?_ ?_ ?_
  · intro u a n c hR hk
    exact pwKeys_ok P a n c Q.sa Q.n u hPl hR (by rw [← hR.len]; exact hsa) hN1 hN2 hk
  · intro u g hR hk
    exact sha_any _ 32 32 _ u hR (by omega) hk
  · intro u hk
    exact signature_any _ H U F B C _ u (shaB_len _ _ _) (sha_bd _) (by omega) (by omega) hbl hk
  · intro u
    exact xor_any _ _ u (hmac_len _ _) (hmac_len _ _)
  · intro u a c hR
    exact encode_any a H.length c (il H) u hR (by omega)
  · intro u g hR
    exact encode_any _ 32 32 _ u hR (by omega)
end Go.Proofs.YtmilcknboaefkaaGreatDoor

/- What was begun is read, what was asked is understood, what was proved is read and is right. -/
namespace Go.Proofs.YtmilcknboaefkaaGreatDoor
open Go.RowKit Go.Shelf

/-! ### A name's form is UTF-8 if the name is -/
theorem esc_cons (b : UInt8) (l : Tx) : esc (b :: l) = (if b = 44 then [61, 50, 67] else if b = 61 then [61, 51, 68] else [b]) ++ esc l := rfl
theorem esc_high {b : UInt8} (l : Tx) (h : 128 ≤ b.toNat) : esc (b :: l) = b :: esc l := by
  have h1 : b ≠ 44 := fun e => by rw [e] at h; revert h; decide
  have h2 : b ≠ 61 := fun e => by rw [e] at h; revert h; decide
  rw [esc_cons, if_neg h1, if_neg h2]; rfl
theorem il_cons (b : UInt8) (l : Tx) : il (b :: l) = (b.toNat : Int) :: il l := rfl
theorem vld_esc (n : Nat) : ∀ (l : Tx), l.length ≤ n → vld (il l) = true → vld (il (esc l)) = true := by
  induction n with
  | zero =>
    intro l h _
    have : l = [] := List.eq_nil_of_length_eq_zero (by omega)
    subst this; rfl
  | succ n ih =>
    intro l h hv
    cases l with
    | nil => rfl
    | cons b l =>
      have hl : l.length ≤ n := by simpa using h
      by_cases ha : b.toNat < 128
      · rw [il_cons, vld_ascii (by omega)] at hv
        have ih := ih l hl hv
        rw [esc_cons]
        split
        · show vld (61 :: 50 :: 67 :: il (esc l)) = true
          rw [vld_ascii (by omega), vld_ascii (by omega), vld_ascii (by omega)]; exact ih
        · split
          · show vld (61 :: 51 :: 68 :: il (esc l)) = true
            rw [vld_ascii (by omega), vld_ascii (by omega), vld_ascii (by omega)]; exact ih
          · show vld ((b.toNat : Int) :: il (esc l)) = true
            rw [vld_ascii (by omega)]; exact ih
      · rw [esc_high l (by omega), il_cons]
        rw [il_cons, vld_cons, if_neg (by omega)] at hv
        rw [vld_cons, if_neg (by omega)]
        have okcH : ∀ (c : UInt8), okc (c.toNat : Int) = true → 128 ≤ c.toNat := fun c hc => by
          unfold okc at hc
          simp only [Bool.and_eq_true, decide_eq_true_eq] at hc
          omega
        have oksH : ∀ (c : UInt8), oks (b.toNat : Int) (c.toNat : Int) = true → 128 ≤ c.toNat := fun c hc => by
          unfold oks ulo at hc
          simp only [Bool.and_eq_true, decide_eq_true_eq] at hc
          have := hc.1
          split at this
          · omega
          · split at this <;> omega
        by_cases h2 : usz (b.toNat : Int) = 2
        · rw [if_pos h2] at hv ⊢
          cases l with
          | nil => simp [il] at hv
          | cons c l2 =>
            rw [if_pos (by simp [il])] at hv
            simp only [Bool.and_eq_true] at hv
            have hc := oksH c hv.1
            rw [esc_high l2 hc, il_cons, if_pos (by simp)]
            simp only [Bool.and_eq_true]
            exact ⟨hv.1, ih l2 (by simp at hl; omega) hv.2⟩
        · rw [if_neg h2] at hv ⊢
          by_cases h3 : usz (b.toNat : Int) = 3
          · rw [if_pos h3] at hv ⊢
            cases l with
            | nil => simp [il] at hv
            | cons c l =>
              cases l with
              | nil => simp [il] at hv
              | cons d l2 =>
                rw [if_pos (by simp [il])] at hv
                simp only [Bool.and_eq_true] at hv
                have hc := oksH c hv.1.1
                have hd := okcH d hv.1.2
                rw [esc_high _ hc, esc_high _ hd, il_cons, il_cons, if_pos (by simp)]
                simp only [Bool.and_eq_true]
                exact ⟨hv.1, ih l2 (by simp at hl; omega) hv.2⟩
          · rw [if_neg h3] at hv ⊢
            by_cases h4 : usz (b.toNat : Int) = 4
            · rw [if_pos h4] at hv ⊢
              cases l with
              | nil => simp [il] at hv
              | cons c l =>
                cases l with
                | nil => simp [il] at hv
                | cons d l =>
                  cases l with
                  | nil => simp [il] at hv
                  | cons e l2 =>
                    rw [if_pos (by simp [il])] at hv
                    simp only [Bool.and_eq_true] at hv
                    have hc := oksH c hv.1.1.1
                    have hd := okcH d hv.1.1.2
                    have he := okcH e hv.1.2
                    rw [esc_high _ hc, esc_high _ hd, esc_high _ he, il_cons, il_cons, il_cons, if_pos (by simp)]
                    simp only [Bool.and_eq_true]
                    exact ⟨hv.1, ih l2 (by simp at hl; omega) hv.2⟩
            · rw [if_neg h4] at hv; cases hv
theorem valid_esc {l : Tx} (h : Lib.validD l = true) : Lib.validD (esc l) = true := by
  rw [← vld_valid _ l (Nat.le_refl _)] at h
  rw [← vld_valid _ (esc l) (Nat.le_refl _)]
  exact vld_esc _ l (Nat.le_refl _) h

theorem sgn_ne {a b : UInt8} (p l : Tx) (h : a ≠ b) : sgn (a :: p) (b :: l) = none := by
  unfold sgn
  simp [List.isPrefixOf, h]

/-! ### First of Begin -/
theorem first_begin (U n : Tx) (hU : U ≠ []) (hv : Lib.validD U = true) (hn : nonceB 128 n = true) (hl : (beginT U n).length ≤ 1024) :
    firstE (beginT U n) = (⟨[110, 44, 44], U, n, [110, 61] ++ esc U ++ [44, 114, 61] ++ n⟩, 0) := by
  unfold firstE
  rw [if_neg (by omega)]
  have e0 : beginT U n = [110, 44, 44] ++ ([110, 61] ++ esc U ++ [44, 114, 61] ++ n) := by simp [beginT]
  have h1 : hdr (beginT U n) = some ([110, 44, 44], [110, 61] ++ esc U ++ [44, 114, 61] ++ n) := by
    unfold hdr
    rw [e0, sgn_app]
    rw [show sgn [121, 44, 44] ([110, 44, 44] ++ ([110, 61] ++ esc U ++ [44, 114, 61] ++ n)) = none from sgn_ne _ _ (by decide)]
    rfl
  have he : esc U ≠ [] := by
    cases U with
    | nil => exact absurd rfl hU
    | cons b l =>
      rw [esc_cons]
      split
      · simp
      · split <;> simp
  have hp : prt (esc U ++ 44 :: 114 :: 61 :: n) = esc U := prt_app (esc_comma U) _
  have hr : rst (esc U ++ 44 :: 114 :: 61 :: n) = 44 :: 114 :: 61 :: n := rst_app (esc_comma U) _
  have hN : nameO (esc U) = some U := by unfold nameO; rw [if_pos ⟨he, valid_esc hv⟩, unesc_esc]
  have hO : firstO (beginT U n) = some ⟨[110, 44, 44], U, n, [110, 61] ++ esc U ++ [44, 114, 61] ++ n⟩ := by
    unfold firstO
    rw [h1]
    show first1 [110, 44, 44] ([110, 61] ++ esc U ++ [44, 114, 61] ++ n) = _
    unfold first1
    have e1 : [110, 61] ++ esc U ++ [44, 114, 61] ++ n = [110, 61] ++ (esc U ++ 44 :: 114 :: 61 :: n) := by simp
    conv => lhs; arg 1; rw [e1, sgn_app]
    show first2 _ _ (esc U ++ 44 :: 114 :: 61 :: n) = _
    unfold first2
    rw [hp, hr, hN]
    show first3 _ _ U (44 :: 114 :: 61 :: n) = _
    unfold first3
    rw [show (44 :: 114 :: 61 :: n : Tx) = [44, 114, 61] ++ n from rfl, sgn_app]
    show first4 _ _ U n = _
    unfold first4
    rw [prt_all (nonce_comma hn), rst_all (nonce_comma hn), if_pos hn, if_pos rfl]
  rw [hO]

/-! ### base64 has no comma -/
theorem dg_commaF : ∀ v : Fin 64, dg v.val ≠ 44 := by decide +kernel
theorem dg_comma {v : Nat} (h : v < 64) : dg v ≠ 44 := dg_commaF ⟨v, h⟩
theorem enc_comma : ∀ {b : List Int}, Bd b → (44 : Int) ∉ enc b
  | [], _ => by simp [enc]
  | [a], h => by
    have ha := h a (by simp)
    have h1 := dg_comma (v := (a / 4).toNat) (by omega)
    have h2 := dg_comma (v := (a % 4 * 16).toNat) (by omega)
    rw [enc]; simp only [List.mem_cons, List.not_mem_nil, or_false]
    rintro (e | e | e | e)
    · exact h1 e.symm
    · exact h2 e.symm
    · omega
    · omega
  | [a, b], h => by
    have ha := h a (by simp); have hb := h b (by simp)
    have h1 := dg_comma (v := (a / 4).toNat) (by omega)
    have h2 := dg_comma (v := (a % 4 * 16 + b / 16).toNat) (by omega)
    have h3 := dg_comma (v := (b % 16 * 4).toNat) (by omega)
    rw [enc]; simp only [List.mem_cons, List.not_mem_nil, or_false]
    rintro (e | e | e | e)
    · exact h1 e.symm
    · exact h2 e.symm
    · exact h3 e.symm
    · omega
  | a :: b :: c :: r, h => by
    have ha := h a (by simp); have hb := h b (by simp); have hc := h c (by simp)
    have ih := enc_comma (b := r) (fun x hx => h x (by simp [hx]))
    have h1 := dg_comma (v := (a / 4).toNat) (by omega)
    have h2 := dg_comma (v := (a % 4 * 16 + b / 16).toNat) (by omega)
    have h3 := dg_comma (v := (b % 16 * 4 + c / 64).toNat) (by omega)
    have h4 := dg_comma (v := (c % 64).toNat) (by omega)
    rw [enc]; simp only [List.mem_cons]
    rintro (e | e | e | e | e)
    · exact h1 e.symm
    · exact h2 e.symm
    · exact h3 e.symm
    · exact h4 e.symm
    · exact ih e
theorem tx_comma {xs : List Int} (hb : Bd xs) (h : (44 : Int) ∉ xs) : (44 : UInt8) ∉ tx xs := by
  intro hm
  unfold tx at hm
  simp only [List.mem_map] at hm
  obtain ⟨x, hx, e⟩ := hm
  have := hb x hx
  have e2 := congrArg UInt8.toNat e
  rw [UInt8.toNat_ofNat'] at e2
  have e3 : (44 : UInt8).toNat = 44 := rfl
  rw [e3] at e2
  exact h (by rw [show (44 : Int) = x by omega]; exact hx)
theorem txe_comma {b : List Int} (h : Bd b) : (44 : UInt8) ∉ tx (enc b) := tx_comma (enc_bd h) (enc_comma h)
theorem dec_txe {b : List Int} (h : Bd b) : dec (il (tx (enc b))) = some b := by rw [il_tx (enc_bd h), dec_enc h]

/-! ### The question of a challenge -/
def digB (N : Nat) : Bool := decide (digO (Lib.decDigits N) = some N) && !(Lib.decDigits N).contains 44
theorem dig_grid : ∀ a : Fin 65, ∀ b : Fin 64, digB (64 * a.val + b.val) = true := by decide +kernel
theorem dig_some (N : Nat) (h : N ≤ 4096) : digO (Lib.decDigits N) = some N ∧ (44 : UInt8) ∉ Lib.decDigits N := by
  have g := dig_grid ⟨N / 64, by omega⟩ ⟨N % 64, by omega⟩
  have e : 64 * (N / 64) + N % 64 = N := by omega
  dsimp only at g
  rw [e] at g
  unfold digB at g
  simp only [Bool.and_eq_true, decide_eq_true_eq] at g
  refine ⟨g.1, fun hm => ?_⟩
  have := g.2
  rw [List.contains_iff_mem.2 hm] at this
  cases this
theorem nonce_app {a b : Tx} (ha : nonceB 128 a = true) (hb : nonceB 128 b = true) : nonceB 256 (a ++ b) = true := by
  rw [nonce_parts] at ha hb ⊢
  refine ⟨by simp [ha.1], by rw [List.length_append]; omega, ?_⟩
  rw [List.all_append, ha.2.2, hb.2.2]; rfl
theorem chal_eq (F M : Tx) (ss : List Int) (N : Nat) : chalT F M ss N = [114, 61] ++ ((F ++ M) ++ 44 :: 115 :: 61 :: (tx (enc ss) ++ 44 :: 105 :: 61 :: Lib.decDigits N)) := by simp [chalT]
theorem quest_chal (F M : Tx) (ss : List Int) (N : Nat) (hF : nonceB 128 F = true) (hM : nonceB 128 M = true) (hs : Bd ss) (hN : N ≤ 4096) : questO (chalT F M ss N) = some ⟨F ++ M, ss, N⟩ := by
  have hFM := nonce_app hF hM
  have d := dig_some N hN
  rw [chal_eq]
  unfold questO
  rw [sgn_app]
  show quest1 ((F ++ M) ++ 44 :: 115 :: 61 :: (tx (enc ss) ++ 44 :: 105 :: 61 :: Lib.decDigits N)) = _
  unfold quest1
  rw [prt_app (nonce_comma hFM), rst_app (nonce_comma hFM), if_pos hFM]
  unfold quest2
  rw [show (44 :: 115 :: 61 :: (tx (enc ss) ++ 44 :: 105 :: 61 :: Lib.decDigits N) : Tx) = [44, 115, 61] ++ (tx (enc ss) ++ 44 :: 105 :: 61 :: Lib.decDigits N) from rfl, sgn_app]
  show quest3 (F ++ M) (tx (enc ss) ++ 44 :: 105 :: 61 :: Lib.decDigits N) = _
  unfold quest3
  rw [prt_app (txe_comma hs), rst_app (txe_comma hs), dec_txe hs]
  show quest4 (F ++ M) ss (44 :: 105 :: 61 :: Lib.decDigits N) = _
  unfold quest4
  rw [show (44 :: 105 :: 61 :: Lib.decDigits N : Tx) = [44, 105, 61] ++ Lib.decDigits N from rfl, sgn_app]
  show quest5 (F ++ M) ss (Lib.decDigits N) = _
  unfold quest5
  rw [prt_all d.2, rst_all d.2, d.1]
  rfl
theorem full_chal (F M : Tx) (ss : List Int) (N : Nat) (hF : nonceB 128 F = true) (hM : nonceB 128 M = true) : fullO (chalT F M ss N) = some (F ++ M) := by
  have hFM := nonce_comma (nonce_app hF hM)
  rw [full_asks, chal_eq]
  have e : ([114, 61] ++ ((F ++ M) ++ 44 :: 115 :: 61 :: (tx (enc ss) ++ 44 :: 105 :: 61 :: Lib.decDigits N)) : Tx) = ([114, 61] ++ (F ++ M)) ++ 44 :: 115 :: 61 :: (tx (enc ss) ++ 44 :: 105 :: 61 :: Lib.decDigits N) := by simp
  have hc : (44 : UInt8) ∉ ([114, 61] ++ (F ++ M) : Tx) := by
    intro h
    rcases List.mem_append.1 h with h | h
    · simp at h
    · exact hFM h
  rw [e, ix_app hc, prt_app hc]
  exact ⟨by simp, rfl⟩

/-! ### Final of Prove -/
theorem last_fin (H n : Tx) (pf : List Int) (hH : H.length ≤ 3) (hn : nonceB 256 n = true) (hp : pf.length = 32) (hb : Bd pf) : lastE (finT H n pf) = (⟨H, n, pf, bareT H n⟩, 0) := by
  have hnc := nonce_comma hn
  have hnl : n.length ≤ 256 := (nonce_parts.1 hn).2.1
  have l1 : (tx (enc (il H))).length = (H.length + 2) / 3 * 4 := by unfold tx; rw [List.length_map, enc_len, il_len]
  have l2 : (tx (enc pf)).length = 44 := by unfold tx; rw [List.length_map, enc_len, hp]
  have hB : (bareT H n).length ≤ 265 := by unfold bareT; simp only [List.length_append, List.length_cons, List.length_nil, l1]; omega
  have hL : (finT H n pf).length ≤ 1024 := by unfold finT; simp only [List.length_append, List.length_cons, List.length_nil, l2]; omega
  have e1 : finT H n pf = [99, 61] ++ (tx (enc (il H)) ++ 44 :: 114 :: 61 :: (n ++ 44 :: 112 :: 61 :: tx (enc pf))) := by simp [finT, bareT]
  have hO : lastO (finT H n pf) = some ⟨H, n, pf, bareT H n⟩ := by
    unfold lastO
    conv => lhs; arg 1; rw [e1, sgn_app]
    show last1 (finT H n pf) (tx (enc (il H)) ++ 44 :: 114 :: 61 :: (n ++ 44 :: 112 :: 61 :: tx (enc pf))) = _
    unfold last1
    rw [prt_app (txe_comma (il_bd H)), rst_app (txe_comma (il_bd H)), dec_txe (il_bd H)]
    show last2 (finT H n pf) (tx (il H)) (44 :: 114 :: 61 :: (n ++ 44 :: 112 :: 61 :: tx (enc pf))) = _
    unfold last2
    rw [tx_il, show (44 :: 114 :: 61 :: (n ++ 44 :: 112 :: 61 :: tx (enc pf)) : Tx) = [44, 114, 61] ++ (n ++ 44 :: 112 :: 61 :: tx (enc pf)) from rfl, sgn_app]
    show last3 (finT H n pf) H (n ++ 44 :: 112 :: 61 :: tx (enc pf)) = _
    unfold last3
    rw [prt_app hnc, rst_app hnc, if_pos hn]
    unfold last4
    have e2 : (44 :: 112 :: 61 :: tx (enc pf) : Tx) = [44, 112, 61] ++ tx (enc pf) := rfl
    have e3 : (finT H n pf).take ((finT H n pf).length - (44 :: 112 :: 61 :: tx (enc pf) : Tx).length) = bareT H n := by
      have : finT H n pf = bareT H n ++ (44 :: 112 :: 61 :: tx (enc pf)) := by simp [finT]
      rw [this, List.length_append, Nat.add_sub_cancel, List.take_left]
    rw [e3, e2, sgn_app]
    show last5 H n (bareT H n) (tx (enc pf)) = _
    unfold last5
    rw [prt_all (txe_comma hb), rst_all (txe_comma hb), dec_txe hb]
    show (if pf.length = 32 then (if ([] : Tx) = [] then some (⟨H, n, pf, bareT H n⟩ : LP) else none) else none) = _
    rw [if_pos hp, if_pos rfl]
  unfold lastE
  rw [if_neg (by omega), hO]
end Go.Proofs.YtmilcknboaefkaaGreatDoor

/- ScramAgrees: the law's walk. -/
namespace Go.Proofs.YtmilcknboaefkaaGreatDoor
open Go.RowKit Go.Shelf

/-- Blocks that hold what they hold. -/
def Obs (w : World) : List (Nat × Obj) → Prop
  | [] => True
  | p :: L => w.heap[p.1]? = some p.2 ∧ Obs w L
theorem Obs.below {w w' : World} (hb : Below w.heap.size w w') : ∀ {L : List (Nat × Obj)}, Obs w L → Obs w' L
  | [], _ => trivial
  | _ :: _, h => ⟨(hb.block _ (Array.getElem?_eq_some_iff.1 h.1).1).trans h.1, Obs.below hb h.2⟩
theorem TkAt.c1 {w : World} {R : Nat} {a b c d e f : Value} (h : TkAt w R a b c d e f) : w.cell? ⟨R, 1, none⟩ = some b := by unfold TkAt at h; simp [World.cell?, h]
theorem New.rd32 {u w' : World} {va : Option Addr} {vc : Nat} {PF : List Int} (h : New u w' (.slice va 32 vc) PF) (l : PF.length = 32) : Rd w' va 32 vc PF := by
  obtain ⟨pa, pc, pe, pR⟩ := h.rd
  rw [l] at pe pR
  cases pe
  exact pR
theorem Obs.keepG {w w' : World} {g : Nat} (hk : Keep (fun j => j = g) w w') : ∀ {L : List (Nat × Obj)}, Obs w L → (∀ p ∈ L, p.1 ≠ g) → Obs w' L
  | [], _, _ => trivial
  | p :: _, h, hn => ⟨(hk.block _ (Array.getElem?_eq_some_iff.1 h.1).1 (hn p (List.mem_cons_self ..))).trans h.1, Obs.keepG hk h.2 (fun q hq => hn q (List.mem_cons_of_mem _ hq))⟩
theorem Obs.drew {w : World} {L : List (Nat × Obj)} (h : Obs w L) : Obs w.drew L := Obs.below (Below.refl _ w).drew h
theorem Obs.lt {w : World} : ∀ {L : List (Nat × Obj)}, Obs w L → ∀ p ∈ L, p.1 < w.heap.size
  | [], _, p, hp => by cases hp
  | q :: _, h, p, hp => by
    rcases List.mem_cons.1 hp with e | e
    · rw [e]; exact (Array.getElem?_eq_some_iff.1 h.1).1
    · exact Obs.lt h.2 p e
theorem bel_step {w u v : World} (h : Below w.heap.size w u) (k : Below u.heap.size u v) : Below w.heap.size w v := h.trans (k.mono h.size)
theorem list32 {l : List Int} (h : l.length = 32) : ∃ x0 x1 x2 x3 x4 x5 x6 x7 x8 x9 x10 x11 x12 x13 x14 x15 x16 x17 x18 x19 x20 x21 x22 x23 x24 x25 x26 x27 x28 x29 x30 x31 : Int, l = [x0, x1, x2, x3, x4, x5, x6, x7, x8, x9, x10, x11, x12, x13, x14, x15, x16, x17, x18, x19, x20, x21, x22, x23, x24, x25, x26, x27, x28, x29, x30, x31] := by
  match l, h with
  | [x0, x1, x2, x3, x4, x5, x6, x7, x8, x9, x10, x11, x12, x13, x14, x15, x16, x17, x18, x19, x20, x21, x22, x23, x24, x25, x26, x27, x28, x29, x30, x31], _ => exact ⟨x0, x1, x2, x3, x4, x5, x6, x7, x8, x9, x10, x11, x12, x13, x14, x15, x16, x17, x18, x19, x20, x21, x22, x23, x24, x25, x26, x27, x28, x29, x30, x31, rfl⟩

def Z32 : List Int := List.replicate 32 0
/-- The record that is none. -/
def rec0 : List Value := recL (.string ⟨#[]⟩) (.slice none 0 0) (.int .i64 0) Z32 Z32
theorem built_rec0 : Tryz.prog.built 44 [] = some rec0.toArray := by kernel_rfl
theorem zero_rec : (Tryz.prog.info? 44).map (fun i => (i.zero, i.size)) = some (some (.agg rec0.toArray), 67) := by kernel_rfl
theorem built_recP (z : Int) (K V : List Int) (hK : K.length = 32) (hV : V.length = 32) :
    Tryz.prog.built 44 [(3, .agg (ic .u8 K).toArray), (4, .agg (ic .u8 V).toArray), (2, .int .i64 z)] = some (recL (.string ⟨#[]⟩) (.slice none 0 0) (.int .i64 z) K V).toArray := by
  obtain ⟨x0, x1, x2, x3, x4, x5, x6, x7, x8, x9, x10, x11, x12, x13, x14, x15, x16, x17, x18, x19, x20, x21, x22, x23, x24, x25, x26, x27, x28, x29, x30, x31, rfl⟩ := list32 hK
  obtain ⟨y0, y1, y2, y3, y4, y5, y6, y7, y8, y9, y10, y11, y12, y13, y14, y15, y16, y17, y18, y19, y20, y21, y22, y23, y24, y25, y26, y27, y28, y29, y30, y31, rfl⟩ := list32 hV
  kernel_rfl
theorem rec_len (x0 x1 x2 : Value) {K V : List Int} (hK : K.length = 32) (hV : V.length = 32) : (recL x0 x1 x2 K V).length = 67 := by simp [recL, ic_len, hK, hV]
theorem rec_one (u : ByteArray) (a : Option Addr) (n c : Nat) (z : Int) (K V : List Int) : (recL (.string u) (.slice a n c) (.int .i64 z) K V).toArray.all (·.oneCell') = true := by
  rw [Array.all_eq_true_iff_forall_mem]
  intro v hv
  simp [recL, ic] at hv
  rcases hv with rfl | rfl | rfl | ⟨x, _, rfl⟩ | ⟨x, _, rfl⟩ <;> rfl

theorem wp_alloc_row {P : Program} {ops : Array Oper} {rest : List Oper} {o : Oper} {a : Act} {w : World} {Q : Exit → Act → World → Prop} (hgd : o.guard = none) (ty : TypeId) (ho : o.op = .alloc ty) (cs : List Value) (n : Nat)
    (hz : (P.info? ty).map (fun i => (i.zero, i.size)) = some (some (.agg cs.toArray), n))
    (h : ∀ g w1, w1.heap[g]? = some (.cells cs.toArray ty (0, 0)) → w.heap.size ≤ g → Below w.heap.size w w1 → wpList P ops Q rest (a.put o.dst (.pointer (some ⟨g, 0, none⟩))) w1) : wpList P ops Q (o :: rest) a w :=
  wpList_plain hgd fun K hK => by
    unfold Oper.wp execOp
    simp only [ho, Instr.alloc, Sem.run_bind, (zero_of_info hz).1 w, newVar, newRow, Value.cells, run_newObj_alloc, Sem.run_pure, Result.andThen_ok]
    exact hK _ _ (h w.heap.size _ (heap_alloc_new w _) (Nat.le_refl _) ((Below.refl _ _).alloc (Nat.le_refl _) _))
/-- A whole record into its variable. -/
theorem wp_store_rec {ops : Array Oper} {rest : List Oper} {o : Oper} {a : Act} {w : World} {Q : Exit → Act → World → Prop} (hgd : o.guard = none) (x y : Operand) (ho : o.op = .store 44 x y)
    (g : Nat) (hx : a.eval x = .pointer (some ⟨g, 0, none⟩)) (ys : List Value) (hy : a.eval y = .agg ys.toArray) (xs : List Value) (hg : RcAt w g xs) (hl : xs.length = 67) (hl' : ys.length = 67) (h1 : ys.toArray.all (·.oneCell') = true)
    (h : ∀ w1, RcAt w1 g ys → Keep (fun j => j = g) w w1 → wpList Tryz.prog ops Q rest (a.put o.dst undef) w1) : wpList Tryz.prog ops Q (o :: rest) a w :=
  wpList_store_row hgd 44 x y ho g _ hx hy 44 _ hg (by rw [show (Tryz.prog.info? 44).map (·.size) = some 67 from by kernel_rfl]; simp [hl']) (by simp [hl, hl']) h1
    (h _ (setRow_heap w g _ _ 44 (0, 0) hg) ⟨rfl, rfl, rfl, by simp, fun j _ hj => setRow_other w g j _ hj⟩)
/-- A whole record out of its variable. -/
theorem wp_load_rec {ops : Array Oper} {rest : List Oper} {o : Oper} {a : Act} {w : World} {Q : Exit → Act → World → Prop} (hgd : o.guard = none) (x : Operand) (ho : o.op = .load 44 x)
    (g : Nat) (hx : a.eval x = .pointer (some ⟨g, 0, none⟩)) (cs : List Value) (hg : RcAt w g cs) (hl : cs.length = 67)
    (h : wpList Tryz.prog ops Q rest (a.put o.dst (.agg cs.toArray)) w) : wpList Tryz.prog ops Q (o :: rest) a w :=
  wpList_load_row hgd 44 x ho g hx 44 _ (0, 0) _ hg Tryz.underlying44 rfl (by rw [show (Tryz.prog.info? 44).map (·.size) = some 67 from by kernel_rfl]; simp [hl]) h
theorem wp_build_recP {ops : Array Oper} {rest : List Oper} {o : Oper} {a : Act} {w : World} {Q : Exit → Act → World → Prop} (hgd : o.guard = none) (x y v : Operand) (ho : o.op = .build 44 #[(3, x), (4, y), (2, v)])
    (z : Int) (K V : List Int) (hx : a.eval x = .agg (ic .u8 K).toArray) (hy : a.eval y = .agg (ic .u8 V).toArray) (hv : a.eval v = .int .i64 z) (hK : K.length = 32) (hV : V.length = 32)
    (h : wpList Tryz.prog ops Q rest (a.put o.dst (.agg (recL (.string ⟨#[]⟩) (.slice none 0 0) (.int .i64 z) K V).toArray)) w) : wpList Tryz.prog ops Q (o :: rest) a w :=
  wpList_plain hgd fun K' hK' => by
    have hr := run_build w 44 #[(3, .agg (ic .u8 K).toArray), (4, .agg (ic .u8 V).toArray), (2, .int .i64 z)] _ (built_recP z K V hK hV)
    unfold Oper.wp execOp
    simp only [ho, List.map_toArray, List.map_cons, List.map_nil, hx, hy, hv, Sem.run_bind, hr, Result.andThen_ok, Sem.run_pure]
    exact hK' _ _ h

set_option maxHeartbeats 4000000 in
set_option maxRecDepth 1000000 in
theorem agrees_a1 (P U O T R : Tx) (a : Option Addr) (n c : Nat) (ss : List Int) (N turn : Int) (w : World) (h1 : P.length ≤ 9223372036854775807) (h2 : U.length ≤ 9223372036854775807) (h3 : O.length ≤ 9223372036854775807) (_ : T.length ≤ 9223372036854775807) (_ : R.length ≤ 9223372036854775807) (hR : Rd w a n c ss) (hK : Kt w) (hM : Mx w) (hT : Lib.Utf8Tabs 1 2 w)
    (P2 U2 O2 T2 SB : Tx) (X A B : List Int) (M EB EK : Int) (HP2 : Hid (P.take 200 = P2)) (HU2 : Hid (U.take 1100 = U2)) (HO2 : Hid (O.take 1100 = O2)) (_ : Hid (T.take 1100 = T2)) (HX : Hid (ss.take 60 = X)) (HM : Hid (rnd N = M)) (lA : A.length = 32) (lB : B.length = 32)
    (cG : ∀ u, Below w.heap.size w u → Calls Tryz.prog 19 #[.string ⟨U2.toArray⟩, .string ⟨O2.toArray⟩] u fun e w' => e = .returned (.tuple #[.string ⟨SB.toArray⟩, .int .i64 EB]) ∧ Below u.heap.size u w')
    (cKe : ∀ (u : World) (a : Option Addr) (n c : Nat), Rd u a n c X → n ≤ 10000 → Kt u → Calls Tryz.prog 8 #[.string ⟨P2.toArray⟩, .slice a n c, .int .i64 M] u fun e w' => e = .returned (.tuple #[.agg (ic .u8 A).toArray, .agg (ic .u8 B).toArray, .int .i64 EK]) ∧ Below u.heap.size u w') (_ : (EB == 0) = false) (hE2 : (EB != 0) = true) :
    Calls Tryz.prog 5 #[.agg #[.string ⟨P.toArray⟩, .string ⟨U.toArray⟩, .string ⟨O.toArray⟩, .string ⟨T.toArray⟩, .slice a n c, .int .i64 N], .string ⟨R.toArray⟩, .int .i64 turn] w fun e w' => e = .returned (.bool true) ∧ Below w.heap.size w w' := by
  have hi23 := (size_of Tryz.u23).2
  have cP := fun w => text_tx P 200 w h1 (by omega)
  have cU := fun w => cutL_any U w h2
  have cO := fun w => cutL_any O w h3
  rw [HP2.out] at cP
  rw [HU2.out] at cU
  rw [HO2.out] at cO
  have cf := fun (u : World) (h : Rd u a n c ss) => fewR60 a n c ss u h
  rw [HX.out] at cf
  have cr := fun u => rounds_any N u
  rw [HM.out] at cr
  have cW := fun (u : World) (hb : Below w.heap.size w u) => wakes_any u (hM.below hb) (tabs_below hT hb)
  have HcW : Hid _ := cW
  have hb0 : Below w.heap.size w (w.alloc (.cells #[.string ⟨P.toArray⟩, .string ⟨U.toArray⟩, .string ⟨O.toArray⟩, .string ⟨T.toArray⟩, .slice a n c, .int .i64 N] 24)) := (Below.refl _ _).alloc (Nat.le_refl _) _
  have hT0 : TkAt (w.alloc (.cells #[.string ⟨P.toArray⟩, .string ⟨U.toArray⟩, .string ⟨O.toArray⟩, .string ⟨T.toArray⟩, .slice a n c, .int .i64 N] 24)) w.heap.size (.string ⟨P.toArray⟩) (.string ⟨U.toArray⟩) (.string ⟨O.toArray⟩) (.string ⟨T.toArray⟩) (.slice a n c) (.int .i64 N) := heap_alloc_new _ _
  have rc5 := hT0.c5
  clear cW
  have tk1 : True := trivial
  have tk2 : True := trivial
  go_enter Tryz.func5, Tryz.ntmps5
  go_upto_region 3 with (first
    | (go_at_call 6; refine (cr _).mono ?_; rintro e w1 ⟨rfl, hb1⟩; have hT1 := hT0.below hb1; have e1 := bel_step hb0 hb1; have rc0 := hT1.c0)
    | (go_at_call 7; refine (cP _).mono ?_; rintro e wq ⟨rfl, rfl⟩))
  obtain ⟨g3, Hg3⟩ : ∃ g, Hid (w.heap.size = g) := ⟨_, rfl⟩
  have hT1' : TkAt wq.drew g3 (.string ⟨P.toArray⟩) (.string ⟨U.toArray⟩) (.string ⟨O.toArray⟩) (.string ⟨T.toArray⟩) (.slice a n c) (.int .i64 N) := by rw [← Hg3.out]; exact hT1
  have e1' := e1.drew
  rw [Hg3.out]
  clear rc5 rc0 hT0 hb0 hb1 hT1 e1 cr cP
  refine wp_region_lx (fun w' => Below wq.drew.heap.size wq.drew w') [] 12 (by kernel_rfl) (by kernel_rfl) ?_
  obtain ⟨W, HW⟩ : ∃ W, Hid (wq.drew = W) := ⟨_, rfl⟩
  rw [HW.out] at hT1' e1' ⊢
  have HS0 : Below W.heap.size W W := Below.refl _ _
  refine lx_rd 0 (.pointer (some ⟨g3, 1, none⟩)) (by kernel_rfl) (fun _ _ d _ _ h => by cases d <;> exact h) (by kernel_rfl) HS0 rfl rfl rfl (fun w' hS => ?hA0) ?_
  case hA0 => first | (go_simp; rfl) | (go_simp; done) | (go_simp; exact idx_ok (by omega) (by omega)) | (go_simp; exact wi64' (by omega) (by omega) (by omega)) | (go_simp; intro hh; exfalso; omega)
  simp only [List.setIfInBounds_toArray, List.set_cons_zero, List.set_cons_succ]
  refine lx_rd 1 (.string ⟨U.toArray⟩) (by kernel_rfl) (fun _ _ d _ _ h => by cases d <;> exact h) (by kernel_rfl) HS0 rfl rfl rfl (fun w' hS => ?hA1) ?_
  case hA1 => have hc := (hT1'.below hS).c1; first | (go_simp; rfl) | (go_simp; done) | (go_simp; exact idx_ok (by omega) (by omega)) | (go_simp; exact wi64' (by omega) (by omega) (by omega)) | (go_simp; intro hh; exfalso; omega)
  simp only [List.setIfInBounds_toArray, List.set_cons_zero, List.set_cons_succ]
  refine lx_rd 3 (.pointer (some ⟨g3, 2, none⟩)) (by kernel_rfl) (fun _ _ d _ _ h => by cases d <;> exact h) (by kernel_rfl) HS0 rfl rfl rfl (fun w' hS => ?hA3) ?_
  case hA3 => first | (go_simp; rfl) | (go_simp; done) | (go_simp; exact idx_ok (by omega) (by omega)) | (go_simp; exact wi64' (by omega) (by omega) (by omega)) | (go_simp; intro hh; exfalso; omega)
  simp only [List.setIfInBounds_toArray, List.set_cons_zero, List.set_cons_succ]
  refine lx_rd 4 (.string ⟨O.toArray⟩) (by kernel_rfl) (fun _ _ d _ _ h => by cases d <;> exact h) (by kernel_rfl) HS0 rfl rfl rfl (fun w' hS => ?hA4) ?_
  case hA4 => have hc := (hT1'.below hS).c2; first | (go_simp; rfl) | (go_simp; done) | (go_simp; exact idx_ok (by omega) (by omega)) | (go_simp; exact wi64' (by omega) (by omega) (by omega)) | (go_simp; intro hh; exfalso; omega)
  simp only [List.setIfInBounds_toArray, List.set_cons_zero, List.set_cons_succ]
  refine lx_one 2 (by kernel_rfl) (stepT_call 12 #[.string ⟨U.toArray⟩] rfl rfl rfl ?rA2 ?_)
  case rA2 => first | (go_simp; rfl) | go_simp
  refine (cU _).mono ?_
  rintro e wx ⟨rfl, hx⟩
  replace hx := hx.symm
  subst hx
  refine ⟨_, rfl, fun _ => HS0, ?_⟩
  simp only [List.setIfInBounds_toArray, List.set_cons_zero, List.set_cons_succ]
  refine lx_one 5 (by kernel_rfl) (stepT_call 12 #[.string ⟨O.toArray⟩] rfl rfl rfl ?rA5 ?_)
  case rA5 => first | (go_simp; rfl) | go_simp
  refine (cO _).mono ?_
  rintro e wx ⟨rfl, hx⟩
  replace hx := hx.symm
  subst hx
  refine ⟨_, rfl, fun _ => HS0, ?_⟩
  simp only [List.setIfInBounds_toArray, List.set_cons_zero, List.set_cons_succ]
  refine lx_one 6 (by kernel_rfl) (stepT_call 19 #[.string ⟨U2.toArray⟩, .string ⟨O2.toArray⟩] rfl rfl rfl ?rA6 ?_)
  case rA6 => first | (go_simp; rfl) | go_simp
  refine (cG _ e1').mono ?_
  rintro e w2 ⟨rfl, hb2⟩
  refine ⟨_, rfl, fun _ => hb2, ?_⟩
  simp only [List.setIfInBounds_toArray, List.set_cons_zero, List.set_cons_succ]
  refine lx_rd 7 (.tuple #[.string ⟨SB.toArray⟩, .int .i64 EB]) (by kernel_rfl) (fun _ _ d _ _ h => by cases d <;> exact h) (by kernel_rfl) hb2 rfl rfl rfl (fun w' hS => ?hB7) ?_
  case hB7 => first | (go_simp; rfl) | (go_simp; done) | (go_simp; exact idx_ok (by omega) (by omega)) | (go_simp; exact wi64' (by omega) (by omega) (by omega)) | (go_simp; intro hh; exfalso; omega)
  simp only [List.setIfInBounds_toArray, List.set_cons_zero, List.set_cons_succ]
  refine lx_rd 8 (.string ⟨SB.toArray⟩) (by kernel_rfl) (fun _ _ d _ _ h => by cases d <;> exact h) (by kernel_rfl) hb2 rfl rfl rfl (fun w' hS => ?hB8) ?_
  case hB8 => first | (go_simp; rfl) | (go_simp; done) | (go_simp; exact idx_ok (by omega) (by omega)) | (go_simp; exact wi64' (by omega) (by omega) (by omega)) | (go_simp; intro hh; exfalso; omega)
  simp only [List.setIfInBounds_toArray, List.set_cons_zero, List.set_cons_succ]
  refine lx_rd 9 (.int .i64 EB) (by kernel_rfl) (fun _ _ d _ _ h => by cases d <;> exact h) (by kernel_rfl) hb2 rfl rfl rfl (fun w' hS => ?hB9) ?_
  case hB9 => first | (go_simp; rfl) | (go_simp; done) | (go_simp; exact idx_ok (by omega) (by omega)) | (go_simp; exact wi64' (by omega) (by omega) (by omega)) | (go_simp; intro hh; exfalso; omega)
  simp only [List.setIfInBounds_toArray, List.set_cons_zero, List.set_cons_succ]
  refine lx_rd 10 (.string ⟨SB.toArray⟩) (by kernel_rfl) (fun _ _ d _ _ h => by cases d <;> exact h) (by kernel_rfl) hb2 rfl rfl rfl (fun w' hS => ?hB10) ?_
  case hB10 => first | (go_simp; rfl) | (go_simp; done) | (go_simp; exact idx_ok (by omega) (by omega)) | (go_simp; exact wi64' (by omega) (by omega) (by omega)) | (go_simp; intro hh; exfalso; omega)
  simp only [List.setIfInBounds_toArray, List.set_cons_zero, List.set_cons_succ]
  refine lx_rd 11 (.int .i64 EB) (by kernel_rfl) (fun _ _ d _ _ h => by cases d <;> exact h) (by kernel_rfl) hb2 rfl rfl rfl (fun w' hS => ?hB11) ?_
  case hB11 => first | (go_simp; rfl) | (go_simp; done) | (go_simp; exact idx_ok (by omega) (by omega)) | (go_simp; exact wi64' (by omega) (by omega) (by omega)) | (go_simp; intro hh; exfalso; omega)
  simp only [List.setIfInBounds_toArray, List.set_cons_zero, List.set_cons_succ]
  refine lx_nil (by kernel_rfl) ?_
  have hT2' := hT1'.below hb2
  have e2 := bel_step e1' hb2
  have rc4 := hT2'.c4
  have R2 := hR.carry (Nat.le_refl _) e2
  clear HS0 HW hT1' e1' hb2 cU cO cG
  go_upto_region 5 with (first
    | (go_at_call 9; refine (cf _ R2).mono ?_; rintro e w3 ⟨a3, n3, c3, rfl, hn3, R3, hb3⟩; have e3 := bel_step e2 hb3)
    | (go_at_call 8; refine (cKe _ a3 n3 c3 R3 (by omega) (hK.below (Nat.le_refl _) e3)).mono ?_; rintro e w4 ⟨rfl, hb4⟩; have e4 := bel_step e3 hb4; have b4 := bel_step hb3 hb4)
    | (clear tk1; refine wp_alloc_ar rfl 27 rfl .u8 (List.replicate 32 0) 32 Tryz.z23 ?_; intro g11 w5 A11 hg11 hb5; have e5 := bel_step e4 hb5; have b5 := bel_step b4 hb5)
    | (clear tk2; refine wp_alloc_ar rfl 27 rfl .u8 (List.replicate 32 0) 32 Tryz.z23 ?_; intro g12 w6 A12 hg12 hb6; have e6 := bel_step e5 hb6; have b6 := bel_step b5 hb6; have A11' := A11.below hb6 A11.lt; have l11 := A11.lt)
    | (refine wp_store_ar rfl 27 (.tmp 11) (.tmp 49) rfl g11 rfl .u8 A rfl 27 _ A11' (by rw [lA]; rfl) (by rw [lA]; exact hi23) ?_; intro w7 B11 hk7 hs7; clear hs7; have A12' := A12.keep hk7 (by omega))
    | (refine wp_store_ar rfl 27 (.tmp 12) (.tmp 50) rfl g12 rfl .u8 B rfl 27 _ A12' (by rw [lB]; rfl) (by rw [lB]; exact hi23) ?_; intro w8 B12 hk8 hs8; clear hs8; have B11' := B11.keep hk8 (by omega)))
  have z4 : w2.heap.size ≤ w4.heap.size := b4.size
  have z5 : w2.heap.size ≤ w5.heap.size := b5.size
  have b7 : Below w2.heap.size w2 w7 := b6.trans (hk7.below b6.size (fun q hq => by omega))
  have b8 : Below w2.heap.size w2 w8 := b7.trans (hk8.below b7.size (fun q hq => by omega))
  have e8 := bel_step e2 b8
  have O8 : Obs w8 [(g3, .cells #[.string ⟨P.toArray⟩, .string ⟨U.toArray⟩, .string ⟨O.toArray⟩, .string ⟨T.toArray⟩, .slice a n c, .int .i64 N] 24), (g11, .cells (ic .u8 A).toArray 27), (g12, .cells (ic .u8 B).toArray 27)] := ⟨hT2'.below b8, B11', B12, trivial⟩
  clear rc4 R2 hT2' hb3 hb4 hb5 hb6 hk7 hk8 e3 e4 e5 e6 b4 b5 b6 b7 b8 A11 A11' A12 A12' B11 B11' B12 R3 e2 hg11 hg12 l11 z4 z5 cKe cf
  go_wp2_with (go_at_call 14; refine (HcW.out _ e8).mono ?_; rintro e w9 ⟨rfl, hb9⟩)
  go_ret
  exact ⟨rfl, bel_step e8 hb9⟩

set_option maxHeartbeats 4000000 in
set_option maxRecDepth 1000000 in
theorem agrees_a2 (P U O T R : Tx) (a : Option Addr) (n c : Nat) (ss : List Int) (N turn : Int) (w : World) (h1 : P.length ≤ 9223372036854775807) (h2 : U.length ≤ 9223372036854775807) (h3 : O.length ≤ 9223372036854775807) (_ : T.length ≤ 9223372036854775807) (_ : R.length ≤ 9223372036854775807) (hR : Rd w a n c ss) (hK : Kt w) (hM : Mx w) (hT : Lib.Utf8Tabs 1 2 w)
    (P2 U2 O2 T2 SB : Tx) (X A B : List Int) (M EB EK : Int) (HP2 : Hid (P.take 200 = P2)) (HU2 : Hid (U.take 1100 = U2)) (HO2 : Hid (O.take 1100 = O2)) (_ : Hid (T.take 1100 = T2)) (HX : Hid (ss.take 60 = X)) (HM : Hid (rnd N = M)) (lA : A.length = 32) (lB : B.length = 32)
    (cG : ∀ u, Below w.heap.size w u → Calls Tryz.prog 19 #[.string ⟨U2.toArray⟩, .string ⟨O2.toArray⟩] u fun e w' => e = .returned (.tuple #[.string ⟨SB.toArray⟩, .int .i64 EB]) ∧ Below u.heap.size u w')
    (cKe : ∀ (u : World) (a : Option Addr) (n c : Nat), Rd u a n c X → n ≤ 10000 → Kt u → Calls Tryz.prog 8 #[.string ⟨P2.toArray⟩, .slice a n c, .int .i64 M] u fun e w' => e = .returned (.tuple #[.agg (ic .u8 A).toArray, .agg (ic .u8 B).toArray, .int .i64 EK]) ∧ Below u.heap.size u w') (_ : (EK == 0) = false) (hE2 : (EK != 0) = true) (hB0 : EB = 0) :
    Calls Tryz.prog 5 #[.agg #[.string ⟨P.toArray⟩, .string ⟨U.toArray⟩, .string ⟨O.toArray⟩, .string ⟨T.toArray⟩, .slice a n c, .int .i64 N], .string ⟨R.toArray⟩, .int .i64 turn] w fun e w' => e = .returned (.bool true) ∧ Below w.heap.size w w' := by
  subst hB0
  have hi23 := (size_of Tryz.u23).2
  have cP := fun w => text_tx P 200 w h1 (by omega)
  have cU := fun w => cutL_any U w h2
  have cO := fun w => cutL_any O w h3
  rw [HP2.out] at cP
  rw [HU2.out] at cU
  rw [HO2.out] at cO
  have cf := fun (u : World) (h : Rd u a n c ss) => fewR60 a n c ss u h
  rw [HX.out] at cf
  have cr := fun u => rounds_any N u
  rw [HM.out] at cr
  have cW := fun (u : World) (hb : Below w.heap.size w u) => wakes_any u (hM.below hb) (tabs_below hT hb)
  have HcW : Hid _ := cW
  have hb0 : Below w.heap.size w (w.alloc (.cells #[.string ⟨P.toArray⟩, .string ⟨U.toArray⟩, .string ⟨O.toArray⟩, .string ⟨T.toArray⟩, .slice a n c, .int .i64 N] 24)) := (Below.refl _ _).alloc (Nat.le_refl _) _
  have hT0 : TkAt (w.alloc (.cells #[.string ⟨P.toArray⟩, .string ⟨U.toArray⟩, .string ⟨O.toArray⟩, .string ⟨T.toArray⟩, .slice a n c, .int .i64 N] 24)) w.heap.size (.string ⟨P.toArray⟩) (.string ⟨U.toArray⟩) (.string ⟨O.toArray⟩) (.string ⟨T.toArray⟩) (.slice a n c) (.int .i64 N) := heap_alloc_new _ _
  have rc5 := hT0.c5
  clear cW
  have tk1 : True := trivial
  have tk2 : True := trivial
  go_enter Tryz.func5, Tryz.ntmps5
  go_upto_region 3 with (first
    | (go_at_call 6; refine (cr _).mono ?_; rintro e w1 ⟨rfl, hb1⟩; have hT1 := hT0.below hb1; have e1 := bel_step hb0 hb1; have rc0 := hT1.c0)
    | (go_at_call 7; refine (cP _).mono ?_; rintro e wq ⟨rfl, rfl⟩))
  obtain ⟨g3, Hg3⟩ : ∃ g, Hid (w.heap.size = g) := ⟨_, rfl⟩
  have hT1' : TkAt wq.drew g3 (.string ⟨P.toArray⟩) (.string ⟨U.toArray⟩) (.string ⟨O.toArray⟩) (.string ⟨T.toArray⟩) (.slice a n c) (.int .i64 N) := by rw [← Hg3.out]; exact hT1
  have e1' := e1.drew
  rw [Hg3.out]
  clear rc5 rc0 hT0 hb0 hb1 hT1 e1 cr cP
  refine wp_region_lx (fun w' => Below wq.drew.heap.size wq.drew w') [] 12 (by kernel_rfl) (by kernel_rfl) ?_
  obtain ⟨W, HW⟩ : ∃ W, Hid (wq.drew = W) := ⟨_, rfl⟩
  rw [HW.out] at hT1' e1' ⊢
  have HS0 : Below W.heap.size W W := Below.refl _ _
  refine lx_rd 0 (.pointer (some ⟨g3, 1, none⟩)) (by kernel_rfl) (fun _ _ d _ _ h => by cases d <;> exact h) (by kernel_rfl) HS0 rfl rfl rfl (fun w' hS => ?hA0) ?_
  case hA0 => first | (go_simp; rfl) | (go_simp; done) | (go_simp; exact idx_ok (by omega) (by omega)) | (go_simp; exact wi64' (by omega) (by omega) (by omega)) | (go_simp; intro hh; exfalso; omega)
  simp only [List.setIfInBounds_toArray, List.set_cons_zero, List.set_cons_succ]
  refine lx_rd 1 (.string ⟨U.toArray⟩) (by kernel_rfl) (fun _ _ d _ _ h => by cases d <;> exact h) (by kernel_rfl) HS0 rfl rfl rfl (fun w' hS => ?hA1) ?_
  case hA1 => have hc := (hT1'.below hS).c1; first | (go_simp; rfl) | (go_simp; done) | (go_simp; exact idx_ok (by omega) (by omega)) | (go_simp; exact wi64' (by omega) (by omega) (by omega)) | (go_simp; intro hh; exfalso; omega)
  simp only [List.setIfInBounds_toArray, List.set_cons_zero, List.set_cons_succ]
  refine lx_rd 3 (.pointer (some ⟨g3, 2, none⟩)) (by kernel_rfl) (fun _ _ d _ _ h => by cases d <;> exact h) (by kernel_rfl) HS0 rfl rfl rfl (fun w' hS => ?hA3) ?_
  case hA3 => first | (go_simp; rfl) | (go_simp; done) | (go_simp; exact idx_ok (by omega) (by omega)) | (go_simp; exact wi64' (by omega) (by omega) (by omega)) | (go_simp; intro hh; exfalso; omega)
  simp only [List.setIfInBounds_toArray, List.set_cons_zero, List.set_cons_succ]
  refine lx_rd 4 (.string ⟨O.toArray⟩) (by kernel_rfl) (fun _ _ d _ _ h => by cases d <;> exact h) (by kernel_rfl) HS0 rfl rfl rfl (fun w' hS => ?hA4) ?_
  case hA4 => have hc := (hT1'.below hS).c2; first | (go_simp; rfl) | (go_simp; done) | (go_simp; exact idx_ok (by omega) (by omega)) | (go_simp; exact wi64' (by omega) (by omega) (by omega)) | (go_simp; intro hh; exfalso; omega)
  simp only [List.setIfInBounds_toArray, List.set_cons_zero, List.set_cons_succ]
  refine lx_one 2 (by kernel_rfl) (stepT_call 12 #[.string ⟨U.toArray⟩] rfl rfl rfl ?rA2 ?_)
  case rA2 => first | (go_simp; rfl) | go_simp
  refine (cU _).mono ?_
  rintro e wx ⟨rfl, hx⟩
  replace hx := hx.symm
  subst hx
  refine ⟨_, rfl, fun _ => HS0, ?_⟩
  simp only [List.setIfInBounds_toArray, List.set_cons_zero, List.set_cons_succ]
  refine lx_one 5 (by kernel_rfl) (stepT_call 12 #[.string ⟨O.toArray⟩] rfl rfl rfl ?rA5 ?_)
  case rA5 => first | (go_simp; rfl) | go_simp
  refine (cO _).mono ?_
  rintro e wx ⟨rfl, hx⟩
  replace hx := hx.symm
  subst hx
  refine ⟨_, rfl, fun _ => HS0, ?_⟩
  simp only [List.setIfInBounds_toArray, List.set_cons_zero, List.set_cons_succ]
  refine lx_one 6 (by kernel_rfl) (stepT_call 19 #[.string ⟨U2.toArray⟩, .string ⟨O2.toArray⟩] rfl rfl rfl ?rA6 ?_)
  case rA6 => first | (go_simp; rfl) | go_simp
  refine (cG _ e1').mono ?_
  rintro e w2 ⟨rfl, hb2⟩
  refine ⟨_, rfl, fun _ => hb2, ?_⟩
  simp only [List.setIfInBounds_toArray, List.set_cons_zero, List.set_cons_succ]
  refine lx_rd 7 (.tuple #[.string ⟨SB.toArray⟩, .int .i64 0]) (by kernel_rfl) (fun _ _ d _ _ h => by cases d <;> exact h) (by kernel_rfl) hb2 rfl rfl rfl (fun w' hS => ?hB7) ?_
  case hB7 => first | (go_simp; rfl) | (go_simp; done) | (go_simp; exact idx_ok (by omega) (by omega)) | (go_simp; exact wi64' (by omega) (by omega) (by omega)) | (go_simp; intro hh; exfalso; omega)
  simp only [List.setIfInBounds_toArray, List.set_cons_zero, List.set_cons_succ]
  refine lx_rd 8 (.string ⟨SB.toArray⟩) (by kernel_rfl) (fun _ _ d _ _ h => by cases d <;> exact h) (by kernel_rfl) hb2 rfl rfl rfl (fun w' hS => ?hB8) ?_
  case hB8 => first | (go_simp; rfl) | (go_simp; done) | (go_simp; exact idx_ok (by omega) (by omega)) | (go_simp; exact wi64' (by omega) (by omega) (by omega)) | (go_simp; intro hh; exfalso; omega)
  simp only [List.setIfInBounds_toArray, List.set_cons_zero, List.set_cons_succ]
  refine lx_rd 9 (.int .i64 0) (by kernel_rfl) (fun _ _ d _ _ h => by cases d <;> exact h) (by kernel_rfl) hb2 rfl rfl rfl (fun w' hS => ?hB9) ?_
  case hB9 => first | (go_simp; rfl) | (go_simp; done) | (go_simp; exact idx_ok (by omega) (by omega)) | (go_simp; exact wi64' (by omega) (by omega) (by omega)) | (go_simp; intro hh; exfalso; omega)
  simp only [List.setIfInBounds_toArray, List.set_cons_zero, List.set_cons_succ]
  refine lx_rd 10 (.string ⟨SB.toArray⟩) (by kernel_rfl) (fun _ _ d _ _ h => by cases d <;> exact h) (by kernel_rfl) hb2 rfl rfl rfl (fun w' hS => ?hB10) ?_
  case hB10 => first | (go_simp; rfl) | (go_simp; done) | (go_simp; exact idx_ok (by omega) (by omega)) | (go_simp; exact wi64' (by omega) (by omega) (by omega)) | (go_simp; intro hh; exfalso; omega)
  simp only [List.setIfInBounds_toArray, List.set_cons_zero, List.set_cons_succ]
  refine lx_rd 11 (.int .i64 0) (by kernel_rfl) (fun _ _ d _ _ h => by cases d <;> exact h) (by kernel_rfl) hb2 rfl rfl rfl (fun w' hS => ?hB11) ?_
  case hB11 => first | (go_simp; rfl) | (go_simp; done) | (go_simp; exact idx_ok (by omega) (by omega)) | (go_simp; exact wi64' (by omega) (by omega) (by omega)) | (go_simp; intro hh; exfalso; omega)
  simp only [List.setIfInBounds_toArray, List.set_cons_zero, List.set_cons_succ]
  refine lx_nil (by kernel_rfl) ?_
  have hT2' := hT1'.below hb2
  have e2 := bel_step e1' hb2
  have rc4 := hT2'.c4
  have R2 := hR.carry (Nat.le_refl _) e2
  clear HS0 HW hT1' e1' hb2 cU cO cG
  go_upto_region 5 with (first
    | (go_at_call 9; refine (cf _ R2).mono ?_; rintro e w3 ⟨a3, n3, c3, rfl, hn3, R3, hb3⟩; have e3 := bel_step e2 hb3)
    | (go_at_call 8; refine (cKe _ a3 n3 c3 R3 (by omega) (hK.below (Nat.le_refl _) e3)).mono ?_; rintro e w4 ⟨rfl, hb4⟩; have e4 := bel_step e3 hb4; have b4 := bel_step hb3 hb4)
    | (clear tk1; refine wp_alloc_ar rfl 27 rfl .u8 (List.replicate 32 0) 32 Tryz.z23 ?_; intro g11 w5 A11 hg11 hb5; have e5 := bel_step e4 hb5; have b5 := bel_step b4 hb5)
    | (clear tk2; refine wp_alloc_ar rfl 27 rfl .u8 (List.replicate 32 0) 32 Tryz.z23 ?_; intro g12 w6 A12 hg12 hb6; have e6 := bel_step e5 hb6; have b6 := bel_step b5 hb6; have A11' := A11.below hb6 A11.lt; have l11 := A11.lt)
    | (refine wp_store_ar rfl 27 (.tmp 11) (.tmp 49) rfl g11 rfl .u8 A rfl 27 _ A11' (by rw [lA]; rfl) (by rw [lA]; exact hi23) ?_; intro w7 B11 hk7 hs7; clear hs7; have A12' := A12.keep hk7 (by omega))
    | (refine wp_store_ar rfl 27 (.tmp 12) (.tmp 50) rfl g12 rfl .u8 B rfl 27 _ A12' (by rw [lB]; rfl) (by rw [lB]; exact hi23) ?_; intro w8 B12 hk8 hs8; clear hs8; have B11' := B11.keep hk8 (by omega)))
  have z4 : w2.heap.size ≤ w4.heap.size := b4.size
  have z5 : w2.heap.size ≤ w5.heap.size := b5.size
  have b7 : Below w2.heap.size w2 w7 := b6.trans (hk7.below b6.size (fun q hq => by omega))
  have b8 : Below w2.heap.size w2 w8 := b7.trans (hk8.below b7.size (fun q hq => by omega))
  have e8 := bel_step e2 b8
  have O8 : Obs w8 [(g3, .cells #[.string ⟨P.toArray⟩, .string ⟨U.toArray⟩, .string ⟨O.toArray⟩, .string ⟨T.toArray⟩, .slice a n c, .int .i64 N] 24), (g11, .cells (ic .u8 A).toArray 27), (g12, .cells (ic .u8 B).toArray 27)] := ⟨hT2'.below b8, B11', B12, trivial⟩
  clear rc4 R2 hT2' hb3 hb4 hb5 hb6 hk7 hk8 e3 e4 e5 e6 b4 b5 b6 b7 b8 A11 A11' A12 A12' B11 B11' B12 R3 e2 hg11 hg12 l11 z4 z5 cKe cf
  go_wp2_with (go_at_call 14; refine (HcW.out _ e8).mono ?_; rintro e w9 ⟨rfl, hb9⟩)
  go_ret
  exact ⟨rfl, bel_step e8 hb9⟩
end Go.Proofs.YtmilcknboaefkaaGreatDoor
