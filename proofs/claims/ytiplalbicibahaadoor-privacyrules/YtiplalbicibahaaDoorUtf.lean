/- UTF-8 as a function on lists of bytes; Go's two tables. -/
import Derived.Test.YtiplalbicibahaaDoorBytes
import Derived.Test.YtiplalbicibahaaDoorExt
namespace Go.Proofs.YtiplalbicibahaaDoor
open Go.RowKit

/-- How many bytes a rune with this first byte has (1: no first byte), and the bounds of the second. -/
def usz (c : Int) : Nat := if 194 ≤ c ∧ c ≤ 223 then 2 else if 224 ≤ c ∧ c ≤ 239 then 3 else if 240 ≤ c ∧ c ≤ 244 then 4 else 1
def ulo (c : Int) : Int := if c = 224 then 160 else if c = 240 then 144 else 128
def uhi (c : Int) : Int := if c = 237 then 159 else if c = 244 then 143 else 191
def oks (c p : Int) : Bool := decide (ulo c ≤ p) && decide (p ≤ uhi c)
def okc (p : Int) : Bool := decide (128 ≤ p) && decide (p ≤ 191)

def vldF : Nat → List Int → Bool
  | 0, _ => true
  | _ + 1, [] => true
  | n + 1, c :: r =>
    if c < 128 then vldF n r
    else if usz c = 2 then (if 1 ≤ r.length then oks c (r.getD 0 0) && vldF n (r.drop 1) else false)
    else if usz c = 3 then (if 2 ≤ r.length then oks c (r.getD 0 0) && okc (r.getD 1 0) && vldF n (r.drop 2) else false)
    else if usz c = 4 then (if 3 ≤ r.length then oks c (r.getD 0 0) && okc (r.getD 1 0) && okc (r.getD 2 0) && vldF n (r.drop 3) else false)
    else false
/-- More steps than bytes make no difference. -/
theorem vldF_eq : ∀ (n m : Nat) (l : List Int), l.length ≤ n → l.length ≤ m → vldF n l = vldF m l
  | 0, 0, _, _, _ => rfl
  | 0, _ + 1, [], _, _ => rfl
  | 0, _ + 1, _ :: _, h, _ => by simp at h
  | _ + 1, 0, [], _, _ => rfl
  | _ + 1, 0, _ :: _, _, h => by simp at h
  | _ + 1, _ + 1, [], _, _ => rfl
  | n + 1, m + 1, c :: r, h, h' => by
    have h1 : r.length ≤ n := by simp at h; exact h
    have h2 : r.length ≤ m := by simp at h'; exact h'
    have e : ∀ k, vldF n (r.drop k) = vldF m (r.drop k) := fun k => vldF_eq n m (r.drop k) (by rw [List.length_drop]; omega) (by rw [List.length_drop]; omega)
    have e0 := vldF_eq n m r h1 h2
    unfold vldF
    rw [e0, e 1, e 2, e 3]
def vld (l : List Int) : Bool := vldF l.length l
theorem vldF_vld {n : Nat} {l : List Int} (h : l.length ≤ n) : vldF n l = vld l := vldF_eq n l.length l h (Nat.le_refl _)
theorem vld_cons (c : Int) (r : List Int) : vld (c :: r) =
    if c < 128 then vld r
    else if usz c = 2 then (if 1 ≤ r.length then oks c (r.getD 0 0) && vld (r.drop 1) else false)
    else if usz c = 3 then (if 2 ≤ r.length then oks c (r.getD 0 0) && okc (r.getD 1 0) && vld (r.drop 2) else false)
    else if usz c = 4 then (if 3 ≤ r.length then oks c (r.getD 0 0) && okc (r.getD 1 0) && okc (r.getD 2 0) && vld (r.drop 3) else false)
    else false := by
  have e : ∀ k, vldF r.length (r.drop k) = vld (r.drop k) := fun k => vldF_vld (by rw [List.length_drop]; omega)
  show vldF (r.length + 1) (c :: r) = _
  unfold vldF
  rw [e 1, e 2, e 3]
  rfl

theorem vld_nil : vld [] = true := rfl
theorem vld_ascii {c : Int} {r : List Int} (h : c < 128) : vld (c :: r) = vld r := by rw [vld_cons, if_pos h]

/-- The first byte's entry in Go's table 'first'. -/
def fT (c : Nat) : Nat := if c < 128 then 240 else if c < 194 then 241 else if c < 224 then 2 else if c = 224 then 19 else if c = 237 then 35 else if c < 240 then 3 else if c = 240 then 52 else if c < 244 then 4 else if c = 244 then 68 else 241
def aLo (i : Nat) : Nat := if i = 1 then 160 else if i = 3 then 144 else if i < 5 then 128 else 0
def aHi (i : Nat) : Nat := if i = 2 then 159 else if i = 4 then 143 else if i < 5 then 191 else 0

theorem fT_2 (z : Int) (h : 194 ≤ z ∧ z ≤ 223) : fT z.toNat = 2 := by unfold fT; rw [if_neg (by omega), if_neg (by omega), if_pos (by omega)]
theorem fT_3a (z : Int) (h : z = 224) : fT z.toNat = 19 := by subst h; decide
theorem fT_3b (z : Int) (h : z = 237) : fT z.toNat = 35 := by subst h; decide
theorem fT_3 (z : Int) (h : 224 ≤ z ∧ z ≤ 239) (h1 : z ≠ 224) (h2 : z ≠ 237) : fT z.toNat = 3 := by unfold fT; rw [if_neg (by omega), if_neg (by omega), if_neg (by omega), if_neg (by omega), if_neg (by omega), if_pos (by omega)]
theorem fT_4a (z : Int) (h : z = 240) : fT z.toNat = 52 := by subst h; decide
theorem fT_4b (z : Int) (h : z = 244) : fT z.toNat = 68 := by subst h; decide
theorem fT_4 (z : Int) (h : 240 ≤ z ∧ z ≤ 244) (h1 : z ≠ 240) (h2 : z ≠ 244) : fT z.toNat = 4 := by unfold fT; rw [if_neg (by omega), if_neg (by omega), if_neg (by omega), if_neg (by omega), if_neg (by omega), if_neg (by omega), if_neg (by omega), if_pos (by omega)]
theorem fT_1 (z : Int) (h0 : ¬ z < 128) (h1 : z ≤ 255) (k2 : ¬ (194 ≤ z ∧ z ≤ 223)) (k3 : ¬ (224 ≤ z ∧ z ≤ 239)) (k4 : ¬ (240 ≤ z ∧ z ≤ 244)) : fT z.toNat = 241 := by
  unfold fT
  rw [if_neg (by omega)]
  by_cases g : z.toNat < 194
  · rw [if_pos g]
  · rw [if_neg g, if_neg (by omega), if_neg (by omega), if_neg (by omega), if_neg (by omega), if_neg (by omega), if_neg (by omega), if_neg (by omega)]

structure Tabs (w : World) : Prop where
  first : ∀ c : Nat, c < 256 → w.cell? ⟨0, c, none⟩ = some (.int .u8 (fT c))
  lo : ∀ i : Nat, i < 16 → w.cell? ⟨1, 2 * i, none⟩ = some (.int .u8 (aLo i))
  hi : ∀ i : Nat, i < 16 → w.cell? ⟨1, 2 * i + 1, none⟩ = some (.int .u8 (aHi i))

theorem Tabs.carry {w w' : World} (h : Tabs w) (k : Ext w w') : Tabs w' :=
  ⟨fun c hc => (Below.cell k (p := ⟨0, c, none⟩) (World.block_lt_of_cell? w _ (h.first c hc))).trans (h.first c hc),
   fun i hi => (Below.cell k (p := ⟨1, 2 * i, none⟩) (World.block_lt_of_cell? w _ (h.lo i hi))).trans (h.lo i hi),
   fun i hi => (Below.cell k (p := ⟨1, 2 * i + 1, none⟩) (World.block_lt_of_cell? w _ (h.hi i hi))).trans (h.hi i hi)⟩

theorem drop_vld {ys : List Int} : ∀ k, k ≤ ys.length → (∀ j, j < k → ys.getD j 0 < 128) → vld (ys.drop k) = vld ys
  | 0, _, _ => by simp
  | k + 1, hk, h => by
    have h1 := drop_vld k (by omega) (fun j hj => h j (by omega))
    rw [← h1, List.drop_eq_getElem_cons (show k < ys.length by omega)]
    have := h k (by omega)
    simp [List.getD, List.getElem?_eq_getElem (show k < ys.length by omega)] at this
    rw [vld_ascii this]

def slen : Value → Nat
  | .slice _ n _ => n
  | _ => 0

end Go.Proofs.YtiplalbicibahaaDoor
