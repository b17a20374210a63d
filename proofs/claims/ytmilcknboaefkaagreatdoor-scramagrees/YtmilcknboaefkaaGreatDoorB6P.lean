/- base64, as lists of numbers: what is written, what is read, and that each text says its bytes in one way. -/
import Derived.Test.YtmilcknboaefkaaGreatDoorBytes
namespace Go.Proofs.YtmilcknboaefkaaGreatDoor
open Go.RowKit

/-- The digits. -/
def dgs : List Int := [65, 66, 67, 68, 69, 70, 71, 72, 73, 74, 75, 76, 77, 78, 79, 80, 81, 82, 83, 84, 85, 86, 87, 88, 89, 90, 97, 98, 99, 100, 101, 102, 103, 104, 105, 106, 107, 108, 109, 110, 111, 112, 113, 114, 115, 116, 117, 118, 119, 120, 121, 122, 48, 49, 50, 51, 52, 53, 54, 55, 56, 57, 43, 47]
def dg (v : Nat) : Int := dgs.getD v 0
/-- A sign's value; 64: it is no digit. -/
def dv (c : Int) : Nat := dgs.findIdx (· == c)

theorem dgs_len : dgs.length = 64 := rfl
theorem dv_dgF : ∀ v : Fin 64, dv (dg v.val) = v.val := by decide +kernel
theorem dv_dg {v : Nat} (h : v < 64) : dv (dg v) = v := dv_dgF ⟨v, h⟩
theorem dg_bdF : ∀ v : Fin 64, 0 ≤ dg v.val ∧ dg v.val ≤ 255 ∧ dg v.val ≠ 61 := by decide +kernel
theorem dg_bd {v : Nat} (h : v < 64) : 0 ≤ dg v ∧ dg v ≤ 255 ∧ dg v ≠ 61 := dg_bdF ⟨v, h⟩
theorem dv_le (c : Int) : dv c ≤ 64 := List.findIdx_le_length
theorem dg_dv {c : Int} (h : dv c ≠ 64) : dg (dv c) = c := by
  have h1 : dv c < dgs.length := by have := dv_le c; rw [dgs_len]; omega
  have h2 := List.findIdx_getElem (xs := dgs) (p := (· == c)) (w := h1)
  have h3 : dgs[dv c] = c := by
    rw [beq_iff_eq] at h2; exact h2
  unfold dg
  rw [List.getD, List.getElem?_eq_getElem h1]
  exact h3
theorem dv_pad : dv 61 = 64 := by decide +kernel
theorem dv_lt {c : Int} (h : dv c ≠ 64) : dv c < 64 := by have := dv_le c; omega

/-- What is written. -/
def enc : List Int → List Int
  | [] => []
  | [a] => [dg (a / 4).toNat, dg (a % 4 * 16).toNat, 61, 61]
  | [a, b] => [dg (a / 4).toNat, dg (a % 4 * 16 + b / 16).toNat, dg (b % 16 * 4).toNat, 61]
  | a :: b :: c :: r => dg (a / 4).toNat :: dg (a % 4 * 16 + b / 16).toNat :: dg (b % 16 * 4 + c / 64).toNat :: dg (c % 64).toNat :: enc r

def dz (c : Int) : Nat := if dv c = 64 then 0 else dv c
def pz (c : Int) : Nat := if dv c = 64 then 1 else 0
def rd4 (p q r s : Int) : List Int :=
  [((dz p * 4 + dz q / 16 : Nat) : Int), ((dz q % 16 * 16 + dz r / 4 : Nat) : Int), ((dz r % 4 * 64 + dz s : Nat) : Int)].take (3 - (pz p + pz q + pz r + pz s))
/-- The bytes that a text's digits hold, taken as they come. -/
def raw : List Int → List Int
  | p :: q :: r :: s :: l => rd4 p q r s ++ raw l
  | _ => []
/-- What is read. -/
def dec (s : List Int) : Option (List Int) := if s.length % 4 = 0 ∧ enc (raw s) = s then some (raw s) else none

theorem dz_lt (c : Int) : dz c < 64 := by unfold dz; split <;> have := dv_le c <;> omega
theorem pz_le (c : Int) : pz c ≤ 1 := by unfold pz; split <;> omega
theorem dz_dg {v : Nat} (h : v < 64) : dz (dg v) = v := by unfold dz; rw [dv_dg h, if_neg (by omega)]
theorem pz_dg {v : Nat} (h : v < 64) : pz (dg v) = 0 := by unfold pz; rw [dv_dg h, if_neg (by omega)]
theorem dz_pad : dz 61 = 0 := by unfold dz; rw [dv_pad, if_pos rfl]
theorem pz_pad : pz 61 = 1 := by unfold pz; rw [dv_pad, if_pos rfl]
theorem dz_of {c : Int} (h : dv c ≠ 64) : dz c = dv c := by unfold dz; rw [if_neg h]
theorem pz_of {c : Int} (h : dv c ≠ 64) : pz c = 0 := by unfold pz; rw [if_neg h]
theorem pz_no {c : Int} (h : dv c = 64) : pz c = 1 := by unfold pz; rw [if_pos h]

theorem rd4_bd (p q r s : Int) : Bd (rd4 p q r s) := by
  refine Bd.take (fun x hx => ?_) _
  have h1 := dz_lt p; have h2 := dz_lt q; have h3 := dz_lt r; have h4 := dz_lt s
  simp only [List.mem_cons, List.not_mem_nil, or_false] at hx
  rcases hx with rfl | rfl | rfl <;> omega
theorem raw_bd : ∀ s : List Int, Bd (raw s)
  | p :: q :: r :: s :: l => by rw [raw]; exact (rd4_bd p q r s).append (raw_bd l)
  | [] => Bd.nil
  | [_] => Bd.nil
  | [_, _] => Bd.nil
  | [_, _, _] => Bd.nil

theorem enc_len : ∀ b : List Int, (enc b).length = (b.length + 2) / 3 * 4
  | [] => rfl
  | [_] => by rw [enc]; simp
  | [_, _] => by rw [enc]; simp
  | a :: b :: c :: r => by
    rw [enc]
    simp only [List.length_cons, enc_len r]
    omega
theorem bd_cons4 {a b c d : Int} {l : List Int} (h1 : 0 ≤ a ∧ a ≤ 255) (h2 : 0 ≤ b ∧ b ≤ 255) (h3 : 0 ≤ c ∧ c ≤ 255) (h4 : 0 ≤ d ∧ d ≤ 255) (h : Bd l) : Bd (a :: b :: c :: d :: l) := by
  intro x hx
  simp only [List.mem_cons] at hx
  rcases hx with rfl | rfl | rfl | rfl | hx
  · exact h1
  · exact h2
  · exact h3
  · exact h4
  · exact h x hx
theorem dgb {v : Nat} (h : v < 64) : 0 ≤ dg v ∧ dg v ≤ 255 := ⟨(dg_bd h).1, (dg_bd h).2.1⟩
theorem enc_bd : ∀ {b : List Int}, Bd b → Bd (enc b)
  | [], _ => Bd.nil
  | [a], h => by
    have ha := h a (by simp)
    rw [enc]; exact bd_cons4 (dgb (by omega)) (dgb (by omega)) (by omega) (by omega) Bd.nil
  | [a, b], h => by
    have ha := h a (by simp); have hb := h b (by simp)
    rw [enc]; exact bd_cons4 (dgb (by omega)) (dgb (by omega)) (dgb (by omega)) (by omega) Bd.nil
  | a :: b :: c :: r, h => by
    have ha := h a (by simp); have hb := h b (by simp); have hc := h c (by simp)
    have ih := enc_bd (b := r) (fun x hx => h x (by simp [hx]))
    rw [enc]; exact bd_cons4 (dgb (by omega)) (dgb (by omega)) (dgb (by omega)) (dgb (by omega)) ih

theorem raw_enc : ∀ {b : List Int}, Bd b → raw (enc b) = b
  | [], _ => rfl
  | [a], h => by
    have ha := h a (by simp)
    have h1 : (a / 4).toNat < 64 := by omega
    have h2 : (a % 4 * 16).toNat < 64 := by omega
    rw [enc, raw, raw, rd4, dz_dg h1, dz_dg h2, pz_dg h1, pz_dg h2, pz_pad, dz_pad]
    simp only [List.take, List.append_nil, List.cons.injEq, and_true]
    omega
    all_goals simp
  | [a, b], h => by
    have ha := h a (by simp); have hb := h b (by simp)
    have h1 : (a / 4).toNat < 64 := by omega
    have h2 : (a % 4 * 16 + b / 16).toNat < 64 := by omega
    have h3 : (b % 16 * 4).toNat < 64 := by omega
    rw [enc, raw, raw, rd4, dz_dg h1, dz_dg h2, dz_dg h3, pz_dg h1, pz_dg h2, pz_dg h3, pz_pad, dz_pad]
    simp only [List.take, List.append_nil, List.cons.injEq, and_true]
    omega
    all_goals simp
  | a :: b :: c :: r, h => by
    have ha := h a (by simp); have hb := h b (by simp); have hc := h c (by simp)
    have ih := raw_enc (b := r) (fun x hx => h x (by simp [hx]))
    have h1 : (a / 4).toNat < 64 := by omega
    have h2 : (a % 4 * 16 + b / 16).toNat < 64 := by omega
    have h3 : (b % 16 * 4 + c / 64).toNat < 64 := by omega
    have h4 : (c % 64).toNat < 64 := by omega
    rw [enc, raw, rd4, dz_dg h1, dz_dg h2, dz_dg h3, dz_dg h4, pz_dg h1, pz_dg h2, pz_dg h3, pz_dg h4, ih]
    simp only [List.take, List.cons_append, List.nil_append, List.cons.injEq, and_true]
    omega

theorem dec_enc {b : List Int} (h : Bd b) : dec (enc b) = some b := by
  unfold dec
  rw [raw_enc h, if_pos ⟨by rw [enc_len]; omega, rfl⟩]
theorem dec_some {s b : List Int} (h : dec s = some b) : enc b = s ∧ Bd b := by
  unfold dec at h
  split at h
  · next q => cases h; exact ⟨q.2, raw_bd s⟩
  · cases h
theorem enc_app : ∀ (x y : List Int), x.length % 3 = 0 → enc (x ++ y) = enc x ++ enc y
  | [], y, _ => rfl
  | [_], _, h => by simp at h
  | [_, _], _, h => by simp at h
  | a :: b :: c :: r, y, h => by
    have ih := enc_app r y (by simp only [List.length_cons] at h; omega)
    simp only [List.cons_append, enc, ih]

/-! ### The program's way of reading -/
def tr (s : List Int) : List Int := if s.getLast? = some 61 then s.dropLast else s
def bof : List Int → Nat → Nat → List Int → Option (List Int)
  | [], h, _, out => if h = 0 then some out else none
  | c :: r, h, t, out => if dv c = 64 then none else
      if 2 ≤ t then bof r ((h * 64 + dv c) % 2 ^ (t - 2)) (t - 2) (out ++ [(((h * 64 + dv c) / 2 ^ (t - 2) % 256 : Nat) : Int)])
      else bof r (h * 64 + dv c) (t + 6) out

theorem bof_no {c : Int} {r out : List Int} {h t : Nat} (hc : dv c = 64) : bof (c :: r) h t out = none := by rw [bof, if_pos hc]
theorem bof_less {c : Int} {r out : List Int} {h t : Nat} (hc : dv c ≠ 64) (ht : ¬ 2 ≤ t) : bof (c :: r) h t out = bof r (h * 64 + dv c) (t + 6) out := by rw [bof, if_neg hc, if_neg ht]
theorem bof_more {c : Int} {r out : List Int} {h t : Nat} (hc : dv c ≠ 64) (ht : 2 ≤ t) : bof (c :: r) h t out = bof r ((h * 64 + dv c) % 2 ^ (t - 2)) (t - 2) (out ++ [(((h * 64 + dv c) / 2 ^ (t - 2) % 256 : Nat) : Int)]) := by rw [bof, if_neg hc, if_pos ht]

theorem bof_out : ∀ (l : List Int) (h t : Nat) (out : List Int), bof l h t out = (bof l h t []).map (out ++ ·)
  | [], h, t, out => by unfold bof; split <;> simp
  | c :: r, h, t, out => by
    by_cases hc : dv c = 64
    · rw [bof_no hc, bof_no hc]; rfl
    · by_cases ht : 2 ≤ t
      · rw [bof_more hc ht, bof_more hc ht, bof_out r _ _ (out ++ _), bof_out r _ _ ([] ++ _), Option.map_map]
        congr 1
        funext x
        simp
      · rw [bof_less hc ht, bof_less hc ht, bof_out r _ _ out]

theorem bof4 {p q r s : Int} {l : List Int} (hp : dv p ≠ 64) (hq : dv q ≠ 64) (hr : dv r ≠ 64) (hs : dv s ≠ 64) : bof (p :: q :: r :: s :: l) 0 0 [] = (bof l 0 0 []).map (rd4 p q r s ++ ·) := by
  have h1 := dv_lt hp; have h2 := dv_lt hq; have h3 := dv_lt hr; have h4 := dv_lt hs
  rw [bof_less hp (by omega), bof_more hq (by omega), bof_more hr (by omega), bof_more hs (by omega), rd4, dz_of hp, dz_of hq, dz_of hr, dz_of hs, pz_of hp, pz_of hq, pz_of hr, pz_of hs]
  simp only [List.nil_append, List.cons_append, List.take]
  rw [bof_out]
  have e1 : (((0 * 64 + dv p) * 64 + dv q) % 2 ^ (0 + 6 - 2) * 64 + dv r) % 2 ^ (0 + 6 - 2 - 2) = dv r % 4 := by
    show (_ % 16 * 64 + dv r) % 4 = _; omega
  rw [e1]
  have e2 : (dv r % 4 * 64 + dv s) % 2 ^ (0 + 6 - 2 - 2 - 2) = 0 := by show _ % 1 = 0; omega
  rw [e2]
  have f1 : ((0 * 64 + dv p) * 64 + dv q) / 2 ^ (0 + 6 - 2) % 256 = dv p * 4 + dv q / 16 := by
    show _ / 16 % 256 = _; omega
  have f2 : (((0 * 64 + dv p) * 64 + dv q) % 2 ^ (0 + 6 - 2) * 64 + dv r) / 2 ^ (0 + 6 - 2 - 2) % 256 = dv q % 16 * 16 + dv r / 4 := by
    show (_ % 16 * 64 + dv r) / 4 % 256 = _; omega
  have f3 : (dv r % 4 * 64 + dv s) / 2 ^ (0 + 6 - 2 - 2 - 2) % 256 = dv r % 4 * 64 + dv s := by
    show _ / 1 % 256 = _; omega
  rw [f1, f2, f3]
  rfl

theorem tr_cons {c : Int} {l : List Int} (h : l ≠ []) : tr (c :: l) = c :: tr l := by
  unfold tr
  cases l with
  | nil => exact absurd rfl h
  | cons d l => rw [List.getLast?_cons_cons]; split <;> rfl
theorem tr_ne {a b : Int} {l : List Int} : tr (a :: b :: l) ≠ [] := by rw [tr_cons (by simp)]; simp
theorem trtr {p q r s a b c : Int} {l : List Int} : tr (tr (p :: q :: r :: s :: a :: b :: c :: l)) = p :: q :: r :: s :: tr (tr (a :: b :: c :: l)) := by
  have h0 : tr (a :: b :: c :: l) ≠ [] := tr_ne
  have h1 : ∀ {m : List Int}, m ≠ [] → tr (p :: q :: r :: s :: m) = p :: q :: r :: s :: tr m := fun hm => by
    rw [tr_cons (by simp), tr_cons (by simp), tr_cons (by simp), tr_cons hm]
  rw [h1 (by simp), h1 h0]

/-- Of a text with a sign among the first four that is no digit, and more behind, nothing is read. -/
theorem enc_head : ∀ (b : List Int), Bd b → ∀ {p q r s a : Int} {l : List Int}, enc b = p :: q :: r :: s :: a :: l → dv p ≠ 64 ∧ dv q ≠ 64 ∧ dv r ≠ 64 ∧ dv s ≠ 64
  | [], _, _, _, _, _, _, _, h => by simp [enc] at h
  | [_], _, _, _, _, _, _, _, h => by simp [enc] at h
  | [_, _], _, _, _, _, _, _, _, h => by simp [enc] at h
  | x :: y :: z :: t, hb, p, q, r, s, a, l, h => by
    have hx := hb x (by simp); have hy := hb y (by simp); have hz := hb z (by simp)
    rw [enc] at h
    simp only [List.cons.injEq] at h
    obtain ⟨rfl, rfl, rfl, rfl, _⟩ := h
    refine ⟨?_, ?_, ?_, ?_⟩ <;> rw [dv_dg (by omega)] <;> omega
theorem enc3 {p q r s : Int} {l : List Int} (hp : dv p ≠ 64) (hq : dv q ≠ 64) (hr : dv r ≠ 64) (hs : dv s ≠ 64) : enc (rd4 p q r s ++ l) = p :: q :: r :: s :: enc l := by
  have h1 := dv_lt hp; have h2 := dv_lt hq; have h3 := dv_lt hr; have h4 := dv_lt hs
  rw [rd4, dz_of hp, dz_of hq, dz_of hr, dz_of hs, pz_of hp, pz_of hq, pz_of hr, pz_of hs]
  simp only [List.take, List.cons_append, List.nil_append, enc]
  have e1 : (((dv p * 4 + dv q / 16 : Nat) : Int) / 4).toNat = dv p := by omega
  have e2 : (((dv p * 4 + dv q / 16 : Nat) : Int) % 4 * 16 + ((dv q % 16 * 16 + dv r / 4 : Nat) : Int) / 16).toNat = dv q := by omega
  have e3 : (((dv q % 16 * 16 + dv r / 4 : Nat) : Int) % 16 * 4 + ((dv r % 4 * 64 + dv s : Nat) : Int) / 64).toNat = dv r := by omega
  have e4 : (((dv r % 4 * 64 + dv s : Nat) : Int) % 64).toNat = dv s := by omega
  rw [e1, e2, e3, e4, dg_dv hp, dg_dv hq, dg_dv hr, dg_dv hs]

theorem dec_four {p q r s a b c d : Int} {l : List Int} (hp : dv p ≠ 64) (hq : dv q ≠ 64) (hr : dv r ≠ 64) (hs : dv s ≠ 64) : dec (p :: q :: r :: s :: a :: b :: c :: d :: l) = (dec (a :: b :: c :: d :: l)).map (rd4 p q r s ++ ·) := by
  unfold dec
  rw [show raw (p :: q :: r :: s :: a :: b :: c :: d :: l) = rd4 p q r s ++ raw (a :: b :: c :: d :: l) from rfl, enc3 hp hq hr hs]
  simp only [List.length_cons, List.cons.injEq, true_and]
  by_cases h : (l.length + 1 + 1 + 1 + 1) % 4 = 0 ∧ enc (raw (a :: b :: c :: d :: l)) = a :: b :: c :: d :: l
  · rw [if_pos h, if_pos ⟨by omega, h.2⟩]; rfl
  · rw [if_neg h, if_neg (fun k => h ⟨by omega, k.2⟩)]; rfl
theorem dec_not {p q r s a : Int} {l : List Int} (h : dv p = 64 ∨ dv q = 64 ∨ dv r = 64 ∨ dv s = 64) : dec (p :: q :: r :: s :: a :: l) = none := by
  unfold dec
  rw [if_neg]
  rintro ⟨_, h2⟩
  have := enc_head _ (raw_bd _) h2
  rcases h with h | h | h | h
  · exact this.1 h
  · exact this.2.1 h
  · exact this.2.2.1 h
  · exact this.2.2.2 h

theorem bof_not4 {p q r s : Int} {l : List Int} (h : dv p = 64 ∨ dv q = 64 ∨ dv r = 64 ∨ dv s = 64) : bof (p :: q :: r :: s :: l) 0 0 [] = none := by
  by_cases hp : dv p = 64
  · exact bof_no hp
  rw [bof_less hp (by omega)]
  by_cases hq : dv q = 64
  · exact bof_no hq
  rw [bof_more hq (by omega)]
  by_cases hr : dv r = 64
  · exact bof_no hr
  rw [bof_more hr (by omega)]
  exact bof_no (by simpa [hp, hq, hr] using h)

theorem dec_last (p q r s : Int) : bof (tr (tr [p, q, r, s])) 0 0 [] = dec [p, q, r, s] := by
  have hD : dec [p, q, r, s] = if enc (rd4 p q r s) = [p, q, r, s] then some (rd4 p q r s) else none := by
    unfold dec
    simp only [raw, List.append_nil, List.length_cons, List.length_nil]
    simp
  rw [hD]
  by_cases hs : s = 61
  · subst hs
    by_cases hr : r = 61
    · subst hr
      have ht : tr (tr [p, q, 61, 61]) = [p, q] := by simp [tr]
      rw [ht]
      by_cases hp : dv p = 64
      · rw [bof_no hp, if_neg]
        intro h
        have e : rd4 p q 61 61 = [] := by unfold rd4; rw [pz_no hp, pz_pad, show 3 - (1 + pz q + 1 + 1) = 0 from by omega]; rfl
        rw [e] at h; cases h
      by_cases hq : dv q = 64
      · rw [bof_less hp (by omega), bof_no hq, if_neg]
        intro h
        have e : rd4 p q 61 61 = [] := by unfold rd4; rw [pz_no hq, pz_pad, show 3 - (pz p + 1 + 1 + 1) = 0 from by omega]; rfl
        rw [e] at h; cases h
      have h1 := dv_lt hp; have h2 := dv_lt hq
      have e : rd4 p q 61 61 = [((dv p * 4 + dv q / 16 : Nat) : Int)] := by unfold rd4; rw [pz_of hp, pz_of hq, pz_pad, dz_of hp, dz_of hq]; rfl
      rw [bof_less hp (by omega), bof_more hq (by omega), e, enc, bof]
      have g1 : (((dv p * 4 + dv q / 16 : Nat) : Int) / 4).toNat = dv p := by omega
      have g2 : (((dv p * 4 + dv q / 16 : Nat) : Int) % 4 * 16).toNat = dv q / 16 * 16 := by omega
      rw [g1, g2, dg_dv hp]
      have f1 : ((0 * 64 + dv p) * 64 + dv q) / 2 ^ (0 + 6 - 2) % 256 = dv p * 4 + dv q / 16 := by show _ / 16 % 256 = _; omega
      have f2 : ((0 * 64 + dv p) * 64 + dv q) % 2 ^ (0 + 6 - 2) = dv q % 16 := by show _ % 16 = _; omega
      rw [f1, f2]
      by_cases hz : dv q % 16 = 0
      · rw [if_pos hz, if_pos (by rw [show dv q / 16 * 16 = dv q from by omega, dg_dv hq])]; rfl
      · rw [if_neg hz, if_neg]
        intro h
        simp only [List.cons.injEq, true_and, and_true] at h
        have := congrArg dv h
        rw [dv_dg (by omega)] at this
        omega
    · have ht : tr (tr [p, q, r, 61]) = [p, q, r] := by simp [tr, hr]
      rw [ht]
      have hno : ∀ {m : Nat}, 2 ≤ m → ¬ enc ([((dz p * 4 + dz q / 16 : Nat) : Int), ((dz q % 16 * 16 + dz r / 4 : Nat) : Int), ((dz r % 4 * 64 + dz 61 : Nat) : Int)].take (3 - m)) = [p, q, r, 61] := by
        intro m hm
        rcases (by omega : m = 2 ∨ 3 ≤ m) with h | h
        · subst h
          intro h
          simp only [List.take, enc, List.cons.injEq] at h
          exact hr h.2.2.1.symm
        · rw [show 3 - m = 0 from by omega]
          intro h; cases h
      by_cases hp : dv p = 64
      · rw [bof_no hp, if_neg]
        unfold rd4; rw [pz_no hp, pz_pad]
        exact hno (by omega)
      by_cases hq : dv q = 64
      · rw [bof_less hp (by omega), bof_no hq, if_neg]
        unfold rd4; rw [pz_no hq, pz_pad]
        exact hno (by omega)
      by_cases hr' : dv r = 64
      · rw [bof_less hp (by omega), bof_more hq (by omega), bof_no hr', if_neg]
        unfold rd4; rw [pz_no hr', pz_pad]
        exact hno (by omega)
      have h1 := dv_lt hp; have h2 := dv_lt hq; have h3 := dv_lt hr'
      have e : rd4 p q r 61 = [((dv p * 4 + dv q / 16 : Nat) : Int), ((dv q % 16 * 16 + dv r / 4 : Nat) : Int)] := by unfold rd4; rw [pz_of hp, pz_of hq, pz_of hr', pz_pad, dz_of hp, dz_of hq, dz_of hr']; rfl
      rw [bof_less hp (by omega), bof_more hq (by omega), bof_more hr' (by omega), e, enc, bof]
      have g1 : (((dv p * 4 + dv q / 16 : Nat) : Int) / 4).toNat = dv p := by omega
      have g2 : (((dv p * 4 + dv q / 16 : Nat) : Int) % 4 * 16 + ((dv q % 16 * 16 + dv r / 4 : Nat) : Int) / 16).toNat = dv q := by omega
      have g3 : (((dv q % 16 * 16 + dv r / 4 : Nat) : Int) % 16 * 4).toNat = dv r / 4 * 4 := by omega
      rw [g1, g2, g3, dg_dv hp, dg_dv hq]
      have f1 : ((0 * 64 + dv p) * 64 + dv q) / 2 ^ (0 + 6 - 2) % 256 = dv p * 4 + dv q / 16 := by show _ / 16 % 256 = _; omega
      have f2 : (((0 * 64 + dv p) * 64 + dv q) % 2 ^ (0 + 6 - 2) * 64 + dv r) / 2 ^ (0 + 6 - 2 - 2) % 256 = dv q % 16 * 16 + dv r / 4 := by show (_ % 16 * 64 + dv r) / 4 % 256 = _; omega
      have f3 : (((0 * 64 + dv p) * 64 + dv q) % 2 ^ (0 + 6 - 2) * 64 + dv r) % 2 ^ (0 + 6 - 2 - 2) = dv r % 4 := by show (_ % 16 * 64 + dv r) % 4 = _; omega
      rw [f1, f2, f3]
      by_cases hz : dv r % 4 = 0
      · rw [if_pos hz, if_pos (by rw [show dv r / 4 * 4 = dv r from by omega, dg_dv hr'])]; rfl
      · rw [if_neg hz, if_neg]
        intro h
        simp only [List.cons.injEq, true_and, and_true] at h
        have := congrArg dv h
        rw [dv_dg (by omega)] at this
        omega
  · have ht : tr (tr [p, q, r, s]) = [p, q, r, s] := by simp [tr, hs]
    rw [ht]
    by_cases h : dv p = 64 ∨ dv q = 64 ∨ dv r = 64 ∨ dv s = 64
    · rw [bof_not4 h, if_neg]
      intro hh
      have hm : 1 ≤ pz p + pz q + pz r + pz s := by
        rcases h with h | h | h | h <;> rw [pz_no h] <;> omega
      unfold rd4 at hh
      generalize pz p + pz q + pz r + pz s = m at hm hh
      rcases (by omega : m = 1 ∨ m = 2 ∨ 3 ≤ m) with k | k | k
      · subst k
        simp only [List.take, enc, List.cons.injEq] at hh
        exact hs hh.2.2.2.1.symm
      · subst k
        simp only [List.take, enc, List.cons.injEq] at hh
        exact hs hh.2.2.2.1.symm
      · rw [show 3 - m = 0 from by omega] at hh; cases hh
    · have hp : dv p ≠ 64 := fun k => h (.inl k)
      have hq : dv q ≠ 64 := fun k => h (.inr (.inl k))
      have hr : dv r ≠ 64 := fun k => h (.inr (.inr (.inl k)))
      have hs' : dv s ≠ 64 := fun k => h (.inr (.inr (.inr k)))
      have e := enc3 (l := []) hp hq hr hs'
      rw [List.append_nil] at e
      rw [bof4 hp hq hr hs', if_pos (by rw [e]; rfl)]
      simp [bof]

/-- The program reads as the document says. -/
theorem bof_dec : ∀ (m : Nat) (s : List Int), s.length = 4 * m → bof (tr (tr s)) 0 0 [] = dec s
  | 0, s, h => by
    have : s = [] := List.eq_nil_of_length_eq_zero (by omega)
    subst this
    rfl
  | 1, [p, q, r, s], _ => dec_last p q r s
  | m + 2, p :: q :: r :: s :: a :: b :: c :: d :: l, h => by
    have ih := bof_dec (m + 1) (a :: b :: c :: d :: l) (by simp only [List.length_cons] at h ⊢; omega)
    rw [trtr]
    by_cases hn : dv p = 64 ∨ dv q = 64 ∨ dv r = 64 ∨ dv s = 64
    · rw [bof_not4 hn, dec_not hn]
    · have hp : dv p ≠ 64 := fun k => hn (.inl k)
      have hq : dv q ≠ 64 := fun k => hn (.inr (.inl k))
      have hr : dv r ≠ 64 := fun k => hn (.inr (.inr (.inl k)))
      have hs : dv s ≠ 64 := fun k => hn (.inr (.inr (.inr k)))
      rw [bof4 hp hq hr hs, dec_four hp hq hr hs, ih]
end Go.Proofs.YtmilcknboaefkaaGreatDoor
