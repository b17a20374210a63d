/- Names, by definition, over lists of bytes: what name's functions are held against. No program in this text. -/
import Derived.Lib.MapLaws
import Derived.Lib.ValidLaws
import Derived.Lib.Bytealg
namespace Go.Proofs.YtiplalbicibahaaDoor.Nm
open Go.Lib

def small (r : Int) : Int := if 65 ≤ r ∧ r ≤ 90 then r + 32 else r
def foldR (r : Int) : Int := if (65 ≤ r ∧ r ≤ 90) ∨ (192 ≤ r ∧ r ≤ 222 ∧ r ≠ 215) ∨ (913 ≤ r ∧ r ≤ 937 ∧ r ≠ 930) ∨ (1040 ≤ r ∧ r ≤ 1071) then r + 32 else r
def labelB (r : Int) : Bool := decide ((97 ≤ r ∧ r ≤ 122) ∨ (48 ≤ r ∧ r ≤ 57))
def letterB (r : Int) : Bool := decide ((97 ≤ r ∧ r ≤ 122) ∨ (48 ≤ r ∧ r ≤ 57) ∨ r = 46 ∨ r = 45 ∨ r = 95 ∨ (223 ≤ r ∧ r ≤ 255 ∧ r ≠ 247) ∨ (945 ≤ r ∧ r ≤ 969) ∨ (1072 ≤ r ∧ r ≤ 1103))
def followsB (last r : Int) : Bool := if r = 46 then labelB last else if r = 45 then decide (last ≠ 46) else labelB r
def resB (r : Int) : Bool := decide (¬ (r < 32 ∨ (127 ≤ r ∧ r ≤ 159) ∨ r = 65534 ∨ r = 65535))

def stepL (_ r : Int) : Option Int := if letterB (foldR r) = true then some (foldR r) else none
def stepH (st r : Int) : Option Int := if followsB st (small r) = true then some (small r) else none
def stepR (_ r : Int) : Option Int := if resB r = true then some r else none

def eachGo (step : Int → Int → Option Int) : Nat → Int → List UInt8 → Option (List UInt8 × Int)
  | 0, st, _ => some ([], st)
  | n + 1, st, l =>
    if l = [] then some ([], st)
    else match step st ((decodeL l).1 : Int) with
      | none => none
      | some r => match eachGo step n r (l.drop (decodeL l).2) with
        | none => none
        | some (bs, st') => some (encodeRune r ++ bs, st')

def each (step : Int → Int → Option Int) (st : Int) (l : List UInt8) : Option (List UInt8 × Int) := eachGo step l.length st l

theorem eachGo_fuel (step : Int → Int → Option Int) : ∀ (n m : Nat) (st : Int) (l : List UInt8), l.length ≤ n → l.length ≤ m → eachGo step n st l = eachGo step m st l
  | 0, 0, _, _, _, _ => rfl
  | 0, m + 1, st, l, h, _ => by
    have : l = [] := List.length_eq_zero_iff.1 (by omega)
    simp [eachGo, this]
  | n + 1, 0, st, l, _, h => by
    have : l = [] := List.length_eq_zero_iff.1 (by omega)
    simp [eachGo, this]
  | n + 1, m + 1, st, l, h1, h2 => by
    by_cases hl : l = []
    · simp [eachGo, hl]
    · have hw := decodeL_width l
      have hp : 0 < l.length := List.length_pos_iff.2 hl
      have e : ∀ r, eachGo step n r (l.drop (decodeL l).2) = eachGo step m r (l.drop (decodeL l).2) := fun r =>
        eachGo_fuel step n m r _ (by rw [List.length_drop]; omega) (by rw [List.length_drop]; omega)
      simp only [eachGo, hl, if_false, e]

theorem each_nil (step : Int → Int → Option Int) (st : Int) : each step st [] = some ([], st) := rfl
theorem each_step (step : Int → Int → Option Int) (st : Int) (l : List UInt8) (hl : l ≠ []) :
    each step st l = match step st ((decodeL l).1 : Int) with
      | none => none
      | some r => match each step r (l.drop (decodeL l).2) with
        | none => none
        | some (bs, st') => some (encodeRune r ++ bs, st') := by
  have hp : 0 < l.length := List.length_pos_iff.2 hl
  obtain ⟨n, hn⟩ : ∃ n, l.length = n + 1 := ⟨l.length - 1, by omega⟩
  have hw := decodeL_width l
  unfold each
  rw [hn]
  have e : ∀ r, eachGo step n r (l.drop (decodeL l).2) = eachGo step (l.drop (decodeL l).2).length r (l.drop (decodeL l).2) := fun r =>
    eachGo_fuel step _ _ r _ (by rw [List.length_drop]; omega) (Nat.le_refl _)
  simp only [eachGo, hl, if_false, e]

/-- What a text becomes, and the error's number. -/
def prep (step : Int → Int → Option Int) (fin : Int → Bool) (l : List UInt8) : List UInt8 × Nat :=
  if 64 < l.length then ([], 5)
  else if l = [] ∨ validD l = false then ([], 4)
  else match each step 46 l with
    | none => ([], 4)
    | some (bs, st) => if fin st = true then (bs, 0) else ([], 4)

def localN (l : List UInt8) : List UInt8 × Nat := prep stepL (fun _ => true) l
def hostN (l : List UInt8) : List UInt8 × Nat := prep stepH (fun st => followsB st 46) l
def resN (l : List UInt8) : List UInt8 × Nat := prep stepR (fun _ => true) l

/-- Where a byte stands first (the length: nowhere). -/
def ix (c : UInt8) (l : List UInt8) : Nat := l.findIdx (fun b => b == c)
def cutA (c : UInt8) (l : List UInt8) : List UInt8 := l.take (ix c l)
def cutZ (c : UInt8) (l : List UInt8) : List UInt8 := l.drop (ix c l + 1)
def hasB (c : UInt8) (l : List UInt8) : Bool := decide (ix c l < l.length)

def partL (l : List UInt8) : List UInt8 × Nat := if hasB 64 (cutA 47 l) = true then localN (cutA 64 (cutA 47 l)) else ([], 0)
def partH (l : List UInt8) : List UInt8 × Nat := hostN (if hasB 64 (cutA 47 l) = true then cutZ 64 (cutA 47 l) else cutA 47 l)
def partR (l : List UInt8) : List UInt8 × Nat := if hasB 47 l = true then resN (cutZ 47 l) else ([], 0)

structure Jid where
  l : List UInt8
  h : List UInt8
  r : List UInt8

def parseN (l : List UInt8) : Jid × Nat :=
  if (partL l).2 ≠ 0 then (⟨[], [], []⟩, (partL l).2)
  else if (partH l).2 ≠ 0 then (⟨[], [], []⟩, (partH l).2)
  else if (partR l).2 ≠ 0 then (⟨[], [], []⟩, (partR l).2)
  else (⟨(partL l).1, (partH l).1, (partR l).1⟩, 0)

def optL (l : List UInt8) : List UInt8 × Nat := if l = [] then ([], 0) else localN l
def optR (l : List UInt8) : List UInt8 × Nat := if l = [] then ([], 0) else resN l

def textN (j : Jid) : List UInt8 × Nat :=
  if (hostN j.h).2 ≠ 0 then ([], (hostN j.h).2)
  else if (optL j.l).2 ≠ 0 then ([], (optL j.l).2)
  else if (optR j.r).2 ≠ 0 then ([], (optR j.r).2)
  else ((if j.l = [] then [] else (localN j.l).1 ++ [64]) ++ (hostN j.h).1 ++ (if j.r = [] then [] else 47 :: (resN j.r).1), 0)

/-! ### plain facts -/

theorem prep_cases (step : Int → Int → Option Int) (fin : Int → Bool) (l : List UInt8) : (prep step fin l).2 = 0 ∨ ((prep step fin l).1 = [] ∧ ((prep step fin l).2 = 4 ∨ (prep step fin l).2 = 5)) := by
  unfold prep
  split
  · exact .inr ⟨rfl, .inr rfl⟩
  · split
    · exact .inr ⟨rfl, .inl rfl⟩
    · split
      · exact .inr ⟨rfl, .inl rfl⟩
      · split
        · exact .inl rfl
        · exact .inr ⟨rfl, .inl rfl⟩

theorem ix_le (c : UInt8) (l : List UInt8) : ix c l ≤ l.length := List.findIdx_le_length
theorem indexByte_ix (c : UInt8) : ∀ l : List UInt8, indexByte l c = if ix c l < l.length then (ix c l : Int) else -1
  | [] => rfl
  | b :: l => by
    have ih := indexByte_ix c l
    have hle := ix_le c l
    by_cases hb : (b == c) = true
    · simp [indexByte, ix, List.findIdx_cons, hb]
    · have e : ix c (b :: l) = ix c l + 1 := by simp [ix, List.findIdx_cons, hb]
      rw [indexByte, if_neg hb, ih, e]
      by_cases h : ix c l < l.length
      · have h1 : ix c l + 1 < (b :: l).length := by rw [List.length_cons]; omega
        rw [if_pos h, if_pos h1, if_neg (by simp only [beq_iff_eq]; omega)]; rfl
      · have h1 : ¬ ix c l + 1 < (b :: l).length := by rw [List.length_cons]; omega
        rw [if_neg h, if_neg h1, if_pos (by rfl)]
end Go.Proofs.YtiplalbicibahaaDoor.Nm
