/- scram's reader: bound, end, header; nonces. -/
import Derived.Test.YtiidjdedeenijaaDoorScVs
import Derived.Lib.TrimUEq
import Derived.Lib.OthersKept
import Derived.Shelf.Strings.PiecesUse
import Derived.Defers
import Derived.Recover
import Derived.Laws.Pointers
namespace Go.Proofs.YtiidjdedeenijaaDoor
open Go.RowKit Go.Shelf

theorem isEmpty_tx (L : Tx) : (⟨L.toArray⟩ : ByteArray).toList.isEmpty = decide (L = []) := by
  rw [tx_list]; cases L <;> simp
/-! ### the header -/
def hdr (L : Tx) : Option (Tx × Tx) := match sgn [121, 44, 44] L with
  | some R => some ([121, 44, 44], R)
  | none => (sgn [110, 44, 44] L).map fun R => ([110, 44, 44], R)
theorem sgn_pre {p L : Tx} : p.isPrefixOf L = (sgn p L).isSome := by unfold sgn; cases p.isPrefixOf L <;> simp
/-! ### nonces -/
theorem dec_low (l : Tx) (h : (l.getD 0 0).toNat < 128) : Lib.decodeL l = ((l.getD 0 0).toNat, 1) := by
  rw [Lib.decodeL_N]; unfold Lib.decodeN; rw [if_pos h]
theorem dec_high (l : Tx) (h : ¬ (l.getD 0 0).toNat < 128) : 128 ≤ (Lib.decodeL l).1 := by
  rw [Lib.decodeL_N]; unfold Lib.decodeN; rw [if_neg h]
  repeat' split
  all_goals omega
theorem dec_rune (s : ByteArray) (pos : Nat) : (Utf8.decode s pos).1 ≤ 1114111 := by rw [← Lib.decodeL_drop]; exact Lib.decodeL_rune _

theorem drop_getD (l : Tx) (k : Nat) : (l.drop k).getD 0 0 = l.getD k 0 := by simp [List.getD]
theorem nonce_off (L : Tx) (most k : Nat) (hk : k < L.length) (hb : okN (L.getD k 0) = false) : nonceB most L = false := by
  cases h : nonceB most L with
  | false => rfl
  | true =>
    have h1 := (nonce_parts.1 h).2.2
    rw [List.all_eq_true] at h1
    have hm : L.getD k 0 ∈ L := by simp [List.getD, List.getElem?_eq_getElem hk]
    rw [h1 _ hm] at hb; cases hb
theorem take_all (L : Tx) (k : Nat) (hk : k < L.length) (h : (L.take k).all okN = true) (hb : okN (L.getD k 0) = true) : (L.take (k + 1)).all okN = true := by
  have e : L.take (k + 1) = L.take k ++ [L.getD k 0] := by
    rw [List.take_succ_eq_append_getElem hk]; simp [List.getD, List.getElem?_eq_getElem hk]
  rw [e, List.all_append, h, List.all_cons, hb]; rfl

end Go.Proofs.YtiidjdedeenijaaDoor

/- strings.Replace and ReplaceAll of one byte; a name with its marks. -/
namespace Go.Proofs.YtiidjdedeenijaaDoor
open Go.RowKit Go.Shelf

def nV : Value → Nat
  | .int _ n => n.toNat
  | _ => 0
def rp (c : UInt8) (new l : Tx) : Tx := l.flatMap fun b => if b = c then new else [b]
theorem rp_none (c : UInt8) (new : Tx) : ∀ l : Tx, l.count c = 0 → rp c new l = l
  | [], _ => rfl
  | b :: l, h => by
    have hb : b ≠ c := fun e => by subst e; simp at h
    rw [List.count_cons_of_ne (by simpa using hb)] at h
    rw [rp, List.flatMap_cons, if_neg hb]
    have ih := rp_none c new l h
    rw [rp] at ih
    rw [ih]; rfl
theorem rp_step (c : UInt8) (new : Tx) : ∀ l : Tx, 0 < l.count c → ix c l < l.length ∧ rp c new l = l.take (ix c l) ++ new ++ rp c new (l.drop (ix c l + 1)) ∧ (l.drop (ix c l + 1)).count c + 1 = l.count c
  | [], h => by simp at h
  | b :: l, h => by
    by_cases hb : b = c
    · subst hb
      rw [ix_eq]
      refine ⟨by simp, ?_, by simp⟩
      rw [rp, List.flatMap_cons, if_pos rfl]; simp [rp]
    · rw [List.count_cons_of_ne (by simpa using hb)] at h ⊢
      obtain ⟨h1, h2, h3⟩ := rp_step c new l h
      rw [ix_ne l hb]
      refine ⟨by simpa using h1, ?_, by simpa using h3⟩
      have e : rp c new (b :: l) = b :: rp c new l := by rw [rp, List.flatMap_cons, if_neg hb]; rfl
      rw [e, h2]; simp
theorem cut_mid (l : Tx) (i j : Nat) : (⟨l.toArray⟩ : ByteArray).extract i (i + j) = ⟨((l.drop i).take j).toArray⟩ := by
  rw [Lib.extract_eq]
  show (⟨((l.drop i).take (i + j - i)).toArray⟩ : ByteArray) = _
  rw [Nat.add_sub_cancel_left]

theorem rp_len (c : UInt8) (new : Tx) (h : new.length = 3) : ∀ l : Tx, (rp c new l).length ≤ 3 * l.length
  | [] => by simp [rp]
  | b :: l => by
    have ih := rp_len c new h l
    rw [rp] at ih ⊢
    rw [List.flatMap_cons, List.length_append, List.length_cons]
    have : (if b = c then new else [b]).length ≤ 3 := by split <;> simp [h]
    omega
theorem rp_esc (l : Tx) : rp 44 [61, 50, 67] (rp 61 [61, 51, 68] l) = esc l := by
  have h := rep_rep l
  rw [rep_all _ _ _ (by decide), rep_all _ _ _ (by decide)] at h
  exact h
end Go.Proofs.YtiidjdedeenijaaDoor

/- scram's reader: a name. -/
namespace Go.Proofs.YtiidjdedeenijaaDoor
open Go.RowKit Go.Shelf

def strs (P : List Tx) : Array Value := (P.map fun t => Value.string ⟨t.toArray⟩).toArray

theorem strs_get (P : List Tx) (k : Nat) (h : k < P.length) : (strs P)[k]? = some (.string ⟨(P.getD k []).toArray⟩) := by
  simp [strs, List.getElem?_toArray, List.getElem?_map, List.getElem?_eq_getElem h, List.getD]
theorem splitC_len (c : UInt8) : ∀ l : Tx, (splitC c l).length ≤ l.length + 1
  | [] => by simp [splitC]
  | b :: l => by
    have ih := splitC_len c l
    rw [splitC]
    split
    · simp only [List.length_cons]; omega
    · split
      · rename_i h; rw [h] at ih; simp only [List.length_cons] at ih ⊢; omega
      · simp
theorem splitC_piece (c : UInt8) : ∀ (l p : Tx), p ∈ splitC c l → p.length ≤ l.length
  | [], p, h => by simp [splitC] at h; simp [h]
  | b :: l, p, h => by
    rw [splitC] at h
    split at h
    · rcases List.mem_cons.1 h with rfl | h
      · simp
      · have := splitC_piece c l p h; simp only [List.length_cons]; omega
    · split at h
      · rename_i x t e
        rcases List.mem_cons.1 h with rfl | h
        · have := splitC_piece c l x (by rw [e]; simp); simp only [List.length_cons]; omega
        · have := splitC_piece c l p (by rw [e]; simp [h]); simp only [List.length_cons]; omega
      · simp at h; subst h; simp
theorem trn_len {p a : Tx} (h : trn p = some a) : a.length ≤ p.length := by
  unfold trn at h
  cases h1 : sgn [50, 67] p with
  | some r =>
    rw [h1] at h
    obtain rfl := Option.some.inj h
    rw [sgn_some.1 h1]; simp
  | none =>
    rw [h1] at h
    simp only [Option.map_eq_some_iff] at h
    obtain ⟨r, h2, rfl⟩ := h
    rw [sgn_some.1 h2]; simp
/-- What is to come of a name behind k of its pieces. -/
def toCome (P : List Tx) (k : Nat) (acc : Tx) : Option Tx := if k = 0 then (match P with
  | p :: ps => (joinT ps).map (p ++ ·)
  | [] => none) else (joinT (P.drop k)).map (acc ++ ·)
theorem toCome_first {P : List Tx} (h : 0 < P.length) (acc : Tx) : toCome P 0 acc = toCome P 1 (P.getD 0 []) := by
  cases P with
  | nil => simp at h
  | cons p ps => simp [toCome]
theorem dropT {P : List Tx} {k : Nat} (h : k < P.length) : P.drop k = P.getD k [] :: P.drop (k + 1) := by
  rw [List.drop_eq_getElem_cons h]; simp [List.getD, h]
theorem toCome_next {P : List Tx} {k : Nat} (hk : 1 ≤ k) (h : k < P.length) (acc a : Tx) (ht : trn (P.getD k []) = some a) : toCome P k acc = toCome P (k + 1) (acc ++ a) := by
  unfold toCome
  rw [if_neg (by omega), if_neg (by omega), dropT h, joinT, ht]
  simp [Function.comp_def]
theorem toCome_no {P : List Tx} {k : Nat} (hk : 1 ≤ k) (h : k < P.length) (acc : Tx) (ht : trn (P.getD k []) = none) : toCome P k acc = none := by
  unfold toCome
  rw [if_neg (by omega), dropT h, joinT, ht]
  simp
theorem toCome_end {P : List Tx} {k : Nat} (h : k = P.length) (hP : P ≠ []) (acc : Tx) : toCome P k acc = some acc := by
  have : P.length ≠ 0 := fun e => hP (List.length_eq_zero_iff.1 e)
  unfold toCome
  rw [if_neg (by omega), h, List.drop_length, joinT]; simp

/-- A text that was read, or the reader gave up. -/
def Ans (X : Option Tx) (e : Ending) : Prop := match X with
  | some U => e = .returned (.string ⟨U.toArray⟩)
  | none => e = .panicked (gaveUp 2)

end Go.Proofs.YtiidjdedeenijaaDoor

/- scram.First: a client's first message. -/
namespace Go.Proofs.YtiidjdedeenijaaDoor
open Go.RowKit Go.Shelf

/-! ### each step either way -/
theorem sgn_len {p l r : Tx} (h : sgn p l = some r) : r.length ≤ l.length := by rw [sgn_some.1 h, List.length_append]; omega
theorem hdr_len {l H r : Tx} (h : hdr l = some (H, r)) : r.length ≤ l.length := by
  unfold hdr at h
  split at h
  · rename_i h1; cases h; exact sgn_len h1
  · simp only [Option.map_eq_some_iff] at h; obtain ⟨r', h1, h2⟩ := h; cases h2; exact sgn_len h1
theorem rst_len (l : Tx) : (rst l).length ≤ l.length := by unfold rst; rw [List.length_drop]; omega

/-! ### the first message -/
structure FP where
  hd : Tx
  us : Tx
  no : Tx
  ba : Tx
def fcells (f : FP) : Array Value := #[.string ⟨f.hd.toArray⟩, .string ⟨f.us.toArray⟩, .string ⟨f.no.toArray⟩, .string ⟨f.ba.toArray⟩]
def noFP : FP := ⟨[], [], [], []⟩
def first4 (H b U r : Tx) : Option FP := if nonceB 128 (prt r) = true then (if rst r = [] then some ⟨H, U, prt r, b⟩ else none) else none
def first3 (H b U r : Tx) : Option FP := (sgn [44, 114, 61] r).bind fun r2 => first4 H b U r2
def first2 (H b r : Tx) : Option FP := (nameO (prt r)).bind fun U => first3 H b U (rst r)
def first1 (H b : Tx) : Option FP := (sgn [110, 61] b).bind fun r => first2 H b r
def firstO (L : Tx) : Option FP := (hdr L).bind fun p => first1 p.1 p.2
def firstE (L : Tx) : FP × Nat := if 1024 < L.length then (noFP, 5) else match firstO L with
  | some f => (f, 0)
  | none => (noFP, 2)
def GaveF (p : FP × Nat) (e : Ending) : Prop := (p.2 = 0 ∧ e = .returned (.agg (fcells p.1))) ∨ (p.2 ≠ 0 ∧ e = .panicked (gaveUp p.2))
theorem firstE_none {L : Tx} (h : L.length ≤ 1024) (h1 : firstO L = none) : firstE L = (noFP, 2) := by unfold firstE; rw [if_neg (by omega), h1]

theorem firstE_cases (L : Tx) : (firstE L).2 = 0 ∨ (firstE L).1 = noFP := by
  unfold firstE
  split
  · exact .inr rfl
  · split
    · exact .inl rfl
    · exact .inr rfl

theorem cell_one {w : World} {B : Nat} {v : Value} {t : TypeId} (h : w.heap[B]? = some (.cells #[v] t (0, 0))) : w.cell? ⟨B, 0, none⟩ = some v := by simp [World.cell?, h]
theorem thaw_one {w : World} {B : Nat} {v : Value} {t : TypeId} (h : w.heap[B]? = some (.cells #[v] t (0, 0))) : w.frozen? ⟨B, 0, none⟩ = false := by simp [World.frozen?, h]

end Go.Proofs.YtiidjdedeenijaaDoor
