/- scram's texts over lists of bytes: names with marks, nonces, parts. No program in this text. -/
import Derived.Test.YtmilcknboaefkaaGreatDoorB6P
import Derived.Lib.ValidU
import Derived.Lib.Replace
import Derived.Lib.SplitLaws
import Derived.Lib.Bytealg
namespace Go.Proofs.YtmilcknboaefkaaGreatDoor
open Go.Lib

abbrev Tx := List UInt8
def il (l : Tx) : List Int := l.map fun b => (b.toNat : Int)

/-! ### parts -/
def ix (c : UInt8) (l : Tx) : Nat := l.findIdx (fun b => b == c)
def prt (l : Tx) : Tx := l.take (ix 44 l)
def rst (l : Tx) : Tx := l.drop (ix 44 l)
def sgn (p l : Tx) : Option Tx := if p.isPrefixOf l then some (l.drop p.length) else none

theorem ix_le (c : UInt8) (l : Tx) : ix c l ≤ l.length := List.findIdx_le_length
theorem ix_nil (c : UInt8) : ix c [] = 0 := rfl
theorem ix_eq (c : UInt8) (l : Tx) : ix c (c :: l) = 0 := by simp [ix, List.findIdx_cons]
theorem ix_ne {b c : UInt8} (l : Tx) (h : b ≠ c) : ix c (b :: l) = ix c l + 1 := by
  have hb : (b == c) = false := by simpa using h
  simp [ix, List.findIdx_cons, hb]
theorem index_ix (c : UInt8) : ∀ l : Tx, index l [c] = if ix c l < l.length then (ix c l : Int) else -1
  | [] => rfl
  | b :: l => by
    have ih := index_ix c l
    have hle := ix_le c l
    by_cases hb : b = c
    · subst hb
      rw [ix_eq, if_pos (by simp), index]; simp [List.isPrefixOf]
    · have hp : ([c] : Tx).isPrefixOf (b :: l) = false := by simp [List.isPrefixOf, Ne.symm hb]
      rw [ix_ne l hb, index, hp, ih]
      by_cases h : ix c l < l.length
      · have h1 : ix c l + 1 < (b :: l).length := by rw [List.length_cons]; omega
        rw [if_pos h, if_pos h1, if_neg (by simp), if_neg (by simp only [beq_iff_eq]; omega)]; rfl
      · have h1 : ¬ ix c l + 1 < (b :: l).length := by rw [List.length_cons]; omega
        rw [if_neg h, if_neg h1, if_neg (by simp), if_pos (by rfl)]
theorem prt_rst (l : Tx) : prt l ++ rst l = l := List.take_append_drop _ _
theorem prt_cut (l : Tx) : (cut l [44]).1 = prt l := by
  have hle := ix_le 44 l
  unfold cut prt
  rw [index_ix]
  by_cases h : ix 44 l < l.length
  · rw [if_pos h, if_pos (by omega)]; simp
  · rw [if_neg h, if_neg (by omega), List.take_of_length_le (by omega)]
theorem cut_more (l : Tx) : (cut l [44]).2.2 = decide (ix 44 l < l.length) := by
  unfold cut
  rw [index_ix]
  by_cases h : ix 44 l < l.length
  · rw [if_pos h, if_pos (by omega)]; simp [h]
  · rw [if_neg h, if_neg (by omega)]; simp [h]
theorem not_prt : ∀ l : Tx, (44 : UInt8) ∉ prt l
  | [] => by simp [prt]
  | b :: l => by
    by_cases hb : b = 44
    · subst hb; simp [prt, ix_eq]
    · have := not_prt l
      unfold prt at this ⊢
      rw [ix_ne l hb, List.take_succ_cons]
      simp [Ne.symm hb, this]
theorem ix_app {a : Tx} (h : (44 : UInt8) ∉ a) (t : Tx) : ix 44 (a ++ 44 :: t) = a.length := by
  induction a with
  | nil => exact ix_eq _ _
  | cons b a ih =>
    have hb : b ≠ 44 := fun e => h (by simp [e])
    rw [List.cons_append, ix_ne _ hb, ih (fun hm => h (List.mem_cons_of_mem _ hm)), List.length_cons]
theorem ix_all {a : Tx} (h : (44 : UInt8) ∉ a) : ix 44 a = a.length := by
  induction a with
  | nil => rfl
  | cons b a ih =>
    have hb : b ≠ 44 := fun e => h (by simp [e])
    rw [ix_ne _ hb, ih (fun hm => h (List.mem_cons_of_mem _ hm)), List.length_cons]
theorem prt_app {a : Tx} (h : (44 : UInt8) ∉ a) (t : Tx) : prt (a ++ 44 :: t) = a := by unfold prt; rw [ix_app h]; simp
theorem rst_app {a : Tx} (h : (44 : UInt8) ∉ a) (t : Tx) : rst (a ++ 44 :: t) = 44 :: t := by unfold rst; rw [ix_app h]; simp
theorem prt_all {a : Tx} (h : (44 : UInt8) ∉ a) : prt a = a := by unfold prt; rw [ix_all h]; simp
theorem rst_all {a : Tx} (h : (44 : UInt8) ∉ a) : rst a = [] := by unfold rst; rw [ix_all h]; simp
theorem rst_head : ∀ l : Tx, rst l = [] ∨ ∃ t, rst l = 44 :: t
  | [] => .inl rfl
  | b :: l => by
    by_cases hb : b = 44
    · subst hb; exact .inr ⟨l, by simp [rst, ix_eq]⟩
    · have := rst_head l
      unfold rst at this ⊢
      rw [ix_ne l hb, List.drop_succ_cons]
      exact this
theorem sgn_some {p l r : Tx} : sgn p l = some r ↔ l = p ++ r := by
  unfold sgn
  by_cases h : p.isPrefixOf l = true
  · rw [if_pos h]
    obtain ⟨t, rfl⟩ := List.isPrefixOf_iff_prefix.1 h
    simp [eq_comm]
  · rw [if_neg h]
    refine ⟨fun e => (by cases e), fun e => absurd (List.isPrefixOf_iff_prefix.2 ⟨r, e.symm⟩) h⟩
theorem sgn_app (p r : Tx) : sgn p (p ++ r) = some r := sgn_some.2 rfl

/-! ### nonces -/
def okN (b : UInt8) : Bool := decide (33 ≤ b.toNat ∧ b.toNat ≤ 126 ∧ b.toNat ≠ 44)
def nonceB (most : Nat) (l : Tx) : Bool := decide (l ≠ []) && decide (l.length ≤ most) && l.all okN
theorem nonce_comma {most : Nat} {l : Tx} (h : nonceB most l = true) : (44 : UInt8) ∉ l := fun hm => by
  simp only [nonceB, Bool.and_eq_true, List.all_eq_true] at h
  have := h.2 _ hm
  simp [okN] at this
theorem nonce_parts {most : Nat} {l : Tx} : nonceB most l = true ↔ l ≠ [] ∧ l.length ≤ most ∧ l.all okN = true := by
  simp only [nonceB, Bool.and_eq_true, decide_eq_true_eq, and_assoc]

/-! ### names -/
/-- A name without its marks. -/
def unesc : Tx → Option Tx
  | [] => some []
  | b :: l =>
    if b = 61 then
      match l with
      | c :: d :: l' => if c = 50 ∧ d = 67 then (unesc l').map (44 :: ·) else if c = 51 ∧ d = 68 then (unesc l').map (61 :: ·) else none
      | _ => none
    else (unesc l).map (b :: ·)
def esc (l : Tx) : Tx := l.flatMap fun b => if b = 44 then [61, 50, 67] else if b = 61 then [61, 51, 68] else [b]
def nameO (l : Tx) : Option Tx := if l ≠ [] ∧ validD l = true then unesc l else none

theorem unesc_ne {b : UInt8} (l : Tx) (h : b ≠ 61) : unesc (b :: l) = (unesc l).map (b :: ·) := by rw [unesc.eq_def]; simp only [if_neg h]
theorem unesc_c (l : Tx) : unesc (61 :: 50 :: 67 :: l) = (unesc l).map (44 :: ·) := by rw [unesc]; simp
theorem unesc_e (l : Tx) : unesc (61 :: 51 :: 68 :: l) = (unesc l).map (61 :: ·) := by rw [unesc]; simp
theorem unesc_esc : ∀ l : Tx, unesc (esc l) = some l
  | [] => rfl
  | b :: l => by
    have ih := unesc_esc l
    rw [esc, List.flatMap_cons]
    rw [esc] at ih
    by_cases hc : b = 44
    · subst hc; rw [if_pos rfl]; simp only [List.cons_append, List.nil_append]; rw [unesc_c, ih]; rfl
    · rw [if_neg hc]
      by_cases he : b = 61
      · subst he; rw [if_pos rfl]; simp only [List.cons_append, List.nil_append]; rw [unesc_e, ih]; rfl
      · rw [if_neg he]; simp only [List.cons_append, List.nil_append]; rw [unesc_ne _ he, ih]; rfl
theorem esc_comma : ∀ l : Tx, (44 : UInt8) ∉ esc l
  | [] => by simp [esc]
  | b :: l => by
    have ih := esc_comma l
    rw [esc] at ih ⊢
    rw [List.flatMap_cons, List.mem_append]
    rintro (h | h)
    · split at h
      · simp at h
      · split at h
        · simp at h
        · rename_i h1 _; simp at h; exact h1 h.symm
    · exact ih h

/-! ### strings.ReplaceAll of one byte -/
theorem repK_ne {b c : UInt8} (new : Tx) (k : Nat) (l : Tx) (h : b ≠ c) : replaceK [c] new k (b :: l) = b :: replaceK [c] new k l := by
  cases k with
  | zero => rfl
  | succ k =>
    have hle := ix_le c l
    rw [replaceK, replaceK, index_ix, index_ix, ix_ne l h]
    by_cases hi : ix c l < l.length
    · rw [if_pos (show ix c l + 1 < (b :: l).length by rw [List.length_cons]; omega), if_pos hi, if_neg (by simp only [beq_iff_eq]; omega), if_neg (by simp only [beq_iff_eq]; omega)]
      simp
    · rw [if_neg (show ¬ ix c l + 1 < (b :: l).length by rw [List.length_cons]; omega), if_neg hi]; rfl
theorem repK_eq {c : UInt8} (new : Tx) (k : Nat) (l : Tx) : replaceK [c] new (k + 1) (c :: l) = new ++ replaceK [c] new k l := by
  have h0 : index (c :: l) [c] = 0 := by rw [index_ix, ix_eq, if_pos (by simp)]; rfl
  rw [replaceK, h0, if_neg (by decide)]
  simp
theorem repK_all (c : UInt8) (new : Tx) : ∀ l : Tx, replaceK [c] new (count l [c]) l = l.flatMap fun b => if b = c then new else [b]
  | [] => by rw [count_miss (by simp [index])]; rfl
  | b :: l => by
    by_cases hb : b = c
    · subst hb
      rw [count_cons_eq, Nat.add_comm, repK_eq, repK_all b new l, List.flatMap_cons, if_pos rfl]
    · rw [count_cons_ne b c l hb, repK_ne new _ l hb, repK_all c new l, List.flatMap_cons, if_neg hb]; rfl
theorem rep_all (c : UInt8) (new : Tx) (l : Tx) (h : [c] ≠ new) : replaceAll l [c] new = l.flatMap fun b => if b = c then new else [b] := by
  rw [replaceAll, replace, if_neg (by simpa using h), replaceNum, if_pos (.inl (by decide)), repK_all]
theorem rep_rep (l : Tx) : replaceAll (replaceAll l [61] [61, 51, 68]) [44] [61, 50, 67] = esc l := by
  rw [rep_all _ _ _ (by decide), rep_all _ _ _ (by decide), List.flatMap_assoc, esc]
  congr 1
  funext b
  by_cases hc : b = 44
  · subst hc; rfl
  · by_cases he : b = 61
    · subst he; rfl
    · simp [hc, he]
theorem esc_len (l : Tx) : (esc l).length ≤ 3 * l.length := by
  induction l with
  | nil => simp [esc]
  | cons b l ih =>
    rw [esc] at ih ⊢
    rw [List.flatMap_cons, List.length_append, List.length_cons]
    have : (if b = 44 then ([61, 50, 67] : Tx) else if b = 61 then [61, 51, 68] else [b]).length ≤ 3 := by split <;> (try split) <;> simp
    omega

/-! ### strings.Split at one byte -/
def splitC (c : UInt8) : Tx → List Tx
  | [] => [[]]
  | b :: l => if b = c then [] :: splitC c l else match splitC c l with
    | h :: t => (b :: h) :: t
    | [] => [[b]]
theorem splitC_ne (c : UInt8) : ∀ l : Tx, splitC c l ≠ []
  | [] => by simp [splitC]
  | b :: l => by rw [splitC]; split <;> (try split) <;> simp
theorem splK_ne {b c : UInt8} (k : Nat) (l : Tx) (h : b ≠ c) : ∃ x t, splitK [c] 0 k l = x :: t ∧ splitK [c] 0 k (b :: l) = (b :: x) :: t := by
  cases k with
  | zero => exact ⟨l, [], rfl, rfl⟩
  | succ k =>
    have hle := ix_le c l
    rw [splitK, splitK, index_ix, index_ix, ix_ne l h]
    by_cases hi : ix c l < l.length
    · rw [if_pos (show ix c l + 1 < (b :: l).length by rw [List.length_cons]; omega), if_pos hi, if_neg (by simp only [beq_iff_eq]; omega), if_neg (by simp only [beq_iff_eq]; omega)]
      exact ⟨_, _, rfl, by simp⟩
    · rw [if_neg (show ¬ ix c l + 1 < (b :: l).length by rw [List.length_cons]; omega), if_neg hi]
      exact ⟨l, [], rfl, rfl⟩
theorem splK_eq {c : UInt8} (k : Nat) (l : Tx) : splitK [c] 0 (k + 1) (c :: l) = [] :: splitK [c] 0 k l := by
  have h0 : index (c :: l) [c] = 0 := by rw [index_ix, ix_eq, if_pos (by simp)]; rfl
  rw [splitK, h0, if_neg (by decide)]
  simp
theorem spl_all (c : UInt8) : ∀ l : Tx, splitK [c] 0 (count l [c]) l = splitC c l
  | [] => by rw [count_miss (by simp [index])]; rfl
  | b :: l => by
    by_cases hb : b = c
    · subst hb
      rw [count_cons_eq, Nat.add_comm, splK_eq, spl_all b l, splitC, if_pos rfl]
    · obtain ⟨x, t, h1, h2⟩ := splK_ne (count l [c]) l hb
      rw [count_cons_ne b c l hb, h2, splitC, if_neg hb, ← spl_all c l, h1]

/-! ### the program's way with a name -/
def trn (p : Tx) : Option Tx := match sgn [50, 67] p with
  | some r => some (44 :: r)
  | none => (sgn [51, 68] p).map (61 :: ·)
def joinT : List Tx → Option Tx
  | [] => some []
  | p :: ps => (trn p).bind fun a => (joinT ps).map (a ++ ·)
def nameS (l : Tx) : Option Tx := match splitC 61 l with
  | p :: ps => (joinT ps).map (p ++ ·)
  | [] => none
theorem nameS_ne {b : UInt8} (l : Tx) (h : b ≠ 61) : nameS (b :: l) = (nameS l).map (b :: ·) := by
  unfold nameS
  rw [splitC, if_neg h]
  cases hs : splitC 61 l with
  | nil => exact absurd hs (splitC_ne _ _)
  | cons x t => simp [Function.comp_def]
theorem nameS_eq (l : Tx) : nameS (61 :: l) = joinT (splitC 61 l) := by
  unfold nameS
  rw [splitC, if_pos rfl]
  simp
theorem splitC_head {c d : UInt8} (l : Tx) (hc : c ≠ 61) (hd : d ≠ 61) : ∃ x t, splitC 61 l = x :: t ∧ splitC 61 (c :: d :: l) = (c :: d :: x) :: t := by
  cases hs : splitC 61 l with
  | nil => exact absurd hs (splitC_ne _ _)
  | cons x t =>
    refine ⟨x, t, rfl, ?_⟩
    have h1 : splitC 61 (d :: l) = (d :: x) :: t := by rw [splitC, if_neg hd, hs]
    rw [splitC, if_neg hc, h1]
theorem trn_no {x : Tx} (h : ∀ c d t, x = c :: d :: t → ¬ (c = 50 ∧ d = 67) ∧ ¬ (c = 51 ∧ d = 68)) : trn x = none := by
  match x with
  | [] => rfl
  | [_] => simp [trn, sgn, List.isPrefixOf]
  | c :: d :: t =>
    have := h c d t rfl
    unfold trn sgn
    rw [if_neg (by simp only [List.isPrefixOf, Bool.and_true, Bool.and_eq_true, beq_iff_eq]; rintro ⟨h1, h2⟩; exact this.1 ⟨h1.symm, h2.symm⟩), if_neg (by simp only [List.isPrefixOf, Bool.and_true, Bool.and_eq_true, beq_iff_eq]; rintro ⟨h1, h2⟩; exact this.2 ⟨h1.symm, h2.symm⟩)]
    rfl
theorem splitC_two (l : Tx) {x c d : _} {t : List Tx} {y : Tx} (h : splitC 61 l = x :: t) (hx : x = c :: d :: y) : ∃ l', l = c :: d :: l' := by
  match l with
  | [] => simp [splitC] at h; rw [hx] at h; simp at h
  | [b] =>
    rw [splitC, splitC] at h
    split at h
    · simp at h; rw [hx] at h; simp at h
    · simp at h; rw [hx] at h; simp at h
  | b :: e :: l' =>
    rw [splitC] at h
    split at h
    · rw [hx] at h; simp at h
    · split at h
      · rename_i p q hs
        rw [splitC] at hs
        split at hs
        · simp at hs; rw [hx, hs.1] at h; simp at h
        · split at hs
          · simp only [List.cons.injEq] at hs h
            rw [hx, ← hs.1] at h
            simp at h
            exact ⟨l', by rw [h.1.1, h.1.2.1]⟩
          · simp only [List.cons.injEq] at hs h
            rw [hx, ← hs.1] at h
            simp at h
            exact ⟨l', by rw [h.1.1, h.1.2.1]⟩
      · rename_i hs
        exact absurd hs (splitC_ne _ _)
theorem name_unesc : ∀ (n : Nat) (l : Tx), l.length ≤ n → nameS l = unesc l
  | _, [], _ => rfl
  | 0, _ :: _, h => by simp at h
  | n + 1, b :: l, h => by
    rw [List.length_cons] at h
    by_cases hb : b = 61
    · subst hb
      rw [nameS_eq]
      obtain ⟨x, t, hs⟩ : ∃ x t, splitC 61 l = x :: t := by
        cases hs : splitC 61 l with
        | nil => exact absurd hs (splitC_ne _ _)
        | cons x t => exact ⟨x, t, rfl⟩
      by_cases h1 : ∃ l', l = 50 :: 67 :: l'
      · obtain ⟨l', rfl⟩ := h1
        obtain ⟨y, u, e1, e2⟩ := splitC_head (c := 50) (d := 67) l' (by decide) (by decide)
        have ih := name_unesc n l' (by simp at h; omega)
        rw [unesc_c, ← ih, e2, joinT, nameS, e1]
        simp [trn, sgn, List.isPrefixOf, Function.comp_def]
      · by_cases h2 : ∃ l', l = 51 :: 68 :: l'
        · obtain ⟨l', rfl⟩ := h2
          obtain ⟨y, u, e1, e2⟩ := splitC_head (c := 51) (d := 68) l' (by decide) (by decide)
          have ih := name_unesc n l' (by simp at h; omega)
          rw [unesc_e, ← ih, e2, joinT, nameS, e1]
          simp [trn, sgn, List.isPrefixOf, Function.comp_def]
        · have hx : trn x = none := trn_no fun c d y e => by
            obtain ⟨l', rfl⟩ := splitC_two l hs e
            exact ⟨fun e => h1 ⟨l', by rw [e.1, e.2]⟩, fun e => h2 ⟨l', by rw [e.1, e.2]⟩⟩
          rw [hs, joinT, hx, unesc.eq_def]
          simp only [if_true, Option.bind_none]
          split
          · rename_i c d l'
            rw [if_neg (fun e => h1 ⟨l', by rw [e.1, e.2]⟩), if_neg (fun e => h2 ⟨l', by rw [e.1, e.2]⟩)]
          · rfl
    · rw [nameS_ne l hb, unesc_ne l hb, name_unesc n l (by omega)]
end Go.Proofs.YtmilcknboaefkaaGreatDoor
