/- A disk as the document tells it: files by name, rising; the power and its fuse. Plain functions, no program. -/
import Derived.Test.YtikkieaokfailaaGreatDoorBytes
namespace Go.Proofs.YtikkieaokfailaaGreatDoor
open Go.RowKit

abbrev Nm := ByteArray
/-- A file: its bytes, and how many of them are safe. -/
structure Fle where
  b : List Int
  safe : Nat
abbrev Fls := List (Nm × Fle)

def okc (c : UInt8) : Bool := (decide (97 ≤ c.toNat) && decide (c.toNat ≤ 122)) || (decide (48 ≤ c.toNat) && decide (c.toNat ≤ 57)) || decide (c.toNat = 46) || decide (c.toNat = 45)
def isNm (s : Nm) : Bool := decide (1 ≤ s.size) && decide (s.size ≤ 64) && s.data.toList.all okc

theorem isNm_size {s : Nm} (h : isNm s = true) : s.size ≤ 64 := by
  unfold isNm at h
  simp at h
  exact h.1.2

abbrev ltN (a b : Nm) : Prop := a.data.toList < b.data.toList
theorem ltN_irrefl (a : Nm) : ¬ ltN a a := fun h => List.lt_irrefl _ h
theorem ltN_trans {a b c : Nm} (h : ltN a b) (k : ltN b c) : ltN a c := List.lt_trans h k
theorem nm_ext {a b : Nm} (h : a.data.toList = b.data.toList) : a = b := by
  apply ByteArray.ext
  exact Array.toList_inj.1 h
theorem ltN_tri {a b : Nm} (h : ¬ ltN a b) (h2 : a ≠ b) : ltN b a := by
  have h3 : b.data.toList ≤ a.data.toList := List.not_lt.1 h
  have h4 : a.data.toList ≠ b.data.toList := fun e => h2 (nm_ext e)
  show b.data.toList < a.data.toList
  by_cases hc : b.data.toList < a.data.toList
  · exact hc
  · exact absurd (List.le_antisymm (List.not_lt.1 hc) h3) h4

def look : Fls → Nm → Option Fle
  | [], _ => none
  | (n, f) :: r, s => if n = s then some f else look r s
/-- A file in its place. -/
def putL : Fls → Nm → Fle → Fls
  | [], s, f => [(s, f)]
  | (n, g) :: r, s, f => if ltN s n then (s, f) :: (n, g) :: r else if n = s then (s, f) :: r else (n, g) :: putL r s f
def dropL : Fls → Nm → Fls
  | [], _ => []
  | (n, g) :: r, s => if n = s then dropL r s else (n, g) :: dropL r s
def used : Fls → Nat
  | [] => 0
  | (_, f) :: r => f.b.length + used r
def lenO (o : Option Fle) : Nat := (o.map (fun f => f.b.length)).getD 0

/-- Names rise. -/
def Rise : Fls → Prop
  | [] => True
  | (n, _) :: r => (∀ p ∈ r, ltN n p.1) ∧ Rise r

theorem look_mem {l : Fls} {s : Nm} {f : Fle} (h : look l s = some f) : (s, f) ∈ l := by
  induction l with
  | nil => cases h
  | cons p r ih =>
    obtain ⟨n, g⟩ := p
    unfold look at h
    split at h
    · rename_i e; subst e; injection h with h; subst h; exact List.mem_cons_self ..
    · exact List.mem_cons_of_mem _ (ih h)
theorem look_none {l : Fls} {s : Nm} (h : look l s = none) : ∀ p ∈ l, p.1 ≠ s := by
  induction l with
  | nil => intro p hp; cases hp
  | cons q r ih =>
    obtain ⟨n, g⟩ := q
    unfold look at h
    split at h
    · cases h
    · rename_i e
      intro p hp
      rcases List.mem_cons.1 hp with rfl | hp
      · exact e
      · exact ih h p hp
theorem look_of_mem {l : Fls} (hr : Rise l) {s : Nm} {f : Fle} (h : (s, f) ∈ l) : look l s = some f := by
  induction l with
  | nil => cases h
  | cons q r ih =>
    obtain ⟨n, g⟩ := q
    unfold look
    rcases List.mem_cons.1 h with e | h
    · cases e; simp
    · have : ltN n s := hr.1 _ h
      rw [if_neg (fun e => by subst e; exact ltN_irrefl _ this)]
      exact ih hr.2 h
theorem look_isSome {l : Fls} {s : Nm} : (look l s).isSome = true ↔ s ∈ l.map Prod.fst := by
  induction l with
  | nil => simp [look]
  | cons q r ih =>
    obtain ⟨n, g⟩ := q
    unfold look
    by_cases e : n = s
    · simp [e]
    · rw [if_neg e, ih]; simp
      exact fun h => absurd h.symm e
theorem look_low {l : Fls} {s : Nm} (h : ∀ p ∈ l, ltN s p.1) : look l s = none := by
  cases hl : look l s with
  | none => rfl
  | some f => exact absurd (h _ (look_mem hl)) (ltN_irrefl _)

theorem look_put (l : Fls) (hr : Rise l) (s t : Nm) (f : Fle) : look (putL l s f) t = if t = s then some f else look l t := by
  induction l with
  | nil =>
    unfold putL look look
    by_cases e : s = t
    · simp [e]
    · rw [if_neg e, if_neg (fun h => e h.symm)]
  | cons q r ih =>
    obtain ⟨n, g⟩ := q
    unfold putL
    split
    · rename_i h
      by_cases e : t = s
      · subst e; rw [if_pos rfl]; unfold look; simp
      · rw [if_neg e]; conv => lhs; unfold look
        rw [if_neg (fun h => e h.symm)]
    · rename_i h
      split
      · rename_i e2
        subst e2
        by_cases e : t = n
        · subst e; rw [if_pos rfl]; unfold look; simp
        · rw [if_neg e]; unfold look; rw [if_neg (fun h => e h.symm), if_neg (fun h => e h.symm)]
      · rename_i e2
        unfold look
        rw [ih hr.2]
        by_cases e : t = s
        · subst e; rw [if_pos rfl, if_pos rfl, if_neg e2]
        · rw [if_neg e, if_neg e]

theorem mem_put {l : Fls} {s : Nm} {f : Fle} {p : Nm × Fle} (h : p ∈ putL l s f) : p = (s, f) ∨ p ∈ l := by
  induction l with
  | nil => unfold putL at h; simp at h; exact Or.inl h
  | cons q r ih =>
    obtain ⟨n, g⟩ := q
    unfold putL at h
    split at h
    · rcases List.mem_cons.1 h with h | h
      · exact Or.inl h
      · exact Or.inr h
    · split at h
      · rcases List.mem_cons.1 h with h | h
        · exact Or.inl h
        · exact Or.inr (List.mem_cons_of_mem _ h)
      · rcases List.mem_cons.1 h with h | h
        · subst h; exact Or.inr (List.mem_cons_self ..)
        · rcases ih h with h | h
          · exact Or.inl h
          · exact Or.inr (List.mem_cons_of_mem _ h)

theorem rise_put {l : Fls} (hr : Rise l) (s : Nm) (f : Fle) : Rise (putL l s f) := by
  induction l with
  | nil => exact ⟨(fun p hp => by cases hp), trivial⟩
  | cons q r ih =>
    obtain ⟨n, g⟩ := q
    unfold putL
    split
    · rename_i h
      refine ⟨fun p hp => ?_, hr⟩
      rcases List.mem_cons.1 hp with rfl | hp
      · exact h
      · exact ltN_trans h (hr.1 p hp)
    · rename_i h
      split
      · rename_i e
        subst e
        exact ⟨hr.1, hr.2⟩
      · rename_i e
        refine ⟨fun p hp => ?_, ih hr.2⟩
        rcases mem_put hp with rfl | hp
        · exact ltN_tri h (fun e2 => e e2.symm)
        · exact hr.1 p hp

theorem look_drop (l : Fls) (s t : Nm) : look (dropL l s) t = if t = s then none else look l t := by
  induction l with
  | nil => unfold dropL look; split <;> rfl
  | cons q r ih =>
    obtain ⟨n, g⟩ := q
    unfold dropL
    split
    · rename_i e
      subst e
      rw [ih]
      by_cases e : t = n
      · rw [if_pos e, if_pos e]
      · rw [if_neg e, if_neg e]; conv => rhs; unfold look
        rw [if_neg (fun h => e h.symm)]
    · rename_i e
      unfold look
      rw [ih]
      by_cases e2 : t = s
      · subst e2; rw [if_pos rfl, if_pos rfl, if_neg e]
      · rw [if_neg e2, if_neg e2]

theorem mem_drop {l : Fls} {s : Nm} {p : Nm × Fle} (h : p ∈ dropL l s) : p ∈ l := by
  induction l with
  | nil => cases h
  | cons q r ih =>
    obtain ⟨n, g⟩ := q
    unfold dropL at h
    split at h
    · exact List.mem_cons_of_mem _ (ih h)
    · rcases List.mem_cons.1 h with rfl | h
      · exact List.mem_cons_self ..
      · exact List.mem_cons_of_mem _ (ih h)
theorem rise_drop {l : Fls} (hr : Rise l) (s : Nm) : Rise (dropL l s) := by
  induction l with
  | nil => trivial
  | cons q r ih =>
    obtain ⟨n, g⟩ := q
    unfold dropL
    split
    · exact ih hr.2
    · exact ⟨fun p hp => hr.1 p (mem_drop hp), ih hr.2⟩

theorem used_put (l : Fls) (hr : Rise l) (s : Nm) (f : Fle) : used (putL l s f) + lenO (look l s) = used l + f.b.length := by
  induction l with
  | nil => simp [putL, used, look, lenO]
  | cons q r ih =>
    obtain ⟨n, g⟩ := q
    unfold putL
    split
    · rename_i h
      have : look ((n, g) :: r) s = none := look_low (fun p hp => by
        rcases List.mem_cons.1 hp with rfl | hp
        · exact h
        · exact ltN_trans h (hr.1 p hp))
      rw [this]
      show f.b.length + used ((n, g) :: r) + 0 = _
      omega
    · rename_i h
      split
      · rename_i e
        subst e
        unfold look
        rw [if_pos rfl]
        simp only [used, lenO, Option.map_some, Option.getD_some]
        omega
      · rename_i e
        unfold look
        rw [if_neg e]
        have := ih hr.2
        simp only [used]
        omega
theorem dropL_low {l : Fls} {s : Nm} (h : ∀ p ∈ l, p.1 ≠ s) : dropL l s = l := by
  induction l with
  | nil => rfl
  | cons q r ih =>
    obtain ⟨n, g⟩ := q
    unfold dropL
    rw [if_neg (h _ (List.mem_cons_self ..)), ih (fun p hp => h p (List.mem_cons_of_mem _ hp))]
theorem used_drop (l : Fls) (hr : Rise l) (s : Nm) : used (dropL l s) + lenO (look l s) = used l := by
  induction l with
  | nil => rfl
  | cons q r ih =>
    obtain ⟨n, g⟩ := q
    unfold dropL look
    split
    · rename_i e
      subst e
      rw [dropL_low (fun p hp e => by have := hr.1 p hp; rw [e] at this; exact ltN_irrefl _ this)]
      simp only [used, lenO, Option.map_some, Option.getD_some]
      omega
    · rename_i e
      have := ih hr.2
      simp only [used]
      omega
theorem len_put (l : Fls) (s : Nm) (f : Fle) : (putL l s f).length ≤ l.length + 1 := by
  induction l with
  | nil => simp [putL]
  | cons q r ih =>
    obtain ⟨n, g⟩ := q
    unfold putL
    split
    · simp
    · split
      · simp
      · simp; exact ih
theorem len_drop (l : Fls) (s : Nm) : (dropL l s).length ≤ l.length := by
  induction l with
  | nil => simp [dropL]
  | cons q r ih =>
    obtain ⟨n, g⟩ := q
    unfold dropL
    split
    · simp; omega
    · simp; exact ih
theorem lenO_used (l : Fls) (s : Nm) : lenO (look l s) ≤ used l := by
  induction l with
  | nil => simp [look, lenO, used]
  | cons q r ih =>
    obtain ⟨n, g⟩ := q
    unfold look
    split
    · simp only [used, lenO, Option.map_some, Option.getD_some]; omega
    · simp only [used]; omega
theorem used_mem {l : Fls} {p : Nm × Fle} (h : p ∈ l) : p.2.b.length ≤ used l := by
  induction l with
  | nil => cases h
  | cons q r ih =>
    obtain ⟨n, g⟩ := q
    simp only [used]
    rcases List.mem_cons.1 h with rfl | h
    · show g.b.length ≤ _
      omega
    · have := ih h; omega

/-- A disk: its room, its files, how many steps were done, whether the power is off, how many steps its fuse lets through. -/
structure Dk where
  room : Nat
  fs : Fls
  steps : Nat
  off : Bool
  fu : Option Nat

structure Dk.Good (k : Dk) : Prop where
  room : k.room ≤ 16777216
  rise : Rise k.fs
  used : used k.fs ≤ k.room
  each : ∀ p ∈ k.fs, isNm p.1 = true ∧ p.2.safe ≤ p.2.b.length ∧ Bd p.2.b
  fu : ∀ n, k.fu = some n → n ≤ 9223372036854775807

def newK (room : Nat) : Dk := ⟨room, [], 0, false, none⟩
/-- A step goes by the fuse: the error's number, and what it leaves. -/
def passK (k : Dk) : Nat × Dk :=
  match k.fu with
  | none => (0, { k with steps := k.steps + 1 })
  | some 0 => (13, { k with off := true })
  | some (n + 1) => (0, { k with steps := k.steps + 1, fu := some n })
def appK (k : Dk) (s : Nm) (xs : List Int) : Nat × Dk :=
  if k.off then (13, k) else if isNm s = false then (4, k) else if ¬ (xs.length + used k.fs ≤ k.room) then (8, k) else
    passK { k with fs := putL k.fs s ⟨((look k.fs s).map Fle.b).getD [] ++ xs, ((look k.fs s).map Fle.safe).getD 0⟩ }
/-- A step on a file that must be there. -/
def stepK (k : Dk) (s : Nm) (err : Fle → Nat) (go : Dk → Fle → Dk) : Nat × Dk :=
  if k.off then (13, k) else if isNm s = false then (4, k) else
    match look k.fs s with
    | none => (7, k)
    | some f => if err f ≠ 0 then (err f, k) else
      if (passK k).1 ≠ 0 then passK k else (0, go (passK k).2 f)
def syncK (k : Dk) (s : Nm) : Nat × Dk := stepK k s (fun _ => 0) (fun k f => { k with fs := putL k.fs s ⟨f.b, f.b.length⟩ })
def removeK (k : Dk) (s : Nm) : Nat × Dk := stepK k s (fun _ => 0) (fun k _ => { k with fs := dropL k.fs s })
def cutF (f : Fle) (n : Nat) : Fle := ⟨f.b.take n, min f.safe n⟩
def cutK (k : Dk) (s : Nm) (n : Int) : Nat × Dk := stepK k s (fun f => if 0 ≤ n ∧ n ≤ f.b.length then 0 else 1) (fun k f => { k with fs := putL k.fs s (cutF f n.toNat) })
def renameK (k : Dk) (s t : Nm) : Nat × Dk :=
  if k.off then (13, k) else if isNm t = false then (4, k) else stepK k s (fun _ => 0) (fun k f => { k with fs := putL (dropL k.fs s) t f })
def readK (k : Dk) (s : Nm) : Nat × List Int :=
  if k.off then (13, []) else if isNm s = false then (4, []) else
    match look k.fs s with
    | none => (7, [])
    | some f => (0, f.b)
def fuseK (k : Dk) (n : Int) : Nat × Dk := if n < 0 then (1, k) else if k.off then (13, k) else (0, { k with fu := some n.toNat })
/-- What of each file is kept. -/
def restF (f : Fle) (kept : Int) : Fle := ⟨f.b.take (f.safe + ((max kept 0) % ((f.b.length - f.safe : Nat) + 1)).toNat), f.safe + ((max kept 0) % ((f.b.length - f.safe : Nat) + 1)).toNat⟩
def restL : Fls → List Int → Fls
  | [], _ => []
  | (n, f) :: r, keep => if f.b.length = f.safe then (n, f) :: restL r keep else (n, restF f (keep.headD 0)) :: restL r keep.tail
def restK (k : Dk) (keep : List Int) : Dk := { k with fs := restL k.fs keep, off := false, fu := none }

end Go.Proofs.YtikkieaokfailaaGreatDoor
