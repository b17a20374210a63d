/- Texts of one seat, one behind the other: Bytes, DkP, OwnA, DkM, DkA, Shelf, DkN, Ext, Late. -/
import Derived.Test.YtikkieaokfailaaGreatDoorProg
import Derived.WalkKit
import Derived.WalkLawsBesides
import Derived.WalkSpells
import Derived.Laws.AppendOwnNone
import Derived.Deep.CutRange
import Derived.Deep.QuietTactic
import Derived.BigQuiet
import Derived.RangeFuncBox
import Derived.Maps.OwnSet
import Derived.Maps.OwnOps
import Derived.Sort.KeysCollected
import Derived.Defers
import Derived.Recover
import Derived.Laws.Pointers
import Derived.Lib.SmallJoins
import Derived.Shelf.Abstract
import Derived.Shelf.SlGeneric
import Derived.Shelf.Strconv.Clone
import Derived.Shelf.GgClosure.StringsIndexFuncTop
import Derived.Shelf.SlIter.Nil
import Derived.Shelf.SortM.Plain
import Derived.Shelf.SortM.SortNone
import Derived.Ground.GgzProg
import Derived.Ground.SlgmProg
import Derived.Laws.RangeString
import Derived.Lib.DecodeN
import Derived.OrdersHeld
import Derived.Below
namespace Go.Proofs.YtikkieaokfailaaGreatDoor
open Go.RowKit
theorem Tryz.info5 : (Tryz.prog.info? 5).map (fun i => (i.zero, i.size, i.bytes)) = some (some (.int .u8 0), 1, 1) := by kernel_rfl
def Bd (xs : List Int) : Prop := ∀ x ∈ xs, 0 ≤ x ∧ x ≤ 255
def bc (xs : List Int) : List Value := xs.map (Value.int .u8)
theorem bc_len (xs : List Int) : (bc xs).length = xs.length := by simp [bc]
theorem bc_append (xs ys : List Int) : bc (xs ++ ys) = bc xs ++ bc ys := by simp [bc]
theorem bc_one (xs : List Int) : ∀ u ∈ bc xs, u.oneCell' = true := by
 intro u hu; simp [bc] at hu; obtain ⟨x, _, rfl⟩ := hu; rfl
theorem Bd.append {xs ys : List Int} (h : Bd xs) (k : Bd ys) : Bd (xs ++ ys) := by
 intro x hx; rcases List.mem_append.1 hx with g | g
 ·exact h x g
 ·exact k x g
theorem Bd.nil : Bd [] := by intro x hx; cases hx
theorem Bd.take {xs : List Int} (h : Bd xs) (n : Nat) : Bd (xs.take n) := fun x hx => h x (List.mem_of_mem_take hx)
theorem Bd.drop {xs : List Int} (h : Bd xs) (n : Nat) : Bd (xs.drop n) := fun x hx => h x (List.mem_of_mem_drop hx)
theorem Bd.get {xs : List Int} (h : Bd xs) (j : Nat) : 0 ≤ xs.getD j 0 ∧ xs.getD j 0 ≤ 255 := by
 by_cases hj : j < xs.length
 ·have e : xs.getD j 0 = xs[j] := by simp [List.getD, List.getElem?_eq_getElem hj]
  rw [e]; exact h _ (List.getElem_mem hj)
 ·have e : xs.getD j 0 = 0 := by simp [List.getD, List.getElem?_eq_none (by omega : xs.length ≤ j)]
  rw [e]; omega
structure Rd (w : World) (a : Option Addr) (n c : Nat) (xs : List Int) : Prop where
 len : xs.length = n
 cap : n ≤ c
 most : c ≤ maxLen
 nil : a = none → c = 0
 bytes : Bd xs
 cells : ∀ ad, a = some ad → ∀ j, j < n → w.cell? (ad.add j) = some (.int .u8 (xs.getD j 0))
theorem Rd.carry {w w' : World} {a : Option Addr} {n c : Nat} {xs : List Int} (h : Rd w a n c xs) {B : Nat} (hB : w.heap.size ≤ B) (hb : Below B w w') : Rd w' a n c xs :=
 ⟨h.len, h.cap, h.most, h.nil, h.bytes, fun ad ha j hj => by
  have hc := h.cells ad ha j hj
  rw [hb.cell (Nat.lt_of_lt_of_le (World.block_lt_of_cell? w _ hc) hB)]; exact hc⟩
theorem Rd.news {w : World} {a : Option Addr} {n c : Nat} {xs : List Int} (h : Rd w a n c xs) {ad : Addr} (ha : a = some ad) : ∀ j u, (bc xs)[j]? = some u → w.cell? (ad.add j) = some u := by
 intro j u hj
 have hjl : j < xs.length := by
  rcases Nat.lt_or_ge j xs.length with g | g
  ·exact g
  ·rw [List.getElem?_eq_none (by simpa [bc] using g)] at hj; cases hj
 rw [h.cells ad ha j (by rw [← h.len]; exact hjl)]
 simp [bc, List.getElem?_eq_getElem hjl] at hj
 simp [List.getD, List.getElem?_eq_getElem hjl, hj]
theorem Rd.ofOwn {w : World} {base : Nat} {v : Value} {n : Nat} {xs : List Int} (h : w.ownsRow base 5 1 v n (bc xs)) (hb : Bd xs) : ∃ a c, v = .slice a n c ∧ Rd w a n c xs := by
 have hl : xs.length = n := by have := h.1; simpa [bc_len] using this
 rcases h.2 with ⟨hv, hn⟩ | ⟨g, cap, cur, hv, hg, hh, hnc, hm, hs, ht⟩
 ·subst hv; subst hn
  exact ⟨none, 0, rfl, hl, Nat.le_refl _, by unfold maxLen; omega, fun _ => rfl, hb, fun ad ha => by cases ha⟩
 ·subst hv
  refine ⟨some ⟨g, 0, none⟩, cap, rfl, hl, hnc, hm, (fun ha => by cases ha), hb, fun ad ha j hj => ?_⟩
  have hcell := h.cells (g := g) rfl j (.int .u8 (xs.getD j 0)) (by
   have : j < xs.length := by omega
   simp [bc, List.getD, List.getElem?_eq_getElem this])
  cases ha
  exact hcell
theorem Rd.string {w : World} {a : Option Addr} {n c : Nat} {xs : List Int} (h : Rd w a n c xs) : (convert 29 9 (.slice a n c)).run Tryz.prog w = .ok (.string (strOfNums xs)) w := by
 cases a with
 | none =>
  have hc := h.nil rfl
  have hn := h.cap
  have hx : xs = [] := List.eq_nil_of_length_eq_zero (by rw [h.len]; omega)
  subst hx
  rw [run_convert_bytes_nil w 29 5 Tryz.underlying29 Tryz.underlying5 n c 9 Tryz.underlying9]
  rfl
 | some ad =>
  have hl : (loadCells ad n).run Tryz.prog w = .ok (xs.map (Value.int .u8)).toArray w := by
   have := run_loadCells_list (P := Tryz.prog) w ad (xs.map (Value.int .u8)) (h.news rfl)
   simpa [h.len] using this
  rw [run_convert_bytes_string w 29 9 5 _ n c Tryz.underlying29 Tryz.underlying5 Tryz.underlying9, run_bytesToString w _ n c xs hl, foldl_push_bytes]
  simp [strOfNums, ByteArray.empty, ByteArray.emptyWithCapacity]
  rfl
theorem str_inj {xs ys : List Int} (hx : Bd xs) (hy : Bd ys) (h : strOfNums xs = strOfNums ys) : xs = ys := by
 have h1 : xs.map (fun n => UInt8.ofNat n.toNat) = ys.map (fun n => UInt8.ofNat n.toNat) := by
  have := congrArg (fun b => b.data.toList) h
  simpa [strOfNums] using this
 have key : ∀ zs : List Int, Bd zs → (zs.map (fun n => UInt8.ofNat n.toNat)).map (fun c => (c.toNat : Int)) = zs := by
  intro zs hz
  rw [List.map_map]
  conv => rhs; rw [← List.map_id zs]
  refine List.map_congr_left fun x hx => ?_
  have := hz x hx
  simp only [Function.comp, id]
  rw [UInt8.toNat_ofNat']
  omega
 rw [← key xs hx, ← key ys hy, h1]
theorem below_step {B : Nat} {w wr w1 : World} {o : Obj} {v : Value} {n : Nat} {xs : List Value} (hbel : Below B w wr) (hB : B ≤ wr.heap.size) (hown : wr.ownsRow B 5 1 v n xs) (hg : (wr.alloc o).grownBy w1 v.ownBlock) : Below B w w1 :=
 (hbel.alloc hB o).grown hg (by simp; omega) (fun k hk => (hown.lt k hk).1)
theorem add_flat (b off j : Nat) : (⟨b, off, none⟩ : Addr).add j = ⟨b, off + j, none⟩ := by unfold Addr.add; split <;> simp_all
theorem Rd.flat {w : World} {a : Option Addr} {n c : Nat} {xs : List Int} (h : Rd w a n c xs) (hn : 0 < n) : ∃ b off, a = some ⟨b, off, none⟩ ∧ ∀ j, j < n → w.cell? ⟨b, off + j, none⟩ = some (.int .u8 (xs.getD j 0)) := by
 cases a with
 | none => have := h.nil rfl; have := h.cap; omega
 | some ad =>
  obtain ⟨b, off, spot⟩ := ad
  have hc := h.cells _ rfl 0 hn
  have hspot : spot = none := by simpa [Addr.add] using World.cell?_spot hc
  subst hspot
  refine ⟨b, off, rfl, fun j hj => ?_⟩
  have := h.cells _ rfl j hj
  have hplain : (⟨b, off, none⟩ : Addr).add j = ⟨b, off + j, none⟩ := by unfold Addr.add; split <;> simp_all
  rw [hplain] at this
  exact this
end Go.Proofs.YtikkieaokfailaaGreatDoor

namespace Go.Proofs.YtikkieaokfailaaGreatDoor
open Go.RowKit
abbrev Nm := ByteArray
structure Fle where
 b : List Int
 safe : Nat
abbrev Fls := List (Nm × Fle)
def okc (c : UInt8) : Bool := (decide (97 ≤ c.toNat) && decide (c.toNat ≤ 122)) || (decide (48 ≤ c.toNat) && decide (c.toNat ≤ 57)) || decide (c.toNat = 46) || decide (c.toNat = 45)
def isNm (s : Nm) : Bool := decide (1 ≤ s.size) && decide (s.size ≤ 64) && s.data.toList.all okc
theorem isNm_size {s : Nm} (h : isNm s = true) : s.size ≤ 64 := by
 unfold isNm at h
 simp at h
 exact h.1.2
abbrev ltN (a b : Nm) : Prop := a.data.toList < b.data.toList
theorem ltN_irrefl (a : Nm) : ¬ ltN a a := fun h => List.lt_irrefl _ h
theorem ltN_trans {a b c : Nm} (h : ltN a b) (k : ltN b c) : ltN a c := List.lt_trans h k
theorem nm_ext {a b : Nm} (h : a.data.toList = b.data.toList) : a = b := by
 apply ByteArray.ext
 exact Array.toList_inj.1 h
theorem ltN_tri {a b : Nm} (h : ¬ ltN a b) (h2 : a ≠ b) : ltN b a := by
 have h3 : b.data.toList ≤ a.data.toList := List.not_lt.1 h
 have h4 : a.data.toList ≠ b.data.toList := fun e => h2 (nm_ext e)
 show b.data.toList < a.data.toList
 by_cases hc : b.data.toList < a.data.toList
 ·exact hc
 ·exact absurd (List.le_antisymm (List.not_lt.1 hc) h3) h4
def look : Fls → Nm → Option Fle
 | [], _ => none
 | (n, f) :: r, s => if n = s then some f else look r s
def putL : Fls → Nm → Fle → Fls
 | [], s, f => [(s, f)]
 | (n, g) :: r, s, f => if ltN s n then (s, f) :: (n, g) :: r else if n = s then (s, f) :: r else (n, g) :: putL r s f
def dropL : Fls → Nm → Fls
 | [], _ => []
 | (n, g) :: r, s => if n = s then dropL r s else (n, g) :: dropL r s
def used : Fls → Nat
 | [] => 0
 | (_, f) :: r => f.b.length + used r
def lenO (o : Option Fle) : Nat := (o.map (fun f => f.b.length)).getD 0
def Rise : Fls → Prop
 | [] => True
 | (n, _) :: r => (∀ p ∈ r, ltN n p.1) ∧ Rise r
theorem look_mem {l : Fls} {s : Nm} {f : Fle} (h : look l s = some f) : (s, f) ∈ l := by
 induction l with
 | nil => cases h
 | cons p r ih =>
  obtain ⟨n, g⟩ := p
  unfold look at h
  split at h
  ·rename_i e; subst e; injection h with h; subst h; exact List.mem_cons_self ..
  ·exact List.mem_cons_of_mem _ (ih h)
theorem look_none {l : Fls} {s : Nm} (h : look l s = none) : ∀ p ∈ l, p.1 ≠ s := by
 induction l with
 | nil => intro p hp; cases hp
 | cons q r ih =>
  obtain ⟨n, g⟩ := q
  unfold look at h
  split at h
  ·cases h
  ·rename_i e
   intro p hp
   rcases List.mem_cons.1 hp with rfl | hp
   ·exact e
   ·exact ih h p hp
theorem look_isSome {l : Fls} {s : Nm} : (look l s).isSome = true ↔ s ∈ l.map Prod.fst := by
 induction l with
 | nil => simp [look]
 | cons q r ih =>
  obtain ⟨n, g⟩ := q
  unfold look
  by_cases e : n = s
  ·simp [e]
  ·rw [if_neg e, ih]; simp
   exact fun h => absurd h.symm e
theorem look_low {l : Fls} {s : Nm} (h : ∀ p ∈ l, ltN s p.1) : look l s = none := by
 cases hl : look l s with
 | none => rfl
 | some f => exact absurd (h _ (look_mem hl)) (ltN_irrefl _)
theorem look_put (l : Fls) (hr : Rise l) (s t : Nm) (f : Fle) : look (putL l s f) t = if t = s then some f else look l t := by
 induction l with
 | nil =>
  unfold putL look look
  by_cases e : s = t
  ·simp [e]
  ·rw [if_neg e, if_neg (fun h => e h.symm)]
 | cons q r ih =>
  obtain ⟨n, g⟩ := q
  unfold putL
  split
  ·rename_i h
   by_cases e : t = s
   ·subst e; rw [if_pos rfl]; unfold look; simp
   ·rw [if_neg e]; conv => lhs; unfold look
    rw [if_neg (fun h => e h.symm)]
  ·rename_i h
   split
   ·rename_i e2
    subst e2
    by_cases e : t = n
    ·subst e; rw [if_pos rfl]; unfold look; simp
    ·rw [if_neg e]; unfold look; rw [if_neg (fun h => e h.symm), if_neg (fun h => e h.symm)]
   ·rename_i e2
    unfold look
    rw [ih hr.2]
    by_cases e : t = s
    ·subst e; rw [if_pos rfl, if_pos rfl, if_neg e2]
    ·rw [if_neg e, if_neg e]
theorem mem_put {l : Fls} {s : Nm} {f : Fle} {p : Nm × Fle} (h : p ∈ putL l s f) : p = (s, f) ∨ p ∈ l := by
 induction l with
 | nil => unfold putL at h; simp at h; exact Or.inl h
 | cons q r ih =>
  obtain ⟨n, g⟩ := q
  unfold putL at h
  split at h
  ·rcases List.mem_cons.1 h with h | h
   ·exact Or.inl h
   ·exact Or.inr h
  ·split at h
   ·rcases List.mem_cons.1 h with h | h
    ·exact Or.inl h
    ·exact Or.inr (List.mem_cons_of_mem _ h)
   ·rcases List.mem_cons.1 h with h | h
    ·subst h; exact Or.inr (List.mem_cons_self ..)
    ·rcases ih h with h | h
     ·exact Or.inl h
     ·exact Or.inr (List.mem_cons_of_mem _ h)
theorem rise_put {l : Fls} (hr : Rise l) (s : Nm) (f : Fle) : Rise (putL l s f) := by
 induction l with
 | nil => exact ⟨(fun p hp => by cases hp), trivial⟩
 | cons q r ih =>
  obtain ⟨n, g⟩ := q
  unfold putL
  split
  ·rename_i h
   refine ⟨fun p hp => ?_, hr⟩
   rcases List.mem_cons.1 hp with rfl | hp
   ·exact h
   ·exact ltN_trans h (hr.1 p hp)
  ·rename_i h
   split
   ·rename_i e
    subst e
    exact ⟨hr.1, hr.2⟩
   ·rename_i e
    refine ⟨fun p hp => ?_, ih hr.2⟩
    rcases mem_put hp with rfl | hp
    ·exact ltN_tri h (fun e2 => e e2.symm)
    ·exact hr.1 p hp
theorem look_drop (l : Fls) (s t : Nm) : look (dropL l s) t = if t = s then none else look l t := by
 induction l with
 | nil => unfold dropL look; split <;> rfl
 | cons q r ih =>
  obtain ⟨n, g⟩ := q
  unfold dropL
  split
  ·rename_i e
   subst e
   rw [ih]
   by_cases e : t = n
   ·rw [if_pos e, if_pos e]
   ·rw [if_neg e, if_neg e]; conv => rhs; unfold look
    rw [if_neg (fun h => e h.symm)]
  ·rename_i e
   unfold look
   rw [ih]
   by_cases e2 : t = s
   ·subst e2; rw [if_pos rfl, if_pos rfl, if_neg e]
   ·rw [if_neg e2, if_neg e2]
theorem mem_drop {l : Fls} {s : Nm} {p : Nm × Fle} (h : p ∈ dropL l s) : p ∈ l := by
 induction l with
 | nil => cases h
 | cons q r ih =>
  obtain ⟨n, g⟩ := q
  unfold dropL at h
  split at h
  ·exact List.mem_cons_of_mem _ (ih h)
  ·rcases List.mem_cons.1 h with rfl | h
   ·exact List.mem_cons_self ..
   ·exact List.mem_cons_of_mem _ (ih h)
theorem rise_drop {l : Fls} (hr : Rise l) (s : Nm) : Rise (dropL l s) := by
 induction l with
 | nil => trivial
 | cons q r ih =>
  obtain ⟨n, g⟩ := q
  unfold dropL
  split
  ·exact ih hr.2
  ·exact ⟨fun p hp => hr.1 p (mem_drop hp), ih hr.2⟩
theorem used_put (l : Fls) (hr : Rise l) (s : Nm) (f : Fle) : used (putL l s f) + lenO (look l s) = used l + f.b.length := by
 induction l with
 | nil => simp [putL, used, look, lenO]
 | cons q r ih =>
  obtain ⟨n, g⟩ := q
  unfold putL
  split
  ·rename_i h
   have : look ((n, g) :: r) s = none := look_low (fun p hp => by
    rcases List.mem_cons.1 hp with rfl | hp
    ·exact h
    ·exact ltN_trans h (hr.1 p hp))
   rw [this]
   show f.b.length + used ((n, g) :: r) + 0 = _
   omega
  ·rename_i h
   split
   ·rename_i e
    subst e
    unfold look
    rw [if_pos rfl]
    simp only [used, lenO, Option.map_some, Option.getD_some]
    omega
   ·rename_i e
    unfold look
    rw [if_neg e]
    have := ih hr.2
    simp only [used]
    omega
theorem dropL_low {l : Fls} {s : Nm} (h : ∀ p ∈ l, p.1 ≠ s) : dropL l s = l := by
 induction l with
 | nil => rfl
 | cons q r ih =>
  obtain ⟨n, g⟩ := q
  unfold dropL
  rw [if_neg (h _ (List.mem_cons_self ..)), ih (fun p hp => h p (List.mem_cons_of_mem _ hp))]
theorem used_drop (l : Fls) (hr : Rise l) (s : Nm) : used (dropL l s) + lenO (look l s) = used l := by
 induction l with
 | nil => rfl
 | cons q r ih =>
  obtain ⟨n, g⟩ := q
  unfold dropL look
  split
  ·rename_i e
   subst e
   rw [dropL_low (fun p hp e => by have := hr.1 p hp; rw [e] at this; exact ltN_irrefl _ this)]
   simp only [used, lenO, Option.map_some, Option.getD_some]
   omega
  ·rename_i e
   have := ih hr.2
   simp only [used]
   omega
theorem len_put (l : Fls) (s : Nm) (f : Fle) : (putL l s f).length ≤ l.length + 1 := by
 induction l with
 | nil => simp [putL]
 | cons q r ih =>
  obtain ⟨n, g⟩ := q
  unfold putL
  split
  ·simp
  ·split
   ·simp
   ·simp; exact ih
theorem len_drop (l : Fls) (s : Nm) : (dropL l s).length ≤ l.length := by
 induction l with
 | nil => simp [dropL]
 | cons q r ih =>
  obtain ⟨n, g⟩ := q
  unfold dropL
  split
  ·simp; omega
  ·simp; exact ih
theorem lenO_used (l : Fls) (s : Nm) : lenO (look l s) ≤ used l := by
 induction l with
 | nil => simp [look, lenO, used]
 | cons q r ih =>
  obtain ⟨n, g⟩ := q
  unfold look
  split
  ·simp only [used, lenO, Option.map_some, Option.getD_some]; omega
  ·simp only [used]; omega
theorem used_mem {l : Fls} {p : Nm × Fle} (h : p ∈ l) : p.2.b.length ≤ used l := by
 induction l with
 | nil => cases h
 | cons q r ih =>
  obtain ⟨n, g⟩ := q
  simp only [used]
  rcases List.mem_cons.1 h with rfl | h
  ·show g.b.length ≤ _
   omega
  ·have := ih h; omega
structure Dk where
 room : Nat
 fs : Fls
 steps : Nat
 off : Bool
 fu : Option Nat
structure Dk.Good (k : Dk) : Prop where
 room : k.room ≤ 16777216
 rise : Rise k.fs
 used : used k.fs ≤ k.room
 each : ∀ p ∈ k.fs, isNm p.1 = true ∧ p.2.safe ≤ p.2.b.length ∧ Bd p.2.b
 fu : ∀ n, k.fu = some n → n ≤ 9223372036854775807
def newK (room : Nat) : Dk := ⟨room, [], 0, false, none⟩
def passK (k : Dk) : Nat × Dk :=
 match k.fu with
 | none => (0, { k with steps := k.steps + 1 })
 | some 0 => (13, { k with off := true })
 | some (n + 1) => (0, { k with steps := k.steps + 1, fu := some n })
def appK (k : Dk) (s : Nm) (xs : List Int) : Nat × Dk :=
 if k.off then (13, k) else if isNm s = false then (4, k) else if ¬ (xs.length + used k.fs ≤ k.room) then (8, k) else
  passK { k with fs := putL k.fs s ⟨((look k.fs s).map Fle.b).getD [] ++ xs, ((look k.fs s).map Fle.safe).getD 0⟩ }
def stepK (k : Dk) (s : Nm) (err : Fle → Nat) (go : Dk → Fle → Dk) : Nat × Dk :=
 if k.off then (13, k) else if isNm s = false then (4, k) else
  match look k.fs s with
  | none => (7, k)
  | some f => if err f ≠ 0 then (err f, k) else
   if (passK k).1 ≠ 0 then passK k else (0, go (passK k).2 f)
def syncK (k : Dk) (s : Nm) : Nat × Dk := stepK k s (fun _ => 0) (fun k f => { k with fs := putL k.fs s ⟨f.b, f.b.length⟩ })
def removeK (k : Dk) (s : Nm) : Nat × Dk := stepK k s (fun _ => 0) (fun k _ => { k with fs := dropL k.fs s })
def cutF (f : Fle) (n : Nat) : Fle := ⟨f.b.take n, min f.safe n⟩
def cutK (k : Dk) (s : Nm) (n : Int) : Nat × Dk := stepK k s (fun f => if 0 ≤ n ∧ n ≤ f.b.length then 0 else 1) (fun k f => { k with fs := putL k.fs s (cutF f n.toNat) })
def renameK (k : Dk) (s t : Nm) : Nat × Dk :=
 if k.off then (13, k) else if isNm t = false then (4, k) else stepK k s (fun _ => 0) (fun k f => { k with fs := putL (dropL k.fs s) t f })
def readK (k : Dk) (s : Nm) : Nat × List Int :=
 if k.off then (13, []) else if isNm s = false then (4, []) else
  match look k.fs s with
  | none => (7, [])
  | some f => (0, f.b)
def restF (f : Fle) (kept : Int) : Fle := ⟨f.b.take (f.safe + ((max kept 0) % ((f.b.length - f.safe : Nat) + 1)).toNat), f.safe + ((max kept 0) % ((f.b.length - f.safe : Nat) + 1)).toNat⟩
def restL : Fls → List Int → Fls
 | [], _ => []
 | (n, f) :: r, keep => if f.b.length = f.safe then (n, f) :: restL r keep else (n, restF f (keep.headD 0)) :: restL r keep.tail
def restK (k : Dk) (keep : List Int) : Dk := { k with fs := restL k.fs keep, off := false, fu := none }
end Go.Proofs.YtikkieaokfailaaGreatDoor

namespace Go.Proofs.YtikkieaokfailaaGreatDoor
open Go.RowKit
structure Keep (S : Nat → Prop) (w w' : World) : Prop where
 os : w'.os = w.os
 tape : w'.tape = w.tape
 output : w'.output = w.output
 size : w.heap.size ≤ w'.heap.size
 block : ∀ k, k < w.heap.size → ¬ S k → w'.heap[k]? = w.heap[k]?
theorem Keep.refl (S : Nat → Prop) (w : World) : Keep S w w := ⟨rfl, rfl, rfl, Nat.le_refl _, fun _ _ _ => rfl⟩
theorem Keep.trans {S : Nat → Prop} {a b c : World} (h : Keep S a b) (k : Keep S b c) : Keep S a c :=
 ⟨k.os.trans h.os, k.tape.trans h.tape, k.output.trans h.output, Nat.le_trans h.size k.size, fun i hi hs => (k.block i (Nat.lt_of_lt_of_le hi h.size) hs).trans (h.block i hi hs)⟩
theorem Keep.andThen {S T : Nat → Prop} {a b c : World} (h : Keep S a b) (k : Keep T b c) (hT : ∀ i, i < a.heap.size → T i → S i) : Keep S a c :=
 ⟨k.os.trans h.os, k.tape.trans h.tape, k.output.trans h.output, Nat.le_trans h.size k.size, fun i hi hs => (k.block i (Nat.lt_of_lt_of_le hi h.size) (fun t => hs (hT i hi t))).trans (h.block i hi hs)⟩
theorem Keep.mono {S T : Nat → Prop} {a b : World} (h : Keep S a b) (hST : ∀ i, S i → T i) : Keep T a b := ⟨h.os, h.tape, h.output, h.size, fun i hi hs => h.block i hi (fun s => hs (hST i s))⟩
theorem Keep.drew {S : Nat → Prop} {a b : World} (h : Keep S a b) : Keep S a b.drew := ⟨h.os, h.tape, h.output, h.size, h.block⟩
theorem Keep.ofGrown {w w' : World} {row : Option Nat} (h : w.grownBy w' row) : Keep (fun k => row = some k) w w' := ⟨h.os, h.tape, h.output, h.size, fun k hk hs => h.block k hk (fun e => hs e.symm)⟩
theorem Keep.ofBelow {S : Nat → Prop} {w w' : World} (h : Below w.heap.size w w') : Keep S w w' := ⟨h.os, h.tape, h.output, h.size, fun k hk _ => h.block k hk⟩
theorem Keep.below {S : Nat → Prop} {B : Nat} {w w' : World} (h : Keep S w w') (hB : B ≤ w.heap.size) (hS : ∀ k, S k → B ≤ k) : Below B w w' :=
 ⟨h.os, h.tape, h.output, h.size, fun k hk => h.block k (by omega) (fun s => by have := hS k s; omega)⟩
theorem Keep.alloc {S : Nat → Prop} {a w : World} (h : Keep S a w) (o : Obj) : Keep S a (w.alloc o) :=
 h.trans ⟨rfl, rfl, rfl, by simp, fun k hk _ => Below.heap_alloc _ _ _ hk⟩
theorem Keep.setCell {S : Nat → Prop} {a w : World} (h : Keep S a w) {p : Addr} (hp : S p.block) (u : Value) : Keep S a (w.setCell p u) :=
 h.trans ⟨rfl, rfl, rfl, by simp [World.setCell], fun k _ hs => Below.heap_setCell _ _ _ _ (fun e => hs (by rw [e]; exact hp))⟩
theorem Keep.setNew {S : Nat → Prop} {a w : World} (h : Keep S a w) {p : Addr} (hp : a.heap.size ≤ p.block) (u : Value) : Keep S a (w.setCell p u) :=
 h.andThen (T := fun k => k = p.block) ⟨rfl, rfl, rfl, by simp [World.setCell], fun k _ hs => Below.heap_setCell _ _ _ _ hs⟩ (fun i hi e => by omega)
theorem Keep.cell {S : Nat → Prop} {w w' : World} (h : Keep S w w') {p : Addr} {v : Value} (hc : w.cell? p = some v) (hs : ¬ S p.block) : w'.cell? p = some v :=
 (World.cell?_of_block (h.block p.block (World.block_lt_of_cell? w p hc) hs)).trans hc
theorem own_keep {S : Nat → Prop} {w w' : World} {B : Nat} {e : TypeId} {sz : Nat} {v : Value} {n : Nat} {xs : List Value} (h : w.ownsRow B e sz v n xs) (hk : Keep S w w') (hs : ∀ k, v.ownBlock = some k → ¬ S k) : w'.ownsRow B e sz v n xs := by
 obtain ⟨h1, h2⟩ := h
 refine ⟨h1, ?_⟩
 rcases h2 with h2 | ⟨g, cap, cur, hv, hg, hh, r⟩
 ·exact Or.inl h2
 ·refine Or.inr ⟨g, cap, cur, hv, hg, ?_, r⟩
  rw [hk.block g (Array.getElem?_eq_some_iff.1 hh).1 (hs g (by rw [hv]; rfl))]; exact hh
theorem own_weak {w : World} {B B' : Nat} {e : TypeId} {sz : Nat} {v : Value} {n : Nat} {xs : List Value} (h : w.ownsRow B e sz v n xs) (hB : B' ≤ B) : w.ownsRow B' e sz v n xs :=
 ⟨h.1, h.2.elim .inl (fun ⟨g, cap, cur, hv, hg, r⟩ => .inr ⟨g, cap, cur, hv, Nat.le_trans hB hg, r⟩)⟩
theorem Rd.keep {S : Nat → Prop} {w w' : World} {a : Option Addr} {n c : Nat} {xs : List Int} (h : Rd w a n c xs) (hk : Keep S w w') (hs : ∀ ad, a = some ad → ¬ S ad.block) : Rd w' a n c xs :=
 ⟨h.len, h.cap, h.most, h.nil, h.bytes, fun ad ha j hj => by
  have hc := h.cells ad ha j hj
  exact hk.cell hc (by
   have : (ad.add j).block = ad.block := by unfold Addr.add; split <;> rfl
   rw [this]; exact hs ad ha)⟩
theorem rd_noneK {w : World} {a : Option Addr} {n c : Nat} {xs : List Int} (h : Rd w a n c xs) : a = none → n = 0 ∧ c = 0 := fun ha => by
 have := h.nil ha; have := h.cap; omega
theorem Rd.blk {w : World} {a : Option Addr} {n c : Nat} {xs : List Int} (h : Rd w a n c xs) (hn : 0 < n) {ad : Addr} (ha : a = some ad) : ad.block < w.heap.size := by
 have := World.block_lt_of_cell? w _ (h.cells ad ha 0 hn)
 have e : (ad.add 0).block = ad.block := by unfold Addr.add; split <;> rfl
 rwa [e] at this
theorem Rd.takeK {w : World} {a : Option Addr} {n c : Nat} {xs : List Int} (h : Rd w a n c xs) {k : Nat} (hk : k ≤ n) : Rd w a k c (xs.take k) := by
 refine ⟨by rw [List.length_take, h.len]; omega, by have := h.cap; omega, h.most, h.nil, h.bytes.take k, fun ad ha j hj => ?_⟩
 rw [h.cells ad ha j (by omega)]
 simp [List.getD, hj]
theorem Rd.drop {w : World} {b off n c : Nat} {xs : List Int} (h : Rd w (some ⟨b, off, none⟩) n c xs) {k : Nat} (hk : k ≤ n) : Rd w (some ⟨b, off + k, none⟩) (n - k) (c - k) (xs.drop k) := by
 refine ⟨by rw [List.length_drop, h.len], by have := h.cap; omega, by have := h.most; omega, (fun e => by cases e), h.bytes.drop k, fun ad ha j hj => ?_⟩
 cases ha
 have := h.cells _ rfl (k + j) (by omega)
 rw [add_flat] at this ⊢
 rw [← Nat.add_assoc] at this
 rw [this]
 simp [List.getD]
set_option maxRecDepth 100000 in
theorem app_where {w : World} {base : Nat} {v : Value} {n : Nat} {xs : List Int} (hown : w.ownsRow base 5 1 v n (bc xs)) {ad : Addr} {m c : Nat} {ys : List Int} (hr : Rd w (some ad) m c ys) (hb : n + m ≤ 1000000000) {ty : TypeId} {v' : Value} {w' : World}
  (hrun : (Builtin.append_ #[29, 29] ty #[v, .slice (some ad) m c]).run Tryz.prog w = .ok v' w') : v'.ownBlock = v.ownBlock ∨ v'.ownBlock = some w.heap.size := by
 obtain ⟨i0, hi, hz0, hz1, hz2⟩ := info_parts Tryz.info5
 have hl : (bc ys).length = m * i0.size := by rw [bc_len, hr.len, hz1]; omega
 rcases hown.2 with ⟨rfl, rfl⟩ | ⟨g, cap, cur, rfl, hbg, hg, hnc, hcm, hcs, htake⟩
 ·by_cases hm : m = 0
  ·subst hm
   left
   simp [Builtin.append_, run_underlying Tryz.underlying29, sizeOf, typeInfo, hi, Builtin.lenOf, Builtin.firstCells, loadCells, loadCellsFrom] at hrun
   rw [← hrun.1]
  ·right
   have hr2 := run_append_nil (P := Tryz.prog) w 29 ty 5 i0 (.int .u8 0) Tryz.underlying29 hi hz0 ad m c (bc ys) hl (hr.news rfl) (by omega) (by omega) (by rw [hz2]; omega)
   rw [hr2] at hrun
   injection hrun with e _
   rw [← e]; rfl
 ·by_cases hroom : n + m ≤ cap
  ·left
   have hr2 := run_append_room (P := Tryz.prog) w 29 ty 5 i0 Tryz.underlying29 hi g n cap cur hg ad m c (bc ys) hl (hr.news rfl) (bc_one ys) hroom (by rw [hl, hcs, hz1]; omega)
   rw [hr2] at hrun
   injection hrun with e _
   rw [← e]; rfl
  ·right
   have hr2 := run_append_grow (P := Tryz.prog) w 29 ty 5 i0 (.int .u8 0) Tryz.underlying29 hi hz0 ⟨g, 0, none⟩ n cap (bc xs) (by rw [hown.1, hz1]) (hown.cells (g := g) rfl) ad m c (bc ys) hl (hr.news rfl) (by omega) (by omega) (growslice_fits (by omega) (by rw [hz2]; omega))
   rw [hr2] at hrun
   injection hrun with e _
   rw [← e]; rfl
theorem wp_appK {w : World} {ops : Array Oper} {rest : List Oper} {o : Oper} {a : Act} {Q : Exit → Act → World → Prop} (hgd : o.guard = none) (s x : Operand)
  (ho : o.op = .call { callee := .builtin .append, args := #[s, x], argTypes := #[29, 29] })
  (base : Nat) (v : Value) (n : Nat) (xs : List Int) (hs : a.eval s = v) (hown : w.ownsRow base 5 1 v n (bc xs))
  (ao : Option Addr) (m c : Nat) (ys : List Int) (hx : a.eval x = .slice ao m c) (hr : Rd w ao m c ys) (hb : n + m ≤ 1000000000) (hbase : base ≤ w.heap.size)
  (h : ∀ v' w', w'.ownsRow base 5 1 v' (n + m) (bc (xs ++ ys)) → w.grownBy w' v.ownBlock → (v'.ownBlock = v.ownBlock ∨ v'.ownBlock = some w.heap.size) → wpList Tryz.prog ops Q rest (a.put o.dst v') w') : wpList Tryz.prog ops Q (o :: rest) a w := by
 obtain ⟨i0, hi, hz0, hz1, hz2⟩ := info_parts Tryz.info5
 cases ao with
 | none =>
  obtain ⟨rfl, rfl⟩ := rd_noneK hr rfl
  have hys : ys = [] := List.eq_nil_of_length_eq_zero hr.len
  subst hys
  refine wpList_append_own_none hgd s x 29 ho base 5 i0 1 Tryz.underlying29 hi v n (bc xs) hs hown hx ?_
  refine h v w ?_ (World.grownBy.refl _ _) (.inl rfl)
  simpa using hown
 | some ad =>
  refine wpList_plain hgd fun K hK => ?_
  obtain ⟨v', w', hrun, h2, h3, _⟩ := run_append_own (P := Tryz.prog) w base 29 o.type 5 i0 (.int .u8 0) 1 1 Tryz.underlying29 hi hz0 hz1 hz2 rfl (by decide) v n (bc xs) hown ad m c (bc ys) (by rw [bc_len, hr.len]; omega) (hr.news rfl) (bc_one ys) (by unfold maxLen; omega) (by omega) hbase
  have hw := app_where hown hr hb hrun
  rw [← bc_append] at h2
  unfold Oper.wp
  simp only [execOp, ho, resolve, invoke, builtin, Sem.run_bind, Sem.run_pure, Result.andThen_ok, List.map_toArray, List.map_cons, List.map_nil, hs, hx, hrun]
  exact hK _ _ (h v' w' h2 h3 hw)
theorem wp_app0K {w : World} {ops : Array Oper} {rest : List Oper} {o : Oper} {a : Act} {Q : Exit → Act → World → Prop} (hgd : o.guard = none) (s x : Operand)
  (ho : o.op = .call { callee := .builtin .append, args := #[s, x], argTypes := #[29, 29] })
  (hs : a.eval s = .slice (some ⟨w.heap.size, 0, none⟩) 0 0)
  (ao : Option Addr) (m c : Nat) (ys : List Int) (hx : a.eval x = .slice ao m c) (hr : Rd w ao m c ys) (hb : m ≤ 1000000000)
  (h : ∀ v' w', w'.ownsRow w.heap.size 5 1 v' m (bc ys) → Below w.heap.size w w' → (∃ g cap, v' = .slice (some ⟨g, 0, none⟩) m cap) → wpList Tryz.prog ops Q rest (a.put o.dst v') w') : wpList Tryz.prog ops Q (o :: rest) a (w.alloc (.cells #[] 5)) := by
 have hown : (w.alloc (.cells #[] 5)).ownsRow w.heap.size 5 1 (.slice (some ⟨w.heap.size, 0, none⟩) 0 0) 0 (bc []) := World.ownsRow_made w #[] 0 (Nat.le_refl _) (by unfold maxLen; omega) rfl
 refine wp_appK hgd s x ho w.heap.size _ 0 [] hs hown ao m c ys hx (hr.carry (Nat.le_refl _) ((Below.refl _ _).alloc (Nat.le_refl _) _)) (by omega) (by simp) ?_
 intro v' w' h1 h2 h3
 simp only [Nat.zero_add, List.nil_append] at h1
 refine h v' w' h1 (((Below.refl _ _).alloc (Nat.le_refl _) _).grown h2 (by simp) (fun k hk => ?_)) ?_
 ·cases hk; exact Nat.le_refl _
 ·rcases h1.2 with ⟨rfl, _⟩ | ⟨g, cap, cur, rfl, _⟩
  ·rcases h3 with h3 | h3 <;> simp [Value.ownBlock] at h3
  ·exact ⟨g, cap, rfl⟩
theorem rd_drewN {w : World} {a : Option Addr} {n c : Nat} {xs : List Int} (h : Rd w a n c xs) (k : Nat) : Rd (w.drewN k) a n c xs := ⟨h.len, h.cap, h.most, h.nil, h.bytes, h.cells⟩
end Go.Proofs.YtikkieaokfailaaGreatDoor

namespace Go.Proofs.YtikkieaokfailaaGreatDoor
open Go.RowKit
abbrev FV := Option Nat × Nat × Nat × Int
def slv (f : FV) : Value := .slice (f.1.map fun g => ⟨g, 0, none⟩) f.2.1 f.2.2.1
def fv (f : FV) : Value := .agg #[slv f, .int .i64 f.2.2.2]
def fd : FV → DataW Unit
 | (none, n, c, s) => .agg [.lit (.int .i64 (-1)), .lit (.int .i64 n), .lit (.int .i64 c), .lit (.int .i64 s)]
 | (some g, n, c, s) => .agg [.lit (.int .i64 g), .lit (.int .i64 n), .lit (.int .i64 c), .lit (.int .i64 s)]
theorem fd_inj {f g : FV} (h : fd f = fd g) : f = g := by
 obtain ⟨a, n, c, s⟩ := f
 obtain ⟨b, m, d, t⟩ := g
 have hl : ∀ {x y : List (DataW Unit)}, DataW.agg x = DataW.agg y → x = y := fun h => by injection h
 have hi : ∀ {x y : Int}, (DataW.lit (.int .i64 x) : DataW Unit) = .lit (.int .i64 y) → x = y := fun h => by injection h with h; injection h
 cases a <;> cases b
 all_goals
  have h1 := hl h
  obtain ⟨e0, h1⟩ := List.cons.inj h1
  obtain ⟨e1, h1⟩ := List.cons.inj h1
  obtain ⟨e2, h1⟩ := List.cons.inj h1
  obtain ⟨e3, _⟩ := List.cons.inj h1
  have e0 := hi e0
  have e1 := hi e1
  have e2 := hi e2
  have e3 := hi e3
 ·rw [Int.ofNat.inj e1, Int.ofNat.inj e2, e3]
 ·omega
 ·omega
 ·rw [Int.ofNat.inj e0, Int.ofNat.inj e1, Int.ofNat.inj e2, e3]
def Rf (v : Value) : Option (DataW Unit × List MemPlace) :=
 match v with
 | .agg a => match a.toList with
  | [.slice none n c, .int .i64 s] => some (fd (none, n, c, s), [])
  | [.slice (some ⟨g, 0, none⟩) n c, .int .i64 s] => some (fd (some g, n, c, s), [])
  | _ => none
 | _ => none
theorem Rf_mk (f : FV) : Rf (fv f) = some (fd f, []) := by
 obtain ⟨a, n, c, s⟩ := f
 cases a <;> rfl
theorem Rf_inv {v : Value} {f : FV} {ps : List MemPlace} (h : Rf v = some (fd f, ps)) : v = fv f := by
 unfold Rf at h
 split at h
 ·split at h
  ·rename_i a n c s e
   injection h with h
   have e1 : fd (none, n, c, s) = fd f := congrArg Prod.fst h
   have e2 := fd_inj e1
   rw [← e2]
   unfold fv slv
   congr 1
   exact Array.toList_inj.1 e
  ·rename_i a g n c s e
   injection h with h
   have e1 : fd (some g, n, c, s) = fd f := congrArg Prod.fst h
   have e2 := fd_inj e1
   rw [← e2]
   unfold fv slv
   congr 1
   exact Array.toList_inj.1 e
  ·cases h
 ·cases h
def kl (s : ByteArray) : Lit := .string s.data.toList
theorem kl_key (s : ByteArray) (hs : s.size ≤ maxLen) : keyOf Tryz.prog 9 (.string s) = some (kl s) := by
 rw [keyOf_string Tryz.underlying9]
 simp [mapKey, Tryz.underlying9, hs, kl]
theorem kl_is (s : ByteArray) : WideAt.IsKeyLit (kl s) := trivial
theorem kl_ne {s t : ByteArray} (h : s ≠ t) : kl s ≠ kl t := fun e => h (by
 unfold kl at e
 injection e with e
 exact nm_ext e)
theorem keyed : Maps.Keyed Tryz.prog 9 := Maps.string_keyed Tryz.underlying9
def fv0 : FV := (none, 0, 0, 0)
theorem zeroF (w : World) : (zeroValue 106).run Tryz.prog w = .ok (fv fv0) w := by kernel_rfl
def FMap (w : World) (b n : Nat) (m : Nm → Option FV) : Prop :=
 ∃ D : DataW Unit, w.ownsMap Tryz.prog 9 Rf b n D ∧ ∀ s : Nm, (∀ z, D.atKey (kl s) z = ((m s).map fd).getD z) ∧ Maps.has D (kl s) = (m s).isSome
def mputF (m : Nm → Option FV) (u : Nm) (t : Option FV) : Nm → Option FV := fun s => if s = u then t else m s
theorem mputF_same (m : Nm → Option FV) (u : Nm) (t : Option FV) : mputF m u t u = t := by simp [mputF]
theorem mputF_other (m : Nm → Option FV) {u s : Nm} (t : Option FV) (h : s ≠ u) : mputF m u t s = m s := by simp [mputF, h]
theorem FMap.made (w : World) : FMap (w.alloc (.map #[] 0)) w.heap.size 0 (fun _ => none) :=
 ⟨_, World.ownsMap_made w _ _ _, fun _ => ⟨fun _ => rfl, rfl⟩⟩
theorem FMap.lt {w : World} {b n : Nat} {m : Nm → Option FV} (h : FMap w b n m) : b < w.heap.size := by
 obtain ⟨D, hD, _⟩ := h; exact hD.lt
theorem FMap.keep {S : Nat → Prop} {w w' : World} {b n : Nat} {m : Nm → Option FV} (h : FMap w b n m) (hk : Keep S w w') (hs : ¬ S b) : FMap w' b n m := by
 obtain ⟨D, hD, h2⟩ := h
 have hlt := hD.lt
 obtain ⟨es, clock, hb, F, h3, h4⟩ := hD
 exact ⟨D, ⟨es, clock, (hk.block b hlt hs).trans hb, F, h3, h4⟩, h2⟩
theorem FMap.mono {w : World} {b n n' : Nat} {m : Nm → Option FV} (h : FMap w b n m) (hn : n ≤ n') : FMap w b n' m := by
 obtain ⟨D, hD, h2⟩ := h; exact ⟨D, hD.mono hn, h2⟩
theorem FMap.notCells {w : World} {b n : Nat} {m : Nm → Option FV} (h : FMap w b n m) {g : Nat} {cs : Array Value} {t : TypeId} {fr : Nat × Nat} (hc : w.heap[g]? = some (.cells cs t fr)) : g ≠ b := by
 obtain ⟨D, ⟨es, clock, hb, _⟩, h2⟩ := h
 intro e
 subst e
 rw [hb] at hc
 cases hc
theorem FMap.ext {w : World} {b n : Nat} {m m' : Nm → Option FV} (h : FMap w b n m) (e : ∀ s, m s = m' s) : FMap w b n m' := by
 rw [← show m = m' from funext e]; exact h
theorem Keep.ofTurned {w w' : World} {b : Nat} (h : w.mapTurned w' b) : Keep (fun k => k = b) w w' := (Keep.ofGrown h.grown).mono (fun i e => by cases e; rfl)
theorem FMap.look2 {w : World} {b n : Nat} {m : Nm → Option FV} (h : FMap w b n m) (s : Nm) (hs : s.size ≤ maxLen) :
  (Instr.lookup 99 (.map (some b)) (.string s) true).run Tryz.prog w = .ok (.tuple #[fv ((m s).getD fv0), .bool (m s).isSome]) w := by
 obtain ⟨D, hD, h2⟩ := h
 obtain ⟨v, ps, hrun, hv⟩ := hD.look_ok keyed Tryz.underlying99 (zeroF w) (Rf_mk fv0) (kl_key s hs)
 rw [hrun, (h2 s).2]
 rw [(h2 s).1] at hv
 have : v = fv ((m s).getD fv0) := by
  cases hm : m s with
  | none => rw [hm] at hv; exact Rf_inv hv
  | some t => rw [hm] at hv; exact Rf_inv hv
 rw [this]
theorem FMap.look1 {w : World} {b n : Nat} {m : Nm → Option FV} (h : FMap w b n m) (s : Nm) (hs : s.size ≤ maxLen) :
  (Instr.lookup 99 (.map (some b)) (.string s) false).run Tryz.prog w = .ok (fv ((m s).getD fv0)) w := by
 obtain ⟨D, hD, h2⟩ := h
 obtain ⟨v, ps, hrun, hv⟩ := hD.lookup keyed Tryz.underlying99 (zeroF w) (Rf_mk fv0) (kl_key s hs)
 rw [hrun]
 rw [(h2 s).1] at hv
 have : v = fv ((m s).getD fv0) := by
  cases hm : m s with
  | none => rw [hm] at hv; exact Rf_inv hv
  | some t => rw [hm] at hv; exact Rf_inv hv
 rw [this]
theorem FMap.store {w : World} {b n : Nat} {m : Nm → Option FV} (h : FMap w b n m) (hn : n < 1000000) (s : Nm) (hs : s.size ≤ maxLen) (t : FV) :
  ∃ w', (Instr.mapUpdate 99 (.map (some b)) (.string s) (fv t)).run Tryz.prog w = .ok () w' ∧ FMap w' b (n + 1) (mputF m s (some t)) ∧ Keep (fun k => k = b) w w' := by
 obtain ⟨D, hD, h2⟩ := h
 obtain ⟨w', hrun, hown, hturn⟩ := hD.store keyed Tryz.underlying99 (by unfold maxLen; omega) (kl_key s hs) (Rf_mk t)
 refine ⟨w', hrun, ⟨_, hown, fun u => ?_⟩, Keep.ofTurned hturn⟩
 by_cases hu : u = s
 ·subst hu
  rw [mputF_same]
  exact ⟨fun z => Maps.atKey_put_same hD.isMap (kl_is u) _ z, Maps.has_put_same hD.isMap (kl_is u) _⟩
 ·rw [mputF_other m _ hu]
  exact ⟨fun z => (Maps.atKey_put_other (kl_ne hu) _ z).trans ((h2 u).1 z), (Maps.has_put_other (kl_ne hu) _).trans (h2 u).2⟩
theorem FMap.drop {w : World} {b n : Nat} {m : Nm → Option FV} (h : FMap w b n m) (s : Nm) (hs : s.size ≤ maxLen) (ty : TypeId) :
  ∃ w', (Builtin.delete_ #[99, 9] ty #[.map (some b), .string s]).run Tryz.prog w = .ok (.tuple #[]) w' ∧ FMap w' b n (mputF m s none) ∧ Keep (fun k => k = b) w w' := by
 obtain ⟨D, hD, h2⟩ := h
 obtain ⟨w', hrun, hown, hturn⟩ := hD.drop keyed Tryz.underlying99 (kl_key s hs) ty
 refine ⟨w', hrun, ⟨_, hown, fun u => ?_⟩, Keep.ofTurned hturn⟩
 by_cases hu : u = s
 ·subst hu
  rw [mputF_same]
  exact ⟨fun z => Maps.atKey_del_same z, Maps.has_del_same⟩
 ·rw [mputF_other m _ hu]
  exact ⟨fun z => (Maps.atKey_del_other (kl_ne hu) z).trans ((h2 u).1 z), (Maps.has_del_other (kl_ne hu)).trans (h2 u).2⟩
theorem FMap.keys {w : World} {b n : Nat} {m : Nm → Option FV} (h : FMap w b n m) (l : List Nm) (hl : l.Nodup) (hm : ∀ s, (m s).isSome = true ↔ s ∈ l) :
  ∃ D : DataW Unit, w.ownsMap Tryz.prog 9 Rf b n D ∧ (l.map (fun s => s.data.toList)).Perm (strKeys D) ∧ Maps.size D = l.length := by
 obtain ⟨D, hD, h2⟩ := h
 obtain ⟨es, rfl, hp, hkl⟩ := hD.entries keyed
 have hst : ∀ p ∈ es, ∃ x, p.1 = .string x := fun p hp' => by
  obtain ⟨es', hes, hko⟩ := hD.keysOf
  cases hes
  obtain ⟨key, hkey⟩ := hko p hp'
  obtain ⟨x, _, hx, _⟩ := Maps.keyOf_str Tryz.underlying9 hkey
  exact ⟨x, hx⟩
 have hperm : (l.map (fun s : Nm => s.data.toList)).Perm (strKeys (.map es)) := by
  refine perm_strKeys hp hst ?_ (fun x => ?_)
  ·exact List.pairwise_map.2 (hl.imp (fun {a b} hne e => hne (nm_ext e)))
  ·constructor
   ·intro hx
    obtain ⟨s, hs, rfl⟩ := List.mem_map.1 hx
    have := (h2 s).2
    rw [(hm s).2 hs] at this
    exact this
   ·intro hx
    have := (h2 ⟨x.toArray⟩).2
    unfold kl at this
    rw [show ((⟨x.toArray⟩ : ByteArray).data.toList) = x from rfl, hx] at this
    exact List.mem_map.2 ⟨⟨x.toArray⟩, (hm _).1 this.symm, rfl⟩
 refine ⟨_, hD, hperm, ?_⟩
 have h3 := hperm.length_eq
 simp [strKeys] at h3
 simp [Maps.size]
 omega
theorem FMap.tight {w : World} {b n : Nat} {m : Nm → Option FV} (h : FMap w b n m) (l : List Nm) (hl : l.Nodup) (hm : ∀ s, (m s).isSome = true ↔ s ∈ l) : FMap w b l.length m := by
 obtain ⟨D, hD, h2⟩ := h
 obtain ⟨D', hD', _, hsz⟩ := FMap.keys ⟨D, hD, h2⟩ l hl hm
 refine ⟨D, ?_, h2⟩
 obtain ⟨es, clock, hb, F, h3, h4⟩ := hD
 obtain ⟨es', clock', hb', F', h3', h4'⟩ := hD'
 rw [hb] at hb'
 cases hb'
 refine ⟨es, clock, hb, F, ?_, h4⟩
 have : D' = D := by rw [h4, h4']
 subst this
 have e1 : Maps.size D' = es.size := by rw [h4]; simp [Maps.size, length_sorted]
 omega
theorem wp_look2 {w : World} {ops : Array Oper} {rest : List Oper} {o : Oper} {a : Act} {Q : Exit → Act → World → Prop} (hgd : o.guard = none) (p x : Operand) (ho : o.op = .lookup 99 p x true)
  (b n : Nat) (m : Nm → Option FV) (hp : a.eval p = .map (some b)) (h : FMap w b n m) (s : Nm) (hs : s.size ≤ maxLen) (hx : a.eval x = .string s) (v : Value) (sf : Int) (ht : fv ((m s).getD fv0) = .agg #[v, .int .i64 sf]) (kn : Bool) (hk : (m s).isSome = kn)
  (K : wpList Tryz.prog ops Q rest (a.put o.dst (.tuple #[.agg #[v, .int .i64 sf], .bool kn])) w) : wpList Tryz.prog ops Q (o :: rest) a w := by
 refine wpList_plain hgd fun K' hK' => ?_
 have hrun := h.look2 s hs
 rw [ht, hk] at hrun
 unfold Oper.wp
 simp only [execOp, ho, hp, hx, Sem.run_bind, hrun, Result.andThen_ok, Sem.run_pure]
 exact hK' _ _ K
theorem wp_dropF {w : World} {ops : Array Oper} {rest : List Oper} {o : Oper} {a : Act} {Q : Exit → Act → World → Prop} (hgd : o.guard = none) (p x : Operand) (ho : o.op = .call { callee := .builtin .delete, args := #[p, x], argTypes := #[99, 9] })
  (b n : Nat) (m : Nm → Option FV) (hp : a.eval p = .map (some b)) (h : FMap w b n m) (s : Nm) (hs : s.size ≤ maxLen) (hx : a.eval x = .string s)
  (K : ∀ w', FMap w' b n (mputF m s none) → Keep (fun k => k = b) w w' → wpList Tryz.prog ops Q rest (a.put o.dst (.tuple #[])) w') : wpList Tryz.prog ops Q (o :: rest) a w := by
 refine wpList_plain hgd fun K' hK' => ?_
 obtain ⟨w', hrun, r1, r2⟩ := h.drop s hs o.type
 unfold Oper.wp
 simp [execOp, ho, resolve, invoke, builtin, hp, hx, hrun, Result.andThen]
 exact hK' _ _ (K w' r1 r2)
end Go.Proofs.YtikkieaokfailaaGreatDoor

namespace Go.Proofs.YtikkieaokfailaaGreatDoor
open Go.RowKit Go.Joins
def gaveUp (n : Nat) : List PanicEntry := [{ v := .iface 135 (.agg #[.int .i64 n]), recovered := false }]
def Gv (n : Nat) (e : Ending) : Prop := (n = 0 ∧ e = .returned (.tuple #[])) ∨ (n ≠ 0 ∧ e = .panicked (gaveUp n))
theorem ask_ok (n : Int) (w : World) : Calls Tryz.prog 50 #[.bool true, .int .i64 n] w fun e w' => e = .returned (.tuple #[]) ∧ w' = w := by
 go_enter Tryz.func50, Tryz.ntmps50
 go_wp2
 go_end0
 exact ⟨rfl, rfl⟩
theorem ask_no (n : Nat) (w : World) : Calls Tryz.prog 50 #[.bool false, .int .i64 n] w fun e w' => e = .panicked (gaveUp n) ∧ w' = w := by
 go_enter Tryz.func50, Tryz.ntmps50
 go_wp2
 exact ⟨rfl, rfl, rfl⟩
structure Raw where
 room : Int
 used : Int
 steps : Int
 down : Bool
 fused : Bool
 left : Int
def rcs (r : Raw) (bm : Nat) : Array Value := #[.int .i64 r.room, .map (some bm), .int .i64 r.used, .int .i64 r.steps, .bool r.down, .bool r.fused, .int .i64 r.left]
structure DR (w : World) (d bm n : Nat) (r : Raw) (m : Nm → Option FV) : Prop where
 blk : w.heap[d]? = some (.cells (rcs r bm) 101 (0, 0))
 map : FMap w bm n m
section
variable {w : World} {d bm n : Nat} {r : Raw} {m : Nm → Option FV}
theorem DR.lt (h : DR w d bm n r m) : d < w.heap.size := (Array.getElem?_eq_some_iff.1 h.blk).1
theorem DR.ne (h : DR w d bm n r m) : d ≠ bm := h.map.notCells h.blk
theorem DR.keep {S : Nat → Prop} {w' : World} (h : DR w d bm n r m) (hk : Keep S w w') (hd : ¬ S d) (hb : ¬ S bm) : DR w' d bm n r m := ⟨(hk.block d h.lt hd).trans h.blk, h.map.keep hk hb⟩
theorem DR.below {w' : World} (h : DR w d bm n r m) (hk : Below w.heap.size w w') : DR w' d bm n r m := h.keep (S := fun _ => False) (Keep.ofBelow hk) (fun h => h) (fun h => h)
theorem DR.alloc (h : DR w d bm n r m) (o : Obj) : DR (w.alloc o) d bm n r m := h.keep (S := fun _ => False) ((Keep.refl _ _).alloc o) (fun h => h) (fun h => h)
theorem DR.c0 (h : DR w d bm n r m) : w.cell? ⟨d, 0, none⟩ = some (.int .i64 r.room) := by rw [cell_of_block h.blk]; rfl
theorem DR.c1 (h : DR w d bm n r m) : w.cell? ⟨d, 1, none⟩ = some (.map (some bm)) := by rw [cell_of_block h.blk]; rfl
theorem DR.c2 (h : DR w d bm n r m) : w.cell? ⟨d, 2, none⟩ = some (.int .i64 r.used) := by rw [cell_of_block h.blk]; rfl
theorem DR.c3 (h : DR w d bm n r m) : w.cell? ⟨d, 3, none⟩ = some (.int .i64 r.steps) := by rw [cell_of_block h.blk]; rfl
theorem DR.c4 (h : DR w d bm n r m) : w.cell? ⟨d, 4, none⟩ = some (.bool r.down) := by rw [cell_of_block h.blk]; rfl
theorem DR.c5 (h : DR w d bm n r m) : w.cell? ⟨d, 5, none⟩ = some (.bool r.fused) := by rw [cell_of_block h.blk]; rfl
theorem DR.c6 (h : DR w d bm n r m) : w.cell? ⟨d, 6, none⟩ = some (.int .i64 r.left) := by rw [cell_of_block h.blk]; rfl
theorem DR.fz (h : DR w d bm n r m) (i : Nat) : w.frozen? ⟨d, i, none⟩ = false := unfrozen_of_block h.blk i
theorem DR.set (h : DR w d bm n r m) (i : Nat) (v : Value) (r' : Raw) (e : (rcs r bm).setIfInBounds i v = rcs r' bm) : DR (w.setCell ⟨d, i, none⟩ v) d bm n r' m :=
 ⟨by rw [← e]; exact block_setCell h.blk v, h.map.keep ((Keep.refl (fun k => k = d) w).setCell (p := ⟨d, i, none⟩) rfl v) (fun e => h.ne e.symm)⟩
theorem DR.setK (_ : DR w d bm n r m) (i : Nat) (v : Value) : Keep (fun k => k = d) w (w.setCell ⟨d, i, none⟩ v) := (Keep.refl (fun k => k = d) w).setCell (p := ⟨d, i, none⟩) rfl v
end
theorem pass_free (w : World) (d bm n : Nat) (r : Raw) (m : Nm → Option FV) (h : DR w d bm n r m) (hf : r.fused = false) (hs : 0 ≤ r.steps) (hs2 : r.steps < 9223372036854775807) :
  Calls Tryz.prog 53 #[.pointer (some ⟨d, 0, none⟩)] w fun e w' => e = .returned (.tuple #[]) ∧ DR w' d bm n { r with steps := r.steps + 1 } m ∧ Keep (fun k => k = d) w w' := by
 have q5 := h.c5
 rw [hf] at q5
 have q3 := h.c3
 have z3 := h.fz 3
 have hw : wrap64 (r.steps + 1) = r.steps + 1 := by unfold wrap64; omega
 go_enter Tryz.func53, Tryz.ntmps53
 go_wp2
 go_end0
 exact ⟨rfl, h.set 3 _ _ rfl, h.setK 3 _⟩
theorem pass_no (w : World) (d bm n : Nat) (r : Raw) (m : Nm → Option FV) (h : DR w d bm n r m) (hf : r.fused = true) (hl : r.left = 0) :
  Calls Tryz.prog 53 #[.pointer (some ⟨d, 0, none⟩)] w fun e w' => e = .panicked (gaveUp 13) ∧ DR w' d bm n { r with down := true } m ∧ Keep (fun k => k = d) w w' := by
 have q5 := h.c5
 rw [hf] at q5
 have q6 := h.c6
 rw [hl] at q6
 have q4 := h.c4
 have z4 := h.fz 4
 have h1 : DR (w.setCell ⟨d, 4, none⟩ (.bool true)) d bm n { r with down := true } m := h.set 4 _ _ rfl
 have k1 := h.setK 4 (.bool true)
 have p4 := h1.c4
 go_enter Tryz.func53, Tryz.ntmps53
 go_wp2_with (first
  | (go_at_call 50; refine (ask_no 13 _).mono ?_; rintro e w1 ⟨rfl, rfl⟩))
 exact ⟨rfl, rfl, h1, k1⟩
theorem pass_yes (w : World) (d bm n : Nat) (r : Raw) (m : Nm → Option FV) (h : DR w d bm n r m) (hf : r.fused = true) (hl : 0 < r.left) (hl2 : r.left ≤ 9223372036854775807) (hs : 0 ≤ r.steps) (hs2 : r.steps < 9223372036854775807) :
  Calls Tryz.prog 53 #[.pointer (some ⟨d, 0, none⟩)] w fun e w' => e = .returned (.tuple #[]) ∧ DR w' d bm n { r with down := false, left := r.left - 1, steps := r.steps + 1 } m ∧ Keep (fun k => k = d) w w' := by
 have q5 := h.c5
 rw [hf] at q5
 have q6 := h.c6
 have q4 := h.c4
 have z4 := h.fz 4
 have he : (r.left == 0) = false := by simp; omega
 have hw : wrap64 (r.steps + 1) = r.steps + 1 := by unfold wrap64; omega
 have hw2 : wrap64 (r.left - 1) = r.left - 1 := by unfold wrap64; omega
 clear hl hl2 hs hs2 hf
 have h1 : DR (w.setCell ⟨d, 4, none⟩ (.bool false)) d bm n { r with down := false } m := h.set 4 _ _ rfl
 have k1 := h.setK 4 (.bool false)
 have p4 := h1.c4
 go_enter Tryz.func53, Tryz.ntmps53
 go_upto_region 3 with (first
  | (go_at_call 50; refine (ask_ok 13 _).mono ?_; rintro e w1 ⟨rfl, rfl⟩))
 generalize w.setCell ⟨d, 4, none⟩ (.bool false) = W at *
 have p6 := h1.c6
 have z6 := h1.fz 6
 have h2 := h1.set 6 (.int .i64 (r.left - 1)) { r with down := false, left := r.left - 1 } rfl
 have k2 := k1.trans (h1.setK 6 (.int .i64 (r.left - 1)))
 have p3 := h2.c3
 have z3 := h2.fz 3
 go_wp2
 go_end0
 exact ⟨rfl, h2.set 3 _ _ rfl, k2.trans (h2.setK 3 _)⟩
theorem catchD_panicking (p : Addr) (x : Int) (n : Nat) (w : World) (hc : w.cell? p = some (.int .i64 x)) (hz : w.frozen? p = false) :
  CallsD Tryz.prog 90 #[.pointer (some p)] (.panicking (gaveUp n)) w fun e u' w' =>
   e = .returned (.tuple #[]) ∧ u' = .panicking [{ v := .iface 135 (.agg #[.int .i64 n]), recovered := true }] ∧ w' = w.setCell p (.int .i64 n) := by
 unfold gaveUp
 refine callsD_of_wpS Tryz.func90 rfl fun c₀ cs hu => ?_
 apply wpS_seq
 apply wpS_region
 simp [wpOpsS, go_sem, recoverD, hu, Tryz.ntmps90, Exit.thenS]
 refine wpS_of_wp ?_
 rw [show #[Value.pointer (some p)] ++ ((Array.replicate 7 undef).setIfInBounds 1 (Value.iface 135 (Value.agg #[Value.int IntKind.i64 n]))).setIfInBounds 0 (Value.iface 135 (Value.agg #[Value.int IntKind.i64 n])) = #[Value.pointer (some p), Value.iface 135 (Value.agg #[Value.int IntKind.i64 n]), Value.iface 135 (Value.agg #[Value.int IntKind.i64 n]), undef, undef, undef, undef, undef] from rfl]
 have hta : (Instr.typeAssert (Value.iface 135 (Value.agg #[Value.int IntKind.i64 n])) 20 135 false).run Tryz.prog w = .ok (Value.agg #[Value.int IntKind.i64 n]) w := by
  simp [Instr.typeAssert, go_sem]
 have hfd : (Instr.field 135 (Value.agg #[Value.int IntKind.i64 n]) 0).run Tryz.prog w = .ok (Value.int IntKind.i64 n) w := by
  simp [Instr.field, go_sem, asAgg]
 go_wp2
 simp [bodyPostS, results, Tryz.results90]
theorem catchD_idle (p : Addr) (w : World) :
  CallsD Tryz.prog 90 #[.pointer (some p)] .returning w fun e u' w' => e = .returned (.tuple #[]) ∧ u' = .returning ∧ w' = w := by
 refine callsD_of_wpS Tryz.func90 rfl fun c₀ cs hu => ?_
 apply wpS_seq
 apply wpS_region
 simp [wpOpsS, go_sem, recoverD, hu, Tryz.ntmps90, Exit.thenS]
 refine wpS_of_wp ?_
 rw [show #[Value.pointer (some p)] ++ ((Array.replicate 7 undef).setIfInBounds 1 Value.nilIface).setIfInBounds 0 Value.nilIface = #[Value.pointer (some p), Value.nilIface, Value.nilIface, undef, undef, undef, undef, undef] from rfl]
 go_wp2
 cases c₀
 simp_all [bodyPostS, results, Tryz.results90]
theorem cell_one {w : World} {B : Nat} {v : Value} {t : TypeId} (h : w.heap[B]? = some (.cells #[v] t (0, 0))) : w.cell? ⟨B, 0, none⟩ = some v := by simp [World.cell?, h]
theorem thaw_one {w : World} {B : Nat} {v : Value} {t : TypeId} (h : w.heap[B]? = some (.cells #[v] t (0, 0))) : w.frozen? ⟨B, 0, none⟩ = false := by simp [World.frozen?, h]
theorem alloc_at (w : World) (o : Obj) : (w.alloc o).heap[w.heap.size]? = some o := by
 show (w.heap.push o)[w.heap.size]? = _
 simp
theorem attempt_down (d k : Nat) (caps : Array Value) (w : World) (hd : w.cell? ⟨d, 4, none⟩ = some (.bool true)) :
  Calls Tryz.prog 48 #[.pointer (some ⟨d, 0, none⟩), .func (.func k) #[] caps] w fun e w' => e = .returned (.int .i64 13) ∧ Below w.heap.size w w' := by
 have hmf : ∀ (fn : Fn) (first cap : Array Value) (w : World), (Instr.makeFunc fn first cap).run Tryz.prog w = .ok (.func fn first cap) w := fun _ _ _ _ => rfl
 have hb0 : Below w.heap.size w (w.alloc (.cells #[.int .i64 0] 37)) := (Below.refl _ _).alloc (Nat.le_refl _) _
 have hd' : (w.alloc (.cells #[.int .i64 0] 37)).cell? ⟨d, 4, none⟩ = some (.bool true) := ((Keep.refl (fun _ => False) w).alloc _).cell hd (fun h => h)
 have hcl := cell_one (alloc_at w (.cells #[.int .i64 0] 37))
 have hfz := thaw_one (alloc_at w (.cells #[.int .i64 0] 37))
 clear hd
 go_enter_defers Tryz.func48, Tryz.ntmps48
 go_wp2_with (go_at_call 50; refine (ask_no 13 _).mono ?_; rintro e w1 ⟨rfl, rfl⟩)
 refine leaves_cons (f := 90) (args := #[.pointer (some ⟨w.heap.size, 0, none⟩)]) (by simp) (by simp [go_sem]) ?_
 refine (catchD_panicking ⟨w.heap.size, 0, none⟩ 0 13 _ hcl hfz).mono ?_
 rintro e u' w2 ⟨rfl, rfl, rfl⟩
 simp [Leaves, settle, results, Tryz.results48, go_sem]
 exact (Below.refl _ _).alloc (Nat.le_refl _) _
theorem attempt_go (d k : Nat) (caps : Array Value) (n : Nat) (Post : World → Prop) (w : World) (hent : ∀ args w, (callFunc k args).run Tryz.prog w = .ok (.enter k args) w) (hd : w.cell? ⟨d, 4, none⟩ = some (.bool false))
  (hc : Calls Tryz.prog k caps (w.alloc (.cells #[.int .i64 0] 37)) fun e w' => Gv n e ∧ Post w' ∧ w'.heap[w.heap.size]? = some (.cells #[.int .i64 0] 37 (0, 0))) :
  Calls Tryz.prog 48 #[.pointer (some ⟨d, 0, none⟩), .func (.func k) #[] caps] w fun e w' => e = .returned (.int .i64 n) ∧ ∃ w1, Post w1 ∧ w' = w1.setCell ⟨w.heap.size, 0, none⟩ (.int .i64 n) := by
 have hmf : ∀ (fn : Fn) (first cap : Array Value) (w : World), (Instr.makeFunc fn first cap).run Tryz.prog w = .ok (.func fn first cap) w := fun _ _ _ _ => rfl
 have hd' : (w.alloc (.cells #[.int .i64 0] 37)).cell? ⟨d, 4, none⟩ = some (.bool false) := ((Keep.refl (fun _ => False) w).alloc _).cell hd (fun h => h)
 clear hd
 by_cases h0 : n = 0
 ·subst h0
  have hc' := hc.mono (fun e w' h => And.intro (h.1.elim (fun k => k.2) (fun k => absurd rfl k.1)) h.2 : ∀ e w', _ → (e = .returned (.tuple #[]) ∧ _))
  clear hc
  go_enter_defers Tryz.func48, Tryz.ntmps48
  go_wp2_with (first
   | (go_at_call 50; refine (ask_ok 13 _).mono ?_; rintro e w1 ⟨rfl, rfl⟩)
   | (go_at_fn k; refine hc'.mono ?_; rintro e w1 ⟨rfl, hP, hB⟩; have hcl := cell_one hB; have hfz := thaw_one hB))
  refine leaves_cons (f := 90) (args := #[.pointer (some ⟨w.heap.size, 0, none⟩)]) (by simp) (by simp [go_sem]) ?_
  refine (catchD_idle ⟨w.heap.size, 0, none⟩ _).mono ?_
  rintro e u' w2 ⟨rfl, rfl, rfl⟩
  simp [Leaves, settle, results, Tryz.results48, go_sem, hcl]
  exact ⟨w1, hP, rfl⟩
 ·have hc' := hc.mono (fun e w' h => And.intro (h.1.elim (fun k => absurd k.1 h0) (fun k => k.2)) h.2 : ∀ e w', _ → (e = .panicked (gaveUp n) ∧ _))
  clear hc
  go_enter_defers Tryz.func48, Tryz.ntmps48
  go_wp2_with (first
   | (go_at_call 50; refine (ask_ok 13 _).mono ?_; rintro e w1 ⟨rfl, rfl⟩)
   | (go_at_fn k; refine hc'.mono ?_; rintro e w1 ⟨rfl, hP, hB⟩; have hcl := cell_one hB; have hfz := thaw_one hB))
  refine leaves_cons (f := 90) (args := #[.pointer (some ⟨w.heap.size, 0, none⟩)]) (by simp) (by simp [go_sem]) ?_
  refine (catchD_panicking ⟨w.heap.size, 0, none⟩ 0 n _ hcl hfz).mono ?_
  rintro e u' w2 ⟨rfl, rfl, rfl⟩
  simp [Leaves, settle, results, Tryz.results48, go_sem, hcl]
  exact ⟨w1, hP, rfl⟩
end Go.Proofs.YtikkieaokfailaaGreatDoor

namespace Go.Proofs
open Go.Shelf
def Tryz.laysM316_ren : Go.Shelf.Ren := ⟨fun | 316 => 126 | n => n, fun | 9 => 9 | 3 => 3 | 4 => 4 | 37 => 29 | 0 => 0 | 127 => 174 | 5 => 5 | n => n, fun | n => n⟩
theorem Tryz.laysM316 : Go.Proofs.LaysM.n316 Tryz.prog Tryz.laysM316_ren := {
 mixed := by kernel_rfl
 f316 := Tryz.func126.trans (congrArg some (by kernel_rfl))
 t0 := Tryz.underlying0
 a0 := Tryz.isAgg0
 z0 := Tryz.sizeOf0
 v0 := Tryz.zeroValue0
 t3 := Tryz.underlying3
 a3 := Tryz.isAgg3
 z3 := Tryz.sizeOf3
 v3 := Tryz.zeroValue3
 t4 := Tryz.underlying4
 a4 := Tryz.isAgg4
 z4 := Tryz.sizeOf4
 v4 := Tryz.zeroValue4
 t9 := Tryz.underlying9
 a9 := Tryz.isAgg9
 z9 := Tryz.sizeOf9
 v9 := Tryz.zeroValue9
 t37 := Tryz.underlying29
 a37 := Tryz.isAgg29
 z37 := Tryz.sizeOf29
 v37 := Tryz.zeroValue29
 t127 := Tryz.underlying174
 a127 := Tryz.isAgg174
 z127 := Tryz.sizeOf174
 v127 := Tryz.zeroValue174
 t5 := Tryz.underlying5
 a5 := Tryz.isAgg5
 z5 := Tryz.sizeOf5
 v5 := Tryz.zeroValue5
 i0 := by kernel_rfl
 i3 := by kernel_rfl
 i4 := by kernel_rfl
 i5 := by kernel_rfl
 i9 := by kernel_rfl
 i37 := by kernel_rfl
 i127 := by kernel_rfl }
def Tryz.laysGw17_ren : Go.Shelf.Ren := ⟨fun | 17 => 91 | 15 => 127 | 20 => 149 | n => n, fun | 9 => 9 | 23 => 137 | 4 => 4 | 3 => 3 | 0 => 0 | 21 => 21 | n => n, fun | n => n⟩
theorem Tryz.laysGw17 : Go.Proofs.LaysGw.n17 Tryz.prog Tryz.laysGw17_ren := {
 mixed := by kernel_rfl
 f15 := Tryz.func127.trans (congrArg some (by kernel_rfl))
 f17 := Tryz.func91.trans (congrArg some (by kernel_rfl))
 f20 := Tryz.func149.trans (congrArg some (by kernel_rfl))
 t0 := Tryz.underlying0
 a0 := Tryz.isAgg0
 z0 := Tryz.sizeOf0
 v0 := Tryz.zeroValue0
 i0 := by kernel_rfl
 t3 := Tryz.underlying3
 a3 := Tryz.isAgg3
 z3 := Tryz.sizeOf3
 v3 := Tryz.zeroValue3
 i3 := by kernel_rfl
 t4 := Tryz.underlying4
 a4 := Tryz.isAgg4
 z4 := Tryz.sizeOf4
 v4 := Tryz.zeroValue4
 i4 := by kernel_rfl
 t9 := Tryz.underlying9
 a9 := Tryz.isAgg9
 z9 := Tryz.sizeOf9
 v9 := Tryz.zeroValue9
 i9 := by kernel_rfl
 t21 := Tryz.underlying21
 a21 := Tryz.isAgg21
 z21 := Tryz.sizeOf21
 v21 := Tryz.zeroValue21
 i21 := by kernel_rfl
 t23 := Tryz.underlying137
 a23 := Tryz.isAgg137
 z23 := Tryz.sizeOf137
 v23 := Tryz.zeroValue137
 i23 := by kernel_rfl }
def Tryz.keysZ_ren : Go.Shelf.Ren := ⟨fun | 7 => 106 | 10 => 145 | n => n, fun | 23 => 99 | 26 => 9 | 3 => 106 | 28 => 150 | 0 => 0 | 27 => 149 | 33 => 104 | 4 => 4 | n => n, fun | n => n⟩
theorem Tryz.keysZ : Go.Proofs.SlLaysZ.n7 Tryz.prog Tryz.keysZ_ren := {
 mixed := by kernel_rfl
 f7 := ⟨Tryz.f106.name, by decide, Tryz.func106.trans (congrArg some (by kernel_rfl))⟩
 f10 := ⟨Tryz.f145.name, by decide, Tryz.func145.trans (congrArg some (by kernel_rfl))⟩
 t0 := Tryz.underlying0
 a0 := Tryz.isAgg0
 z0 := Tryz.sizeOf0
 v0 := Tryz.zeroValue0
 t4 := Tryz.underlying4
 a4 := Tryz.isAgg4
 z4 := Tryz.sizeOf4
 v4 := Tryz.zeroValue4
 t23 := Tryz.underlying99
 a23 := Tryz.isAgg99
 z23 := Tryz.sizeOf99
 v23 := Tryz.zeroValue99
 t26 := Tryz.underlying9
 a26 := Tryz.isAgg9
 z26 := Tryz.sizeOf9
 v26 := Tryz.zeroValue9
 t27 := Tryz.underlying149
 a27 := Tryz.isAgg149
 z27 := Tryz.sizeOf149
 v27 := Tryz.zeroValue149
 t28 := Tryz.underlying150
 a28 := Tryz.isAgg150
 z28 := Tryz.sizeOf150
 v28 := Tryz.zeroValue150
 t33 := Tryz.underlying104
 a33 := Tryz.isAgg104
 z33 := Tryz.sizeOf104
 v33 := Tryz.zeroValue104 }
def Tryz.sortedZ_ren : Go.Shelf.Ren := ⟨fun | 6 => 105 | 8 => 143 | 9 => 144 | 11 => 161 | 13 => 163 | 12 => 162 | 23 => 183 | 24 => 184 | 14 => 175 | 15 => 176 | 16 => 177 | 17 => 178 | 18 => 179 | 19 => 180 | 20 => 164 | 21 => 181 | 22 => 182 | 25 => 190 | 26 => 191 | 27 => 192 | 28 => 193 | 29 => 194 | 30 => 185 | 31 => 197 | n => n, fun | 26 => 9 | 28 => 150 | 24 => 81 | 0 => 0 | 3 => 3 | 37 => 86 | 48 => 159 | 50 => 88 | 4 => 4 | 40 => 192 | 39 => 191 | 45 => 140 | 5 => 5 | 9 => 9 | 51 => 201 | 55 => 204 | 57 => 206 | 58 => 207 | 33 => 104 | n => n, fun | n => n⟩
theorem Tryz.sortedZ : Go.Proofs.SlLaysZ.n6 Tryz.prog Tryz.sortedZ_ren := {
 mixed := by kernel_rfl
 f6 := ⟨Tryz.f105.name, by decide, Tryz.func105.trans (congrArg some (by kernel_rfl))⟩
 f8 := ⟨Tryz.f143.name, by decide, Tryz.func143.trans (congrArg some (by kernel_rfl))⟩
 f11 := ⟨Tryz.f161.name, by decide, Tryz.func161.trans (congrArg some (by kernel_rfl))⟩
 t0 := Tryz.underlying0
 a0 := Tryz.isAgg0
 z0 := Tryz.sizeOf0
 v0 := Tryz.zeroValue0
 t24 := Tryz.underlying81
 a24 := Tryz.isAgg81
 z24 := Tryz.sizeOf81
 v24 := Tryz.zeroValue81
 t26 := Tryz.underlying9
 a26 := Tryz.isAgg9
 z26 := Tryz.sizeOf9
 v26 := Tryz.zeroValue9
 t28 := Tryz.underlying150
 a28 := Tryz.isAgg150
 z28 := Tryz.sizeOf150
 v28 := Tryz.zeroValue150
 i26 := by kernel_rfl }
def Tryz.sortZ_ren : Go.Shelf.Ren := ⟨fun | 6 => 144 | 8 => 163 | 9 => 162 | 19 => 183 | 20 => 184 | 21 => 175 | 22 => 176 | 23 => 177 | 24 => 178 | 25 => 179 | 26 => 180 | 27 => 164 | 28 => 181 | 29 => 182 | 36 => 190 | 31 => 191 | 32 => 192 | 37 => 193 | 38 => 194 | 39 => 185 | 41 => 197 | n => n, fun | 27 => 81 | 29 => 9 | 3 => 3 | 32 => 86 | 26 => 81 | 0 => 0 | 44 => 159 | 46 => 88 | 4 => 4 | 36 => 192 | 35 => 191 | 41 => 140 | 5 => 5 | 9 => 9 | 53 => 201 | 57 => 204 | 63 => 206 | 64 => 207 | n => n, fun | n => n⟩
theorem Tryz.sortZ : Go.Proofs.SlLaysM.n6 Tryz.prog Tryz.sortZ_ren := {
 mixed := by kernel_rfl
 f6 := ⟨Tryz.f144.name, by decide, Tryz.func144.trans (congrArg some (by kernel_rfl))⟩
 f8 := Tryz.func163.trans (congrArg some (by kernel_rfl))
 f9 := ⟨Tryz.f162.name, by decide, Tryz.func162.trans (congrArg some (by kernel_rfl))⟩
 f19 := Tryz.func183.trans (congrArg some (by kernel_rfl))
 f20 := Tryz.func184.trans (congrArg some (by kernel_rfl))
 f21 := ⟨Tryz.f175.name, by decide, Tryz.func175.trans (congrArg some (by kernel_rfl))⟩
 f22 := ⟨Tryz.f176.name, by decide, Tryz.func176.trans (congrArg some (by kernel_rfl))⟩
 f23 := ⟨Tryz.f177.name, by decide, Tryz.func177.trans (congrArg some (by kernel_rfl))⟩
 f24 := ⟨Tryz.f178.name, by decide, Tryz.func178.trans (congrArg some (by kernel_rfl))⟩
 f25 := ⟨Tryz.f179.name, by decide, Tryz.func179.trans (congrArg some (by kernel_rfl))⟩
 f26 := ⟨Tryz.f180.name, by decide, Tryz.func180.trans (congrArg some (by kernel_rfl))⟩
 f27 := ⟨Tryz.f164.name, by decide, Tryz.func164.trans (congrArg some (by kernel_rfl))⟩
 f28 := ⟨Tryz.f181.name, by decide, Tryz.func181.trans (congrArg some (by kernel_rfl))⟩
 f29 := ⟨Tryz.f182.name, by decide, Tryz.func182.trans (congrArg some (by kernel_rfl))⟩
 f31 := Tryz.func191.trans (congrArg some (by kernel_rfl))
 f32 := Tryz.func192.trans (congrArg some (by kernel_rfl))
 f36 := ⟨Tryz.f190.name, by decide, Tryz.func190.trans (congrArg some (by kernel_rfl))⟩
 f37 := ⟨Tryz.f193.name, by decide, Tryz.func193.trans (congrArg some (by kernel_rfl))⟩
 f38 := ⟨Tryz.f194.name, by decide, Tryz.func194.trans (congrArg some (by kernel_rfl))⟩
 f39 := ⟨Tryz.f185.name, by decide, Tryz.func185.trans (congrArg some (by kernel_rfl))⟩
 f41 := ⟨Tryz.f197.name, by decide, Tryz.func197.trans (congrArg some (by kernel_rfl))⟩
 t0 := Tryz.underlying0
 a0 := Tryz.isAgg0
 z0 := Tryz.sizeOf0
 v0 := Tryz.zeroValue0
 t3 := Tryz.underlying3
 a3 := Tryz.isAgg3
 z3 := Tryz.sizeOf3
 v3 := Tryz.zeroValue3
 t4 := Tryz.underlying4
 a4 := Tryz.isAgg4
 z4 := Tryz.sizeOf4
 v4 := Tryz.zeroValue4
 t5 := Tryz.underlying5
 a5 := Tryz.isAgg5
 z5 := Tryz.sizeOf5
 v5 := Tryz.zeroValue5
 t9 := Tryz.underlying9
 a9 := Tryz.isAgg9
 z9 := Tryz.sizeOf9
 v9 := Tryz.zeroValue9
 t26 := Tryz.underlying81
 a26 := Tryz.isAgg81
 z26 := Tryz.sizeOf81
 v26 := Tryz.zeroValue81
 t27 := Tryz.underlying81
 a27 := Tryz.isAgg81
 z27 := Tryz.sizeOf81
 v27 := Tryz.zeroValue81
 t29 := Tryz.underlying9
 a29 := Tryz.isAgg9
 z29 := Tryz.sizeOf9
 v29 := Tryz.zeroValue9
 t32 := Tryz.underlying86
 a32 := Tryz.isAgg86
 z32 := Tryz.sizeOf86
 v32 := Tryz.zeroValue86
 t35 := Tryz.underlying191
 a35 := Tryz.isAgg191
 z35 := Tryz.sizeOf191
 v35 := Tryz.zeroValue191
 t36 := Tryz.underlying192
 a36 := Tryz.isAgg192
 z36 := Tryz.sizeOf192
 v36 := Tryz.zeroValue192
 t41 := Tryz.underlying140
 a41 := Tryz.isAgg140
 z41 := Tryz.sizeOf140
 v41 := Tryz.zeroValue140
 t44 := Tryz.underlying159
 a44 := Tryz.isAgg159
 z44 := Tryz.sizeOf159
 v44 := Tryz.zeroValue159
 t46 := Tryz.underlying88
 a46 := Tryz.isAgg88
 z46 := Tryz.sizeOf88
 v46 := Tryz.zeroValue88
 t53 := Tryz.underlying201
 a53 := Tryz.isAgg201
 z53 := Tryz.sizeOf201
 v53 := Tryz.zeroValue201
 t57 := Tryz.underlying204
 a57 := Tryz.isAgg204
 z57 := Tryz.sizeOf204
 v57 := Tryz.zeroValue204
 t63 := Tryz.underlying206
 a63 := Tryz.isAgg206
 z63 := Tryz.sizeOf206
 v63 := Tryz.zeroValue206
 t64 := Tryz.underlying207
 a64 := Tryz.isAgg207
 z64 := Tryz.sizeOf207
 v64 := Tryz.zeroValue207 }
end Go.Proofs

namespace Go.Proofs.YtikkieaokfailaaGreatDoor
open Go.RowKit Go.Shelf Go.Sort Go.Maps
theorem clone_any (s : ByteArray) (w : World) (hs : s.size ≤ 281474976710656) : Calls Tryz.prog 87 #[.string s] w fun e w' => e = .returned (.string s) ∧ Below w.heap.size w w' := by
 have c : Calls Tryz.prog 126 #[.string s] w fun e w' => e = .returned (.string s) ∧ Below w.heap.size w w' := Any.stringslite_Clone Tryz.laysM316 s w hs
 go_enter Tryz.func87, Tryz.ntmps87
 go_wp2_with (go_at_call 126; refine c.mono ?_; rintro e w1 ⟨rfl, hb⟩)
 go_ret
 exact ⟨rfl, hb⟩
def frn (r : Nat) : Bool := !((decide (97 ≤ r) && decide (r ≤ 122)) || (decide (48 ≤ r) && decide (r ≤ 57)) || decide (r = 46) || decide (r = 45))
theorem okc_frn (c : UInt8) : okc c = !frn c.toNat := by unfold okc frn; rw [Bool.not_not]
set_option maxHeartbeats 1000000 in
theorem foreign_any (W : World) (r : Nat) : Calls Tryz.prog 92 #[.int .i32 (r : Int)] W fun e w' => e = .returned (.bool (frn r)) ∧ w' = W := by
 have hc : (97 ≤ r ∧ r ≤ 122) ∨ (122 < r) ∨ (57 < r ∧ r < 97) ∨ (48 ≤ r ∧ r ≤ 57) ∨ (r = 46) ∨ (r = 45) ∨ (r < 48 ∧ r ≠ 46 ∧ r ≠ 45) := by omega
 rcases hc with h | h | h | h | h | h | h
 ·have hf : frn r = false := by unfold frn; simp; omega
  rw [hf]
  have q0 : 97 ≤ (r : Int) := by omega
  have q1 : (r : Int) ≤ 122 := by omega
  clear h hf
  go_enter Tryz.func92, Tryz.ntmps92
  go_wp2
  go_ret
  exact ⟨rfl, rfl⟩
 ·have hf : frn r = true := by unfold frn; simp; omega
  rw [hf]
  have q0 : 97 ≤ (r : Int) := by omega
  have q1 : ¬ (r : Int) ≤ 122 := by omega
  have q2 : 48 ≤ (r : Int) := by omega
  have q3 : ¬ (r : Int) ≤ 57 := by omega
  have q4 : ((r : Int) == 46) = false := by simp; omega
  have q5 : ((r : Int) == 45) = false := by simp; omega
  clear h hf
  go_enter Tryz.func92, Tryz.ntmps92
  go_wp2
  go_ret
  exact ⟨rfl, rfl⟩
 ·have hf : frn r = true := by unfold frn; simp; omega
  rw [hf]
  have q0 : ¬ 97 ≤ (r : Int) := by omega
  have q1 : 48 ≤ (r : Int) := by omega
  have q2 : ¬ (r : Int) ≤ 57 := by omega
  have q3 : ((r : Int) == 46) = false := by simp; omega
  have q4 : ((r : Int) == 45) = false := by simp; omega
  clear h hf
  go_enter Tryz.func92, Tryz.ntmps92
  go_wp2
  go_ret
  exact ⟨rfl, rfl⟩
 ·have hf : frn r = false := by unfold frn; simp; omega
  rw [hf]
  have q0 : ¬ 97 ≤ (r : Int) := by omega
  have q1 : 48 ≤ (r : Int) := by omega
  have q2 : (r : Int) ≤ 57 := by omega
  clear h hf
  go_enter Tryz.func92, Tryz.ntmps92
  go_wp2
  go_ret
  exact ⟨rfl, rfl⟩
 ·subst h
  go_enter Tryz.func92, Tryz.ntmps92
  go_wp2
  go_ret
  exact ⟨rfl, rfl⟩
 ·subst h
  go_enter Tryz.func92, Tryz.ntmps92
  go_wp2
  go_ret
  exact ⟨rfl, rfl⟩
 ·have hf : frn r = true := by unfold frn; simp; omega
  rw [hf]
  have q0 : ¬ 97 ≤ (r : Int) := by omega
  have q1 : ¬ 48 ≤ (r : Int) := by omega
  have q2 : ((r : Int) == 46) = false := by simp; omega
  have q3 : ((r : Int) == 45) = false := by simp; omega
  clear h hf
  go_enter Tryz.func92, Tryz.ntmps92
  go_wp2
  go_ret
  exact ⟨rfl, rfl⟩
theorem decode_high (s : ByteArray) (pos : Nat) (h : 128 ≤ (s.get! pos).toNat) : 128 ≤ (Utf8.decode s pos).1 := by
 rw [Lib.decode_at]
 generalize (s.get! pos).toNat = b0 at h
 generalize (s.get! (pos + 1)).toNat = b1
 generalize (s.get! (pos + 2)).toNat = b2
 generalize (s.get! (pos + 3)).toNat = b3
 unfold Lib.decodeN
 repeat' split
 all_goals first | omega | (simp only; omega)
theorem len_bytes (s : ByteArray) : s.data.toList.length = s.size := rfl
theorem get_list (s : ByteArray) (pos : Nat) (h : pos < s.size) : s.data.toList.drop pos = s[pos] :: s.data.toList.drop (pos + 1) := by
 have : pos < s.data.toList.length := by rw [len_bytes]; exact h
 rw [List.drop_eq_getElem_cons this]
 rfl
theorem get_bang (s : ByteArray) (pos : Nat) (h : pos < s.size) : s.get! pos = s[pos] := by
 obtain ⟨d⟩ := s
 have h2 : pos < d.size := h
 show d[pos]! = d[pos]
 rw [getElem!_pos d pos h2]
theorem idx_all (s : ByteArray) : ∀ f pos, s.size ≤ pos + f → (decide (0 ≤ Lib.idxFuncFrom frn true s f pos) = !((s.data.toList.drop pos).all okc))
 | 0, pos, h => by
  have : s.data.toList.drop pos = [] := List.drop_eq_nil_of_le (by rw [len_bytes]; omega)
  rw [this]
  unfold Lib.idxFuncFrom
  decide
 | f + 1, pos, h => by
  unfold Lib.idxFuncFrom
  by_cases hp : pos < s.size
  ·rw [if_pos hp, get_list s pos hp, List.all_cons, okc_frn]
   by_cases ha : s[pos].toNat < 128
   ·rw [decode_ascii s pos hp ha]
    cases hf : frn s[pos].toNat with
    | true => simp
    | false =>
     simp only [Bool.false_eq_true, if_false, Bool.not_false, Bool.true_and]
     exact idx_all s f (pos + 1) (by omega)
   ·have hd := decode_high s pos (by rw [get_bang s pos hp]; omega)
    have h1 : frn (Utf8.decode s pos).1 = true := by unfold frn; simp; omega
    have h2 : frn s[pos].toNat = true := by unfold frn; simp; omega
    rw [if_pos h1, h2]
    simp
  ·rw [if_neg hp]
   have : s.data.toList.drop pos = [] := List.drop_eq_nil_of_le (by rw [len_bytes]; omega)
   rw [this]
   decide
theorem contF_any (s : ByteArray) (w : World) : Calls Tryz.prog 91 #[.string s, .func (.func 92) #[] #[]] w fun e w' => e = .returned (.bool (!(s.data.toList.all okc))) ∧ Below w.heap.size w w' := by
 have hp : PredAt Tryz.prog 92 #[] encR frn w := fun W r _ => by
  unfold FnGives
  refine (foreign_any W r).mono ?_
  rintro e w' ⟨rfl, rfl⟩
  exact ⟨rfl, 0, rfl⟩
 have c : Calls Tryz.prog 91 _ w _ := Any.strings_ContainsFunc Tryz.laysGw17 92 #[] (enters_of Tryz.func92 (by kernel_rfl) rfl) frn s w hp
 refine c.mono ?_
 rintro e w' ⟨rfl, hb⟩
 refine ⟨?_, hb⟩
 have := idx_all s s.size 0 (by omega)
 unfold Lib.idxFunc
 rw [this]
 rfl
set_option maxHeartbeats 1000000 in
theorem isName_any (s : ByteArray) (w : World) : Calls Tryz.prog 51 #[.string s] w fun e w' => e = .returned (.bool (isNm s)) ∧ Below w.heap.size w w' := by
 have hC := fun w => contF_any s w
 unfold isNm
 generalize hx : s.data.toList.all okc = x at hC ⊢
 by_cases h1 : 1 ≤ s.size
 ·by_cases h2 : s.size ≤ 64
  ·rw [decide_eq_true h1, decide_eq_true h2]
   have h1' : (1 : Int) ≤ (s.size : Int) := by omega
   have h2' : (s.size : Int) ≤ 64 := by omega
   clear hx h1 h2
   go_enter Tryz.func51, Tryz.ntmps51
   go_wp2_with (go_at_call 91; refine (hC _).mono ?_; rintro e w1 ⟨rfl, hb⟩)
   go_ret
   refine ⟨?_, hb⟩
   cases x <;> rfl
  ·rw [decide_eq_true h1, decide_eq_false h2]
   have h1' : (1 : Int) ≤ (s.size : Int) := by omega
   have h2' : ¬ (s.size : Int) ≤ 64 := by omega
   clear hx h1 h2
   go_enter Tryz.func51, Tryz.ntmps51
   go_wp2
   go_ret
   exact ⟨rfl, Below.refl _ _⟩
 ·rw [decide_eq_false h1]
  have h1' : ¬ (1 : Int) ≤ (s.size : Int) := by omega
  clear hx h1
  go_enter Tryz.func51, Tryz.ntmps51
  go_wp2
  go_ret
  exact ⟨rfl, Below.refl _ _⟩
end Go.Proofs.YtikkieaokfailaaGreatDoor

namespace Go.Proofs.YtikkieaokfailaaGreatDoor
open Go.RowKit
section
variable {P : Program} {ops : Array Oper} {Q : Exit → Act → World → Prop} {md : Region.Mode}
theorem put_some (a : Act) (d : Tmp) (v : Value) : a.put (some d) v = { tmps := a.tmps.setIfInBounds d v, defers := a.defers } := rfl
end
end Go.Proofs.YtikkieaokfailaaGreatDoor

namespace Go.Proofs.YtikkieaokfailaaGreatDoor
open Go.RowKit
section
variable {P : Program} {ops : Array Oper} {Q : Exit → Act → World → Prop} {S : World → Prop} {T : List Nat} {md : Region.Mode}
def wpAnyT (P : Program) (md : Region.Mode) (ops : Array Oper) (Q : Exit → Act → World → Prop) (S : World → Prop) (T : List Nat) : Nat → Array Bool → Act → World → Prop
 | 0, listed, a, w => Region.ready md ops listed = [] ∧ Q .normal a w
 | fuel + 1, listed, a, w =>
  (Region.ready md ops listed = [] → Q .normal a w) ∧
  ∀ i ∈ Region.ready md ops listed, wpOp P ops Q i (fun a' w' => (T.contains i = false → S w') ∧ wpAnyT P md ops Q S T fuel (listed.setIfInBounds i true) a' w') a w
theorem wpAny_of_late : ∀ (fuel : Nat) (listed : Array Bool) (a : Act) (w : World), wpAnyT P md ops Q S T fuel listed a w → wpAny P md ops Q fuel listed a w
 | 0, _, _, _, h => h
 | fuel + 1, _, _, _, h => ⟨h.1, fun i hi => wpOp_mono (fun a' w' h' => wpAny_of_late fuel _ a' w' h'.2) (h.2 i hi)⟩
def lateOk (md : Region.Mode) (ops : Array Oper) (T : List Nat) (listed : Array Bool) (i : Nat) : Bool :=
 T.all fun t => listed.getD t true || match ops[t]? with
  | some o => o.after.any (fun e => Region.binds md e && e.on == i)
  | none => true
theorem lateOk_spec {listed : Array Bool} {i : Nat} (h : lateOk md ops T listed i = true) (t : Nat) (ht : t ∈ T) (hu : listed.getD t true = false) (o : Oper) (ho : ops[t]? = some o) : ∃ e ∈ o.after, Region.binds md e = true ∧ e.on = i := by
 have h1 := List.all_eq_true.1 h t ht
 simp only [hu, ho, Bool.false_or] at h1
 obtain ⟨e, he, hb⟩ := Array.any_eq_true'.1 h1
 simp only [Bool.and_eq_true, beq_iff_eq] at hb
 exact ⟨e, he, hb.1, hb.2⟩
theorem lateOk_set {listed : Array Bool} {i j : Nat} (h : lateOk md ops T listed i = true) : lateOk md ops T (listed.setIfInBounds j true) i = true := by
 refine List.all_eq_true.2 fun t ht => ?_
 have h1 := List.all_eq_true.1 h t ht
 rw [Bool.or_eq_true] at h1 ⊢
 rcases h1 with h1 | h1
 ·left
  by_cases hjt : j = t
  ·subst hjt
   rcases Nat.lt_or_ge j listed.size with g | g
   ·simp [Array.getD, g]
   ·simp [Array.getD, Nat.not_lt.2 g]
  ·rw [getD_set_ne true hjt]; exact h1
 ·exact .inr h1
theorem wpAnyT_first {i : Nat} {oi : Oper} {v : Value} (hi : ops[i]? = some oi) (hsel : ∀ (j : Nat) (o : Oper) cs b, ops[j]? = some o → o.op ≠ .select cs b)
  (hQ : ∀ c a w, Q (.panic c) (a.put oi.dst v) w → Q (.panic c) a w) (hiT : T.contains i = false) :
  ∀ (fuel : Nat) (listed : Array Bool) (a : Act) (w : World),
   (∀ j oj, ops[j]? = some oj → j ≠ i → listed.getD j true = false → (∀ e ∈ oj.after, Region.binds md e = true → e.on ≠ i) → oi.apart ops oj = true) →
   lateOk md ops T listed i = true →
   i ∈ Region.ready md ops listed → YieldsIf P ops S oi v a → S w →
   wpAnyT P md ops Q S T fuel (listed.setIfInBounds i true) (a.put oi.dst v) w → wpAnyT P md ops Q S T (fuel + 1) listed a w := by
 intro fuel
 induction fuel with
 | zero =>
  intro listed a w _ _ hr hy hS H
  refine ⟨fun h => (by rw [h] at hr; cases hr), fun j hj => ?_⟩
  by_cases hji : j = i
  ·subst hji; exact hy.wpOp hi hS ⟨fun _ => hS, H⟩
  ·have := ready_mono hj hji
   rw [H.1] at this
   cases this
 | succ fuel ih =>
  intro listed a w hfree hlate hr hy hS H
  refine ⟨fun h => (by rw [h] at hr; cases hr), fun j hj => ?_⟩
  by_cases hji : j = i
  ·subst hji; exact hy.wpOp hi hS ⟨fun _ => hS, H⟩
  ·have h1 := H.2 j (ready_mono hj hji)
   obtain ⟨hjun, oj, hoj, hall⟩ := mem_ready.1 hj
   have hnot : ∀ e ∈ oj.after, Region.binds md e = true → e.on ≠ i := fun e he hb heq => by
    have h1 := hall e he hb
    have h0 := (mem_ready.1 hr).1
    rw [heq] at h1
    rcases Nat.lt_or_ge i listed.size with h' | h'
    ·simp [h'] at h0 h1; rw [h0] at h1; cases h1
    ·simp [Array.getElem?_eq_none h'] at h1
   have hjT : T.contains j = false := by
    cases hc : T.contains j with
    | false => rfl
    | true =>
     obtain ⟨e, he, hb, hon⟩ := lateOk_spec hlate j (List.contains_iff_mem.1 hc) hjun oj hoj
     exact absurd hon (hnot e he hb)
   have h2 := wpOp_putIf hoj (hfree j oj hoj hji hjun hnot) (fun cs b => hsel i oi cs b hi) (fun cs b => hsel j oj cs b hoj) hQ hy h1
   have hfree' : ∀ k ok, ops[k]? = some ok → k ≠ i → (listed.setIfInBounds j true).getD k true = false →
     (∀ e ∈ ok.after, Region.binds md e = true → e.on ≠ i) → oi.apart ops ok = true := fun k ok hk hki hun hno => by
    refine hfree k ok hk hki ?_ hno
    by_cases hjk : j = k
    ·subst hjk; exact hjun
    ·rw [getD_set_ne true hjk] at hun; exact hun
   refine wpOp_mono (fun a' w' h3 => ⟨h3.2.1, ih (listed.setIfInBounds j true) a' w' hfree' (lateOk_set hlate) (ready_mono hr (Ne.symm hji)) h3.1 (h3.2.1 hjT) ?_⟩) h2
   rw [Array.setIfInBounds_comm _ _ hji]
   exact h3.2.2
structure LX (P : Program) (ops : Array Oper) (Q : Exit → Act → World → Prop) (S : World → Prop) (T : List Nat) (fuel : Nat) (listed : Array Bool) (a : Act) (w : World) : Prop where
 out : wpAnyT P .any ops Q S T fuel listed a w
def stepT (P : Program) (ops : Array Oper) (Q : Exit → Act → World → Prop) (S : World → Prop) (T : List Nat) (i : Nat) (K : Act → World → Prop) (a : Act) (w : World) : Prop :=
 wpOp P ops Q i (fun a' w' => (T.contains i = false → S w') ∧ K a' w') a w
theorem wp_region_lx {id : Nat} {a : Act} {w : World} (S : World → Prop) (T : List Nat) (n : Nat) (hm : P.follows .mixedOrders = true) (hn : ops.size = n) (h : LX P ops Q S T n (Array.replicate n false) a w.drew) : (Code.region id ops true).wp P Q a w := by
 subst hn
 exact wp_region_any hm (wpAny_of_late _ _ _ _ h.out)
theorem lx_nil {fuel : Nat} {listed : Array Bool} {a : Act} {w : World} (hr : (Region.ready .any ops listed).isEmpty = true) (h : Q .normal a w) : LX P ops Q S T fuel listed a w := by
 have hr' : Region.ready .any ops listed = [] := by simpa using hr
 cases fuel with
 | zero => exact ⟨hr', h⟩
 | succ f => exact ⟨fun _ => h, by rw [hr']; simp⟩
theorem lx_rd {fuel : Nat} {listed : Array Bool} {tm : Array Value} {df : List Deferred} {w : World} {o : Oper} {d : Tmp} (i : Nat) (v : Value) (hs : Region.noSelect ops = true) (hQ : ∀ c (a : Act) d v w, Q (.panic c) (a.put d v) w → Q (.panic c) a w) (hr : ((Region.ready .any ops listed).contains i && Region.free .any ops listed i && lateOk .any ops T listed i && !T.contains i) = true)
  (hS : S w) (ho : ops[i]? = some o) (hd : o.dst = some d) (hw : Region.wanted o (yielded ops tm) = true)
  (hv : ∀ w', S w' → (execOp (Act.eval { tmps := tm, defers := df }) o).run P w' = .ok (.value v) w') (h : LX P ops Q S T fuel (listed.setIfInBounds i true) { tmps := tm.setIfInBounds d v, defers := df } w) : LX P ops Q S T (fuel + 1) listed { tmps := tm, defers := df } w := by
 rw [Bool.and_eq_true, Bool.and_eq_true, Bool.and_eq_true] at hr
 refine ⟨wpAnyT_first ho (Region.noSelect_spec hs) (fun c a w => hQ c a o.dst v w) (by simpa using hr.2) fuel listed _ _ (Region.free_spec ho hr.1.1.2) hr.1.2 (by simpa using hr.1.1.1) (Or.inl ⟨hw, hv⟩) hS ?_⟩
 have := h.out
 rw [hd, put_some]; exact this
theorem lx_skip {fuel : Nat} {listed : Array Bool} {tm : Array Value} {df : List Deferred} {w : World} {o : Oper} {d : Tmp} (i : Nat) (hs : Region.noSelect ops = true) (hQ : ∀ c (a : Act) d v w, Q (.panic c) (a.put d v) w → Q (.panic c) a w) (hr : ((Region.ready .any ops listed).contains i && Region.free .any ops listed i && lateOk .any ops T listed i && !T.contains i) = true)
  (hS : S w) (ho : ops[i]? = some o) (hd : o.dst = some d) (hw : Region.wanted o (yielded ops tm) = false)
  (h : LX P ops Q S T fuel (listed.setIfInBounds i true) { tmps := tm.setIfInBounds d undef, defers := df } w) : LX P ops Q S T (fuel + 1) listed { tmps := tm, defers := df } w := by
 rw [Bool.and_eq_true, Bool.and_eq_true, Bool.and_eq_true] at hr
 refine ⟨wpAnyT_first ho (Region.noSelect_spec hs) (fun c a w => hQ c a o.dst undef w) (by simpa using hr.2) fuel listed _ _ (Region.free_spec ho hr.1.1.2) hr.1.2 (by simpa using hr.1.1.1) (Or.inr ⟨hw, rfl⟩) hS ?_⟩
 have := h.out
 rw [hd, put_some]; exact this
theorem lx_r {fuel : Nat} {listed : Array Bool} {tm : Array Value} {df : List Deferred} {w : World} {o : Oper} {d : Tmp} (i : Nat) (v : Value) (hS : S w)
  (h : LX P ops Q S T fuel (listed.setIfInBounds i true) { tmps := tm.setIfInBounds d v, defers := df } w) (hs : Region.noSelect ops = true := by kernel_rfl) (hQ : ∀ c (a : Act) d v w, Q (.panic c) (a.put d v) w → Q (.panic c) a w := by intro _ _ d _ _ h; cases d <;> exact h) (hr : ((Region.ready .any ops listed).contains i && Region.free .any ops listed i && lateOk .any ops T listed i && !T.contains i) = true := by kernel_rfl)
  (ho : ops[i]? = some o := by rfl) (hd : o.dst = some d := by rfl) (hw : Region.wanted o (yielded ops tm) = true := by rfl)
  (hv : ∀ w', S w' → (execOp (Act.eval { tmps := tm, defers := df }) o).run P w' = .ok (.value v) w' := by intro w' hS; first | (go_simp; rfl) | go_simp) : LX P ops Q S T (fuel + 1) listed { tmps := tm, defers := df } w := lx_rd i v hs hQ hr hS ho hd hw hv h
theorem lx_s {fuel : Nat} {listed : Array Bool} {tm : Array Value} {df : List Deferred} {w : World} {o : Oper} {d : Tmp} (i : Nat) (hS : S w)
  (h : LX P ops Q S T fuel (listed.setIfInBounds i true) { tmps := tm.setIfInBounds d undef, defers := df } w) (hs : Region.noSelect ops = true := by kernel_rfl) (hQ : ∀ c (a : Act) d v w, Q (.panic c) (a.put d v) w → Q (.panic c) a w := by intro _ _ d _ _ h; cases d <;> exact h) (hr : ((Region.ready .any ops listed).contains i && Region.free .any ops listed i && lateOk .any ops T listed i && !T.contains i) = true := by kernel_rfl)
  (ho : ops[i]? = some o := by rfl) (hd : o.dst = some d := by rfl) (hw : Region.wanted o (yielded ops tm) = false := by rfl) : LX P ops Q S T (fuel + 1) listed { tmps := tm, defers := df } w := lx_skip i hs hQ hr hS ho hd hw h
theorem lxa {α : Type _} (l : List α) (i : Nat) (a : α) : l.toArray.setIfInBounds i a = (l.set i a).toArray := List.setIfInBounds_toArray ..
theorem lxb {α : Type _} (x : α) (l : List α) (a : α) : (x :: l).set 0 a = a :: l := rfl
theorem lxc {α : Type _} (x : α) (l : List α) (n : Nat) (a : α) : (x :: l).set (n + 1) a = x :: l.set n a := rfl
theorem lx_one {fuel : Nat} {listed : Array Bool} {a : Act} {w : World} (i : Nat) (hr : (Region.ready .any ops listed == [i]) = true) (h : stepT P ops Q S T i (LX P ops Q S T fuel (listed.setIfInBounds i true)) a w) : LX P ops Q S T (fuel + 1) listed a w := by
 have hr' : Region.ready .any ops listed = [i] := by simpa using hr
 refine ⟨⟨fun h0 => absurd (hr' ▸ h0) (by simp), fun j hj => ?_⟩⟩
 have hj' : j = i := by rw [hr'] at hj; simpa using hj
 subst hj'
 exact wpOp_mono (fun a' w' k => ⟨k.1, k.2.out⟩) h
theorem lx_two {fuel : Nat} {listed : Array Bool} {a : Act} {w : World} (i j : Nat) (hr : (Region.ready .any ops listed == [i, j]) = true) (h1 : stepT P ops Q S T i (LX P ops Q S T fuel (listed.setIfInBounds i true)) a w) (h2 : stepT P ops Q S T j (LX P ops Q S T fuel (listed.setIfInBounds j true)) a w) : LX P ops Q S T (fuel + 1) listed a w := by
 have hr' : Region.ready .any ops listed = [i, j] := by simpa using hr
 refine ⟨⟨fun h0 => absurd (hr' ▸ h0) (by simp), fun k hk => ?_⟩⟩
 rw [hr'] at hk
 by_cases hki : k = i
 ·subst hki
  exact wpOp_mono (fun a' w' k => ⟨k.1, k.2.out⟩) h1
 ·have hkj : k = j := by simpa [hki] using hk
  subst hkj
  exact wpOp_mono (fun a' w' k => ⟨k.1, k.2.out⟩) h2
theorem stepT_call {i : Nat} {K : Act → World → Prop} {tm : Array Value} {df : List Deferred} {w : World} {o : Oper} {d : Tmp} (f : FuncId) (args : Array Value) (ho : ops[i]? = some o) (hd : o.dst = some d) (hw : Region.wanted o (yielded ops tm) = true)
  (hrun : (execOp (Act.eval { tmps := tm, defers := df }) o).run P w = .ok (.enter f args) w) (h : Calls P f args w fun e w' => ∃ v, e = .returned v ∧ (T.contains i = false → S w') ∧ K { tmps := tm.setIfInBounds d v, defers := df } w') : stepT P ops Q S T i K { tmps := tm, defers := df } w := by
 unfold stepT wpOp
 rw [ho]
 simp only
 rw [if_pos hw]
 refine .inl ?_
 unfold Oper.wp
 rw [hrun, Oper.upon_enter]
 refine h.mono ?_
 rintro e w' ⟨v, rfl, h1, h2⟩
 show (T.contains i = false → S w') ∧ K (Act.put { tmps := tm, defers := df } o.dst v) w'
 rw [hd, put_some]
 exact ⟨h1, h2⟩
theorem stepT_callP {i : Nat} {K : Act → World → Prop} {tm : Array Value} {df : List Deferred} {w : World} {o : Oper} {d : Tmp} (f : FuncId) (args : Array Value) (ho : ops[i]? = some o) (hd : o.dst = some d) (hw : Region.wanted o (yielded ops tm) = true)
  (hrun : (execOp (Act.eval { tmps := tm, defers := df }) o).run P w = .ok (.enter f args) w) (h : Calls P f args w fun e w' => (∃ v, e = .returned v ∧ (T.contains i = false → S w') ∧ K { tmps := tm.setIfInBounds d v, defers := df } w') ∨ ∃ c, e = .panicked c ∧ Q (.panic c) { tmps := tm, defers := df } w') : stepT P ops Q S T i K { tmps := tm, defers := df } w := by
 unfold stepT wpOp
 rw [ho]
 simp only
 rw [if_pos hw]
 refine .inl ?_
 unfold Oper.wp
 rw [hrun, Oper.upon_enter]
 refine h.mono ?_
 rintro e w' (⟨v, rfl, h1, h2⟩ | ⟨c, rfl, h1⟩)
 ·show (T.contains i = false → S w') ∧ K (Act.put { tmps := tm, defers := df } o.dst v) w'
  rw [hd, put_some]
  exact ⟨h1, h2⟩
 ·exact h1
theorem stepT_val {i : Nat} {K : Act → World → Prop} {tm : Array Value} {df : List Deferred} {w w' : World} {o : Oper} {d : Tmp} (v : Value) (ho : ops[i]? = some o) (hd : o.dst = some d) (hw : Region.wanted o (yielded ops tm) = true)
  (hrun : (execOp (Act.eval { tmps := tm, defers := df }) o).run P w = .ok (.value v) w') (hS : T.contains i = false → S w') (h : K { tmps := tm.setIfInBounds d v, defers := df } w') : stepT P ops Q S T i K { tmps := tm, defers := df } w := by
 unfold stepT wpOp
 rw [ho]
 simp only
 rw [if_pos hw]
 refine .inl ?_
 unfold Oper.wp
 rw [hrun]
 show (T.contains i = false → S w') ∧ K (Act.put { tmps := tm, defers := df } o.dst v) w'
 rw [hd, put_some]
 exact ⟨hS, h⟩
theorem stepT_store {i : Nat} {K : Act → World → Prop} {tm : Array Value} {df : List Deferred} {w w' : World} {o : Oper} (ho : ops[i]? = some o) (hd : o.dst = none) (hw : Region.wanted o (yielded ops tm) = true)
  (hrun : (execOp (Act.eval { tmps := tm, defers := df }) o).run P w = .ok .skip w') (hS : T.contains i = false → S w') (h : K { tmps := tm, defers := df } w') : stepT P ops Q S T i K { tmps := tm, defers := df } w := by
 unfold stepT wpOp
 rw [ho]
 simp only
 rw [if_pos hw]
 refine .inl ?_
 unfold Oper.wp
 rw [hrun]
 show (T.contains i = false → S w') ∧ K (Act.put { tmps := tm, defers := df } o.dst undef) w'
 rw [hd]
 exact ⟨hS, h⟩
end
end Go.Proofs.YtikkieaokfailaaGreatDoor
