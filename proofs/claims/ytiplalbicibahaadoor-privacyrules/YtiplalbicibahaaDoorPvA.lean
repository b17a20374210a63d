/- privacy: the reader of a rule; Parse. -/
import Derived.Test.YtiplalbicibahaaDoorOwnA
import Derived.Test.YtiplalbicibahaaDoorLate
import Derived.Test.YtiplalbicibahaaDoorNmFun
import Derived.Test.YtiplalbicibahaaDoorNmCut
import Derived.BigQuiet
import Derived.BigRegion
import Derived.Defers
import Derived.Recover
import Derived.Laws.Pointers
import Derived.Lib.SmallJoins
import Derived.Deep.MidRow
set_option maxRecDepth 100000
namespace Go.Proofs.YtiplalbicibahaaDoor
open Go.RowKit Go.Joins

abbrev By := List UInt8
def ba (l : By) : ByteArray := ⟨l.toArray⟩
theorem ba_list (l : By) : (ba l).data.toList = l := by simp [ba]
theorem ba_back (s : ByteArray) : ba s.data.toList = s := by cases s; simp [ba]
theorem ba_size (l : By) : (ba l).size = l.length := by simp [ba, ByteArray.size]
theorem ba_eq (l m : By) : ((ba l).toList == m) = (l == m) := by rw [Lib.toList_data, ba_list]

def wAllow : By := [97, 108, 108, 111, 119]
def wDeny : By := [100, 101, 110, 121]
def wIn : By := [105, 110]
def wOut : By := [111, 117, 116]
def wBoth : By := [98, 111, 116, 104]
def wAll : By := [97, 108, 108]
def wJid : By := [106, 105, 100]
def wGroup : By := [103, 114, 111, 117, 112]
def wSub : By := [115, 117, 98]
def wNone : By := [110, 111, 110, 101]
def wTo : By := [116, 111]
def wFrom : By := [102, 114, 111, 109]

/-! ### what is read, by definition -/
/-- A rule. -/
structure Rul where
  al : Bool
  i : Bool
  o : Bool
  k : By
  v : By
def r0 : Rul := ⟨false, false, false, [], []⟩
def rc (r : Rul) : Array Value := #[.bool r.al, .bool r.i, .bool r.o, .string (ba r.k), .string (ba r.v)]
def rv (r : Rul) : Value := .agg (rc r)

def nameE (l : By) : Nat := if 64 < l.length then 5 else if l = [] ∨ Lib.validD l = false then 4 else 0
def isSubB (l : By) : Bool := l == wNone || (l == wTo || (l == wFrom || l == wBoth))
def verdictR (l : By) : Bool × By × Nat :=
  if Nm.hasB 32 l = true then
    if (Nm.cutA 32 l == wAllow || Nm.cutA 32 l == wDeny) = true then (Nm.cutA 32 l == wAllow, Nm.cutZ 32 l, 0) else (false, [], 2)
  else (false, [], 2)
def waysR (l : By) : Bool × Bool × By × Nat :=
  if Nm.hasB 32 l = true then
    if ((Nm.cutA 32 l == wIn || Nm.cutA 32 l == wBoth) || (Nm.cutA 32 l == wOut || Nm.cutA 32 l == wBoth)) = true then (Nm.cutA 32 l == wIn || Nm.cutA 32 l == wBoth, Nm.cutA 32 l == wOut || Nm.cutA 32 l == wBoth, Nm.cutZ 32 l, 0) else (false, false, [], 2)
  else (false, false, [], 2)
def valueR (k l : By) : By × Nat :=
  if (k == wJid) = true then Nm.localN l
  else if (k == wGroup) = true then (if nameE l = 0 then (l, 0) else ([], nameE l))
  else if (k == wSub && isSubB l) = true then (l, 0) else ([], 2)
def whomR (l : By) : By × By × Nat :=
  if (l == wAll) = true then (wAll, [], 0)
  else if Nm.hasB 32 l = true then (if (valueR (Nm.cutA 32 l) (Nm.cutZ 32 l)).2 = 0 then (Nm.cutA 32 l, (valueR (Nm.cutA 32 l) (Nm.cutZ 32 l)).1, 0) else ([], [], (valueR (Nm.cutA 32 l) (Nm.cutZ 32 l)).2))
  else ([], [], 2)
def parseR (l : By) : Rul × Nat :=
  if (verdictR l).2.2 = 0 then
    if (waysR (verdictR l).2.1).2.2.2 = 0 then
      if (whomR (waysR (verdictR l).2.1).2.2.1).2.2 = 0 then
        (⟨(verdictR l).1, (waysR (verdictR l).2.1).1, (waysR (verdictR l).2.1).2.1, (whomR (waysR (verdictR l).2.1).2.2.1).1, (whomR (waysR (verdictR l).2.1).2.2.1).2.1⟩, 0)
      else (r0, (whomR (waysR (verdictR l).2.1).2.2.1).2.2)
    else (r0, (waysR (verdictR l).2.1).2.2.2)
  else (r0, (verdictR l).2.2)

/-! ### memory -/
theorem p_cell {w : World} {B : Nat} {v : Value} {t : TypeId} (h : w.heap[B]? = some (.cells #[v] t (0, 0))) : w.cell? ⟨B, 0, none⟩ = some v := by simp [World.cell?, h]
theorem p_thaw {w : World} {B : Nat} {v : Value} {t : TypeId} (h : w.heap[B]? = some (.cells #[v] t (0, 0))) : w.frozen? ⟨B, 0, none⟩ = false := by simp [World.frozen?, h]
theorem alloc_at (w : World) (o : Obj) : (w.alloc o).heap[w.heap.size]? = some o := by
  show (w.heap.push o)[w.heap.size]? = _
  simp
theorem box_keep {S : Nat → Prop} {w w' : World} {b : Nat} {o : Obj} (h : w.heap[b]? = some o) (hk : Keep S w w') (hs : ¬ S b) : w'.heap[b]? = some o := (hk.block b (Array.getElem?_eq_some_iff.1 h).1 hs).trans h
theorem box_below {w w' : World} {b : Nat} {o : Obj} (h : w.heap[b]? = some o) (hk : Below w.heap.size w w') : w'.heap[b]? = some o := (hk.block b (Array.getElem?_eq_some_iff.1 h).1).trans h
theorem box_lt {w : World} {b : Nat} {o : Obj} (h : w.heap[b]? = some o) : b < w.heap.size := (Array.getElem?_eq_some_iff.1 h).1
theorem below1 (w : World) (a : Obj) : Below w.heap.size w (w.alloc a) := (Below.refl _ _).alloc (Nat.le_refl _) _
theorem below2 (w : World) (a b : Obj) : Below w.heap.size w ((w.alloc a).alloc b) := ((Below.refl _ _).alloc (Nat.le_refl _) _).alloc (by simp) _
theorem push_at (w : World) (o : Obj) {i : Nat} (hi : i = w.heap.size) : (w.alloc o).heap[i]? = some o := by subst hi; exact alloc_at w o
theorem push_old {w : World} {o p : Obj} {i : Nat} (h : w.heap[i]? = some p) : (w.alloc o).heap[i]? = some p := box_below h (below1 w o)
theorem setK (w : World) (q i : Nat) (v : Value) : Keep (fun k => k = q) w (w.setCell ⟨q, i, none⟩ v) := (Keep.refl (fun k => k = q) w).setCell (p := ⟨q, i, none⟩) rfl v
theorem rowK (w : World) (b : Nat) (v : Array Value) : Keep (fun j => j = b) w (w.setRow b v) := ⟨rfl, rfl, rfl, by simp, fun j _ hj => setRow_other w b j _ hj⟩
theorem keepDrew (S : Nat → Prop) (w : World) (q : Nat) : Keep S w (w.drewN q) := ⟨rfl, rfl, rfl, Nat.le_refl _, fun _ _ _ => rfl⟩
theorem tabs_keep {a b : Nat} {S : Nat → Prop} {w w' : World} (h : Lib.Utf8Tabs a b w) (k : Keep S w w') (ha : ¬ S a) (hb : ¬ S b) : Lib.Utf8Tabs a b w' :=
  ⟨fun c hc => k.cell (h.1 c hc) ha, fun i hi => ⟨k.cell (h.2 i hi).1 hb, k.cell (h.2 i hi).2 hb⟩⟩
theorem tabs_bel {a b : Nat} {w w' : World} (h : Lib.Utf8Tabs a b w) (k : Below w.heap.size w w') : Lib.Utf8Tabs a b w' := tabs_keep h (Keep.ofBelow (S := fun _ => False) k) (fun h => h) (fun h => h)

/-! ### giving up -/
def gaveP (n : Nat) : List PanicEntry := [{ v := .iface 75 (.agg #[.int .i64 n]), recovered := false }]
/-- It answered, or it gave up with the error's number. -/
def Gv (n : Nat) (v : Value) (e : Ending) : Prop := (n = 0 ∧ e = .returned v) ∨ (n ≠ 0 ∧ e = .panicked (gaveP n))
theorem gv_ok {v : Value} {e : Ending} (h : e = .returned v) : Gv 0 v e := Or.inl ⟨rfl, h⟩
theorem gv_no {n : Nat} (hn : n ≠ 0) {v : Value} {e : Ending} (h : e = .panicked (gaveP n)) : Gv n v e := Or.inr ⟨hn, h⟩
theorem dem_ok (n : Int) (w : World) : Calls Tryd.prog 49 #[.bool true, .int .i64 n] w fun e w' => e = .returned (.tuple #[]) ∧ w' = w := by
  go_enter Tryd.func49, Tryd.ntmps49
  go_wp2
  go_end0
  exact ⟨rfl, rfl⟩
theorem dem_no (n : Nat) (w : World) : Calls Tryd.prog 49 #[.bool false, .int .i64 n] w fun e w' => e = .panicked (gaveP n) ∧ w' = w := by
  go_enter Tryd.func49, Tryd.ntmps49
  go_wp2
  exact ⟨rfl, rfl, rfl⟩

theorem isSub_any (s : ByteArray) (w : World) : Calls Tryd.prog 56 #[.string s] w fun e w' => e = .returned (.bool (isSubB s.data.toList)) ∧ w' = w := by
  unfold isSubB wNone wTo wFrom wBoth
  rw [← Lib.toList_data]
  generalize h1 : (s.toList == [110, 111, 110, 101]) = b1
  generalize h2 : (s.toList == [116, 111]) = b2
  generalize h3 : (s.toList == [102, 114, 111, 109]) = b3
  generalize h4 : (s.toList == [98, 111, 116, 104]) = b4
  cases b1 <;> cases b2 <;> cases b3 <;> cases b4
  all_goals
    go_enter Tryd.func56, Tryd.ntmps56
    go_wp2
    go_ret
    exact ⟨rfl, rfl⟩

theorem checkName_any (s : ByteArray) (w : World) (hs : s.size ≤ 281474976710656) (hT : Lib.Utf8Tabs 0 1 w) : Calls Tryd.prog 27 #[.string s] w fun e w' => e = .returned (.int .i64 (nameE s.data.toList : Nat)) ∧ Below w.heap.size w w' := by
  have cV := Nm.validString_any s w (by omega) hT
  have hl : s.data.toList.length = s.size := by simp
  unfold nameE
  rw [hl]
  clear hT
  by_cases h1 : 64 < s.size
  · rw [if_pos h1]
    have hd : (64 : Int) < (s.size : Int) := by omega
    go_enter Tryd.func27, Tryd.ntmps27
    go_wp2
    go_ret
    exact ⟨rfl, Below.refl _ _⟩
  · rw [if_neg h1]
    have hd : ¬ (64 : Int) < (s.size : Int) := by omega
    have he : s.toList.isEmpty = decide (s.data.toList = []) := by
      rw [Lib.toList_data]; cases s.data.toList <;> rfl
    by_cases h2 : s.data.toList = []
    · rw [if_pos (Or.inl h2)]
      have hd2 : s.toList.isEmpty = true := by rw [he]; simp [h2]
      clear he h2 cV
      go_enter Tryd.func27, Tryd.ntmps27
      go_wp2
      go_ret
      exact ⟨rfl, Below.refl _ _⟩
    · have hd2 : s.toList.isEmpty = false := by rw [he]; simp [h2]
      generalize Lib.validD s.data.toList = V at cV ⊢
      have hI : (if s.data.toList = [] ∨ V = false then (4 : Nat) else 0) = if V = true then 0 else 4 := by cases V <;> simp [h2]
      rw [hI]
      clear he h2 hI hl h1
      cases V with
      | true =>
        go_enter Tryd.func27, Tryd.ntmps27
        go_wp2_with (go_at_call 43; refine cV.mono ?_; rintro e w1 ⟨rfl, hb⟩)
        go_ret
        exact ⟨rfl, hb⟩
      | false =>
        go_enter Tryd.func27, Tryd.ntmps27
        go_wp2_with (go_at_call 43; refine cV.mono ?_; rintro e w1 ⟨rfl, hb⟩)
        go_ret
        exact ⟨rfl, hb⟩

/-- A reader at a block. -/
def RdrAt (w : World) (b : Nat) (s : ByteArray) : Prop := w.heap[b]? = some (.cells #[.string s] 51 (0, 0))

theorem word_any (b : Nat) (s : ByteArray) (w : World) (h : RdrAt w b s) (hs : s.size ≤ 281474976710656) :
    Calls Tryd.prog 48 #[.pointer (some ⟨b, 0, none⟩)] w fun e w' => Keep (fun i => i = b) w w' ∧
      ((Nm.hasB 32 s.data.toList = true ∧ e = .returned (.string (ba (Nm.cutA 32 s.data.toList))) ∧ RdrAt w' b (ba (Nm.cutZ 32 s.data.toList))) ∨ (Nm.hasB 32 s.data.toList = false ∧ e = .panicked (gaveP 2))) := by
  have cI := Nm.cut_any s ⟨#[32]⟩ 32 rfl w (by omega)
  unfold Nm.cutV at cI
  show Calls _ _ _ _ fun e w' => _ ∧ ((_ ∧ e = .returned (.string ⟨(Nm.cutA 32 s.data.toList).toArray⟩) ∧ RdrAt w' b ⟨(Nm.cutZ 32 s.data.toList).toArray⟩) ∨ _)
  generalize (⟨(Nm.cutA 32 s.data.toList).toArray⟩ : ByteArray) = A at cI ⊢
  generalize (⟨(Nm.cutZ 32 s.data.toList).toArray⟩ : ByteArray) = Z at cI ⊢
  generalize Nm.hasB 32 s.data.toList = H at cI ⊢
  have c0 := p_cell h
  have HR : Hid (RdrAt w b s) := h
  clear h
  cases H with
  | true =>
    have cD := fun w => dem_ok 2 w
    go_enter Tryd.func48, Tryd.ntmps48
    go_wp2_with (first
      | (go_at_call 54; refine cI.mono ?_; clear cI; rintro e w1 ⟨rfl, q, hq⟩; have r1 : Hid (RdrAt w1 b s ∧ Keep (fun i => i = b) w w1) := (by rw [hq]; exact ⟨HR.out, keepDrew _ _ _⟩); clear hq)
      | (go_at_call 49; refine (cD _).mono ?_; clear cD; rintro e w2 ⟨rfl, hw2⟩; replace hw2 := hw2.symm; subst hw2; have f1 := p_thaw r1.out.1; have c1 := p_cell r1.out.1))
    go_ret
    exact ⟨r1.out.2.trans (setK _ _ _ _), Or.inl ⟨trivial, rfl, block_setCell (i := 0) r1.out.1 (.string Z)⟩⟩
  | false =>
    have cD := fun w => dem_no 2 w
    go_enter Tryd.func48, Tryd.ntmps48
    go_wp2_with (first
      | (go_at_call 54; refine cI.mono ?_; clear cI; rintro e w1 ⟨rfl, q, hq⟩; have r1 : Hid (RdrAt w1 b s ∧ Keep (fun i => i = b) w w1) := (by rw [hq]; exact ⟨HR.out, keepDrew _ _ _⟩); clear hq)
      | (go_at_call 49; refine (cD _).mono ?_; clear cD; rintro e w2 ⟨rfl, hw2⟩; replace hw2 := hw2.symm; subst hw2))
    exact ⟨rfl, r1.out.2, Or.inr ⟨trivial, rfl⟩⟩
end Go.Proofs.YtiplalbicibahaaDoor
