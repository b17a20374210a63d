/- Texts of one seat, one behind the other: NmBegun, NmFun, NmCut, PvA, PvB, PvC, PvD, PvE, PvF. -/
import Derived.Test.YtiplalbicibahaaGreatDoorM1
import Derived.Defers
import Derived.Recover
import Derived.Laws.Pointers
import Derived.WalkKit
import Derived.WalkLawsBesides
import Derived.WalkSpells
import Derived.BigQuiet
import Derived.BigRegion
import Derived.Lib.SmallJoins
import Derived.Deep.MidRow
import Derived.Shelf.Strconv.Clone
/- begun: a preparing, and the error with which it gave up. -/
namespace Go.Proofs.YtiplalbicibahaaGreatDoor.Nm
open Go.RowKit

theorem catchS_panicking (p : Addr) (x n : Int) (older : List PanicEntry) (w : World) (hc : w.cell? p = some (.int .i64 x)) (hz : w.frozen? p = false) :
    CallsD Tryz.prog 113 #[.pointer (some p)] (.panicking ({ v := .iface 152 (.agg #[.int .i64 n]), recovered := false } :: older)) w fun e u' w' =>
      e = .returned (.tuple #[]) ∧ u' = .panicking ({ v := .iface 152 (.agg #[.int .i64 n]), recovered := true } :: older) ∧ w' = w.setCell p (.int .i64 n) := by
  refine callsD_of_wpS Tryz.func113 rfl fun c₀ cs hu => ?_
  apply wpS_seq
  apply wpS_region
  simp [wpOpsS, go_sem, recoverD, hu, Tryz.ntmps113, Exit.thenS]
  refine wpS_of_wp ?_
  rw [show #[Value.pointer (some p)] ++ ((Array.replicate 7 undef).setIfInBounds 1 (Value.iface 152 (Value.agg #[Value.int IntKind.i64 n]))).setIfInBounds 0 (Value.iface 152 (Value.agg #[Value.int IntKind.i64 n])) = #[Value.pointer (some p), Value.iface 152 (Value.agg #[Value.int IntKind.i64 n]), Value.iface 152 (Value.agg #[Value.int IntKind.i64 n]), undef, undef, undef, undef, undef] from rfl]
  have hta : (Instr.typeAssert (Value.iface 152 (Value.agg #[Value.int IntKind.i64 n])) 20 152 false).run Tryz.prog w = .ok (Value.agg #[Value.int IntKind.i64 n]) w := by
    simp [Instr.typeAssert, go_sem]
  have hfd : (Instr.field 152 (Value.agg #[Value.int IntKind.i64 n]) 0).run Tryz.prog w = .ok (Value.int IntKind.i64 n) w := by
    simp [Instr.field, go_sem, asAgg]
  go_wp2
  simp [bodyPostS, results, Tryz.results113]
theorem catchS_idle (p : Addr) (w : World) :
    CallsD Tryz.prog 113 #[.pointer (some p)] .returning w fun e u' w' => e = .returned (.tuple #[]) ∧ u' = .returning ∧ w' = w := by
  refine callsD_of_wpS Tryz.func113 rfl fun c₀ cs hu => ?_
  apply wpS_seq
  apply wpS_region
  simp [wpOpsS, go_sem, recoverD, hu, Tryz.ntmps113, Exit.thenS]
  refine wpS_of_wp ?_
  rw [show #[Value.pointer (some p)] ++ ((Array.replicate 7 undef).setIfInBounds 1 Value.nilIface).setIfInBounds 0 Value.nilIface = #[Value.pointer (some p), Value.nilIface, Value.nilIface, undef, undef, undef, undef, undef] from rfl]
  go_wp2
  cases c₀
  simp_all [bodyPostS, results, Tryz.results113]

/-- What begun hands back of a text. -/
def Told (p : List UInt8 × Nat) : Value := .tuple #[.string ⟨p.1.toArray⟩, .int .i64 p.2]

theorem cell_one {w : World} {B : Nat} {v : Value} {t : TypeId} (h : w.heap[B]? = some (.cells #[v] t (0, 0))) : w.cell? ⟨B, 0, none⟩ = some v := by simp [World.cell?, h]
theorem thaw_one {w : World} {B : Nat} {v : Value} {t : TypeId} (h : w.heap[B]? = some (.cells #[v] t (0, 0))) : w.frozen? ⟨B, 0, none⟩ = false := by simp [World.frozen?, h]

theorem begunS_any (k : Nat) (caps : Array Value) (p : List UInt8 × Nat) (w : World) (hent : ∀ args w, (callFunc k args).run Tryz.prog w = .ok (.enter k args) w) (hp : p.2 = 0 ∨ p.1 = [])
    (hc : Calls Tryz.prog k caps (w.alloc (.cells #[.int .i64 0] 24)) fun e w' => Gave p e ∧ Below (w.heap.size + 1) (w.alloc (.cells #[.int .i64 0] 24)) w') :
    Calls Tryz.prog 106 #[.func (.func k) #[] caps] w fun e w' => e = .returned (Told p) ∧ Below w.heap.size w w' := by
  have hmf : ∀ (fn : Fn) (first cap : Array Value) (w : World), (Instr.makeFunc fn first cap).run Tryz.prog w = .ok (.func fn first cap) w := fun _ _ _ _ => rfl
  have hb0 : Below w.heap.size w (w.alloc (.cells #[.int .i64 0] 24)) := (Below.refl _ _).alloc (Nat.le_refl _) _
  have hcell : ∀ w', Below (w.heap.size + 1) (w.alloc (.cells #[.int .i64 0] 24)) w' → w'.heap[w.heap.size]? = some (.cells #[.int .i64 0] 24 (0, 0)) := fun w' hb => by
    rw [hb.block w.heap.size (by omega)]
    show (w.heap.push (.cells #[.int .i64 0] 24))[w.heap.size]? = _
    simp
  obtain ⟨l, n⟩ := p
  by_cases h0 : n = 0
  · subst h0
    have hc' := hc.mono (fun e w' h => And.intro (h.1.elim (fun k => k.2) (fun k => absurd rfl k.1)) h.2 : ∀ e w', _ → (e = .returned (.string ⟨l.toArray⟩) ∧ _))
    clear hc
    go_enter_defers Tryz.func106, Tryz.ntmps106
    go_wp2_with (go_at_fn k; refine hc'.mono ?_; rintro e w1 ⟨rfl, hb⟩; have hcl := cell_one (hcell w1 hb); have hfz := thaw_one (hcell w1 hb))
    refine leaves_cons (f := 113) (args := #[.pointer (some ⟨w.heap.size, 0, none⟩)]) (by simp) (by simp [go_sem]) ?_
    refine (catchS_idle ⟨w.heap.size, 0, none⟩ _).mono ?_
    rintro e u' w2 ⟨rfl, rfl, rfl⟩
    have hbl : Below w.heap.size w (w1.setCell ⟨w.heap.size, 0, none⟩ (.int .i64 0)) := (hb0.trans (hb.mono (by omega))).setCell (p := ⟨w.heap.size, 0, none⟩) (Nat.le_refl _) _
    simp [Leaves, settle, results, Tryz.results106, go_sem, hcl, Told]
    exact hbl
  · have hl : l = [] := hp.elim (fun h => absurd h h0) id
    subst hl
    have hc' := hc.mono (fun e w' h => And.intro (h.1.elim (fun k => absurd k.1 h0) (fun k => k.2)) h.2 : ∀ e w', _ → (e = .panicked (gaveUp n) ∧ _))
    clear hc
    go_enter_defers Tryz.func106, Tryz.ntmps106
    go_wp2_with (go_at_fn k; refine hc'.mono ?_; rintro e w1 ⟨rfl, hb⟩; have hcl := cell_one (hcell w1 hb); have hfz := thaw_one (hcell w1 hb))
    refine leaves_cons (f := 113) (args := #[.pointer (some ⟨w.heap.size, 0, none⟩)]) (by simp) (by simp [go_sem]) ?_
    refine (catchS_panicking ⟨w.heap.size, 0, none⟩ 0 n [] _ hcl hfz).mono ?_
    rintro e u' w2 ⟨rfl, rfl, rfl⟩
    have hbl : Below w.heap.size w (w1.setCell ⟨w.heap.size, 0, none⟩ (.int .i64 n)) := (hb0.trans (hb.mono (by omega))).setCell (p := ⟨w.heap.size, 0, none⟩) (Nat.le_refl _) _
    simp [Leaves, settle, results, Tryz.results106, go_sem, hcl, Told]
    exact hbl
end Go.Proofs.YtiplalbicibahaaGreatDoor.Nm

/- Local, Host, Resource: a text prepared, and the error's number. -/
namespace Go.Proofs.YtiplalbicibahaaGreatDoor.Nm
open Go.RowKit

theorem cell_new (w : World) (v : Value) (t : TypeId) : (w.alloc (.cells #[v] t)).cell? ⟨w.heap.size, 0, none⟩ = some v := by
  have h : (w.alloc (.cells #[v] t)).heap[w.heap.size]? = some (.cells #[v] t (0, 0)) := by
    show (w.heap.push (.cells #[v] t))[w.heap.size]? = _
    simp
  exact cell_one h
theorem cell_newer (w : World) (v : Value) (t : TypeId) (o : Obj) : ((w.alloc (.cells #[v] t)).alloc o).cell? ⟨w.heap.size, 0, none⟩ = some v := by
  rw [World.cell?_alloc_lt _ _ _ (by simp)]; exact cell_new w v t
theorem below_new (w : World) (o : Obj) : Below w.heap.size w (w.alloc o) := (Below.refl _ _).alloc (Nat.le_refl _) _

theorem cloLocal_any (q : Addr) (s : ByteArray) (w : World) (hc : w.cell? q = some (.string s)) (hs : s.size ≤ 9223372036854775807) (hT : Lib.Utf8Tabs 0 1 w) :
    Calls Tryz.prog 107 #[.pointer (some q)] w fun e w' => Gave (localN s.data.toList) e ∧ Below w.heap.size w w' := by
  have cI := inLocal_any s w hs hT
  generalize localN s.data.toList = p at cI ⊢
  obtain ⟨l, n⟩ := p
  by_cases h0 : n = 0
  · subst h0
    have cI' := cI.mono (fun e w' h => And.intro (h.1.elim (fun k => k.2) (fun k => absurd rfl k.1)) h.2 : ∀ e w', _ → (e = .returned (.string ⟨l.toArray⟩) ∧ _))
    clear cI
    go_enter Tryz.func107, Tryz.ntmps107
    go_wp2_with (go_at_call 108; refine cI'.mono ?_; rintro e w1 ⟨rfl, hb⟩)
    go_ret
    exact ⟨.inl ⟨rfl, rfl⟩, hb⟩
  · have cI' := cI.mono (fun e w' h => And.intro (h.1.elim (fun k => absurd k.1 h0) (fun k => k.2)) h.2 : ∀ e w', _ → (e = .panicked (gaveUp n) ∧ _))
    clear cI
    go_enter Tryz.func107, Tryz.ntmps107
    go_wp2_with (go_at_call 108; refine cI'.mono ?_; rintro e w1 ⟨rfl, hb⟩)
    exact ⟨rfl, .inr ⟨h0, rfl⟩, hb⟩

theorem local_any (s : ByteArray) (w : World) (hs : s.size ≤ 9223372036854775807) (hT : Lib.Utf8Tabs 0 1 w) :
    Calls Tryz.prog 104 #[.string s] w fun e w' => e = .returned (Told (localN s.data.toList)) ∧ Below w.heap.size w w' := by
  have hmf : ∀ (fn : Fn) (first cap : Array Value) (w : World), (Instr.makeFunc fn first cap).run Tryz.prog w = .ok (.func fn first cap) w := fun _ _ _ _ => rfl
  have hb1 : Below w.heap.size w ((w.alloc (.cells #[.string s] 9)).alloc (.cells #[.int .i64 0] 24)) := (below_new w _).alloc (by simp) _
  have cB := begunS_any 107 #[.pointer (some ⟨w.heap.size, 0, none⟩)] (localN s.data.toList) (w.alloc (.cells #[.string s] 9)) (enters_of Tryz.func107 (by kernel_rfl) rfl) ((prep_cases _ _ _).elim .inl (fun h => .inr h.1))
    ((cloLocal_any ⟨w.heap.size, 0, none⟩ s _ (cell_newer w _ _ _) hs (tabs_below hT hb1)).mono (fun e w' h => ⟨h.1, by have := h.2; simpa using this⟩))
  generalize localN s.data.toList = p at cB ⊢
  unfold Told at cB ⊢
  go_enter Tryz.func104, Tryz.ntmps104
  go_wp2_with (go_at_call 106; refine cB.mono ?_; rintro e w1 ⟨rfl, hb⟩)
  go_ret2
  exact ⟨rfl, (below_new w _).trans (hb.mono (by simp))⟩

end Go.Proofs.YtiplalbicibahaaGreatDoor.Nm

/- strings.Cut, at one byte. -/
namespace Go.Proofs.YtiplalbicibahaaGreatDoor.Nm
open Go.RowKit Go.Shelf

theorem indexByte_any (s : ByteArray) (c : Int) (w : World) : Calls Tryz.prog 109 #[.string s, .int .u8 c] w fun e w' => e = .returned (.int .i64 (Lib.indexByte s.data.toList c.toNat.toUInt8)) ∧ w' = w :=
  Any.stringslite_IndexByte Tryz.lays217 s c w

theorem index_any (s t : ByteArray) (c : UInt8) (ht : t = ⟨#[c]⟩) (w : World) : Calls Tryz.prog 105 #[.string s, .string t] w fun e w' => e = .returned (.int .i64 (Lib.indexByte s.data.toList c)) ∧ w' = w := by
  have hz : (t.size : Int) = 1 := by rw [ht]; rfl
  have hz0 : ((1 : Int) == 0) = false := rfl
  have hix : ∀ w, (Instr.index 9 (.string t) (.int .i64 0)).run Tryz.prog w = .ok (.int .u8 c.toNat) w := fun w => by
    rw [run_index_string w 9 t .i64 0 Tryz.underlying9, dif_pos ⟨by omega, by omega⟩]
    subst ht
    rfl
  have hcc : ((c.toNat : Int)).toNat.toUInt8 = c := by simp
  have cI := indexByte_any s c.toNat w
  rw [hcc] at cI
  have hlist : ∀ a b : ByteArray, a.toList = b.toList → a = b := fun a b h => by
    rw [Lib.toList_data, Lib.toList_data] at h
    cases a; cases b
    exact congrArg ByteArray.mk (Array.toList_inj.1 h)
  by_cases hst : t.toList = s.toList
  · have hb : (t.toList == s.toList) = true := by rw [hst]; exact beq_self_eq_true _
    have hI : Lib.indexByte s.data.toList c = 0 := by rw [← hlist t s hst, ht]; simp [Lib.indexByte]
    rw [hI]
    clear ht hst hlist
    go_enter Tryz.func105, Tryz.ntmps105
    go_wp2
    go_ret
    exact ⟨rfl, rfl⟩
  · have hb : (t.toList == s.toList) = false := by simpa using hst
    clear ht hst hlist
    go_enter Tryz.func105, Tryz.ntmps105
    go_wp2_with (go_at_call 109; refine cI.mono ?_; rintro e w1 ⟨rfl, rfl⟩)
    go_ret
    exact ⟨rfl, rfl⟩

def cutV (c : UInt8) (l : List UInt8) : Value := .tuple #[.string ⟨(cutA c l).toArray⟩, .string ⟨(cutZ c l).toArray⟩, .bool (hasB c l)]

theorem lcut_any (s t : ByteArray) (c : UInt8) (ht : t = ⟨#[c]⟩) (w : World) (hs : s.size ≤ 9223372036854775807) : Calls Tryz.prog 103 #[.string s, .string t] w fun e w' => e = .returned (cutV c s.data.toList) ∧ ∃ q, w' = w.drewN q := by
  have hz : (t.size : Int) = 1 := by rw [ht]; rfl
  have cI := index_any s t c ht w
  clear ht
  rw [indexByte_ix] at cI
  have hle := ix_le c s.data.toList
  have hlen : s.data.toList.length = s.size := by simp
  by_cases h : ix c s.data.toList < s.data.toList.length
  · rw [if_pos h] at cI
    obtain ⟨i, hi⟩ : ∃ i, ix c s.data.toList = i := ⟨_, rfl⟩
    rw [hi] at cI h hle
    have e1 : (⟨(cutA c s.data.toList).toArray⟩ : ByteArray) = s.extract 0 i := by rw [cutA, hi, Lib.extract_eq]; simp
    have e2 : (⟨(cutZ c s.data.toList).toArray⟩ : ByteArray) = s.extract (i + 1) s.size := by
      rw [cutZ, hi, Lib.extract_eq, List.take_of_length_le (by rw [List.length_drop, ← hlen]; exact Nat.le_refl _)]
    have e3 : hasB c s.data.toList = true := by rw [hasB, hi]; exact decide_eq_true h
    have c1 : (0 : Int) ≤ (i : Int) := by omega
    have c2 : (i : Int) ≤ (s.size : Int) := by omega
    have c3 : (0 : Int) ≤ (i : Int) + 1 := by omega
    have c4 : (i : Int) + 1 ≤ (s.size : Int) := by omega
    rw [cutV, e1, e2, e3]
    clear hi e1 e2 e3 hle h hlen
    go_enter Tryz.func103, Tryz.ntmps103
    go_wp2_with (go_at_call 105; refine cI.mono ?_; rintro e w1 ⟨rfl, rfl⟩)
    go_region
    all_goals (try go_wp2)
    all_goals go_ret3
    all_goals exact ⟨rfl, 1, rfl⟩
  · rw [if_neg h] at cI
    have hi : ix c s.data.toList = s.data.toList.length := by omega
    have e1 : (⟨(cutA c s.data.toList).toArray⟩ : ByteArray) = s := by rw [cutA, hi, List.take_length]
    have e2 : (⟨(cutZ c s.data.toList).toArray⟩ : ByteArray) = ⟨#[]⟩ := by rw [cutZ, hi, List.drop_of_length_le (Nat.le_succ _)]
    have e3 : hasB c s.data.toList = false := by rw [hasB]; exact decide_eq_false h
    rw [cutV, e1, e2, e3]
    clear hi e1 e2 e3 hle h hlen
    go_enter Tryz.func103, Tryz.ntmps103
    go_wp2_with (go_at_call 105; refine cI.mono ?_; rintro e w1 ⟨rfl, rfl⟩)
    go_ret3
    exact ⟨rfl, 0, rfl⟩

theorem cut_any (s t : ByteArray) (c : UInt8) (ht : t = ⟨#[c]⟩) (w : World) (hs : s.size ≤ 9223372036854775807) : Calls Tryz.prog 100 #[.string s, .string t] w fun e w' => e = .returned (cutV c s.data.toList) ∧ ∃ q, w' = w.drewN q := by
  have cI := lcut_any s t c ht w hs
  unfold cutV at cI ⊢
  clear ht
  generalize cutA c s.data.toList = A at cI ⊢
  generalize cutZ c s.data.toList = Z at cI ⊢
  generalize hasB c s.data.toList = H at cI ⊢
  go_enter Tryz.func100, Tryz.ntmps100
  go_wp2_with (go_at_call 103; refine cI.mono ?_; rintro e w1 ⟨rfl, q, rfl⟩)
  go_ret3
  exact ⟨rfl, q, rfl⟩
end Go.Proofs.YtiplalbicibahaaGreatDoor.Nm

/- privacy: the reader of a rule; Parse. -/
set_option maxRecDepth 100000
namespace Go.Proofs.YtiplalbicibahaaGreatDoor
open Go.RowKit Go.Joins

abbrev By := List UInt8
def ba (l : By) : ByteArray := ⟨l.toArray⟩
theorem ba_list (l : By) : (ba l).data.toList = l := by simp [ba]
theorem ba_back (s : ByteArray) : ba s.data.toList = s := by cases s; simp [ba]
theorem ba_size (l : By) : (ba l).size = l.length := by simp [ba, ByteArray.size]
theorem ba_eq (l m : By) : ((ba l).toList == m) = (l == m) := by rw [Lib.toList_data, ba_list]

def wAllow : By := [97, 108, 108, 111, 119]
def wDeny : By := [100, 101, 110, 121]
def wIn : By := [105, 110]
def wOut : By := [111, 117, 116]
def wBoth : By := [98, 111, 116, 104]
def wAll : By := [97, 108, 108]
def wJid : By := [106, 105, 100]
def wGroup : By := [103, 114, 111, 117, 112]
def wSub : By := [115, 117, 98]
def wNone : By := [110, 111, 110, 101]
def wTo : By := [116, 111]
def wFrom : By := [102, 114, 111, 109]

/-! ### what is read, by definition -/
/-- A rule. -/
structure Rul where
  al : Bool
  i : Bool
  o : Bool
  k : By
  v : By
def r0 : Rul := ⟨false, false, false, [], []⟩
def rc (r : Rul) : Array Value := #[.bool r.al, .bool r.i, .bool r.o, .string (ba r.k), .string (ba r.v)]
def rv (r : Rul) : Value := .agg (rc r)

def nameE (l : By) : Nat := if 64 < l.length then 5 else if l = [] ∨ Lib.validD l = false then 4 else 0
def isSubB (l : By) : Bool := l == wNone || (l == wTo || (l == wFrom || l == wBoth))
def verdictR (l : By) : Bool × By × Nat :=
  if Nm.hasB 32 l = true then
    if (Nm.cutA 32 l == wAllow || Nm.cutA 32 l == wDeny) = true then (Nm.cutA 32 l == wAllow, Nm.cutZ 32 l, 0) else (false, [], 2)
  else (false, [], 2)
def waysR (l : By) : Bool × Bool × By × Nat :=
  if Nm.hasB 32 l = true then
    if ((Nm.cutA 32 l == wIn || Nm.cutA 32 l == wBoth) || (Nm.cutA 32 l == wOut || Nm.cutA 32 l == wBoth)) = true then (Nm.cutA 32 l == wIn || Nm.cutA 32 l == wBoth, Nm.cutA 32 l == wOut || Nm.cutA 32 l == wBoth, Nm.cutZ 32 l, 0) else (false, false, [], 2)
  else (false, false, [], 2)
def valueR (k l : By) : By × Nat :=
  if (k == wJid) = true then Nm.localN l
  else if (k == wGroup) = true then (if nameE l = 0 then (l, 0) else ([], nameE l))
  else if (k == wSub && isSubB l) = true then (l, 0) else ([], 2)
def whomR (l : By) : By × By × Nat :=
  if (l == wAll) = true then (wAll, [], 0)
  else if Nm.hasB 32 l = true then (if (valueR (Nm.cutA 32 l) (Nm.cutZ 32 l)).2 = 0 then (Nm.cutA 32 l, (valueR (Nm.cutA 32 l) (Nm.cutZ 32 l)).1, 0) else ([], [], (valueR (Nm.cutA 32 l) (Nm.cutZ 32 l)).2))
  else ([], [], 2)
def parseR (l : By) : Rul × Nat :=
  if (verdictR l).2.2 = 0 then
    if (waysR (verdictR l).2.1).2.2.2 = 0 then
      if (whomR (waysR (verdictR l).2.1).2.2.1).2.2 = 0 then
        (⟨(verdictR l).1, (waysR (verdictR l).2.1).1, (waysR (verdictR l).2.1).2.1, (whomR (waysR (verdictR l).2.1).2.2.1).1, (whomR (waysR (verdictR l).2.1).2.2.1).2.1⟩, 0)
      else (r0, (whomR (waysR (verdictR l).2.1).2.2.1).2.2)
    else (r0, (waysR (verdictR l).2.1).2.2.2)
  else (r0, (verdictR l).2.2)

/-! ### memory -/
theorem p_cell {w : World} {B : Nat} {v : Value} {t : TypeId} (h : w.heap[B]? = some (.cells #[v] t (0, 0))) : w.cell? ⟨B, 0, none⟩ = some v := by simp [World.cell?, h]
theorem p_thaw {w : World} {B : Nat} {v : Value} {t : TypeId} (h : w.heap[B]? = some (.cells #[v] t (0, 0))) : w.frozen? ⟨B, 0, none⟩ = false := by simp [World.frozen?, h]
theorem alloc_at (w : World) (o : Obj) : (w.alloc o).heap[w.heap.size]? = some o := by
  show (w.heap.push o)[w.heap.size]? = _
  simp
theorem box_keep {S : Nat → Prop} {w w' : World} {b : Nat} {o : Obj} (h : w.heap[b]? = some o) (hk : Keep S w w') (hs : ¬ S b) : w'.heap[b]? = some o := (hk.block b (Array.getElem?_eq_some_iff.1 h).1 hs).trans h
theorem box_below {w w' : World} {b : Nat} {o : Obj} (h : w.heap[b]? = some o) (hk : Below w.heap.size w w') : w'.heap[b]? = some o := (hk.block b (Array.getElem?_eq_some_iff.1 h).1).trans h
theorem box_lt {w : World} {b : Nat} {o : Obj} (h : w.heap[b]? = some o) : b < w.heap.size := (Array.getElem?_eq_some_iff.1 h).1
theorem below1 (w : World) (a : Obj) : Below w.heap.size w (w.alloc a) := (Below.refl _ _).alloc (Nat.le_refl _) _
theorem below2 (w : World) (a b : Obj) : Below w.heap.size w ((w.alloc a).alloc b) := ((Below.refl _ _).alloc (Nat.le_refl _) _).alloc (by simp) _
theorem push_at (w : World) (o : Obj) {i : Nat} (hi : i = w.heap.size) : (w.alloc o).heap[i]? = some o := by subst hi; exact alloc_at w o
theorem push_old {w : World} {o p : Obj} {i : Nat} (h : w.heap[i]? = some p) : (w.alloc o).heap[i]? = some p := box_below h (below1 w o)
theorem setK (w : World) (q i : Nat) (v : Value) : Keep (fun k => k = q) w (w.setCell ⟨q, i, none⟩ v) := (Keep.refl (fun k => k = q) w).setCell (p := ⟨q, i, none⟩) rfl v
theorem rowK (w : World) (b : Nat) (v : Array Value) : Keep (fun j => j = b) w (w.setRow b v) := ⟨rfl, rfl, rfl, by simp, fun j _ hj => setRow_other w b j _ hj⟩
theorem keepDrew (S : Nat → Prop) (w : World) (q : Nat) : Keep S w (w.drewN q) := ⟨rfl, rfl, rfl, Nat.le_refl _, fun _ _ _ => rfl⟩
theorem tabs_keep {a b : Nat} {S : Nat → Prop} {w w' : World} (h : Lib.Utf8Tabs a b w) (k : Keep S w w') (ha : ¬ S a) (hb : ¬ S b) : Lib.Utf8Tabs a b w' :=
  ⟨fun c hc => k.cell (h.1 c hc) ha, fun i hi => ⟨k.cell (h.2 i hi).1 hb, k.cell (h.2 i hi).2 hb⟩⟩
theorem tabs_bel {a b : Nat} {w w' : World} (h : Lib.Utf8Tabs a b w) (k : Below w.heap.size w w') : Lib.Utf8Tabs a b w' := tabs_keep h (Keep.ofBelow (S := fun _ => False) k) (fun h => h) (fun h => h)

/-! ### giving up -/
def gaveP (n : Nat) : List PanicEntry := [{ v := .iface 127 (.agg #[.int .i64 n]), recovered := false }]
/-- It answered, or it gave up with the error's number. -/
def Gv (n : Nat) (v : Value) (e : Ending) : Prop := (n = 0 ∧ e = .returned v) ∨ (n ≠ 0 ∧ e = .panicked (gaveP n))
theorem gv_ok {v : Value} {e : Ending} (h : e = .returned v) : Gv 0 v e := Or.inl ⟨rfl, h⟩
theorem gv_no {n : Nat} (hn : n ≠ 0) {v : Value} {e : Ending} (h : e = .panicked (gaveP n)) : Gv n v e := Or.inr ⟨hn, h⟩
theorem dem_ok (n : Int) (w : World) : Calls Tryz.prog 97 #[.bool true, .int .i64 n] w fun e w' => e = .returned (.tuple #[]) ∧ w' = w := by
  go_enter Tryz.func97, Tryz.ntmps97
  go_wp2
  go_end0
  exact ⟨rfl, rfl⟩
theorem dem_no (n : Nat) (w : World) : Calls Tryz.prog 97 #[.bool false, .int .i64 n] w fun e w' => e = .panicked (gaveP n) ∧ w' = w := by
  go_enter Tryz.func97, Tryz.ntmps97
  go_wp2
  exact ⟨rfl, rfl, rfl⟩

theorem isSub_any (s : ByteArray) (w : World) : Calls Tryz.prog 102 #[.string s] w fun e w' => e = .returned (.bool (isSubB s.data.toList)) ∧ w' = w := by
  unfold isSubB wNone wTo wFrom wBoth
  rw [← Lib.toList_data]
  generalize h1 : (s.toList == [110, 111, 110, 101]) = b1
  generalize h2 : (s.toList == [116, 111]) = b2
  generalize h3 : (s.toList == [102, 114, 111, 109]) = b3
  generalize h4 : (s.toList == [98, 111, 116, 104]) = b4
  cases b1 <;> cases b2 <;> cases b3 <;> cases b4
  all_goals
    go_enter Tryz.func102, Tryz.ntmps102
    go_wp2
    go_ret
    exact ⟨rfl, rfl⟩

theorem checkName_any (s : ByteArray) (w : World) (hs : s.size ≤ 281474976710656) (hT : Lib.Utf8Tabs 0 1 w) : Calls Tryz.prog 40 #[.string s] w fun e w' => e = .returned (.int .i64 (nameE s.data.toList : Nat)) ∧ Below w.heap.size w w' := by
  have cV := Nm.validString_any s w (by omega) hT
  have hl : s.data.toList.length = s.size := by simp
  unfold nameE
  rw [hl]
  clear hT
  by_cases h1 : 64 < s.size
  · rw [if_pos h1]
    have hd : (64 : Int) < (s.size : Int) := by omega
    go_enter Tryz.func40, Tryz.ntmps40
    go_wp2
    go_ret
    exact ⟨rfl, Below.refl _ _⟩
  · rw [if_neg h1]
    have hd : ¬ (64 : Int) < (s.size : Int) := by omega
    have he : s.toList.isEmpty = decide (s.data.toList = []) := by
      rw [Lib.toList_data]; cases s.data.toList <;> rfl
    by_cases h2 : s.data.toList = []
    · rw [if_pos (Or.inl h2)]
      have hd2 : s.toList.isEmpty = true := by rw [he]; simp [h2]
      clear he h2 cV
      go_enter Tryz.func40, Tryz.ntmps40
      go_wp2
      go_ret
      exact ⟨rfl, Below.refl _ _⟩
    · have hd2 : s.toList.isEmpty = false := by rw [he]; simp [h2]
      generalize Lib.validD s.data.toList = V at cV ⊢
      have hI : (if s.data.toList = [] ∨ V = false then (4 : Nat) else 0) = if V = true then 0 else 4 := by cases V <;> simp [h2]
      rw [hI]
      clear he h2 hI hl h1
      cases V with
      | true =>
        go_enter Tryz.func40, Tryz.ntmps40
        go_wp2_with (go_at_call 57; refine cV.mono ?_; rintro e w1 ⟨rfl, hb⟩)
        go_ret
        exact ⟨rfl, hb⟩
      | false =>
        go_enter Tryz.func40, Tryz.ntmps40
        go_wp2_with (go_at_call 57; refine cV.mono ?_; rintro e w1 ⟨rfl, hb⟩)
        go_ret
        exact ⟨rfl, hb⟩

/-- A reader at a block. -/
def RdrAt (w : World) (b : Nat) (s : ByteArray) : Prop := w.heap[b]? = some (.cells #[.string s] 110 (0, 0))

theorem word_any (b : Nat) (s : ByteArray) (w : World) (h : RdrAt w b s) (hs : s.size ≤ 281474976710656) :
    Calls Tryz.prog 96 #[.pointer (some ⟨b, 0, none⟩)] w fun e w' => Keep (fun i => i = b) w w' ∧
      ((Nm.hasB 32 s.data.toList = true ∧ e = .returned (.string (ba (Nm.cutA 32 s.data.toList))) ∧ RdrAt w' b (ba (Nm.cutZ 32 s.data.toList))) ∨ (Nm.hasB 32 s.data.toList = false ∧ e = .panicked (gaveP 2))) := by
  have cI := Nm.cut_any s ⟨#[32]⟩ 32 rfl w (by omega)
  unfold Nm.cutV at cI
  show Calls _ _ _ _ fun e w' => _ ∧ ((_ ∧ e = .returned (.string ⟨(Nm.cutA 32 s.data.toList).toArray⟩) ∧ RdrAt w' b ⟨(Nm.cutZ 32 s.data.toList).toArray⟩) ∨ _)
  generalize (⟨(Nm.cutA 32 s.data.toList).toArray⟩ : ByteArray) = A at cI ⊢
  generalize (⟨(Nm.cutZ 32 s.data.toList).toArray⟩ : ByteArray) = Z at cI ⊢
  generalize Nm.hasB 32 s.data.toList = H at cI ⊢
  have c0 := p_cell h
  have HR : Hid (RdrAt w b s) := h
  clear h
  cases H with
  | true =>
    have cD := fun w => dem_ok 2 w
    go_enter Tryz.func96, Tryz.ntmps96
    go_wp2_with (first
      | (go_at_call 100; refine cI.mono ?_; clear cI; rintro e w1 ⟨rfl, q, hq⟩; have r1 : Hid (RdrAt w1 b s ∧ Keep (fun i => i = b) w w1) := (by rw [hq]; exact ⟨HR.out, keepDrew _ _ _⟩); clear hq)
      | (go_at_call 97; refine (cD _).mono ?_; clear cD; rintro e w2 ⟨rfl, hw2⟩; replace hw2 := hw2.symm; subst hw2; have f1 := p_thaw r1.out.1; have c1 := p_cell r1.out.1))
    go_ret
    exact ⟨r1.out.2.trans (setK _ _ _ _), Or.inl ⟨trivial, rfl, block_setCell (i := 0) r1.out.1 (.string Z)⟩⟩
  | false =>
    have cD := fun w => dem_no 2 w
    go_enter Tryz.func96, Tryz.ntmps96
    go_wp2_with (first
      | (go_at_call 100; refine cI.mono ?_; clear cI; rintro e w1 ⟨rfl, q, hq⟩; have r1 : Hid (RdrAt w1 b s ∧ Keep (fun i => i = b) w w1) := (by rw [hq]; exact ⟨HR.out, keepDrew _ _ _⟩); clear hq)
      | (go_at_call 97; refine (cD _).mono ?_; clear cD; rintro e w2 ⟨rfl, hw2⟩; replace hw2 := hw2.symm; subst hw2))
    exact ⟨rfl, r1.out.2, Or.inr ⟨trivial, rfl⟩⟩
end Go.Proofs.YtiplalbicibahaaGreatDoor

/- privacy: a rule's parts; a rule; Parse. -/
set_option maxRecDepth 100000
namespace Go.Proofs.YtiplalbicibahaaGreatDoor
open Go.RowKit Go.Joins Go.Shelf

theorem clone_any (s : ByteArray) (w : World) (hs : s.size ≤ 281474976710656) : Calls Tryz.prog 31 #[.string s] w fun e w' => e = .returned (.string s) ∧ Below w.heap.size w w' := by
  have c : Calls Tryz.prog 48 #[.string s] w fun e w' => e = .returned (.string s) ∧ Below w.heap.size w w' := Any.stringslite_Clone Tryz.laysM316 s w hs
  go_enter Tryz.func31, Tryz.ntmps31
  go_wp2_with (go_at_call 48; refine c.mono ?_; rintro e w1 ⟨rfl, hb⟩)
  go_ret
  exact ⟨rfl, hb⟩

theorem verdict_any (b : Nat) (s : ByteArray) (w : World) (h : RdrAt w b s) (hs : s.size ≤ 281474976710656) :
    Calls Tryz.prog 86 #[.pointer (some ⟨b, 0, none⟩)] w fun e w' => Gv (verdictR s.data.toList).2.2 (.bool (verdictR s.data.toList).1) e ∧ Keep (fun i => i = b) w w' ∧ ((verdictR s.data.toList).2.2 = 0 → RdrAt w' b (ba (verdictR s.data.toList).2.1)) := by
  have cW := word_any b s w h hs
  unfold verdictR
  generalize Nm.cutA 32 s.data.toList = A at cW ⊢
  generalize Nm.cutZ 32 s.data.toList = Z at cW ⊢
  generalize Nm.hasB 32 s.data.toList = H at cW ⊢
  clear h
  cases H with
  | false =>
    have cW' : Calls Tryz.prog 96 #[.pointer (some ⟨b, 0, none⟩)] w (fun e w' => e = .panicked (gaveP 2) ∧ Keep (fun i => i = b) w w') := cW.mono (fun e w' h => ⟨h.2.elim (fun k => by cases k.1) (fun k => k.2), h.1⟩)
    clear cW
    rw [if_neg (by decide)]
    go_enter Tryz.func86, Tryz.ntmps86
    go_wp2_with (go_at_call 96; refine cW'.mono ?_; rintro e w1 ⟨rfl, hk⟩)
    exact ⟨rfl, gv_no (by decide) rfl, hk, fun h => by cases h⟩
  | true =>
    have cW' : Calls Tryz.prog 96 #[.pointer (some ⟨b, 0, none⟩)] w (fun e w' => e = .returned (.string (ba A)) ∧ Hid (RdrAt w' b (ba Z) ∧ Keep (fun i => i = b) w w')) := cW.mono (fun e w' h => h.2.elim (fun k => ⟨k.2.1, k.2.2, h.1⟩) (fun k => by cases k.1))
    clear cW
    rw [if_pos rfl]
    have e1 : ((ba A).toList == [97, 108, 108, 111, 119]) = (A == wAllow) := ba_eq _ _
    have e2 : ((ba A).toList == [100, 101, 110, 121]) = (A == wDeny) := ba_eq _ _
    generalize (A == wAllow) = a1 at e1 ⊢
    generalize (A == wDeny) = a2 at e2 ⊢
    generalize ba A = S at e1 e2 cW'
    have cD := fun w => dem_ok 2 w
    have cN := fun w => dem_no 2 w
    cases a1 with
    | true =>
      show Calls _ _ _ _ fun e w' => Gv 0 (.bool true) e ∧ _ ∧ (0 = 0 → RdrAt w' b (ba Z))
      clear e2 cN
      go_enter Tryz.func86, Tryz.ntmps86
      go_wp2_with (first
        | (go_at_call 96; refine cW'.mono ?_; clear cW'; rintro e w1 ⟨rfl, hk⟩)
        | (go_at_call 97; refine (cD _).mono ?_; rintro e w2 ⟨rfl, hw2⟩; replace hw2 := hw2.symm; subst hw2))
      go_ret
      exact ⟨gv_ok rfl, hk.out.2, fun _ => hk.out.1⟩
    | false => cases a2 with
      | true =>
        show Calls _ _ _ _ fun e w' => Gv 0 (.bool false) e ∧ _ ∧ (0 = 0 → RdrAt w' b (ba Z))
        clear cN
        go_enter Tryz.func86, Tryz.ntmps86
        go_wp2_with (first
          | (go_at_call 96; refine cW'.mono ?_; clear cW'; rintro e w1 ⟨rfl, hk⟩)
          | (go_at_call 97; refine (cD _).mono ?_; rintro e w2 ⟨rfl, hw2⟩; replace hw2 := hw2.symm; subst hw2))
        go_ret
        exact ⟨gv_ok rfl, hk.out.2, fun _ => hk.out.1⟩
      | false =>
        show Calls _ _ _ _ fun e w' => Gv 2 (.bool false) e ∧ _ ∧ (2 = 0 → RdrAt w' b (ba []))
        clear cD
        go_enter Tryz.func86, Tryz.ntmps86
        go_wp2_with (first
          | (go_at_call 96; refine cW'.mono ?_; clear cW'; rintro e w1 ⟨rfl, hk⟩)
          | (go_at_call 97; refine (cN _).mono ?_; rintro e w2 ⟨rfl, hw2⟩; replace hw2 := hw2.symm; subst hw2))
        exact ⟨rfl, gv_no (by decide) rfl, hk.out.2, fun h => by cases h⟩

theorem ways_any (b : Nat) (s : ByteArray) (w : World) (h : RdrAt w b s) (hs : s.size ≤ 281474976710656) :
    Calls Tryz.prog 87 #[.pointer (some ⟨b, 0, none⟩)] w fun e w' => Gv (waysR s.data.toList).2.2.2 (.tuple #[.bool (waysR s.data.toList).1, .bool (waysR s.data.toList).2.1]) e ∧ Keep (fun i => i = b) w w' ∧ ((waysR s.data.toList).2.2.2 = 0 → RdrAt w' b (ba (waysR s.data.toList).2.2.1)) := by
  have cW := word_any b s w h hs
  unfold waysR
  generalize Nm.cutA 32 s.data.toList = A at cW ⊢
  generalize Nm.cutZ 32 s.data.toList = Z at cW ⊢
  generalize Nm.hasB 32 s.data.toList = H at cW ⊢
  clear h
  cases H with
  | false =>
    have cW' : Calls Tryz.prog 96 #[.pointer (some ⟨b, 0, none⟩)] w (fun e w' => e = .panicked (gaveP 2) ∧ Keep (fun i => i = b) w w') := cW.mono (fun e w' h => ⟨h.2.elim (fun k => by cases k.1) (fun k => k.2), h.1⟩)
    clear cW
    rw [if_neg (by decide)]
    go_enter Tryz.func87, Tryz.ntmps87
    go_wp2_with (go_at_call 96; refine cW'.mono ?_; rintro e w1 ⟨rfl, hk⟩)
    exact ⟨rfl, gv_no (by decide) rfl, hk, fun h => by cases h⟩
  | true =>
    have cW' : Calls Tryz.prog 96 #[.pointer (some ⟨b, 0, none⟩)] w (fun e w' => e = .returned (.string (ba A)) ∧ Hid (RdrAt w' b (ba Z) ∧ Keep (fun i => i = b) w w')) := cW.mono (fun e w' h => h.2.elim (fun k => ⟨k.2.1, k.2.2, h.1⟩) (fun k => by cases k.1))
    clear cW
    rw [if_pos rfl]
    have e1 : ((ba A).toList == [105, 110]) = (A == wIn) := ba_eq _ _
    have e2 : ((ba A).toList == [98, 111, 116, 104]) = (A == wBoth) := ba_eq _ _
    have e3 : ((ba A).toList == [111, 117, 116]) = (A == wOut) := ba_eq _ _
    generalize (A == wIn) = a1 at e1 ⊢
    generalize (A == wBoth) = a2 at e2 ⊢
    generalize (A == wOut) = a3 at e3 ⊢
    generalize ba A = S at e1 e2 e3 cW'
    have cD := fun w => dem_ok 2 w
    have cN := fun w => dem_no 2 w
    cases a1 <;> cases a2 <;> cases a3
    case false.false.false =>
      show Calls _ _ _ _ fun e w' => Gv 2 (.tuple #[.bool false, .bool false]) e ∧ _ ∧ (2 = 0 → RdrAt w' b (ba []))
      clear cD
      go_enter Tryz.func87, Tryz.ntmps87
      go_wp2_with (first
        | (go_at_call 96; refine cW'.mono ?_; clear cW'; rintro e w1 ⟨rfl, hk⟩)
        | (go_at_call 97; refine (cN _).mono ?_; rintro e w2 ⟨rfl, hw2⟩; replace hw2 := hw2.symm; subst hw2))
      exact ⟨rfl, gv_no (by decide) rfl, hk.out.2, fun h => by cases h⟩
    all_goals
      clear cN
      rw [if_pos (by rfl)]
      go_enter Tryz.func87, Tryz.ntmps87
      go_wp2_with (first
        | (go_at_call 96; refine cW'.mono ?_; clear cW'; rintro e w1 ⟨rfl, hk⟩)
        | (go_at_call 97; refine (cD _).mono ?_; rintro e w2 ⟨rfl, hw2⟩; replace hw2 := hw2.symm; subst hw2))
      go_ret2
      exact ⟨gv_ok rfl, hk.out.2, fun _ => hk.out.1⟩

/-- A user's name of a rule. -/
theorem pLocal_any (s : ByteArray) (w : World) (hs : s.size ≤ 281474976710656) (hT : Lib.Utf8Tabs 0 1 w) :
    Calls Tryz.prog 101 #[.string s] w fun e w' => Gv (Nm.localN s.data.toList).2 (.string (ba (Nm.localN s.data.toList).1)) e ∧ Below w.heap.size w w' := by
  have cL := Nm.local_any s w (by omega) hT
  unfold Nm.Told at cL
  generalize Nm.localN s.data.toList = p at cL ⊢
  obtain ⟨l, n⟩ := p
  dsimp only at cL ⊢
  show Calls _ _ _ _ fun e w' => Gv n (.string ⟨l.toArray⟩) e ∧ _
  generalize (⟨l.toArray⟩ : ByteArray) = L at cL ⊢
  clear hT
  by_cases h0 : n = 0
  · subst h0
    have cD := fun w => dem_ok 0 w
    go_enter Tryz.func101, Tryz.ntmps101
    go_wp2_with (first
      | (go_at_call 104; refine cL.mono ?_; rintro e w1 ⟨rfl, hb⟩)
      | (go_at_call 97; refine (cD _).mono ?_; rintro e w2 ⟨rfl, hw2⟩; replace hw2 := hw2.symm; subst hw2))
    go_ret
    exact ⟨gv_ok rfl, hb⟩
  · have hd : ((n : Int) == 0) = false := by simp; omega
    have cN := fun w => dem_no n w
    replace h0 : Hid (n ≠ 0) := h0
    go_enter Tryz.func101, Tryz.ntmps101
    go_wp2_with (first
      | (go_at_call 104; refine cL.mono ?_; rintro e w1 ⟨rfl, hb⟩)
      | (go_at_call 97; refine (cN _).mono ?_; rintro e w2 ⟨rfl, hw2⟩; replace hw2 := hw2.symm; subst hw2))
    exact ⟨rfl, gv_no h0.out rfl, hb⟩
end Go.Proofs.YtiplalbicibahaaGreatDoor

/- privacy: a rule's value; whom; a rule. -/
set_option maxRecDepth 100000
namespace Go.Proofs.YtiplalbicibahaaGreatDoor
open Go.RowKit Go.Joins Go.Shelf

theorem gv_calls_ok {f : FuncId} {args : Array Value} {w : World} {n : Nat} {v : Value} {R : World → Prop} (h : Calls Tryz.prog f args w fun e w' => Gv n v e ∧ R w') (h0 : n = 0) : Calls Tryz.prog f args w fun e w' => e = .returned v ∧ R w' :=
  h.mono fun _ _ k => ⟨k.1.elim (fun q => q.2) (fun q => absurd h0 q.1), k.2⟩
theorem gv_calls_no {f : FuncId} {args : Array Value} {w : World} {n : Nat} {v : Value} {R : World → Prop} (h : Calls Tryz.prog f args w fun e w' => Gv n v e ∧ R w') (h0 : n ≠ 0) : Calls Tryz.prog f args w fun e w' => e = .panicked (gaveP n) ∧ R w' :=
  h.mono fun _ _ k => ⟨k.1.elim (fun q => absurd q.1 h0) (fun q => q.2), k.2⟩

theorem valueOf_any (k t : By) (w : World) (ht : t.length ≤ 281474976710656) (hT : Lib.Utf8Tabs 0 1 w) :
    Calls Tryz.prog 98 #[.string (ba k), .string (ba t)] w fun e w' => Gv (valueR k t).2 (.string (ba (valueR k t).1)) e ∧ Below w.heap.size w w' := by
  have hts : (ba t).size ≤ 281474976710656 := by rw [ba_size]; exact ht
  have cL := pLocal_any (ba t) w hts hT
  have cN := checkName_any (ba t) w hts hT
  have cS := isSub_any (ba t) w
  have cC := fun w => clone_any (ba t) w (by omega)
  rw [ba_list] at cL cN cS
  have e1 : ((ba k).toList == [106, 105, 100]) = (k == wJid) := ba_eq _ _
  have e2 : ((ba k).toList == [103, 114, 111, 117, 112]) = (k == wGroup) := ba_eq _ _
  have e3 : ((ba k).toList == [115, 117, 98]) = (k == wSub) := ba_eq _ _
  unfold valueR
  generalize (k == wJid) = a1 at e1 ⊢
  generalize (k == wGroup) = a2 at e2 ⊢
  generalize (k == wSub) = a3 at e3 ⊢
  generalize ba k = K at e1 e2 e3 ⊢
  clear hT ht hts
  cases a1 with
  | true =>
    rw [if_pos rfl]
    clear e2 e3 cN cS cC
    generalize Nm.localN t = p at cL ⊢
    obtain ⟨l, n⟩ := p
    dsimp only at cL ⊢
    by_cases h0 : n = 0
    · have c := gv_calls_ok cL h0
      subst h0
      clear cL
      go_enter Tryz.func98, Tryz.ntmps98
      go_wp2_with (go_at_call 101; refine c.mono ?_; rintro e w1 ⟨rfl, hb⟩)
      go_ret
      exact ⟨gv_ok rfl, hb⟩
    · have c := gv_calls_no cL h0
      clear cL
      replace h0 : Hid (n ≠ 0) := h0
      go_enter Tryz.func98, Tryz.ntmps98
      go_wp2_with (go_at_call 101; refine c.mono ?_; rintro e w1 ⟨rfl, hb⟩)
      exact ⟨rfl, gv_no h0.out rfl, hb⟩
  | false =>
    rw [if_neg (by decide)]
    clear cL
    cases a2 with
    | true =>
      rw [if_pos rfl]
      clear e3 cS
      generalize nameE t = n at cN ⊢
      by_cases h0 : n = 0
      · subst h0
        rw [if_pos rfl]
        have cD := fun w => dem_ok 0 w
        go_enter Tryz.func98, Tryz.ntmps98
        go_wp2_with (first
          | (go_at_call 40; refine cN.mono ?_; clear cN; rintro e w1 ⟨rfl, hb⟩)
          | (go_at_call 97; refine (cD _).mono ?_; rintro e w2 ⟨rfl, hw2⟩; replace hw2 := hw2.symm; subst hw2)
          | (go_at_call 31; refine (cC _).mono ?_; clear cC; rintro e w3 ⟨rfl, hb3⟩))
        go_ret
        exact ⟨gv_ok rfl, hb.trans (hb3.mono hb.size)⟩
      · rw [if_neg h0]
        have hd : ((n : Int) == 0) = false := by simp; omega
        have cD := fun w => dem_no n w
        replace h0 : Hid (n ≠ 0) := h0
        clear cC
        go_enter Tryz.func98, Tryz.ntmps98
        go_wp2_with (first
          | (go_at_call 40; refine cN.mono ?_; clear cN; rintro e w1 ⟨rfl, hb⟩)
          | (go_at_call 97; refine (cD _).mono ?_; rintro e w2 ⟨rfl, hw2⟩; replace hw2 := hw2.symm; subst hw2))
        exact ⟨rfl, gv_no h0.out rfl, hb⟩
    | false =>
      rw [if_neg (by decide)]
      clear cN
      cases a3 with
      | false =>
        have cD := fun w => dem_no 2 w
        clear cS cC
        show Calls _ _ _ _ fun e w' => Gv 2 _ e ∧ _
        go_enter Tryz.func98, Tryz.ntmps98
        go_wp2_with (first
          | (go_at_call 97; refine (cD _).mono ?_; rintro e w2 ⟨rfl, hw2⟩; replace hw2 := hw2.symm; subst hw2))
        exact ⟨rfl, gv_no (by decide) rfl, Below.refl _ _⟩
      | true =>
        generalize isSubB t = z at cS ⊢
        cases z with
        | true =>
          have cD := fun w => dem_ok 2 w
          rw [if_pos (show (true && true) = true from rfl)]
          go_enter Tryz.func98, Tryz.ntmps98
          go_wp2_with (first
            | (go_at_call 102; refine cS.mono ?_; clear cS; rintro e w1 ⟨rfl, hw1⟩; replace hw1 := hw1.symm; subst hw1)
            | (go_at_call 97; refine (cD _).mono ?_; rintro e w2 ⟨rfl, hw2⟩; replace hw2 := hw2.symm; subst hw2)
            | (go_at_call 31; refine (cC _).mono ?_; clear cC; rintro e w3 ⟨rfl, hb3⟩))
          go_ret
          exact ⟨gv_ok rfl, hb3⟩
        | false =>
          have cD := fun w => dem_no 2 w
          clear cC
          show Calls _ _ _ _ fun e w' => Gv 2 _ e ∧ _
          go_enter Tryz.func98, Tryz.ntmps98
          go_wp2_with (first
            | (go_at_call 102; refine cS.mono ?_; clear cS; rintro e w1 ⟨rfl, hw1⟩; replace hw1 := hw1.symm; subst hw1)
            | (go_at_call 97; refine (cD _).mono ?_; rintro e w2 ⟨rfl, hw2⟩; replace hw2 := hw2.symm; subst hw2))
          exact ⟨rfl, gv_no (by decide) rfl, Below.refl _ _⟩

theorem whom_any (b : Nat) (l : By) (w : World) (h : RdrAt w b (ba l)) (hs : l.length ≤ 281474976710656) (hT : Lib.Utf8Tabs 0 1 w) (hb1 : b ≠ 0) (hb2 : b ≠ 1) :
    Calls Tryz.prog 88 #[.pointer (some ⟨b, 0, none⟩)] w fun e w' => Gv (whomR l).2.2 (.tuple #[.string (ba (whomR l).1), .string (ba (whomR l).2.1)]) e ∧ Keep (fun i => i = b) w w' := by
  have cW := word_any b (ba l) w h (by rw [ba_size]; exact hs)
  rw [ba_list] at cW
  have e1 : ((ba l).toList == [97, 108, 108]) = (l == wAll) := ba_eq _ _
  have c0 := p_cell h
  have zA : (Nm.cutA 32 l).length ≤ 281474976710656 := by unfold Nm.cutA; rw [List.length_take]; omega
  have zZ : (Nm.cutZ 32 l).length ≤ 281474976710656 := by unfold Nm.cutZ; rw [List.length_drop]; omega
  have cV := fun w' (hk : Keep (fun i => i = b) w w') => valueOf_any (Nm.cutA 32 l) (Nm.cutZ 32 l) w' zZ (tabs_keep hT hk (fun e => hb1 e.symm) (fun e => hb2 e.symm))
  have cC := fun w => clone_any (ba (Nm.cutA 32 l)) w (by rw [ba_size]; omega)
  unfold whomR
  generalize Nm.hasB 32 l = H at cW ⊢
  generalize valueR (Nm.cutA 32 l) (Nm.cutZ 32 l) = p at cV ⊢
  generalize Nm.cutA 32 l = A at cW cV cC ⊢
  generalize Nm.cutZ 32 l = Z at cW cV ⊢
  generalize (l == wAll) = a1 at e1 ⊢
  generalize ba l = L at *
  clear h zA zZ hT hs hb1 hb2
  cases a1 with
  | true =>
    rw [if_pos rfl]
    have cA : ∀ w, Calls Tryz.prog 31 #[.string ⟨#[97, 108, 108]⟩] w fun e w' => e = .returned (.string (ba wAll)) ∧ Below w.heap.size w w' := fun w => clone_any ⟨#[97, 108, 108]⟩ w (by show 3 ≤ _; omega)
    clear cW cV cC
    go_enter Tryz.func88, Tryz.ntmps88
    go_wp2_with (go_at_call 31; refine (cA _).mono ?_; clear cA; rintro e w3 ⟨rfl, hb3⟩)
    go_ret2
    exact ⟨gv_ok rfl, Keep.ofBelow hb3⟩
  | false =>
    rw [if_neg (by decide)]
    cases H with
    | false =>
      rw [if_neg (by decide)]
      have cW' : Calls Tryz.prog 96 #[.pointer (some ⟨b, 0, none⟩)] w (fun e w' => e = .panicked (gaveP 2) ∧ Keep (fun i => i = b) w w') := cW.mono (fun e w' h => ⟨h.2.elim (fun k => by cases k.1) (fun k => k.2), h.1⟩)
      clear cW cV cC
      go_enter Tryz.func88, Tryz.ntmps88
      go_wp2_with (go_at_call 96; refine cW'.mono ?_; clear cW'; rintro e w1 ⟨rfl, hk⟩)
      exact ⟨rfl, gv_no (by decide) rfl, hk⟩
    | true =>
      rw [if_pos rfl]
      have cW' : Calls Tryz.prog 96 #[.pointer (some ⟨b, 0, none⟩)] w (fun e w' => e = .returned (.string (ba A)) ∧ Hid (RdrAt w' b (ba Z) ∧ Keep (fun i => i = b) w w')) := cW.mono (fun e w' h => h.2.elim (fun k => ⟨k.2.1, k.2.2, h.1⟩) (fun k => by cases k.1))
      clear cW
      obtain ⟨v, n⟩ := p
      dsimp only at cV ⊢
      have HV : Hid (∀ (w' : World), Keep (fun i => i = b) w w' → Calls Tryz.prog 98 #[.string (ba A), .string (ba Z)] w' fun e w'' => Gv n (.string (ba v)) e ∧ Below w'.heap.size w' w'') := cV
      clear cV
      by_cases h0 : n = 0
      · rw [if_pos h0]
        show Calls _ _ _ _ fun e w' => Gv 0 (.tuple #[.string (ba A), .string (ba v)]) e ∧ _
        generalize ba A = SA at *
        generalize ba Z = SZ at *
        generalize ba v = SV at *
        replace h0 : Hid (n = 0) := h0
        go_enter Tryz.func88, Tryz.ntmps88
        go_wp2_with (first
          | (go_at_call 96; refine cW'.mono ?_; clear cW'; rintro e w1 ⟨rfl, hk⟩; have c1 := p_cell hk.out.1; have cv := gv_calls_ok (HV.out w1 hk.out.2) h0.out)
          | (go_at_call 98; refine cv.mono ?_; clear cv; rintro e w2 ⟨rfl, hb2⟩)
          | (go_at_call 31; refine (cC _).mono ?_; clear cC; rintro e w3 ⟨rfl, hb3⟩))
        go_ret2
        exact ⟨gv_ok rfl, (hk.out.2.trans (Keep.ofBelow hb2)).trans (Keep.ofBelow hb3)⟩
      · rw [if_neg h0]
        show Calls _ _ _ _ fun e w' => Gv n _ e ∧ _
        generalize ba A = SA at *
        generalize ba Z = SZ at *
        replace h0 : Hid (n ≠ 0) := h0
        clear cC
        go_enter Tryz.func88, Tryz.ntmps88
        go_wp2_with (first
          | (go_at_call 96; refine cW'.mono ?_; clear cW'; rintro e w1 ⟨rfl, hk⟩; have c1 := p_cell hk.out.1; have cv := gv_calls_no (HV.out w1 hk.out.2) h0.out)
          | (go_at_call 98; refine cv.mono ?_; clear cv; rintro e w2 ⟨rfl, hb2⟩))
        exact ⟨rfl, gv_no h0.out rfl, hk.out.2.trans (Keep.ofBelow hb2)⟩

/-! ### a rule in a variable of its own -/
def RuAt (w : World) (g : Nat) (r : Rul) : Prop := w.heap[g]? = some (.cells (rc r) 72 (0, 0))
section
variable {w w' : World} {g : Nat} {r : Rul}
theorem RuAt.lt (A : RuAt w g r) : g < w.heap.size := box_lt A
theorem RuAt.carry (A : RuAt w g r) (hb : Below w.heap.size w w') : RuAt w' g r := box_below A hb
theorem RuAt.c0 (A : RuAt w g r) : w.cell? ⟨g, 0, none⟩ = some (.bool r.al) := by rw [cell_of_block A]; rfl
theorem RuAt.c1 (A : RuAt w g r) : w.cell? ⟨g, 1, none⟩ = some (.bool r.i) := by rw [cell_of_block A]; rfl
theorem RuAt.c2 (A : RuAt w g r) : w.cell? ⟨g, 2, none⟩ = some (.bool r.o) := by rw [cell_of_block A]; rfl
theorem RuAt.c3 (A : RuAt w g r) : w.cell? ⟨g, 3, none⟩ = some (.string (ba r.k)) := by rw [cell_of_block A]; rfl
theorem RuAt.c4 (A : RuAt w g r) : w.cell? ⟨g, 4, none⟩ = some (.string (ba r.v)) := by rw [cell_of_block A]; rfl
theorem RuAt.fz (A : RuAt w g r) (i : Nat) : w.frozen? ⟨g, i, none⟩ = false := unfrozen_of_block A i
theorem infoRule : (Tryz.prog.info? 72).map (·.size) = some 5 := by kernel_rfl
theorem Tryz.cells72 : Tryz.prog.cellsOf 72 = 5 := by kernel_rfl
theorem rc_one (r : Rul) : (rc r).all (·.oneCell') = true := by simp [rc, Value.oneCell']
theorem RuAt.load (A : RuAt w g r) : (loadVar 72 ⟨g, 0, none⟩).run Tryz.prog w = .ok (rv r) w := run_loadVar_row w g 72 72 _ (0, 0) _ A Tryz.underlying72 rfl (by rw [infoRule]; rfl)
theorem RuAt.set (A : RuAt w g r) (r' : Rul) : RuAt (w.setRow g (rc r')) g r' := setRow_heap w g _ _ 72 (0, 0) A
end
theorem wp_store_ru {ops : Array Oper} {rest : List Oper} {o : Oper} {a : Act} {w : World} {Q : Exit → Act → World → Prop} (hgd : o.guard = none) (x y : Operand) (ho : o.op = .store 72 x y)
    (g : Nat) (hx : a.eval x = .pointer (some ⟨g, 0, none⟩)) (r' : Rul) (hy : a.eval y = rv r') (r : Rul) (hg : RuAt w g r)
    (hk : wpList Tryz.prog ops Q rest (a.put o.dst undef) (w.setRow g (rc r'))) : wpList Tryz.prog ops Q (o :: rest) a w :=
  wpList_store_row hgd 72 x y ho g _ hx hy 72 _ hg (by rw [infoRule]; rfl) (by rfl) (rc_one r') hk
theorem exec_load_ru {o : Oper} {ρ : Operand → Value} {w : World} (x : Operand) (ho : o.op = .load 72 x) (g : Nat) (hx : ρ x = .pointer (some ⟨g, 0, none⟩)) (r : Rul) (hg : RuAt w g r) :
    (execOp ρ o).run Tryz.prog w = .ok (.value (rv r)) w := by
  unfold execOp
  simp only [ho, hx, Instr.loadAt, Instr.sureAddr, Sem.run_bind, Sem.run_pure, Result.andThen_ok, hg.load]
theorem wp_load_ru {ops : Array Oper} {rest : List Oper} {o : Oper} {a : Act} {w : World} {Q : Exit → Act → World → Prop} (hgd : o.guard = none) (x : Operand) (ho : o.op = .load 72 x) (g : Nat) (hx : a.eval x = .pointer (some ⟨g, 0, none⟩)) (r : Rul) (hg : RuAt w g r)
    (hk : wpList Tryz.prog ops Q rest (a.put o.dst (rv r)) w) : wpList Tryz.prog ops Q (o :: rest) a w := by
  refine wpList_plain hgd fun K' hK' => ?_
  unfold Oper.wp
  rw [exec_load_ru x ho g hx r hg]
  exact hK' _ _ hk
theorem res_ru {fn : Func} {p : Tmp} (h : fn.results = #[.cell p 72]) (tmps : Array Value) (w : World) (g : Nat) (r : Rul) (hp : tmps.getD p undef = .pointer (some ⟨g, 0, none⟩)) (hg : RuAt w g r) :
    (results fn tmps).run Tryz.prog w = .ok (rv r) w :=
  results_cell_row h tmps w g 72 _ (0, 0) _ hp hg Tryz.underlying72 rfl (by rw [infoRule]; rfl)

/-- While a rule is read: its variable, and what is kept. -/
structure PR (w0 : World) (b : Nat) (r : Rul) (w : World) : Prop where
  ru : RuAt w w0.heap.size r
  kp : Keep (fun i => i = b) w0 w
  lt : b < w0.heap.size
theorem PR.step {w0 w w' : World} {b : Nat} {r : Rul} (h : PR w0 b r w) (hk : Keep (fun i => i = b) w w') : PR w0 b r w' := ⟨box_keep h.ru hk (by have := h.lt; omega), h.kp.trans hk, h.lt⟩
theorem PR.set {w0 w : World} {b : Nat} {r : Rul} (h : PR w0 b r w) (i : Nat) (v : Value) (r' : Rul) (e : (rc r).setIfInBounds i v = rc r') : PR w0 b r' (w.setCell ⟨w0.heap.size, i, none⟩ v) :=
  ⟨by have := block_setCell (i := i) h.ru v; rw [e] at this; exact this, h.kp.setNew (Nat.le_refl _) v, h.lt⟩
theorem PR.rdr {w0 w : World} {b : Nat} {r : Rul} {s : ByteArray} (h : PR w0 b r w) (hr : RdrAt w b s) (i : Nat) (v : Value) : RdrAt (w.setCell ⟨w0.heap.size, i, none⟩ v) b s := box_keep hr (setK w w0.heap.size i v) (by have := h.lt; omega)
end Go.Proofs.YtiplalbicibahaaGreatDoor

/- privacy: a rule is read; Parse. -/
set_option maxRecDepth 100000
namespace Go.Proofs.YtiplalbicibahaaGreatDoor
open Go.RowKit Go.Joins Go.Shelf

theorem cutZ_le (l : By) : (Nm.cutZ 32 l).length ≤ l.length := by unfold Nm.cutZ; rw [List.length_drop]; omega
theorem cutA_le (l : By) : (Nm.cutA 32 l).length ≤ l.length := by unfold Nm.cutA; rw [List.length_take]; omega
theorem verdictR_len (l : By) : (verdictR l).2.1.length ≤ l.length := by
  have := cutZ_le l
  unfold verdictR
  split
  · split
    · exact this
    · exact Nat.zero_le _
  · exact Nat.zero_le _
theorem waysR_len (l : By) : (waysR l).2.2.1.length ≤ l.length := by
  have := cutZ_le l
  unfold waysR
  split
  · split
    · exact this
    · exact Nat.zero_le _
  · exact Nat.zero_le _

theorem rule_any (b : Nat) (l : By) (w : World) (h : RdrAt w b (ba l)) (hs : l.length ≤ 281474976710656) (hT : Lib.Utf8Tabs 0 1 w) (hb1 : b ≠ 0) (hb2 : b ≠ 1) :
    Calls Tryz.prog 71 #[.pointer (some ⟨b, 0, none⟩)] w fun e w' => Gv (parseR l).2 (rv (parseR l).1) e ∧ Keep (fun i => i = b) w w' := by
  have hl1 := verdictR_len l
  have hl2 := waysR_len (verdictR l).2.1
  have P0 : Hid (PR w b r0 (w.alloc (.cells #[.bool false, .bool false, .bool false, .string ⟨#[]⟩, .string ⟨#[]⟩] 72)) ∧ RdrAt (w.alloc (.cells #[.bool false, .bool false, .bool false, .string ⟨#[]⟩, .string ⟨#[]⟩] 72)) b (ba l)) := ⟨⟨push_at _ _ rfl, Keep.ofBelow (below1 _ _), box_lt h⟩, push_old h⟩
  have HT : Hid (Lib.Utf8Tabs 0 1 w ∧ b ≠ 0 ∧ b ≠ 1) := ⟨hT, hb1, hb2⟩
  have cV : Hid (∀ W, RdrAt W b (ba l) → Calls Tryz.prog 86 #[.pointer (some ⟨b, 0, none⟩)] W fun e w' => Gv (verdictR l).2.2 (.bool (verdictR l).1) e ∧ Keep (fun i => i = b) W w' ∧ ((verdictR l).2.2 = 0 → RdrAt w' b (ba (verdictR l).2.1))) := fun W hR => by
    have := verdict_any b (ba l) W hR (by rw [ba_size]; exact hs)
    rwa [ba_list] at this
  have cY : Hid (∀ W, RdrAt W b (ba (verdictR l).2.1) → Calls Tryz.prog 87 #[.pointer (some ⟨b, 0, none⟩)] W fun e w' => Gv (waysR (verdictR l).2.1).2.2.2 (.tuple #[.bool (waysR (verdictR l).2.1).1, .bool (waysR (verdictR l).2.1).2.1]) e ∧ Keep (fun i => i = b) W w' ∧ ((waysR (verdictR l).2.1).2.2.2 = 0 → RdrAt w' b (ba (waysR (verdictR l).2.1).2.2.1))) := fun W hR => by
    have := ways_any b (ba (verdictR l).2.1) W hR (by rw [ba_size]; omega)
    rwa [ba_list] at this
  have cH : Hid (∀ W, PR w b r0 W ∨ True → Keep (fun i => i = b) w W → RdrAt W b (ba (waysR (verdictR l).2.1).2.2.1) → Calls Tryz.prog 88 #[.pointer (some ⟨b, 0, none⟩)] W fun e w' => Gv (whomR (waysR (verdictR l).2.1).2.2.1).2.2 (.tuple #[.string (ba (whomR (waysR (verdictR l).2.1).2.2.1).1), .string (ba (whomR (waysR (verdictR l).2.1).2.2.1).2.1)]) e ∧ Keep (fun i => i = b) W w') := fun W _ hk hR =>
    whom_any b (waysR (verdictR l).2.1).2.2.1 W hR (by omega) (tabs_keep hT hk (fun e => hb1 e.symm) (fun e => hb2 e.symm)) hb1 hb2
  clear h hT hb1 hb2 hl1 hl2 hs HT
  unfold parseR
  generalize waysR (verdictR l).2.1 = y at *
  generalize verdictR l = v at *
  generalize whomR y.2.2.1 = u at *
  obtain ⟨al, l1, n1⟩ := v
  obtain ⟨i, o, l2, n2⟩ := y
  obtain ⟨k, vv, n3⟩ := u
  dsimp only at *
  by_cases h1 : n1 = 0
  · rw [if_pos h1]
    by_cases h2 : n2 = 0
    · rw [if_pos h2]
      by_cases h3 : n3 = 0
      · rw [if_pos h3]
        show Calls _ _ _ _ fun e w' => Gv 0 (rv ⟨al, i, o, k, vv⟩) e ∧ _
        replace h1 : Hid (n1 = 0) := h1
        replace h2 : Hid (n2 = 0) := h2
        replace h3 : Hid (n3 = 0) := h3
        go_enter Tryz.func71, Tryz.ntmps71
        go_upto_region 1 with fail
        generalize hW0 : w.alloc _ = W0 at P0 ⊢
        clear hW0
        have c1 := gv_calls_ok (cV.out W0 P0.out.2) h1.out
        go_upto_region 2 with (first
          | (go_at_call 86; refine c1.mono ?_; clear c1; rintro e w1 ⟨rfl, hk1, hr1⟩; have P1 : Hid (PR w b r0 w1 ∧ RdrAt w1 b (ba l1)) := ⟨P0.out.1.step hk1, hr1 h1.out⟩; clear hk1 hr1; have q0 := P1.out.1.ru.c0; have f0 := P1.out.1.ru.fz 0))
        have P2 : Hid (PR w b ⟨al, false, false, [], []⟩ (w1.setCell ⟨w.heap.size, 0, none⟩ (.bool al)) ∧ RdrAt (w1.setCell ⟨w.heap.size, 0, none⟩ (.bool al)) b (ba l1)) := ⟨P1.out.1.set 0 _ _ rfl, P1.out.1.rdr P1.out.2 0 _⟩
        clear q0 f0 P1 P0
        generalize w1.setCell _ _ = W1 at P2 ⊢
        have c1 := gv_calls_ok (cY.out W1 P2.out.2) h2.out
        go_upto_region 3 with (first
          | (go_at_call 87; refine c1.mono ?_; clear c1; rintro e w2 ⟨rfl, hk1, hr1⟩; have P3 : Hid (PR w b ⟨al, false, false, [], []⟩ w2 ∧ RdrAt w2 b (ba l2)) := ⟨P2.out.1.step hk1, hr1 h2.out⟩; clear hk1 hr1; have q1 := P3.out.1.ru.c1; have f1 := P3.out.1.ru.fz 1; have q2 := P3.out.1.ru.c2; have f2 := P3.out.1.ru.fz 2))
        have P4 : Hid (PR w b ⟨al, i, o, [], []⟩ ((w2.setCell ⟨w.heap.size, 1, none⟩ (.bool i)).setCell ⟨w.heap.size, 2, none⟩ (.bool o)) ∧ RdrAt ((w2.setCell ⟨w.heap.size, 1, none⟩ (.bool i)).setCell ⟨w.heap.size, 2, none⟩ (.bool o)) b (ba l2)) := by
          have a1 := P3.out.1.set 1 (.bool i) ⟨al, i, false, [], []⟩ rfl
          have a2 := P3.out.1.rdr P3.out.2 1 (.bool i)
          exact ⟨a1.set 2 _ _ rfl, a1.rdr a2 2 _⟩
        clear q1 f1 q2 f2 P3 P2
        generalize World.setCell (w2.setCell _ _) _ _ = W2 at P4 ⊢
        have c1 := gv_calls_ok (cH.out W2 (Or.inr trivial) P4.out.1.kp P4.out.2) h3.out
        go_upto_region 4 with (first
          | (go_at_call 88; refine c1.mono ?_; clear c1; rintro e w3 ⟨rfl, hk1⟩; have P5 : Hid (PR w b ⟨al, i, o, [], []⟩ w3) := P4.out.1.step hk1; clear hk1; have q1 := P5.out.ru.c3; have f1 := P5.out.ru.fz 3; have q2 := P5.out.ru.c4; have f2 := P5.out.ru.fz 4))
        have P6 : Hid (PR w b ⟨al, i, o, k, vv⟩ ((w3.setCell ⟨w.heap.size, 3, none⟩ (.string (ba k))).setCell ⟨w.heap.size, 4, none⟩ (.string (ba vv)))) := (P5.out.set 3 (.string (ba k)) ⟨al, i, o, k, []⟩ rfl).set 4 (.string (ba vv)) ⟨al, i, o, k, vv⟩ rfl
        clear q1 f1 q2 f2 P5 P4
        generalize World.setCell (w3.setCell _ _) _ _ = W3 at P6 ⊢
        obtain ⟨V, HV⟩ : ∃ V, Hid (rv ⟨al, i, o, k, vv⟩ = V) := ⟨_, rfl⟩
        have r5 := P6.out.ru.set ⟨al, i, o, k, vv⟩
        have k5 : Keep (fun j => j = b) w (W3.setRow w.heap.size (rc ⟨al, i, o, k, vv⟩)) := P6.out.kp.andThen (rowK W3 w.heap.size _) (fun i hi e => by omega)
        go_wp2_with (first
          | (refine wp_load_ru rfl (.tmp 2) rfl w.heap.size rfl ⟨al, i, o, k, vv⟩ P6.out.ru ?_; rw [HV.out])
          | (refine wp_store_ru rfl (.tmp 2) (.tmp 20) rfl w.heap.size rfl ⟨al, i, o, k, vv⟩ HV.out.symm _ P6.out.ru ?_))
        refine bodyPost_ret (v := V) ?_ rfl ⟨gv_ok (by rw [← HV.out]), k5⟩
        rw [← HV.out]
        exact res_ru rfl _ _ w.heap.size _ rfl r5
      · rw [if_neg h3]
        show Calls _ _ _ _ fun e w' => Gv n3 _ e ∧ _
        replace h1 : Hid (n1 = 0) := h1
        replace h2 : Hid (n2 = 0) := h2
        replace h3 : Hid (n3 ≠ 0) := h3
        go_enter Tryz.func71, Tryz.ntmps71
        go_upto_region 1 with fail
        generalize hW0 : w.alloc _ = W0 at P0 ⊢
        clear hW0
        have c1 := gv_calls_ok (cV.out W0 P0.out.2) h1.out
        go_upto_region 2 with (first
          | (go_at_call 86; refine c1.mono ?_; clear c1; rintro e w1 ⟨rfl, hk1, hr1⟩; have P1 : Hid (PR w b r0 w1 ∧ RdrAt w1 b (ba l1)) := ⟨P0.out.1.step hk1, hr1 h1.out⟩; clear hk1 hr1; have q0 := P1.out.1.ru.c0; have f0 := P1.out.1.ru.fz 0))
        have P2 : Hid (PR w b ⟨al, false, false, [], []⟩ (w1.setCell ⟨w.heap.size, 0, none⟩ (.bool al)) ∧ RdrAt (w1.setCell ⟨w.heap.size, 0, none⟩ (.bool al)) b (ba l1)) := ⟨P1.out.1.set 0 _ _ rfl, P1.out.1.rdr P1.out.2 0 _⟩
        clear q0 f0 P1 P0
        generalize w1.setCell _ _ = W1 at P2 ⊢
        have c1 := gv_calls_ok (cY.out W1 P2.out.2) h2.out
        go_upto_region 3 with (first
          | (go_at_call 87; refine c1.mono ?_; clear c1; rintro e w2 ⟨rfl, hk1, hr1⟩; have P3 : Hid (PR w b ⟨al, false, false, [], []⟩ w2 ∧ RdrAt w2 b (ba l2)) := ⟨P2.out.1.step hk1, hr1 h2.out⟩; clear hk1 hr1; have q1 := P3.out.1.ru.c1; have f1 := P3.out.1.ru.fz 1; have q2 := P3.out.1.ru.c2; have f2 := P3.out.1.ru.fz 2))
        have P4 : Hid (PR w b ⟨al, i, o, [], []⟩ ((w2.setCell ⟨w.heap.size, 1, none⟩ (.bool i)).setCell ⟨w.heap.size, 2, none⟩ (.bool o)) ∧ RdrAt ((w2.setCell ⟨w.heap.size, 1, none⟩ (.bool i)).setCell ⟨w.heap.size, 2, none⟩ (.bool o)) b (ba l2)) := by
          have a1 := P3.out.1.set 1 (.bool i) ⟨al, i, false, [], []⟩ rfl
          have a2 := P3.out.1.rdr P3.out.2 1 (.bool i)
          exact ⟨a1.set 2 _ _ rfl, a1.rdr a2 2 _⟩
        clear q1 f1 q2 f2 P3 P2
        generalize World.setCell (w2.setCell _ _) _ _ = W2 at P4 ⊢
        have c1 := gv_calls_no (cH.out W2 (Or.inr trivial) P4.out.1.kp P4.out.2) h3.out
        go_wp2_with (first
          | (go_at_call 88; refine c1.mono ?_; clear c1; rintro e w3 ⟨rfl, hk1⟩))
        exact ⟨rfl, gv_no h3.out rfl, P4.out.1.kp.trans hk1⟩
    · rw [if_neg h2]
      show Calls _ _ _ _ fun e w' => Gv n2 _ e ∧ _
      replace h1 : Hid (n1 = 0) := h1
      replace h2 : Hid (n2 ≠ 0) := h2
      go_enter Tryz.func71, Tryz.ntmps71
      go_upto_region 1 with fail
      generalize hW0 : w.alloc _ = W0 at P0 ⊢
      clear hW0
      have c1 := gv_calls_ok (cV.out W0 P0.out.2) h1.out
      go_upto_region 2 with (first
        | (go_at_call 86; refine c1.mono ?_; clear c1; rintro e w1 ⟨rfl, hk1, hr1⟩; have P1 : Hid (PR w b r0 w1 ∧ RdrAt w1 b (ba l1)) := ⟨P0.out.1.step hk1, hr1 h1.out⟩; clear hk1 hr1; have q0 := P1.out.1.ru.c0; have f0 := P1.out.1.ru.fz 0))
      have P2 : Hid (PR w b ⟨al, false, false, [], []⟩ (w1.setCell ⟨w.heap.size, 0, none⟩ (.bool al)) ∧ RdrAt (w1.setCell ⟨w.heap.size, 0, none⟩ (.bool al)) b (ba l1)) := ⟨P1.out.1.set 0 _ _ rfl, P1.out.1.rdr P1.out.2 0 _⟩
      clear q0 f0 P1 P0
      generalize w1.setCell _ _ = W1 at P2 ⊢
      have c1 := gv_calls_no (cY.out W1 P2.out.2) h2.out
      go_wp2_with (first
        | (go_at_call 87; refine c1.mono ?_; clear c1; rintro e w3 ⟨rfl, hk1, _⟩))
      exact ⟨rfl, gv_no h2.out rfl, P2.out.1.kp.trans hk1⟩
  · rw [if_neg h1]
    show Calls _ _ _ _ fun e w' => Gv n1 _ e ∧ _
    replace h1 : Hid (n1 ≠ 0) := h1
    go_enter Tryz.func71, Tryz.ntmps71
    go_upto_region 1 with fail
    generalize hW0 : w.alloc _ = W0 at P0 ⊢
    clear hW0
    have c1 := gv_calls_no (cV.out W0 P0.out.2) h1.out
    go_wp2_with (first
      | (go_at_call 86; refine c1.mono ?_; clear c1; rintro e w3 ⟨rfl, hk1, _⟩))
    exact ⟨rfl, gv_no h1.out rfl, P0.out.1.kp.trans hk1⟩
end Go.Proofs.YtiplalbicibahaaGreatDoor

/- privacy: begun, Parse. -/
set_option maxRecDepth 100000
namespace Go.Proofs.YtiplalbicibahaaGreatDoor
open Go.RowKit Go.Joins Go.Shelf

theorem parseR_no (l : By) (h : (parseR l).2 ≠ 0) : (parseR l).1 = r0 := by
  unfold parseR at h ⊢
  by_cases h1 : (verdictR l).2.2 = 0
  · rw [if_pos h1] at h ⊢
    by_cases h2 : (waysR (verdictR l).2.1).2.2.2 = 0
    · rw [if_pos h2] at h ⊢
      by_cases h3 : (whomR (waysR (verdictR l).2.1).2.2.1).2.2 = 0
      · rw [if_pos h3] at h; exact absurd rfl h
      · rw [if_neg h3]
    · rw [if_neg h2]
  · rw [if_neg h1]

theorem res_ru2 {fn : Func} {p t : Tmp} (h : fn.results = #[.cell p 72, .cell t 24]) (tmps : Array Value) (w : World) (g g2 : Nat) (r : Rul) (n : Int) (hp : tmps.getD p undef = .pointer (some ⟨g, 0, none⟩)) (ht : tmps.getD t undef = .pointer (some ⟨g2, 0, none⟩))
    (hg : RuAt w g r) (h2 : w.cell? ⟨g2, 0, none⟩ = some (.int .i64 n)) : (results fn tmps).run Tryz.prog w = .ok (.tuple #[rv r, .int .i64 n]) w := by
  have hr := hg.load
  have hr2 : (loadVar 24 ⟨g2, 0, none⟩).run Tryz.prog w = .ok (.int .i64 n) w := by simp [go_sem, h2]
  have hp' : tmps[p]?.getD undef = .pointer (some ⟨g, 0, none⟩) := by simpa using hp
  have ht' : tmps[t]?.getD undef = .pointer (some ⟨g2, 0, none⟩) := by simpa using ht
  simp [results, h, hp', ht', asAddr, hr, hr2]
theorem res_ru1 {fn : Func} {p t : Tmp} (h : fn.results = #[.cell p 72, .tmp t]) (tmps : Array Value) (w : World) (g : Nat) (r : Rul) (v : Value) (hp : tmps.getD p undef = .pointer (some ⟨g, 0, none⟩)) (ht : tmps.getD t undef = v)
    (hg : RuAt w g r) : (results fn tmps).run Tryz.prog w = .ok (.tuple #[rv r, v]) w := by
  have hr := hg.load
  have hp' : tmps[p]?.getD undef = .pointer (some ⟨g, 0, none⟩) := by simpa using hp
  have ht' : tmps[t]?.getD undef = v := by simpa using ht
  simp [results, h, hp', ht', asAddr, hr]

theorem catchP_panicking (p : Addr) (x : Int) (n : Nat) (w : World) (hc : w.cell? p = some (.int .i64 x)) (hz : w.frozen? p = false) :
    CallsD Tryz.prog 85 #[.pointer (some p)] (.panicking (gaveP n)) w fun e u' w' =>
      e = .returned (.tuple #[]) ∧ u' = .panicking [{ v := .iface 127 (.agg #[.int .i64 n]), recovered := true }] ∧ w' = w.setCell p (.int .i64 n) := by
  unfold gaveP
  refine callsD_of_wpS Tryz.func85 rfl fun c₀ cs hu => ?_
  apply wpS_seq
  apply wpS_region
  simp [wpOpsS, go_sem, recoverD, hu, Tryz.ntmps85, Exit.thenS]
  refine wpS_of_wp ?_
  rw [show #[Value.pointer (some p)] ++ ((Array.replicate 7 undef).setIfInBounds 1 (Value.iface 127 (Value.agg #[Value.int IntKind.i64 n]))).setIfInBounds 0 (Value.iface 127 (Value.agg #[Value.int IntKind.i64 n])) = #[Value.pointer (some p), Value.iface 127 (Value.agg #[Value.int IntKind.i64 n]), Value.iface 127 (Value.agg #[Value.int IntKind.i64 n]), undef, undef, undef, undef, undef] from rfl]
  have hta : (Instr.typeAssert (Value.iface 127 (Value.agg #[Value.int IntKind.i64 n])) 20 127 false).run Tryz.prog w = .ok (Value.agg #[Value.int IntKind.i64 n]) w := by
    simp [Instr.typeAssert, go_sem]
  have hfd : (Instr.field 127 (Value.agg #[Value.int IntKind.i64 n]) 0).run Tryz.prog w = .ok (Value.int IntKind.i64 n) w := by
    simp [Instr.field, go_sem, asAgg]
  go_wp2
  simp [bodyPostS, results, Tryz.results85]
theorem catchP_idle (p : Addr) (w : World) :
    CallsD Tryz.prog 85 #[.pointer (some p)] .returning w fun e u' w' => e = .returned (.tuple #[]) ∧ u' = .returning ∧ w' = w := by
  refine callsD_of_wpS Tryz.func85 rfl fun c₀ cs hu => ?_
  apply wpS_seq
  apply wpS_region
  simp [wpOpsS, go_sem, recoverD, hu, Tryz.ntmps85, Exit.thenS]
  refine wpS_of_wp ?_
  rw [show #[Value.pointer (some p)] ++ ((Array.replicate 7 undef).setIfInBounds 1 Value.nilIface).setIfInBounds 0 Value.nilIface = #[Value.pointer (some p), Value.nilIface, Value.nilIface, undef, undef, undef, undef, undef] from rfl]
  go_wp2
  cases c₀
  simp_all [bodyPostS, results, Tryz.results85]

abbrev oRul : Obj := .cells #[.bool false, .bool false, .bool false, .string ⟨#[]⟩, .string ⟨#[]⟩] 72
abbrev oErr : Obj := .cells #[.int .i64 0] 24
set_option maxHeartbeats 1600000 in
theorem begun_any (k : Nat) (x : Value) (n : Nat) (r : Rul) (hr : n ≠ 0 → r = r0) (S : Nat → Prop) (w : World) (hent : ∀ args w, (callFunc k args).run Tryz.prog w = .ok (.enter k args) w) (hS : ∀ i, w.heap.size ≤ i → ¬ S i)
    (hc : Calls Tryz.prog k #[x] ((w.alloc oRul).alloc oErr) fun e w' => Gv n (rv r) e ∧ Keep S ((w.alloc oRul).alloc oErr) w') :
    Calls Tryz.prog 70 #[.func (.func k) #[x] #[]] w fun e w' => e = .returned (.tuple #[rv r, .int .i64 n]) ∧ Keep S w w' := by
  have hmf : ∀ (fn : Fn) (first cap : Array Value) (w : World), (Instr.makeFunc fn first cap).run Tryz.prog w = .ok (.func fn first cap) w := fun _ _ _ _ => rfl
  have hz0 : RuAt ((w.alloc oRul).alloc oErr) w.heap.size r0 := push_old (push_at _ _ rfl)
  have hz1 : ((w.alloc oRul).alloc oErr).heap[w.heap.size + 1]? = some (.cells #[.int .i64 0] 24 (0, 0)) := push_at _ _ (by simp)
  have hbW : Below w.heap.size w ((w.alloc oRul).alloc oErr) := below2 _ _ _
  have hkS : ∀ w', Keep S ((w.alloc oRul).alloc oErr) w' → Keep S w w' := fun w' k => (Keep.ofBelow hbW).trans k
  have hk0 : ∀ w', Keep S ((w.alloc oRul).alloc oErr) w' → RuAt w' w.heap.size r0 := fun w' k => box_keep hz0 k (hS _ (Nat.le_refl _))
  have hk1 : ∀ w', Keep S ((w.alloc oRul).alloc oErr) w' → w'.heap[w.heap.size + 1]? = some (.cells #[.int .i64 0] 24 (0, 0)) := fun w' k => box_keep hz1 k (hS _ (by omega))
  clear hz0 hz1 hbW hS
  obtain ⟨V, HV⟩ : ∃ V, Hid (rv r = V) := ⟨_, rfl⟩
  by_cases h0 : n = 0
  · subst h0
    have hc' := hc.mono (fun e w' h => And.intro (h.1.elim (fun k => k.2) (fun k => absurd rfl k.1)) h.2 : ∀ e w', _ → (e = .returned (rv r) ∧ _))
    rw [HV.out] at hc'
    clear hc hr
    go_enter_defers Tryz.func70, Tryz.ntmps70
    go_wp2_with (first
      | (go_at_fn k; refine hc'.mono ?_; rintro e w1 ⟨rfl, hB⟩; have z0 := hk0 w1 hB; have z1 := hk1 w1 hB; have hKS := hkS w1 hB; have s1 := box_keep z1 (rowK w1 w.heap.size (rc r)) (by omega); have hcl := p_cell s1; have hfz := p_thaw s1)
      | (refine wp_store_ru rfl (.tmp 2) (.tmp 6) rfl w.heap.size rfl r HV.out.symm _ z0 ?_))
    refine leaves_cons (f := 85) (args := #[.pointer (some ⟨w.heap.size + 1, 0, none⟩)]) (by simp) (by simp [go_sem]) ?_
    refine (catchP_idle ⟨w.heap.size + 1, 0, none⟩ _).mono ?_
    rintro e u' w2 ⟨rfl, rfl, hw2⟩
    have y0 : RuAt w2 w.heap.size r := by rw [hw2]; exact box_keep (z0.set r) (setK _ (w.heap.size + 1) 0 _) (by omega)
    have y1 : w2.cell? ⟨w.heap.size + 1, 0, none⟩ = some (.int .i64 0) := by rw [hw2]; exact p_cell (block_setCell (i := 0) s1 (.int .i64 0))
    have hk2 : Keep S w w2 := by rw [hw2]; exact (hKS.andThen (rowK w1 w.heap.size (rc r)) (fun i hi e => by omega)).setNew (by show w.heap.size ≤ w.heap.size + 1; omega) _
    clear hw2 hcl hfz s1 z0 z1
    simp only [Leaves, settle]
    exact ⟨_, res_ru2 (by rfl) _ w2 _ _ _ _ (by rfl) (by rfl) y0 y1, rfl, hk2⟩
  · obtain rfl := hr h0
    have hc' := hc.mono (fun e w' h => And.intro (h.1.elim (fun k => absurd k.1 h0) (fun k => k.2)) h.2 : ∀ e w', _ → (e = .panicked (gaveP n) ∧ _))
    clear hc hr
    go_enter_defers Tryz.func70, Tryz.ntmps70
    go_wp2_with (first
      | (go_at_fn k; refine hc'.mono ?_; rintro e w1 ⟨rfl, hB⟩; have z0 := hk0 w1 hB; have z1 := hk1 w1 hB; have hKS := hkS w1 hB; have hcl := p_cell z1; have hfz := p_thaw z1))
    refine leaves_cons (f := 85) (args := #[.pointer (some ⟨w.heap.size + 1, 0, none⟩)]) (by simp) (by simp [go_sem]) ?_
    refine (catchP_panicking ⟨w.heap.size + 1, 0, none⟩ 0 n _ hcl hfz).mono ?_
    rintro e u' w2 ⟨rfl, rfl, hw2⟩
    have y0 : RuAt w2 w.heap.size r0 := by rw [hw2]; exact box_keep z0 (setK _ (w.heap.size + 1) 0 _) (by omega)
    have y1 : w2.cell? ⟨w.heap.size + 1, 0, none⟩ = some (.int .i64 n) := by rw [hw2]; exact p_cell (block_setCell (i := 0) z1 (.int .i64 n))
    have hk2 : Keep S w w2 := by rw [hw2]; exact hKS.setNew (by show w.heap.size ≤ w.heap.size + 1; omega) _
    clear hw2 hcl hfz z0 z1
    simp only [settle]
    exact ⟨_, res_ru2 (by rfl) _ w2 _ _ _ _ (by rfl) (by rfl) y0 y1, rfl, hk2⟩

theorem tab_lt {w : World} (hT : Lib.Utf8Tabs 0 1 w) : 0 < w.heap.size ∧ 1 < w.heap.size :=
  ⟨World.block_lt_of_cell? w _ (hT.1 0 (by omega)), World.block_lt_of_cell? w _ (hT.2 0 (by omega)).1⟩

/-- What Parse answers. -/
def prv (l : By) : Value := .tuple #[rv (parseR l).1, .int .i64 (parseR l).2]
set_option maxHeartbeats 1600000 in
theorem parse_any (l : By) (w : World) (hs : l.length ≤ 281474976710656) (hT : Lib.Utf8Tabs 0 1 w) :
    Calls Tryz.prog 58 #[.string (ba l)] w fun e w' => e = .returned (prv l) ∧ Below w.heap.size w w' := by
  obtain ⟨t1, t2⟩ := tab_lt hT
  have hmf : ∀ (fn : Fn) (first cap : Array Value) (w : World), (Instr.makeFunc fn first cap).run Tryz.prog w = .ok (.func fn first cap) w := fun _ _ _ _ => rfl
  have hbW := below2 w oRul (.cells #[.string (ba l)] 110)
  have hR : RdrAt ((w.alloc oRul).alloc (.cells #[.string (ba l)] 110)) (w.heap.size + 1) (ba l) := push_at _ _ (by simp)
  have hU : RuAt ((w.alloc oRul).alloc (.cells #[.string (ba l)] 110)) w.heap.size r0 := push_old (push_at _ _ rfl)
  have hT1 := tabs_bel hT hbW
  generalize hW : (w.alloc oRul).alloc (.cells #[.string (ba l)] 110) = W at hbW hR hU hT1
  have HW : Hid ((w.alloc oRul).alloc (.cells #[.string (ba l)] 110) = W) := hW
  have hlt := box_lt hR
  have cR := rule_any (w.heap.size + 1) l ((W.alloc oRul).alloc oErr) (push_old (push_old hR)) hs (tabs_bel hT1 (below2 _ _ _)) (by omega) (by omega)
  have cB := begun_any 71 (.pointer (some ⟨w.heap.size + 1, 0, none⟩)) (parseR l).2 (parseR l).1 (parseR_no l) (fun i => i = w.heap.size + 1) W (enters_of Tryz.func71 (by kernel_rfl) rfl) (fun i hi e => by omega) cR
  have HU : Hid (RuAt W w.heap.size r0 ∧ Below w.heap.size w W ∧ w.heap.size + 1 < W.heap.size) := ⟨hU, hbW, hlt⟩
  clear hW cR hR hU hT hT1 hbW hlt t1 t2
  unfold prv
  generalize parseR l = p at *
  obtain ⟨r, n⟩ := p
  dsimp only at cB ⊢
  obtain ⟨V, HV⟩ : ∃ V, Hid (rv r = V) := ⟨_, rfl⟩
  rw [HV.out] at cB ⊢
  generalize ba l = L at *
  go_enter Tryz.func58, Tryz.ntmps58
  go_upto_region 2 with fail
  rw [HW.out]
  go_wp2_with (first
    | (go_at_call 70; refine cB.mono ?_; clear cB; rintro e w1 ⟨rfl, hk⟩; have A1 := box_keep HU.out.1 hk (by omega))
    | (refine wp_store_ru rfl (.tmp 2) (.tmp 9) rfl w.heap.size rfl r HV.out.symm _ A1 ?_))
  refine bodyPost_ret (v := .tuple #[V, .int .i64 n]) ?_ rfl ⟨rfl, ?_⟩
  · rw [← HV.out]
    exact res_ru1 rfl _ _ w.heap.size _ _ rfl rfl (RuAt.set A1 r)
  · exact (HU.out.2.1.trans (hk.below HU.out.2.1.size (fun j e => by omega))).trans ((rowK w1 w.heap.size _).below (by have := hk.size; have := HU.out.2.1.size; omega) (fun j e => by omega))
end Go.Proofs.YtiplalbicibahaaGreatDoor

/- privacy: rows of texts and of rules; read. -/
set_option maxRecDepth 100000
namespace Go.Proofs.YtiplalbicibahaaGreatDoor
open Go.RowKit Go.Joins Go.Shelf

/-- 'append(v, x)' of one element, its cells in a new block. -/
theorem wp_app1 (t e : TypeId) (z : Value) (size bytes : Nat) (ht : Tryz.prog.underlying t = some (.slice e)) (hif : (Tryz.prog.info? e).map (fun i => (i.zero, i.size, i.bytes)) = some (some z, size, bytes)) (hzs : z.cells.size = size) (hsz : 0 < size) (hby : bytes ≤ 100)
    {w : World} {ops : Array Oper} {rest : List Oper} {o : Oper} {a : Act} {Q : Exit → Act → World → Prop} (hgd : o.guard = none) (s x : Operand)
    (ho : o.op = .call { callee := .builtin .append, args := #[s, x], argTypes := #[t, t] })
    (base : Nat) (v : Value) (n : Nat) (xs : List Value) (hs : a.eval s = v) (hown : w.ownsRow base e size v n xs) (cs : Array Value) (hcs : cs.size = size) (hone : ∀ u ∈ cs.toList, u.oneCell' = true)
    (hx : a.eval x = .slice (some ⟨w.heap.size, 0, none⟩) 1 1) (hn : n ≤ 1000000) (hbase : base ≤ w.heap.size)
    (h : ∀ v' w', w'.ownsRow base e size v' (n + 1) (xs ++ cs.toList) → Keep (fun k => v.ownBlock = some k) w w' → (v' ≠ .slice none 0 0) → wpList Tryz.prog ops Q rest (a.put o.dst v') w') : wpList Tryz.prog ops Q (o :: rest) a (w.alloc (.cells cs e)) := by
  obtain ⟨i0, hi, hz0, hz1, hz2⟩ := info_parts hif
  have hk0 : Keep (fun k => v.ownBlock = some k) w (w.alloc (.cells cs e)) := (Keep.refl _ _).alloc _
  have hown1 : (w.alloc (.cells cs e)).ownsRow base e size v n xs := own_keep (S := fun _ => False) hown ((Keep.refl _ _).alloc _) (fun _ _ h => h)
  refine wpList_append_own (w.alloc (.cells cs e)) hgd s x t ho base e i0 z size bytes ht hi hz0 hz1 hz2 hzs hsz v n xs hs hown1 ⟨w.heap.size, 0, none⟩ 1 1 cs.toList hx (by simp [hcs]) (fun j u hu => ?_) hone (by unfold maxLen; omega) (by
    have : (n + 1) * bytes ≤ (1000000 + 1) * 100 := Nat.mul_le_mul (by omega) hby
    omega) (by simp; omega) ?_
  · rw [add_flat, Nat.zero_add, cell_of_block (alloc_at w (.cells cs e))]
    simpa using hu
  · intro v' w' k1 k2 k3
    refine h v' w' k1 (hk0.trans (Keep.ofGrown k2)) (fun e => ?_)
    have := k3.1 e
    omega
theorem infoStr1 : (Tryz.prog.info? 9).map (fun i => (i.zero, i.size, i.bytes)) = some (some (.string ByteArray.empty), 1, 16) := by kernel_rfl
theorem infoRule5 : (Tryz.prog.info? 72).map (fun i => (i.zero, i.size, i.bytes)) = some (some (.agg #[.bool false, .bool false, .bool false, .string ByteArray.empty, .string ByteArray.empty]), 5, 40) := by kernel_rfl

/-! ### rows of texts -/
/-- What a slice of texts reads as. -/
structure TRd (w : World) (a : Option Addr) (n c : Nat) (ts : List By) : Prop where
  len : ts.length = n
  cap : n ≤ c
  most : c ≤ maxLen
  flat : 0 < n → ∃ b off, a = some ⟨b, off, none⟩ ∧ ∀ j, j < n → w.cell? ⟨b, off + j, none⟩ = some (.string (ba (ts.getD j [])))
  nil0 : a = none → c = 0
theorem TRd.below {w w' : World} {a : Option Addr} {n c : Nat} {ts : List By} (h : TRd w a n c ts) (hb : Below w.heap.size w w') : TRd w' a n c ts := by
  refine ⟨h.len, h.cap, h.most, fun h0 => ?_, h.nil0⟩
  obtain ⟨b, off, e, hc⟩ := h.flat h0
  exact ⟨b, off, e, fun j hj => (hb.cell (World.block_lt_of_cell? w _ (hc j hj))).trans (hc j hj)⟩
theorem TRd.nil (w : World) : TRd w none 0 0 [] := ⟨rfl, Nat.le_refl _, by unfold maxLen; omega, fun h => by omega, fun _ => rfl⟩
def tc (ts : List By) : List Value := ts.map fun t => .string (ba t)
theorem tc_len (ts : List By) : (tc ts).length = ts.length := by simp [tc]
theorem tc_app (ts us : List By) : tc (ts ++ us) = tc ts ++ tc us := by simp [tc]
theorem TRd.ofOwn {w : World} {base : Nat} {v : Value} {n : Nat} {ts : List By} (h : w.ownsRow base 9 1 v n (tc ts)) : ∃ a c, v = .slice a n c ∧ TRd w a n c ts := by
  have hl : ts.length = n := by have := h.1; simpa [tc_len] using this
  rcases h.2 with ⟨hv, hn⟩ | ⟨g, cap, cur, hv, hg, hh, hnc, hm, hsz, ht⟩
  · subst hv; subst hn
    exact ⟨none, 0, rfl, hl, Nat.le_refl _, by unfold maxLen; omega, fun h => by omega, fun _ => rfl⟩
  · subst hv
    refine ⟨some ⟨g, 0, none⟩, cap, rfl, hl, hnc, hm, fun h0 => ⟨g, 0, rfl, fun j hj => ?_⟩, fun e => by cases e⟩
    have hcell := h.cells (g := g) rfl j (.string (ba (ts.getD j []))) (by
      have : j < ts.length := by omega
      simp [tc, List.getD, List.getElem?_eq_getElem this])
    rw [add_flat] at hcell
    exact hcell

/-! ### rows of rules -/
def rcs (rs : List Rul) : List Value := rs.flatMap fun r => (rc r).toList
theorem rcs_len (rs : List Rul) : (rcs rs).length = rs.length * 5 := by
  induction rs with
  | nil => rfl
  | cons a q ih => show (rcs q).length + 5 = _; rw [ih, List.length_cons]; omega
theorem rcs_app (rs qs : List Rul) : rcs (rs ++ qs) = rcs rs ++ rcs qs := by unfold rcs; rw [List.flatMap_append]
theorem rcs_get : ∀ (rs : List Rul) (j : Nat) (r : Rul), rs[j]? = some r → ∀ i u, (rc r)[i]? = some u → (rcs rs)[j * 5 + i]? = some u
  | [], j, r, h, _, _, _ => by cases h
  | a :: q, 0, r, h, i, u, hu => by
    have : a = r := by simpa using h
    subst this
    show ((rc a).toList ++ rcs q)[0 * 5 + i]? = some u
    have hi : i < (rc a).toList.length := by
      have := (Array.getElem?_eq_some_iff.1 hu).1
      simpa using this
    rw [Nat.zero_mul, Nat.zero_add, List.getElem?_append_left hi, Array.getElem?_toList]
    exact hu
  | a :: q, j + 1, r, h, i, u, hu => by
    show ((rc a).toList ++ rcs q)[(j + 1) * 5 + i]? = some u
    have hl : (rc a).toList.length = 5 := rfl
    rw [List.getElem?_append_right (by omega), hl, show (j + 1) * 5 + i - 5 = j * 5 + i by omega]
    exact rcs_get q j r (by simpa using h) i u hu
/-- Where a row of rules lies: its block (none: nil), length, capacity. -/
abbrev Rw := Option Nat × Nat × Nat
def rsl (f : Rw) : Value := .slice (f.1.map fun g => ⟨g, 0, none⟩) f.2.1 f.2.2
structure RRd (w : World) (f : Rw) (rs : List Rul) : Prop where
  len : rs.length = f.2.1
  cap : f.2.1 ≤ f.2.2
  most : f.2.2 ≤ maxLen
  typ : ∀ g, f.1 = some g → ∃ cur, w.heap[g]? = some (.cells cur 72 (0, 0))
  row : 0 < f.2.1 → ∃ g, f.1 = some g ∧ ∀ j r, rs[j]? = some r → w.rangeAt g (j * 5) (rc r).toList
theorem RRd.keep {S : Nat → Prop} {w w' : World} {f : Rw} {rs : List Rul} (h : RRd w f rs) (hk : Keep S w w') (hs : ∀ g, f.1 = some g → ¬ S g) : RRd w' f rs := by
  refine ⟨h.len, h.cap, h.most, fun g hg => ?_, fun h0 => ?_⟩
  · obtain ⟨cur, hc⟩ := h.typ g hg
    exact ⟨cur, box_keep hc hk (hs g hg)⟩
  · obtain ⟨g, hg, hr⟩ := h.row h0
    exact ⟨g, hg, fun j r hj i u hu => hk.cell (p := ⟨g, j * 5 + i, none⟩) (hr j r hj i u hu) (hs g hg)⟩
theorem RRd.below {w w' : World} {f : Rw} {rs : List Rul} (h : RRd w f rs) (hb : Below w.heap.size w w') : RRd w' f rs := h.keep (S := fun _ => False) (Keep.ofBelow hb) (fun _ _ h => h)
theorem RRd.nil (w : World) : RRd w (none, 0, 0) [] := ⟨rfl, Nat.le_refl _, (Nat.zero_le _), (fun _ h => by cases h), (fun h => absurd h (Nat.lt_irrefl 0))⟩
theorem RRd.ofOwn {w : World} {base : Nat} {v : Value} {n : Nat} {rs : List Rul} (h : w.ownsRow base 72 5 v n (rcs rs)) : ∃ f : Rw, v = rsl f ∧ RRd w f rs ∧ f.2.1 = n ∧ ∀ g, f.1 = some g → base ≤ g ∧ g < w.heap.size := by
  have hl : rs.length = n := by have := h.1; rw [rcs_len] at this; omega
  rcases h.2 with ⟨hv, hn⟩ | ⟨g, cap, cur, hv, hg, hh, hnc, hm, hsz, ht⟩
  · subst hv; subst hn
    have : rs = [] := List.eq_nil_of_length_eq_zero hl
    subst this
    exact ⟨(none, 0, 0), rfl, RRd.nil w, rfl, fun g h => by cases h⟩
  · subst hv
    refine ⟨(some g, n, cap), rfl, ⟨hl, hnc, hm, fun g' e => by cases e; exact ⟨cur, hh⟩, fun _ => ⟨g, rfl, fun j r hj i u hu => ?_⟩⟩, rfl, fun g' e => by cases e; exact ⟨hg, box_lt hh⟩⟩
    have hcell := h.cells (g := g) rfl (j * 5 + i) u (rcs_get rs j r hj i u (by rw [← Array.getElem?_toList]; exact hu))
    rw [add_flat, Nat.zero_add] at hcell
    exact hcell

/-! ### read -/
def readR : List By → List Rul × Nat
  | [] => ([], 0)
  | t :: ts => if (parseR t).2 = 0 then (if (readR ts).2 = 0 then ((parseR t).1 :: (readR ts).1, 0) else ([], (readR ts).2)) else ([], (parseR t).2)
theorem readR_bad (ts : List By) : ∀ (ps : List By), (∀ p ∈ ps, (parseR p).2 = 0) → ∀ t, (parseR t).2 ≠ 0 → readR (ps ++ t :: ts) = ([], (parseR t).2)
  | [], _, t, ht => by rw [List.nil_append, readR, if_neg ht]
  | p :: ps, h, t, ht => by
    rw [List.cons_append, readR, if_pos (h p (by simp)), readR_bad ts ps (fun q hq => h q (by simp [hq])) t ht, if_neg ht]
theorem readR_all : ∀ (ps : List By), (∀ p ∈ ps, (parseR p).2 = 0) → readR ps = (ps.map fun p => (parseR p).1, 0)
  | [], _ => rfl
  | p :: ps, h => by rw [readR, if_pos (h p (by simp)), readR_all ps (fun q hq => h q (by simp [hq]))]; rfl
theorem readR_le : ∀ ts : List By, (readR ts).2 = 0 → (readR ts).1.length = ts.length
  | [], _ => rfl
  | t :: ts, h => by
    rw [readR] at h ⊢
    by_cases h1 : (parseR t).2 = 0
    · rw [if_pos h1] at h ⊢
      by_cases h2 : (readR ts).2 = 0
      · rw [if_pos h2]; simp [readR_le ts h2]
      · rw [if_neg h2] at h; exact absurd h h2
    · rw [if_neg h1] at h; exact absurd h h1

/-- What read answers. -/
def Readed (ts : List By) (w : World) (e : Ending) (w' : World) : Prop :=
  (((readR ts).2 = 0 ∧ ∃ v, e = .returned (.tuple #[v, .int .i64 0]) ∧ w'.ownsRow w.heap.size 72 5 v ts.length (rcs (readR ts).1)) ∨ ((readR ts).2 ≠ 0 ∧ e = .returned (.tuple #[.slice none 0 0, .int .i64 ((readR ts).2 : Nat)]))) ∧ Below w.heap.size w w'
theorem ownR_sl {W : World} {lo n sz : Nat} {e : TypeId} {v : Value} {xs : List Value} (h : W.ownsRow lo e sz v n xs) : ∃ a c, v = .slice a n c := by
  rcases h.2 with ⟨rfl, rfl⟩ | ⟨g, cap, cur, rfl, _⟩
  · exact ⟨none, 0, rfl⟩
  · exact ⟨_, _, rfl⟩
set_option maxHeartbeats 2000000 in
theorem read_any (a : Option Addr) (n c : Nat) (ts : List By) (w : World) (hR : TRd w a n c ts) (hn : n ≤ 100000) (hs : ∀ t ∈ ts, t.length ≤ 2000000) (hT : Lib.Utf8Tabs 0 1 w) :
    Calls Tryz.prog 41 #[.slice a n c] w (Readed ts w) := by
  have Hn : Hid (ts.length = n) := hR.len
  have HT : Hid (Lib.Utf8Tabs 0 1 w) := hT
  clear hT
  obtain ⟨N, HN⟩ : ∃ N, Hid (n = N) := ⟨_, rfl⟩
  go_enter Tryz.func41, Tryz.ntmps41
  go_upto_region 3 with fail
  go_loopw [4, 6, 7, 8, 11] (fun s4 _ _ _ s11 wr => ∃ (j : Nat) (v : Value), s4 = v ∧ s11 = .int .i64 j ∧ j ≤ n ∧ Hid (∀ p ∈ ts.take j, (parseR p).2 = 0) ∧ Hid (wr.ownsRow w.heap.size 72 5 v j (rcs ((ts.take j).map fun p => (parseR p).1))) ∧ Hid (Below w.heap.size w wr)) (fun _ _ _ _ s11 _ => n - (intOf s11).toNat)
  case atStart =>
    refine ⟨0, _, rfl, rfl, by omega, fun p hp => by simp at hp, ?_, Below.refl _ _⟩
    exact World.ownsRow_nil _ _ _ _
  case round =>
    obtain ⟨j, v, h4, rfl, hjn, HP, HR, HB⟩ := hrel
    replace h4 := h4.symm
    subst h4
    by_cases hlt : j < n
    · have hcl : (j : Int) < (n : Int) := by omega
      obtain ⟨b, off, rfl, hce⟩ := (hR.below HB.out).flat (by omega)
      have hcj := hce j hlt
      clear hce
      obtain ⟨y, hy⟩ : ∃ y, ts[j]? = some y := ⟨_, List.getElem?_eq_getElem (by rw [Hn.out]; exact hlt)⟩
      rw [show ts.getD j [] = y by rw [List.getD_eq_getElem?_getD, hy]; rfl] at hcj
      have hys := hs y (List.mem_of_getElem? hy)
      have HTk : Hid (ts.take (j + 1) = ts.take j ++ [y]) := by
        show _ = _
        rw [List.take_add_one, hy]; rfl
      have HTd : Hid (ts = ts.take j ++ y :: ts.drop (j + 1)) := by
        show _ = _
        have e := List.getElem?_eq_some_iff.1 hy
        rw [← e.2]
        exact (List.take_append_drop j ts).symm.trans (by rw [List.drop_eq_getElem_cons e.1])
      have ov := HR.out
      obtain ⟨av, cv, hv⟩ := ownR_sl ov
      subst hv
      clear hy
      have cP := parse_any y wr (by omega) (tabs_bel HT.out (HB.out.mono (by omega)))
      have HY : Hid ((parseR y).2 ≠ 0 → readR ts = ([], (parseR y).2)) := fun h => by
        have e := HTd.out
        have := readR_bad (ts.drop (j + 1)) (ts.take j) HP.out y h
        rw [← e] at this
        exact this
      unfold prv at cP
      have HM : Hid ((parseR y).2 = 0 → (∀ p ∈ ts.take (j + 1), (parseR p).2 = 0) ∧ rcs ((ts.take (j + 1)).map fun p => (parseR p).1) = rcs ((ts.take j).map fun p => (parseR p).1) ++ (rc (parseR y).1).toList) := fun h => by
        rw [HTk.out]
        refine ⟨fun p hp => ?_, ?_⟩
        · rcases List.mem_append.1 hp with q | q
          · exact HP.out p q
          · have : p = y := by simpa using q
            rw [this]; exact h
        · rw [List.map_append, rcs_app]; rfl
      generalize parseR y = p at cP HY HM
      obtain ⟨r, en⟩ := p
      obtain ⟨al, i, o, k, vv⟩ := r
      dsimp only at cP HY HM
      by_cases he : en = 0
      · have HM1 : Hid _ := HM.out he
        subst he
        obtain ⟨V, HV⟩ : ∃ V, Hid (rv ⟨al, i, o, k, vv⟩ = V) := ⟨_, rfl⟩
        rw [HV.out] at cP
        have hsz := HB.out.size
        go_upto_region 6 with (first
          | (go_at_call 58; refine cP.mono ?_; clear cP; rintro e w5 ⟨rfl, hb5⟩; have ov5 := own_keep (S := fun _ => False) ov (Keep.ofBelow hb5) (fun _ _ h => h))
          | (refine wp_store_ru rfl (.tmp 7) (.tmp 18) rfl w5.heap.size rfl ⟨al, i, o, k, vv⟩ HV.out.symm r0 (push_at _ _ rfl) ?_))
        have A6 : Hid (RuAt ((w5.alloc oRul).setRow w5.heap.size (rc ⟨al, i, o, k, vv⟩)) w5.heap.size ⟨al, i, o, k, vv⟩ ∧ Below w5.heap.size w5 ((w5.alloc oRul).setRow w5.heap.size (rc ⟨al, i, o, k, vv⟩))) :=
          ⟨RuAt.set (w := w5.alloc oRul) (r := r0) (push_at _ _ rfl) _, (below1 w5 oRul).trans ((rowK (w5.alloc oRul) w5.heap.size _).below (by simp) (fun j e => by omega))⟩
        generalize (w5.alloc _).setRow _ _ = w6 at A6 ⊢
        have ov6 := own_keep (S := fun _ => False) ov5 (Keep.ofBelow A6.out.2) (fun _ _ h => h)
        have HB6 : Hid (Below w.heap.size w w6) := (HB.out.trans (hb5.mono hsz)).trans (A6.out.2.mono (Nat.le_trans hsz hb5.size))
        clear ov ov5 HB hsz HP HR hb5 HY HTd HTk hR hcj
        generalize w5.heap.size = g at A6 ⊢
        go_wp2_with (first
          | (refine wp_load_ru rfl (.tmp 7) rfl g rfl ⟨al, i, o, k, vv⟩ A6.out.1 ?_; unfold rv rc; dsimp only)
          | (at_builtin; refine wp_app1 68 72 _ 5 40 Tryz.underlying68 infoRule5 rfl (by decide) (by decide) rfl (.tmp 23) (.tmp 25) rfl w.heap.size (.slice av j cv) j (rcs ((ts.take j).map fun p => (parseR p).1)) rfl ov6 #[.bool al, .bool i, .bool o, .string (ba k), .string (ba vv)] rfl (by simp [Value.oneCell']) rfl (by omega) HB6.out.size ?_; intro v7 w7 o7 k7 n7))
        have HB7 : Below w.heap.size w w7 := HB6.out.trans (k7.below HB6.out.size (fun g' hg => (ov6.lt g' hg).1))
        refine ⟨⟨j + 1, _, rfl, by go_num, by omega, HM1.out.1, ?_, HB7⟩, by simp [intOf]; omega⟩
        show World.ownsRow _ _ _ _ _ _ _
        rw [HM1.out.2]
        exact o7
      · have hy := HY.out he
        have hd : ((en : Int) != 0) = true := by simp; omega
        replace he : Hid (en ≠ 0) := he
        obtain ⟨V, HV⟩ : ∃ V, Hid (rv ⟨al, i, o, k, vv⟩ = V) := ⟨_, rfl⟩
        rw [HV.out] at cP
        have HE : Hid (Readed ts w (.returned (.tuple #[.slice none 0 0, .int .i64 en])) = fun w' => Below w.heap.size w w') := by
          show _ = _
          unfold Readed
          rw [hy]
          funext w'
          exact propext ⟨fun h => h.2, fun h => ⟨Or.inr ⟨he.out, rfl⟩, h⟩⟩
        have hsz := HB.out.size
        clear HY HM HTd HTk hR HP HR ov hy
        go_wp2_with (first
          | (go_at_call 58; refine cP.mono ?_; clear cP; rintro e w5 ⟨rfl, hb5⟩)
          | (refine wp_store_ru rfl (.tmp 7) (.tmp 18) rfl w5.heap.size rfl ⟨al, i, o, k, vv⟩ HV.out.symm r0 (push_at _ _ rfl) ?_))
        go_ret2
        show Readed ts w (.returned (.tuple #[.slice none 0 0, .int .i64 en])) _
        rw [HE.out]
        exact (HB.out.trans (hb5.mono hsz)).trans (((below1 w5 oRul).trans ((rowK (w5.alloc oRul) w5.heap.size _).below (by simp) (fun j e => by omega))).mono (Nat.le_trans hsz hb5.size))
    · have hcl : ¬ (j : Int) < (n : Int) := by omega
      obtain rfl : j = n := by omega
      have hall : readR ts = (ts.map fun p => (parseR p).1, 0) := by
        have := HP.out
        rw [List.take_of_length_le (by rw [Hn.out]; exact Nat.le_refl _)] at this
        exact readR_all ts this
      have hR9 := HR.out
      rw [List.take_of_length_le (by rw [Hn.out]; exact Nat.le_refl _)] at hR9
      have HF : Hid (Readed ts w (.returned (.tuple #[v, .int .i64 0])) wr) := by
        refine ⟨Or.inl ⟨by rw [hall], v, rfl, ?_⟩, HB.out⟩
        rw [hall, Hn.out]
        exact hR9
      clear hall hR9 HR HP
      go_wp2
      go_ret2
      exact HF.out
end Go.Proofs.YtiplalbicibahaaGreatDoor
