/- Texts of one seat, one behind the other: RoM, RoA, RoB, RoC, RoD, NmDef, NmSmall, NmTake, Shelf. -/
import Derived.Test.YtppdopcghnfapaaGreatDoorM1
import Derived.Deep.MidRow
import Derived.Maps.OwnSet
import Derived.Maps.OwnOps
import Derived.Sort.KeysCollected
import Derived.Laws.StructEq
import Derived.Lib.MapLaws
import Derived.Lib.ValidLaws
import Derived.Lib.Bytealg
import Derived.Test.YtppdopcghnfapaaGreatDoorProg
import Derived.WalkKit
import Derived.WalkLawsBesides
import Derived.WalkSpells
import Derived.Below
import Derived.Shelf.Abstract
import Derived.Shelf.Small.Wraps
import Derived.Shelf.Strings.Builder2
import Derived.Shelf.Strings.BuilderRune
import Derived.Shelf.Strconv.Clone
import Derived.Shelf.Unicode.ValidAny
/- roster: entries as values, and the map of them, read by a function. -/
set_option maxRecDepth 100000
namespace Go.Proofs.YtppdopcghnfapaaGreatDoor
open Go.RowKit Go.Joins Go.Sort

/-- Where a slice of texts lies: its block (none: nil), its length, its capacity. -/
abbrev Gr := Option Nat × Nat × Nat
def gad (g : Gr) : Option Addr := g.1.map fun b => ⟨b, 0, none⟩
def gsv (g : Gr) : Value := .slice (gad g) g.2.1 g.2.2
/-- An entry as it lies in a variable. -/
structure En where
  c : ByteArray
  k : Bool
  nm : ByteArray
  g : Gr
  h : Hf
def enc (x : En) : Array Value := #[.string x.c, .bool x.k, .string x.nm, gsv x.g, .int .i64 x.h.o, .int .u64 x.h.n, .int .i64 x.h.i, .int .u64 x.h.m]
def env (x : En) : Value := .agg (enc x)
def en0 (c : ByteArray) : En := ⟨c, false, ⟨#[]⟩, (none, 0, 0), ⟨0, 0, 0, 0⟩⟩
def li (i : Int) : DataW Unit := .lit (.int .i64 i)
def gd : Gr → List (DataW Unit)
  | (none, n, c) => [li (-1), li n, li c]
  | (some b, n, c) => [li b, li n, li c]
def ed (x : En) : DataW Unit := .agg ([.lit (.string x.c.data.toList), .lit (.bool x.k), .lit (.string x.nm.data.toList), li x.h.o, li x.h.n, li x.h.i, li x.h.m] ++ gd x.g)
theorem ba_ext {s t : ByteArray} (h : s.data.toList = t.data.toList) : s = t := by
  apply ByteArray.ext
  exact Array.toList_inj.1 h
theorem li_inj {x y : Int} (h : li x = li y) : x = y := by injection h with h; injection h
theorem gd_inj {g g' : Gr} (h : gd g = gd g') : g = g' := by
  obtain ⟨a, n, c⟩ := g
  obtain ⟨b, m, d⟩ := g'
  cases a <;> cases b
  all_goals
    obtain ⟨e0, h⟩ := List.cons.inj h
    obtain ⟨e1, h⟩ := List.cons.inj h
    obtain ⟨e2, _⟩ := List.cons.inj h
    have e0 := li_inj e0
    have e1 := li_inj e1
    have e2 := li_inj e2
  · rw [Int.ofNat.inj e1, Int.ofNat.inj e2]
  · omega
  · omega
  · rw [Int.ofNat.inj e0, Int.ofNat.inj e1, Int.ofNat.inj e2]
theorem ed_inj {x y : En} (h : ed x = ed y) : x = y := by
  obtain ⟨c, k, nm, g, o, n, i, m⟩ := x
  obtain ⟨c', k', nm', g', o', n', i', m'⟩ := y
  have h1 : ([.lit (.string c.data.toList), .lit (.bool k), .lit (.string nm.data.toList), li o, li n, li i, li m] ++ gd g : List (DataW Unit)) = [.lit (.string c'.data.toList), .lit (.bool k'), .lit (.string nm'.data.toList), li o', li n', li i', li m'] ++ gd g' := by injection h
  obtain ⟨e0, h1⟩ := List.cons.inj h1
  obtain ⟨e1, h1⟩ := List.cons.inj h1
  obtain ⟨e2, h1⟩ := List.cons.inj h1
  obtain ⟨e3, h1⟩ := List.cons.inj h1
  obtain ⟨e4, h1⟩ := List.cons.inj h1
  obtain ⟨e5, h1⟩ := List.cons.inj h1
  obtain ⟨e6, h1⟩ := List.cons.inj h1
  have e0 : c = c' := ba_ext (by injection e0 with e; injection e)
  have e1 : k = k' := by injection e1 with e; injection e
  have e2 : nm = nm' := ba_ext (by injection e2 with e; injection e)
  rw [e0, e1, e2, li_inj e3, li_inj e4, li_inj e5, li_inj e6, gd_inj h1]

def Re (v : Value) : Option (DataW Unit × List MemPlace) :=
  match v with
  | .agg a => match a.toList with
    | [.string c, .bool k, .string nm, .slice none n q, .int .i64 ho, .int .u64 hn, .int .i64 hi, .int .u64 hm] => some (ed ⟨c, k, nm, (none, n, q), ⟨ho, hn, hi, hm⟩⟩, [])
    | [.string c, .bool k, .string nm, .slice (some ⟨b, 0, none⟩) n q, .int .i64 ho, .int .u64 hn, .int .i64 hi, .int .u64 hm] => some (ed ⟨c, k, nm, (some b, n, q), ⟨ho, hn, hi, hm⟩⟩, [])
    | _ => none
  | _ => none
theorem Re_mk (x : En) : Re (env x) = some (ed x, []) := by
  obtain ⟨c, k, nm, ⟨g, n, q⟩, o, m, i, l⟩ := x
  cases g <;> rfl
theorem Re_inv {v : Value} {x : En} {ps : List MemPlace} (h : Re v = some (ed x, ps)) : v = env x := by
  unfold Re at h
  split at h
  · split at h
    · rename_i a c k nm n q ho hn hi hm e
      injection h with h
      have e1 : ed ⟨c, k, nm, (none, n, q), ⟨ho, hn, hi, hm⟩⟩ = ed x := congrArg Prod.fst h
      have e2 := ed_inj e1
      rw [← e2]
      unfold env enc gsv
      congr 1
      exact Array.toList_inj.1 e
    · rename_i a c k nm b n q ho hn hi hm e
      injection h with h
      have e1 : ed ⟨c, k, nm, (some b, n, q), ⟨ho, hn, hi, hm⟩⟩ = ed x := congrArg Prod.fst h
      have e2 := ed_inj e1
      rw [← e2]
      unfold env enc gsv
      congr 1
      exact Array.toList_inj.1 e
    · cases h
  · cases h

def kl (s : ByteArray) : Lit := .string s.data.toList
theorem kl_key (s : ByteArray) (hs : s.size ≤ maxLen) : keyOf Tryz.prog 9 (.string s) = some (kl s) := by
  rw [keyOf_string Tryz.underlying9]
  simp [mapKey, Tryz.underlying9, hs, kl]
theorem kl_is (s : ByteArray) : WideAt.IsKeyLit (kl s) := trivial
theorem kl_ne {s t : ByteArray} (h : s ≠ t) : kl s ≠ kl t := fun e => h (by
  unfold kl at e
  injection e with e
  exact ba_ext e)
theorem keyed : Maps.Keyed Tryz.prog 9 := Maps.string_keyed Tryz.underlying9
theorem zeroE (w : World) : (zeroValue 51).run Tryz.prog w = .ok (env (en0 ⟨#[]⟩)) w := by kernel_rfl

/-- Block b is a map of at most n entries that holds m. -/
def EMap (w : World) (b n : Nat) (m : ByteArray → Option En) : Prop :=
  ∃ D : DataW Unit, w.ownsMap Tryz.prog 9 Re b n D ∧ ∀ s : ByteArray, (∀ z, D.atKey (kl s) z = ((m s).map ed).getD z) ∧ Maps.has D (kl s) = (m s).isSome

def mputE (m : ByteArray → Option En) (u : ByteArray) (t : Option En) : ByteArray → Option En := fun s => if s = u then t else m s
theorem mputE_same (m : ByteArray → Option En) (u : ByteArray) (t : Option En) : mputE m u t u = t := by simp [mputE]
theorem mputE_other (m : ByteArray → Option En) {u s : ByteArray} (t : Option En) (h : s ≠ u) : mputE m u t s = m s := by simp [mputE, h]

theorem EMap.made (w : World) : EMap (w.alloc (.map #[] 0)) w.heap.size 0 (fun _ => none) :=
  ⟨_, World.ownsMap_made w _ _ _, fun _ => ⟨fun _ => rfl, rfl⟩⟩
theorem EMap.lt {w : World} {b n : Nat} {m : ByteArray → Option En} (h : EMap w b n m) : b < w.heap.size := by
  obtain ⟨D, hD, _⟩ := h; exact hD.lt
theorem EMap.keep {S : Nat → Prop} {w w' : World} {b n : Nat} {m : ByteArray → Option En} (h : EMap w b n m) (hk : Keep S w w') (hs : ¬ S b) : EMap w' b n m := by
  obtain ⟨D, hD, h2⟩ := h
  have hlt := hD.lt
  obtain ⟨es, clock, hb, F, h3, h4⟩ := hD
  exact ⟨D, ⟨es, clock, (hk.block b hlt hs).trans hb, F, h3, h4⟩, h2⟩
theorem EMap.notCells {w : World} {b n : Nat} {m : ByteArray → Option En} (h : EMap w b n m) {g : Nat} {cs : Array Value} {t : TypeId} {fr : Nat × Nat} (hc : w.heap[g]? = some (.cells cs t fr)) : g ≠ b := by
  obtain ⟨D, ⟨es, clock, hb, _⟩, h2⟩ := h
  intro e
  subst e
  rw [hb] at hc
  cases hc
theorem Keep.ofTurned {w w' : World} {b : Nat} (h : w.mapTurned w' b) : Keep (fun k => k = b) w w' := (Keep.ofGrown h.grown).mono (fun i e => by cases e; rfl)

/-- 'm[k]' at its run. -/
theorem EMap.look1 {w : World} {b n : Nat} {m : ByteArray → Option En} (h : EMap w b n m) (s : ByteArray) (hs : s.size ≤ maxLen) :
    (Instr.lookup 90 (.map (some b)) (.string s) false).run Tryz.prog w = .ok (env ((m s).getD (en0 ⟨#[]⟩))) w := by
  obtain ⟨D, hD, h2⟩ := h
  obtain ⟨v, ps, hrun, hv⟩ := hD.lookup keyed Tryz.underlying90 (zeroE w) (Re_mk (en0 ⟨#[]⟩)) (kl_key s hs)
  rw [hrun]
  rw [(h2 s).1] at hv
  have : v = env ((m s).getD (en0 ⟨#[]⟩)) := by
    cases hm : m s with
    | none => rw [hm] at hv; exact Re_inv hv
    | some t => rw [hm] at hv; exact Re_inv hv
  rw [this]
/-- 'v, ok := m[k]' at its run. -/
theorem EMap.look2 {w : World} {b n : Nat} {m : ByteArray → Option En} (h : EMap w b n m) (s : ByteArray) (hs : s.size ≤ maxLen) :
    (Instr.lookup 90 (.map (some b)) (.string s) true).run Tryz.prog w = .ok (.tuple #[env ((m s).getD (en0 ⟨#[]⟩)), .bool (m s).isSome]) w := by
  obtain ⟨D, hD, h2⟩ := h
  obtain ⟨v, ps, hrun, hv⟩ := hD.look_ok keyed Tryz.underlying90 (zeroE w) (Re_mk (en0 ⟨#[]⟩)) (kl_key s hs)
  rw [hrun, (h2 s).2]
  rw [(h2 s).1] at hv
  have : v = env ((m s).getD (en0 ⟨#[]⟩)) := by
    cases hm : m s with
    | none => rw [hm] at hv; exact Re_inv hv
    | some t => rw [hm] at hv; exact Re_inv hv
  rw [this]

/-- 'm[k] = v' at its run. -/
theorem EMap.store {w : World} {b n : Nat} {m : ByteArray → Option En} (h : EMap w b n m) (hn : n < 1000000) (s : ByteArray) (hs : s.size ≤ maxLen) (t : En) :
    ∃ w', (Instr.mapUpdate 90 (.map (some b)) (.string s) (env t)).run Tryz.prog w = .ok () w' ∧ EMap w' b (n + 1) (mputE m s (some t)) ∧ Keep (fun k => k = b) w w' := by
  obtain ⟨D, hD, h2⟩ := h
  obtain ⟨w', hrun, hown, hturn⟩ := hD.store keyed Tryz.underlying90 (by unfold maxLen; omega) (kl_key s hs) (Re_mk t)
  refine ⟨w', hrun, ⟨_, hown, fun u => ?_⟩, Keep.ofTurned hturn⟩
  by_cases hu : u = s
  · subst hu
    rw [mputE_same]
    exact ⟨fun z => Maps.atKey_put_same hD.isMap (kl_is u) _ z, Maps.has_put_same hD.isMap (kl_is u) _⟩
  · rw [mputE_other m _ hu]
    exact ⟨fun z => (Maps.atKey_put_other (kl_ne hu) _ z).trans ((h2 u).1 z), (Maps.has_put_other (kl_ne hu) _).trans (h2 u).2⟩

/-- 'delete(m, k)' at its run. -/
theorem EMap.drop {w : World} {b n : Nat} {m : ByteArray → Option En} (h : EMap w b n m) (s : ByteArray) (hs : s.size ≤ maxLen) (ty : TypeId) :
    ∃ w', (Builtin.delete_ #[90, 9] ty #[.map (some b), .string s]).run Tryz.prog w = .ok (.tuple #[]) w' ∧ EMap w' b n (mputE m s none) ∧ Keep (fun k => k = b) w w' := by
  obtain ⟨D, hD, h2⟩ := h
  obtain ⟨w', hrun, hown, hturn⟩ := hD.drop keyed Tryz.underlying90 (kl_key s hs) ty
  refine ⟨w', hrun, ⟨_, hown, fun u => ?_⟩, Keep.ofTurned hturn⟩
  by_cases hu : u = s
  · subst hu
    rw [mputE_same]
    exact ⟨fun z => Maps.atKey_del_same z, Maps.has_del_same⟩
  · rw [mputE_other m _ hu]
    exact ⟨fun z => (Maps.atKey_del_other (kl_ne hu) z).trans ((h2 u).1 z), (Maps.has_del_other (kl_ne hu)).trans (h2 u).2⟩

/-- The keys of such a map, by a list of names. -/
theorem EMap.keys {w : World} {b n : Nat} {m : ByteArray → Option En} (h : EMap w b n m) (l : List ByteArray) (hl : l.Nodup) (hm : ∀ s, (m s).isSome = true ↔ s ∈ l) :
    ∃ D : DataW Unit, w.ownsMap Tryz.prog 9 Re b n D ∧ (l.map (fun s => s.data.toList)).Perm (strKeys D) ∧ Maps.size D = l.length := by
  obtain ⟨D, hD, h2⟩ := h
  obtain ⟨es, rfl, hp, hkl⟩ := hD.entries keyed
  have hst : ∀ p ∈ es, ∃ x, p.1 = .string x := fun p hp' => by
    obtain ⟨es', hes, hko⟩ := hD.keysOf
    cases hes
    obtain ⟨key, hkey⟩ := hko p hp'
    obtain ⟨x, _, hx, _⟩ := Maps.keyOf_str Tryz.underlying9 hkey
    exact ⟨x, hx⟩
  have hperm : (l.map (fun s : ByteArray => s.data.toList)).Perm (strKeys (.map es)) := by
    refine perm_strKeys hp hst ?_ (fun x => ?_)
    · exact List.pairwise_map.2 (hl.imp (fun {a b} hne e => hne (ba_ext e)))
    · constructor
      · intro hx
        obtain ⟨s, hs, rfl⟩ := List.mem_map.1 hx
        have := (h2 s).2
        rw [(hm s).2 hs] at this
        exact this
      · intro hx
        have := (h2 ⟨x.toArray⟩).2
        unfold kl at this
        rw [show ((⟨x.toArray⟩ : ByteArray).data.toList) = x from rfl, hx] at this
        exact List.mem_map.2 ⟨⟨x.toArray⟩, (hm _).1 this.symm, rfl⟩
  refine ⟨_, hD, hperm, ?_⟩
  have h3 := hperm.length_eq
  simp [strKeys] at h3
  simp [Maps.size]
  omega
theorem EMap.tight {w : World} {b n : Nat} {m : ByteArray → Option En} (h : EMap w b n m) (l : List ByteArray) (hl : l.Nodup) (hm : ∀ s, (m s).isSome = true ↔ s ∈ l) : EMap w b l.length m := by
  obtain ⟨D, hD, h2⟩ := h
  obtain ⟨D', hD', _, hsz⟩ := EMap.keys ⟨D, hD, h2⟩ l hl hm
  refine ⟨D, ?_, h2⟩
  obtain ⟨es, clock, hb, F, h3, h4⟩ := hD
  obtain ⟨es', clock', hb', F', h3', h4'⟩ := hD'
  rw [hb] at hb'
  cases hb'
  refine ⟨es, clock, hb, F, ?_, h4⟩
  have : D' = D := by rw [h4, h4']
  subst this
  have e1 : Maps.size D' = es.size := by rw [h4]; simp [Maps.size, length_sorted]
  omega
/-- 'len(m)' at its run, by a list of its keys. -/
theorem EMap.len {w : World} {b n : Nat} {m : ByteArray → Option En} (h : EMap w b n m) (l : List ByteArray) (hl : l.Nodup) (hm : ∀ s, (m s).isSome = true ↔ s ∈ l) (ty : TypeId) :
    (Builtin.len_ #[90] ty #[.map (some b)]).run Tryz.prog w = .ok (.int .i64 l.length) w := by
  obtain ⟨D, hD, _, hsz⟩ := h.keys l hl hm
  rw [hD.len Tryz.underlying90 ty, hsz]
end Go.Proofs.YtppdopcghnfapaaGreatDoor

/- roster: its variables, and the small functions. -/
set_option maxRecDepth 100000
namespace Go.Proofs.YtppdopcghnfapaaGreatDoor
open Go.RowKit Go.Joins

theorem wi64' {n m : Int} (h0 : -9223372036854775808 ≤ n) (h1 : n ≤ 9223372036854775807) (h : n = m) : IntKind.i64.wrap n = m := by
  subst h; simp [IntKind.wrap, IntKind.bits, IntKind.signed]; omega
/-- With which a call gives up. -/
def gaveR (n : Nat) : List PanicEntry := [{ v := .iface 113 (.agg #[.int .i64 n]), recovered := false }]
theorem demR_ok (n : Int) (w : World) : Calls Tryz.prog 69 #[.bool true, .int .i64 n] w fun e w' => e = .returned (.tuple #[]) ∧ w' = w := by
  go_enter Tryz.func69, Tryz.ntmps69
  go_wp2
  go_end0
  exact ⟨rfl, rfl⟩
theorem demR_no (n : Nat) (w : World) : Calls Tryz.prog 69 #[.bool false, .int .i64 n] w fun e w' => e = .panicked (gaveR n) ∧ w' = w := by
  go_enter Tryz.func69, Tryz.ntmps69
  go_wp2
  exact ⟨rfl, rfl, rfl⟩
def bnd (n : Int) : Bool := decide (0 ≤ n) && decide (n ≤ 10000)
theorem bound_any (n : Int) (w : World) : Calls Tryz.prog 70 #[.int .i64 n] w fun e w' => e = .returned (.bool (bnd n)) ∧ w' = w := by
  unfold bnd
  by_cases h0 : 0 ≤ n
  · by_cases h1 : n ≤ 10000
    · rw [show (decide (0 ≤ n) && decide (n ≤ 10000)) = true from by simp [h0, h1]]
      have d0 : decide (0 ≤ n) = true := by simp [h0]
      have d1 : decide (n ≤ 10000) = true := by simp [h1]
      clear h0 h1
      go_enter Tryz.func70, Tryz.ntmps70
      go_wp2
      go_ret
      exact ⟨rfl, rfl⟩
    · rw [show (decide (0 ≤ n) && decide (n ≤ 10000)) = false from by simp [h1]]
      have d0 : decide (0 ≤ n) = true := by simp [h0]
      have d1 : decide (n ≤ 10000) = false := by simp; omega
      clear h0 h1
      go_enter Tryz.func70, Tryz.ntmps70
      go_wp2
      go_ret
      exact ⟨rfl, rfl⟩
  · rw [show (decide (0 ≤ n) && decide (n ≤ 10000)) = false from by simp [h0]]
    have d0 : decide (0 ≤ n) = false := by simp; omega
    clear h0
    go_enter Tryz.func70, Tryz.ntmps70
    go_wp2
    go_ret
    exact ⟨rfl, rfl⟩

/-- Whether there is reason for an entry. -/
def thr (x : En) : Bool := x.k || (x.h.i != 0)
theorem isThere_any (x : En) (w : World) : Calls Tryz.prog 101 #[env x] w fun e w' => e = .returned (.bool (thr x)) ∧ Below w.heap.size w w' := by
  obtain ⟨c, k, nm, ⟨g, n, q⟩, o, hn, i, m⟩ := x
  unfold env enc gsv thr
  cases k with
  | true =>
    go_enter Tryz.func101, Tryz.ntmps101
    go_wp2
    go_ret
    exact ⟨rfl, below1 _ _⟩
  | false =>
    go_enter Tryz.func101, Tryz.ntmps101
    go_wp2
    go_ret
    exact ⟨rfl, below1 _ _⟩

/-- A roster: bounds, counters, entries by contact, how many are kept. -/
structure Ro where
  it : Int
  ak : Int
  ver : Int
  nx : Int
  m : ByteArray → Option En
  ks : List ByteArray
  kept : Int
def rcs (R : Ro) (mb : Nat) : Array Value := #[.int .i64 R.it, .int .i64 R.ak, .int .u64 R.ver, .int .u64 R.nx, .map (some mb), .int .i64 R.kept]
structure RA (w : World) (q mb : Nat) (R : Ro) : Prop where
  blk : w.heap[q]? = some (.cells (rcs R mb) 92 (0, 0))
  map : EMap w mb R.ks.length R.m
  nd : R.ks.Nodup
  mem : ∀ s, (R.m s).isSome = true ↔ s ∈ R.ks
section
variable {w w' : World} {q mb : Nat} {R : Ro}
theorem RA.lt (h : RA w q mb R) : q < w.heap.size := (Array.getElem?_eq_some_iff.1 h.blk).1
theorem RA.ne (h : RA w q mb R) : q ≠ mb := h.map.notCells h.blk
theorem RA.keep {S : Nat → Prop} (h : RA w q mb R) (hk : Keep S w w') (hd : ¬ S q) (hb : ¬ S mb) : RA w' q mb R := ⟨(hk.block q h.lt hd).trans h.blk, h.map.keep hk hb, h.nd, h.mem⟩
theorem RA.below (h : RA w q mb R) (hk : Below w.heap.size w w') : RA w' q mb R := h.keep (S := fun _ => False) (Keep.ofBelow hk) (fun h => h) (fun h => h)
theorem RA.drew (h : RA w q mb R) : RA w.drew q mb R := h.keep (S := fun _ => False) (Keep.refl _ _).drew (fun h => h) (fun h => h)
theorem RA.c0 (h : RA w q mb R) : w.cell? ⟨q, 0, none⟩ = some (.int .i64 R.it) := by rw [cell_of_block h.blk]; rfl
theorem RA.c1 (h : RA w q mb R) : w.cell? ⟨q, 1, none⟩ = some (.int .i64 R.ak) := by rw [cell_of_block h.blk]; rfl
theorem RA.c2 (h : RA w q mb R) : w.cell? ⟨q, 2, none⟩ = some (.int .u64 R.ver) := by rw [cell_of_block h.blk]; rfl
theorem RA.c3 (h : RA w q mb R) : w.cell? ⟨q, 3, none⟩ = some (.int .u64 R.nx) := by rw [cell_of_block h.blk]; rfl
theorem RA.c4 (h : RA w q mb R) : w.cell? ⟨q, 4, none⟩ = some (.map (some mb)) := by rw [cell_of_block h.blk]; rfl
theorem RA.c5 (h : RA w q mb R) : w.cell? ⟨q, 5, none⟩ = some (.int .i64 R.kept) := by rw [cell_of_block h.blk]; rfl
theorem RA.fz (h : RA w q mb R) (i : Nat) : w.frozen? ⟨q, i, none⟩ = false := unfrozen_of_block h.blk i
theorem RA.set (h : RA w q mb R) (i : Nat) (v : Value) (R' : Ro) (e : (rcs R mb).setIfInBounds i v = rcs R' mb) (e1 : R'.m = R.m) (e2 : R'.ks = R.ks) : RA (w.setCell ⟨q, i, none⟩ v) q mb R' :=
  ⟨by rw [← e]; exact block_setCell h.blk v, by
    rw [e1, e2]
    exact h.map.keep (S := fun j => j = q) ((Keep.refl (fun j => j = q) w).setCell (p := ⟨q, i, none⟩) rfl v) (fun e => h.ne e.symm), by rw [e2]; exact h.nd, by rw [e1, e2]; exact h.mem⟩
theorem setK (w : World) (q i : Nat) (v : Value) : Keep (fun k => k = q) w (w.setCell ⟨q, i, none⟩ v) := (Keep.refl (fun k => k = q) w).setCell (p := ⟨q, i, none⟩) rfl v
end

theorem ver_any (w : World) (q mb : Nat) (R : Ro) (h : RA w q mb R) : Calls Tryz.prog 16 #[.pointer (some ⟨q, 0, none⟩)] w fun e w' => e = .returned (.int .u64 R.ver) ∧ w' = w := by
  have c2 := h.c2
  go_enter Tryz.func16, Tryz.ntmps16
  go_wp2
  go_ret
  exact ⟨rfl, rfl⟩
theorem reqs_any (w : World) (q mb : Nat) (R : Ro) (h : RA w q mb R) (hl : R.ks.length < 4611686018427387904) (hk : 0 ≤ R.kept) (hk2 : R.kept < 4611686018427387904) : Calls Tryz.prog 82 #[.pointer (some ⟨q, 0, none⟩)] w fun e w' => e = .returned (.int .i64 (R.ks.length - R.kept)) ∧ Below w.heap.size w w' := by
  have c4 := h.c4
  have c5 := h.c5
  have hn := fun ty => h.map.len R.ks h.nd h.mem ty
  have hw : IntKind.wrap .i64 ((R.ks.length : Int) - R.kept) = (R.ks.length : Int) - R.kept := wi64' (by omega) (by omega) rfl
  have h0 : RA w.drew q mb R := h.drew
  obtain ⟨l, Hl⟩ : ∃ l, Hid (((R.ks.length : Nat) : Int) = l) := ⟨_, rfl⟩
  obtain ⟨kp, Hk⟩ : ∃ kp, Hid (R.kept = kp) := ⟨_, rfl⟩
  rw [Hl.out, Hk.out] at hw ⊢
  clear c4 c5 hn hl hk hk2 h
  go_enter Tryz.func82, Tryz.ntmps82
  go_wp2
  refine wp_region_lx (fun w' => RA w' q mb R) [] 11 (by kernel_rfl) (by kernel_rfl) ?_
  refine lx_r 0 (.pointer (some ⟨q, 0, none⟩)) h0 ?_; simp only [lxa, lxb, lxc]
  refine lx_r 1 (.pointer (some ⟨q, 0, none⟩)) h0 ?_; simp only [lxa, lxb, lxc]
  refine lx_r 2 (.pointer (some ⟨q, 4, none⟩)) h0 ?_; simp only [lxa, lxb, lxc]
  refine lx_r 3 (.map (some mb)) h0 ?_ (hv := fun w' hS => by have p := hS.c4; first | (go_simp; rfl) | go_simp); simp only [lxa, lxb, lxc]
  refine lx_r 4 (.int .i64 l) h0 ?_ (hv := fun w' hS => by have p := fun ty => hS.map.len R.ks hS.nd hS.mem ty; rw [Hl.out] at p; first | (go_simp; rfl) | go_simp); simp only [lxa, lxb, lxc]
  refine lx_r 5 (.pointer (some ⟨q, 0, none⟩)) h0 ?_; simp only [lxa, lxb, lxc]
  refine lx_r 6 (.pointer (some ⟨q, 0, none⟩)) h0 ?_; simp only [lxa, lxb, lxc]
  refine lx_r 7 (.pointer (some ⟨q, 5, none⟩)) h0 ?_; simp only [lxa, lxb, lxc]
  refine lx_r 8 (.int .i64 kp) h0 ?_ (hv := fun w' hS => by have p := hS.c5; rw [Hk.out] at p; first | (go_simp; rfl) | go_simp); simp only [lxa, lxb, lxc]
  refine lx_r 9 (.int .i64 (l - kp)) h0 ?_ (hv := fun w' hS => by have p := hw; first | (go_simp; rfl) | go_simp); simp only [lxa, lxb, lxc]
  refine lx_r 10 (.int .i64 (l - kp)) h0 ?_; simp only [lxa, lxb, lxc]
  refine lx_nil (by kernel_rfl) ?_
  go_wp2
  go_ret
  exact ⟨rfl, (Below.refl _ _).drew⟩
end Go.Proofs.YtppdopcghnfapaaGreatDoor

/- roster: an entry in a variable of its own; of, asItem. -/
set_option maxRecDepth 100000
namespace Go.Proofs.YtppdopcghnfapaaGreatDoor
open Go.RowKit Go.Joins

/-- An entry in a variable of its own. -/
def EnAt (w : World) (b : Nat) (x : En) : Prop := w.heap[b]? = some (.cells (enc x) 51 (0, 0))
section
variable {w w' : World} {b : Nat} {x : En}
theorem EnAt.lt (A : EnAt w b x) : b < w.heap.size := (Array.getElem?_eq_some_iff.1 A).1
theorem EnAt.below (A : EnAt w b x) {B : Nat} (hb : Below B w w') (hB : b < B) : EnAt w' b x := (hb.block b hB).trans A
theorem EnAt.carry (A : EnAt w b x) (hb : Below w.heap.size w w') : EnAt w' b x := (hb.block b A.lt).trans A
theorem EnAt.keep {S : Nat → Prop} (A : EnAt w b x) (hk : Keep S w w') (hs : ¬ S b) : EnAt w' b x := box_keep A hk hs
theorem EnAt.drew (A : EnAt w b x) : EnAt w.drew b x := A
theorem EnAt.c0 (A : EnAt w b x) : w.cell? ⟨b, 0, none⟩ = some (.string x.c) := by rw [cell_of_block A]; rfl
theorem EnAt.c1 (A : EnAt w b x) : w.cell? ⟨b, 1, none⟩ = some (.bool x.k) := by rw [cell_of_block A]; rfl
theorem EnAt.c2 (A : EnAt w b x) : w.cell? ⟨b, 2, none⟩ = some (.string x.nm) := by rw [cell_of_block A]; rfl
theorem EnAt.c3 (A : EnAt w b x) : w.cell? ⟨b, 3, none⟩ = some (gsv x.g) := by rw [cell_of_block A]; rfl
theorem EnAt.c4 (A : EnAt w b x) : w.cell? ⟨b, 4, none⟩ = some (.int .i64 x.h.o) := by rw [cell_of_block A]; rfl
theorem EnAt.c5 (A : EnAt w b x) : w.cell? ⟨b, 5, none⟩ = some (.int .u64 x.h.n) := by rw [cell_of_block A]; rfl
theorem EnAt.c6 (A : EnAt w b x) : w.cell? ⟨b, 6, none⟩ = some (.int .i64 x.h.i) := by rw [cell_of_block A]; rfl
theorem EnAt.c7 (A : EnAt w b x) : w.cell? ⟨b, 7, none⟩ = some (.int .u64 x.h.m) := by rw [cell_of_block A]; rfl
theorem EnAt.fz (A : EnAt w b x) (i : Nat) : w.frozen? ⟨b, i, none⟩ = false := unfrozen_of_block A i
theorem infoEntry : (Tryz.prog.info? 51).map (·.size) = some 8 := by kernel_rfl
theorem Tryz.cells51 : Tryz.prog.cellsOf 51 = 8 := by kernel_rfl
theorem enc_one (x : En) : (enc x).all (·.oneCell') = true := by simp [enc, gsv, Value.oneCell']
theorem EnAt.load (A : EnAt w b x) : (loadVar 51 ⟨b, 0, none⟩).run Tryz.prog w = .ok (env x) w := run_loadVar_row w b 51 51 _ (0, 0) _ A Tryz.underlying51 rfl (by rw [infoEntry]; rfl)
theorem EnAt.set (A : EnAt w b x) (x' : En) : EnAt (w.setRow b (enc x')) b x' := setRow_heap w b _ _ 51 (0, 0) A
theorem EnAt.row (A : EnAt w b x) {c : Nat} (v : Array Value) (hc : b ≠ c) : EnAt (w.setRow c v) b x := (setRow_other w c b _ hc).trans A
theorem rowK (w : World) (b : Nat) (v : Array Value) : Keep (fun j => j = b) w (w.setRow b v) := ⟨rfl, rfl, rfl, by simp, fun j _ hj => setRow_other w b j _ hj⟩
theorem EnAt.setB (A : EnAt w b x) {w0 : World} {B : Nat} (hb : Below B w0 w) (hB : B ≤ b) (v : Array Value) : Below B w0 (w.setRow b v) := hb.trans ((rowK w b v).below (Nat.le_trans hB (Nat.le_of_lt A.lt)) (fun q hq => by omega))
theorem EnAt.setk (A : EnAt w b x) (v : Bool) : EnAt (w.setCell ⟨b, 1, none⟩ (.bool v)) b { x with k := v } := by have := block_setCell (i := 1) A (.bool v); exact this
theorem EnAt.made (w : World) (x : En) : EnAt (w.alloc (.cells (enc x) 51)) w.heap.size x := alloc_at w _
end
theorem exec_store_en {o : Oper} {ρ : Operand → Value} {w : World} (x y : Operand) (ho : o.op = .store 51 x y) (g : Nat) (hx : ρ x = .pointer (some ⟨g, 0, none⟩)) (h' : En) (hy : ρ y = env h') (h : En) (hg : EnAt w g h) :
    (execOp ρ o).run Tryz.prog w = .ok .skip (w.setRow g (enc h')) := by
  unfold execOp
  simp only [ho, hx, hy, env, Instr.storeAt, Instr.sureAddr, Sem.run_bind, Sem.run_pure, Result.andThen_ok, run_storeVar_row w g 51 51 _ (enc h') hg (by rw [infoEntry]; rfl) (by rfl) (enc_one h')]
theorem wp_store_en {ops : Array Oper} {rest : List Oper} {o : Oper} {a : Act} {w : World} {Q : Exit → Act → World → Prop} (hgd : o.guard = none) (x y : Operand) (ho : o.op = .store 51 x y)
    (g : Nat) (hx : a.eval x = .pointer (some ⟨g, 0, none⟩)) (h' : En) (hy : a.eval y = env h') (h : En) (hg : EnAt w g h)
    (hk : wpList Tryz.prog ops Q rest (a.put o.dst undef) (w.setRow g (enc h'))) : wpList Tryz.prog ops Q (o :: rest) a w :=
  wpList_store_row hgd 51 x y ho g _ hx hy 51 _ hg (by rw [infoEntry]; rfl) (by rfl) (enc_one h') hk
theorem exec_load_en {o : Oper} {ρ : Operand → Value} {w : World} (x : Operand) (ho : o.op = .load 51 x) (g : Nat) (hx : ρ x = .pointer (some ⟨g, 0, none⟩)) (h : En) (hg : EnAt w g h) :
    (execOp ρ o).run Tryz.prog w = .ok (.value (env h)) w := by
  unfold execOp
  simp only [ho, hx, Instr.loadAt, Instr.sureAddr, Sem.run_bind, Sem.run_pure, Result.andThen_ok, hg.load]
theorem wp_load_en {ops : Array Oper} {rest : List Oper} {o : Oper} {a : Act} {w : World} {Q : Exit → Act → World → Prop} (hgd : o.guard = none) (x : Operand) (ho : o.op = .load 51 x) (g : Nat) (hx : a.eval x = .pointer (some ⟨g, 0, none⟩)) (h : En) (hg : EnAt w g h)
    (hk : wpList Tryz.prog ops Q rest (a.put o.dst (env h)) w) : wpList Tryz.prog ops Q (o :: rest) a w := by
  refine wpList_plain hgd fun K' hK' => ?_
  unfold Oper.wp
  rw [exec_load_en x ho g hx h hg]
  exact hK' _ _ hk

theorem res_en {fn : Func} {p : Tmp} (h : fn.results = #[.cell p 51]) (tmps : Array Value) (w : World) (g : Nat) (x : En) (hp : tmps.getD p undef = .pointer (some ⟨g, 0, none⟩)) (hg : EnAt w g x) :
    (results fn tmps).run Tryz.prog w = .ok (env x) w :=
  results_cell_row h tmps w g 51 _ (0, 0) _ hp hg Tryz.underlying51 rfl (by rw [infoEntry]; rfl)

theorem gad_nil (p : Nat × Nat) : gad (none, p) = none := rfl

/-- What there is of a contact. -/
def ofE (R : Ro) (c : ByteArray) : En := (R.m c).getD (en0 c)
set_option maxHeartbeats 400000 in
theorem of_any (w : World) (q mb : Nat) (R : Ro) (h : RA w q mb R) (c : ByteArray) (hc : c.size ≤ 1000000) :
    Calls Tryz.prog 92 #[.pointer (some ⟨q, 0, none⟩), .string c] w fun e w' => e = .returned (env (ofE R c)) ∧ Below w.heap.size w w' := by
  have c4 := h.c4
  have hq := h.lt
  have hl := (h.below (below1 w (.cells (enc (en0 ⟨#[]⟩)) 51))).map.look2 c (by unfold maxLen; omega)
  have h1 : EnAt ((w.alloc (.cells (enc (en0 ⟨#[]⟩)) 51)).alloc (.cells (enc ((R.m c).getD (en0 ⟨#[]⟩))) 51)) w.heap.size (en0 ⟨#[]⟩) := (EnAt.made w _).carry (below1 _ _)
  have hb : Below w.heap.size w ((w.alloc (.cells (enc (en0 ⟨#[]⟩)) 51)).alloc (.cells (enc ((R.m c).getD (en0 ⟨#[]⟩))) 51)) := below2 _ _ _
  unfold ofE
  cases hm : R.m c with
  | none =>
    rw [hm] at hl h1 hb
    have h2 := h1.setB hb (Nat.le_refl _) (enc (en0 c))
    have h3 := h1.set (en0 c)
    show Calls Tryz.prog _ _ _ fun e w' => e = .returned (env (en0 c)) ∧ _
    obtain ⟨V, HV⟩ : ∃ V, Hid (env (en0 c) = V) := ⟨_, rfl⟩
    rw [HV.out]
    unfold env enc gsv at hl
    unfold enc gsv en0 at h1
    dsimp only [Option.getD, Option.map, Option.isSome, en0] at hl h1
    rw [gad_nil] at hl h1
    clear h hc hb
    go_enter Tryz.func92, Tryz.ntmps92
    go_wp2_with (first
      | (refine wp_store_en rfl (.tmp 4) (.tmp 19) rfl w.heap.size rfl (en0 c) rfl _ h1 ?_))
    refine bodyPost_ret (v := V) ?_ rfl ⟨rfl, h2⟩
    rw [← HV.out]
    exact res_en rfl _ _ w.heap.size _ rfl h3
  | some x =>
    rw [hm] at hl h1 hb
    have h0 : EnAt ((w.alloc (.cells (enc (en0 ⟨#[]⟩)) 51)).alloc (.cells (enc x) 51)) (w.heap.size + 1) x := by have := EnAt.made (w.alloc (.cells (enc (en0 ⟨#[]⟩)) 51)) x; simpa [EnAt] using this
    have h2 := h1.setB hb (Nat.le_refl _) (enc x)
    have h3 := h1.set x
    show Calls Tryz.prog _ _ _ fun e w' => e = .returned (env x) ∧ _
    obtain ⟨V, HV⟩ : ∃ V, Hid (env x = V) := ⟨_, rfl⟩
    rw [HV.out]
    unfold env enc gsv at hl
    unfold enc gsv en0 at h1 h0
    dsimp only [Option.getD, Option.map, Option.isSome, en0] at hl h1 h0
    rw [gad_nil] at hl h1 h0
    clear h hc hb
    go_enter Tryz.func92, Tryz.ntmps92
    go_wp2_with (first
      | (refine wp_load_en rfl (.tmp 5) rfl (w.heap.size + 1) rfl x h0 ?_; rw [HV.out])
      | (refine wp_store_en rfl (.tmp 4) (.tmp 17) rfl w.heap.size rfl x HV.out.symm _ h1 ?_))
    refine bodyPost_ret (v := V) ?_ rfl ⟨rfl, h2⟩
    rw [← HV.out]
    exact res_en rfl _ _ w.heap.size _ rfl h3

/-- An entry becomes an item, if there is room. -/
def roomB (R : Ro) (x : En) : Bool := x.k || decide (R.kept < R.it)
set_option maxHeartbeats 800000 in
theorem asItem_1 (w : World) (q mb : Nat) (R : Ro) (h : RA w q mb R) (x : En) (hk : x.k = true) :
    Calls Tryz.prog 91 #[.pointer (some ⟨q, 0, none⟩), env x] w fun e w' => ((true = true ∧ e = .returned (env { x with k := true })) ∨ (true = false ∧ e = .panicked (gaveR 8))) ∧ Below w.heap.size w w' := by
  have h1 : EnAt ((w.alloc (.cells (enc x) 51)).alloc (.cells (enc (en0 ⟨#[]⟩)) 51)).drew w.heap.size x := (EnAt.made w _).carry (below1 _ _).drew
  have h2 : EnAt ((w.alloc (.cells (enc x) 51)).alloc (.cells (enc (en0 ⟨#[]⟩)) 51)).drew (w.heap.size + 1) (en0 ⟨#[]⟩) := by have := (EnAt.made (w.alloc (.cells (enc x) 51)) (en0 ⟨#[]⟩)).drew; rw [show (w.alloc (.cells (enc x) 51)).heap.size = w.heap.size + 1 from by simp] at this; exact this
  have hb : Below w.heap.size w ((w.alloc (.cells (enc x) 51)).alloc (.cells (enc (en0 ⟨#[]⟩)) 51)).drew := (below2 _ _ _).drew
  have hR := h.below hb
  replace hk : Hid _ := hk
  clear h
  obtain ⟨V, HV⟩ : ∃ V, Hid (env { x with k := true } = V) := ⟨_, rfl⟩
  rw [HV.out]
  show Calls Tryz.prog _ #[_, .agg (enc x)] _ _
  go_enter Tryz.func91, Tryz.ntmps91
  unfold enc gsv
  unfold enc gsv en0 at h1 h2 hb hR
  dsimp only at h1 h2 hb hR
  rw [gad_nil] at h1 h2 hb hR
  go_upto_region 1 with fail
  refine wp_region_lx (fun w' => EnAt w' w.heap.size x ∧ RA w' q mb R) [] 14 (by kernel_rfl) (by kernel_rfl) ?_
  have HS0 := And.intro h1 hR
  generalize World.drew _ = X at h1 h2 hb hR HS0 ⊢
  generalize hbb : w.heap.size = b at *
  have HB : Hid (w.heap.size = b) := hbb
  clear hbb
  refine lx_r 0 (.pointer (some ⟨b, 1, none⟩)) HS0 ?_; simp only [lxa, lxb, lxc]
  refine lx_r 1 (.bool true) HS0 ?_ (hv := fun w' hS => by have q0 := hS.1.c1; rw [hk.out] at q0; first | (go_simp; rfl) | go_simp); simp only [lxa, lxb, lxc]
  refine lx_r 2 (.bool true) HS0 ?_; simp only [lxa, lxb, lxc]
  refine lx_s 3 HS0 ?_; simp only [lxa, lxb, lxc]
  refine lx_s 4 HS0 ?_; simp only [lxa, lxb, lxc]
  refine lx_s 5 HS0 ?_; simp only [lxa, lxb, lxc]
  refine lx_s 6 HS0 ?_; simp only [lxa, lxb, lxc]
  refine lx_s 7 HS0 ?_; simp only [lxa, lxb, lxc]
  refine lx_s 8 HS0 ?_; simp only [lxa, lxb, lxc]
  refine lx_s 9 HS0 ?_; simp only [lxa, lxb, lxc]
  refine lx_s 10 HS0 ?_; simp only [lxa, lxb, lxc]
  refine lx_s 11 HS0 ?_; simp only [lxa, lxb, lxc]
  refine lx_r 12 (.bool true) HS0 ?_; simp only [lxa, lxb, lxc]
  refine lx_one 13 (by kernel_rfl) (stepT_call 69 ?ac rfl rfl rfl ?rc ?_)
  case rc => first | (go_simp; rfl) | go_simp
  refine (demR_ok 8 _).mono ?_
  rintro e w3 ⟨rfl, hw3⟩
  subst hw3
  refine ⟨_, rfl, fun _ => HS0, ?_⟩
  simp only [lxa, lxb, lxc]
  refine lx_nil (by kernel_rfl) ?_
  have f1 := h1.fz 1
  have c1 := h1.c1
  have k1 := h1.setk true
  have k2 : EnAt (w3.setCell ⟨b, 1, none⟩ (.bool true)) (b + 1) (en0 ⟨#[]⟩) := h2.keep (setK w3 b 1 _) (by omega)
  have k3 := hb.trans ((setK w3 b 1 (.bool true)).below (by have := hb.size; have := HB.out; omega) (fun i hi => by omega))
  have k4 := k2.setB k3 (by omega) (enc { x with k := true })
  have k5 := k2.set { x with k := true }
  clear HS0 h1 h2 hR hb k3
  generalize hX : w3.setCell ⟨b, 1, none⟩ (.bool true) = X at k1 k2 k4 k5
  have HX : Hid (w3.setCell ⟨b, 1, none⟩ (.bool true) = X) := hX
  clear hX
  go_wp2_with (first
    | (rw [HX.out]; refine wp_load_en rfl (.tmp 3) rfl b rfl { x with k := true } k1 ?_; rw [HV.out])
    | (refine wp_store_en rfl (.tmp 4) (.tmp 20) rfl (b + 1) rfl { x with k := true } HV.out.symm _ k2 ?_))
  refine bodyPost_ret (v := V) ?_ rfl ⟨Or.inl ⟨trivial, rfl⟩, by rw [HB.out]; exact k4⟩
  rw [← HV.out]
  exact res_en rfl _ _ (b + 1) _ rfl k5
set_option maxHeartbeats 800000 in
theorem asItem_2 (w : World) (q mb : Nat) (R : Ro) (h : RA w q mb R) (x : En) (hk : x.k = false) (hlt : decide (R.kept < R.it) = true) :
    Calls Tryz.prog 91 #[.pointer (some ⟨q, 0, none⟩), env x] w fun e w' => ((true = true ∧ e = .returned (env { x with k := true })) ∨ (true = false ∧ e = .panicked (gaveR 8))) ∧ Below w.heap.size w w' := by
  have h1 : EnAt ((w.alloc (.cells (enc x) 51)).alloc (.cells (enc (en0 ⟨#[]⟩)) 51)).drew w.heap.size x := (EnAt.made w _).carry (below1 _ _).drew
  have h2 : EnAt ((w.alloc (.cells (enc x) 51)).alloc (.cells (enc (en0 ⟨#[]⟩)) 51)).drew (w.heap.size + 1) (en0 ⟨#[]⟩) := by have := (EnAt.made (w.alloc (.cells (enc x) 51)) (en0 ⟨#[]⟩)).drew; rw [show (w.alloc (.cells (enc x) 51)).heap.size = w.heap.size + 1 from by simp] at this; exact this
  have hb : Below w.heap.size w ((w.alloc (.cells (enc x) 51)).alloc (.cells (enc (en0 ⟨#[]⟩)) 51)).drew := (below2 _ _ _).drew
  have hR := h.below hb
  replace hk : Hid _ := hk
  replace hlt : Hid _ := hlt
  clear h
  obtain ⟨V, HV⟩ : ∃ V, Hid (env { x with k := true } = V) := ⟨_, rfl⟩
  rw [HV.out]
  show Calls Tryz.prog _ #[_, .agg (enc x)] _ _
  go_enter Tryz.func91, Tryz.ntmps91
  unfold enc gsv
  unfold enc gsv en0 at h1 h2 hb hR
  dsimp only at h1 h2 hb hR
  rw [gad_nil] at h1 h2 hb hR
  go_upto_region 1 with fail
  refine wp_region_lx (fun w' => EnAt w' w.heap.size x ∧ RA w' q mb R) [] 14 (by kernel_rfl) (by kernel_rfl) ?_
  have HS0 := And.intro h1 hR
  generalize World.drew _ = X at h1 h2 hb hR HS0 ⊢
  generalize hbb : w.heap.size = b at *
  have HB : Hid (w.heap.size = b) := hbb
  clear hbb
  refine lx_r 0 (.pointer (some ⟨b, 1, none⟩)) HS0 ?_; simp only [lxa, lxb, lxc]
  refine lx_r 1 (.bool false) HS0 ?_ (hv := fun w' hS => by have q0 := hS.1.c1; rw [hk.out] at q0; first | (go_simp; rfl) | go_simp); simp only [lxa, lxb, lxc]
  refine lx_r 2 (.bool false) HS0 ?_; simp only [lxa, lxb, lxc]
  refine lx_r 3 (.pointer (some ⟨q, 0, none⟩)) HS0 ?_; simp only [lxa, lxb, lxc]
  refine lx_r 4 (.pointer (some ⟨q, 0, none⟩)) HS0 ?_; simp only [lxa, lxb, lxc]
  refine lx_r 5 (.pointer (some ⟨q, 5, none⟩)) HS0 ?_; simp only [lxa, lxb, lxc]
  refine lx_r 6 (.int .i64 R.kept) HS0 ?_ (hv := fun w' hS => by have q0 := hS.2.c5; first | (go_simp; rfl) | go_simp); simp only [lxa, lxb, lxc]
  refine lx_r 7 (.pointer (some ⟨q, 0, none⟩)) HS0 ?_; simp only [lxa, lxb, lxc]
  refine lx_r 8 (.pointer (some ⟨q, 0, none⟩)) HS0 ?_; simp only [lxa, lxb, lxc]
  refine lx_r 9 (.pointer (some ⟨q, 0, none⟩)) HS0 ?_; simp only [lxa, lxb, lxc]
  refine lx_r 10 (.int .i64 R.it) HS0 ?_ (hv := fun w' hS => by have q0 := hS.2.c0; first | (go_simp; rfl) | go_simp); simp only [lxa, lxb, lxc]
  refine lx_r 11 (.bool true) HS0 ?_ (hv := fun w' hS => by have q0 := hlt.out; first | (go_simp; rfl) | go_simp); simp only [lxa, lxb, lxc]
  refine lx_r 12 (.bool true) HS0 ?_; simp only [lxa, lxb, lxc]
  refine lx_one 13 (by kernel_rfl) (stepT_call 69 ?ac rfl rfl rfl ?rc ?_)
  case rc => first | (go_simp; rfl) | go_simp
  refine (demR_ok 8 _).mono ?_
  rintro e w3 ⟨rfl, hw3⟩
  subst hw3
  refine ⟨_, rfl, fun _ => HS0, ?_⟩
  simp only [lxa, lxb, lxc]
  refine lx_nil (by kernel_rfl) ?_
  have f1 := h1.fz 1
  have c1 := h1.c1
  have k1 := h1.setk true
  have k2 : EnAt (w3.setCell ⟨b, 1, none⟩ (.bool true)) (b + 1) (en0 ⟨#[]⟩) := h2.keep (setK w3 b 1 _) (by omega)
  have k3 := hb.trans ((setK w3 b 1 (.bool true)).below (by have := hb.size; have := HB.out; omega) (fun i hi => by omega))
  have k4 := k2.setB k3 (by omega) (enc { x with k := true })
  have k5 := k2.set { x with k := true }
  clear HS0 h1 h2 hR hb k3
  generalize hX : w3.setCell ⟨b, 1, none⟩ (.bool true) = X at k1 k2 k4 k5
  have HX : Hid (w3.setCell ⟨b, 1, none⟩ (.bool true) = X) := hX
  clear hX
  go_wp2_with (first
    | (rw [HX.out]; refine wp_load_en rfl (.tmp 3) rfl b rfl { x with k := true } k1 ?_; rw [HV.out])
    | (refine wp_store_en rfl (.tmp 4) (.tmp 20) rfl (b + 1) rfl { x with k := true } HV.out.symm _ k2 ?_))
  refine bodyPost_ret (v := V) ?_ rfl ⟨Or.inl ⟨trivial, rfl⟩, by rw [HB.out]; exact k4⟩
  rw [← HV.out]
  exact res_en rfl _ _ (b + 1) _ rfl k5
set_option maxHeartbeats 800000 in
theorem asItem_3 (w : World) (q mb : Nat) (R : Ro) (h : RA w q mb R) (x : En) (hk : x.k = false) (hlt : decide (R.kept < R.it) = false) :
    Calls Tryz.prog 91 #[.pointer (some ⟨q, 0, none⟩), env x] w fun e w' => ((false = true ∧ e = .returned (env { x with k := true })) ∨ (false = false ∧ e = .panicked (gaveR 8))) ∧ Below w.heap.size w w' := by
  have h1 : EnAt ((w.alloc (.cells (enc x) 51)).alloc (.cells (enc (en0 ⟨#[]⟩)) 51)).drew w.heap.size x := (EnAt.made w _).carry (below1 _ _).drew
  have h2 : EnAt ((w.alloc (.cells (enc x) 51)).alloc (.cells (enc (en0 ⟨#[]⟩)) 51)).drew (w.heap.size + 1) (en0 ⟨#[]⟩) := by have := (EnAt.made (w.alloc (.cells (enc x) 51)) (en0 ⟨#[]⟩)).drew; rw [show (w.alloc (.cells (enc x) 51)).heap.size = w.heap.size + 1 from by simp] at this; exact this
  have hb : Below w.heap.size w ((w.alloc (.cells (enc x) 51)).alloc (.cells (enc (en0 ⟨#[]⟩)) 51)).drew := (below2 _ _ _).drew
  have hR := h.below hb
  replace hk : Hid _ := hk
  replace hlt : Hid _ := hlt
  clear h
  obtain ⟨V, HV⟩ : ∃ V, Hid (env { x with k := true } = V) := ⟨_, rfl⟩
  rw [HV.out]
  show Calls Tryz.prog _ #[_, .agg (enc x)] _ _
  go_enter Tryz.func91, Tryz.ntmps91
  unfold enc gsv
  unfold enc gsv en0 at h1 h2 hb hR
  dsimp only at h1 h2 hb hR
  rw [gad_nil] at h1 h2 hb hR
  go_upto_region 1 with fail
  refine wp_region_lx (fun w' => EnAt w' w.heap.size x ∧ RA w' q mb R) [] 14 (by kernel_rfl) (by kernel_rfl) ?_
  have HS0 := And.intro h1 hR
  generalize World.drew _ = X at h1 h2 hb hR HS0 ⊢
  generalize hbb : w.heap.size = b at *
  have HB : Hid (w.heap.size = b) := hbb
  clear hbb
  refine lx_r 0 (.pointer (some ⟨b, 1, none⟩)) HS0 ?_; simp only [lxa, lxb, lxc]
  refine lx_r 1 (.bool false) HS0 ?_ (hv := fun w' hS => by have q0 := hS.1.c1; rw [hk.out] at q0; first | (go_simp; rfl) | go_simp); simp only [lxa, lxb, lxc]
  refine lx_r 2 (.bool false) HS0 ?_; simp only [lxa, lxb, lxc]
  refine lx_r 3 (.pointer (some ⟨q, 0, none⟩)) HS0 ?_; simp only [lxa, lxb, lxc]
  refine lx_r 4 (.pointer (some ⟨q, 0, none⟩)) HS0 ?_; simp only [lxa, lxb, lxc]
  refine lx_r 5 (.pointer (some ⟨q, 5, none⟩)) HS0 ?_; simp only [lxa, lxb, lxc]
  refine lx_r 6 (.int .i64 R.kept) HS0 ?_ (hv := fun w' hS => by have q0 := hS.2.c5; first | (go_simp; rfl) | go_simp); simp only [lxa, lxb, lxc]
  refine lx_r 7 (.pointer (some ⟨q, 0, none⟩)) HS0 ?_; simp only [lxa, lxb, lxc]
  refine lx_r 8 (.pointer (some ⟨q, 0, none⟩)) HS0 ?_; simp only [lxa, lxb, lxc]
  refine lx_r 9 (.pointer (some ⟨q, 0, none⟩)) HS0 ?_; simp only [lxa, lxb, lxc]
  refine lx_r 10 (.int .i64 R.it) HS0 ?_ (hv := fun w' hS => by have q0 := hS.2.c0; first | (go_simp; rfl) | go_simp); simp only [lxa, lxb, lxc]
  refine lx_r 11 (.bool false) HS0 ?_ (hv := fun w' hS => by have q0 := hlt.out; first | (go_simp; rfl) | go_simp); simp only [lxa, lxb, lxc]
  refine lx_r 12 (.bool false) HS0 ?_; simp only [lxa, lxb, lxc]
  refine lx_one 13 (by kernel_rfl) (stepT_callP 69 ?ac rfl rfl rfl ?rc ?_)
  case rc => first | (go_simp; rfl) | go_simp
  refine (demR_no 8 _).mono ?_
  rintro e w3 ⟨rfl, hw3⟩
  subst hw3
  exact Or.inr ⟨_, rfl, rfl, Or.inr ⟨trivial, rfl⟩, by rw [HB.out]; exact hb⟩
theorem asItem_any (w : World) (q mb : Nat) (R : Ro) (h : RA w q mb R) (x : En) :
    Calls Tryz.prog 91 #[.pointer (some ⟨q, 0, none⟩), env x] w fun e w' => ((roomB R x = true ∧ e = .returned (env { x with k := true })) ∨ (roomB R x = false ∧ e = .panicked (gaveR 8))) ∧ Below w.heap.size w w' := by
  unfold roomB
  cases hk : x.k with
  | true => rw [Bool.true_or]; have := asItem_1 w q mb R h x hk; exact this
  | false =>
    rw [Bool.false_or]
    cases hl : decide (R.kept < R.it) with
    | true => exact asItem_2 w q mb R h x hk hl
    | false => exact asItem_3 w q mb R h x hk hl
end Go.Proofs.YtppdopcghnfapaaGreatDoor

/- roster: lay. -/
set_option maxRecDepth 100000
namespace Go.Proofs.YtppdopcghnfapaaGreatDoor
open Go.RowKit Go.Joins

/-- The keys behind a store. -/
def subK (ks : List ByteArray) (c : ByteArray) : List ByteArray := ks.filter (fun s => decide (s ≠ c))
def addK (ks : List ByteArray) (c : ByteArray) : List ByteArray := c :: subK ks c
theorem subK_mem {ks : List ByteArray} {c s : ByteArray} : s ∈ subK ks c ↔ s ∈ ks ∧ s ≠ c := by
  unfold subK
  rw [List.mem_filter]
  simp
theorem subK_nd {ks : List ByteArray} {c : ByteArray} (h : ks.Nodup) : (subK ks c).Nodup := h.filter _
theorem subK_len {ks : List ByteArray} {c : ByteArray} : (subK ks c).length ≤ ks.length := List.length_filter_le _ _
theorem addK_nd {ks : List ByteArray} {c : ByteArray} (h : ks.Nodup) : (addK ks c).Nodup := List.nodup_cons.2 ⟨fun hm => (subK_mem.1 hm).2 rfl, subK_nd h⟩
theorem addK_mem {ks : List ByteArray} {c s : ByteArray} : s ∈ addK ks c ↔ s = c ∨ s ∈ ks := by
  unfold addK
  rw [List.mem_cons, subK_mem]
  constructor
  · rintro (e | e)
    · exact Or.inl e
    · exact Or.inr e.1
  · rintro (e | e)
    · exact Or.inl e
    · by_cases h : s = c
      · exact Or.inl h
      · exact Or.inr ⟨e, h⟩
theorem addK_len {ks : List ByteArray} {c : ByteArray} : (addK ks c).length ≤ ks.length + 1 := Nat.succ_le_succ subK_len

/-- What there was of a contact's entry: was it kept? -/
def wasK (R : Ro) (c : ByteArray) : Bool := ((R.m c).getD (en0 ⟨#[]⟩)).k
def keptB (R : Ro) (c : ByteArray) : Int := if wasK R c then R.kept - 1 else R.kept
def layR (R : Ro) (x : En) : Ro :=
  if thr x then { R with m := mputE R.m x.c (some x), ks := addK R.ks x.c, kept := if x.k then keptB R x.c + 1 else keptB R x.c }
  else { R with m := mputE R.m x.c none, ks := subK R.ks x.c, kept := keptB R x.c }
theorem RA.stored {w w' : World} {q mb : Nat} {R R' : Ro} (h : RA w q mb R) (x : En) (e1 : R'.m = mputE R.m x.c (some x)) (e2 : R'.ks = addK R.ks x.c) (hb : w'.heap[q]? = some (.cells (rcs R' mb) 92 (0, 0))) {n : Nat} (hm : EMap w' mb n (mputE R.m x.c (some x))) : RA w' q mb R' := by
  have hmem : ∀ s, (R'.m s).isSome = true ↔ s ∈ R'.ks := fun s => by
    rw [e1, e2, addK_mem]
    by_cases hs : s = x.c
    · rw [hs, mputE_same]; simp
    · rw [mputE_other _ _ hs, h.mem s]; simp [hs]
  refine ⟨hb, ?_, by rw [e2]; exact addK_nd h.nd, hmem⟩
  rw [← e1] at hm
  exact hm.tight _ (by rw [e2]; exact addK_nd h.nd) hmem
theorem RA.dropped {w w' : World} {q mb : Nat} {R R' : Ro} (h : RA w q mb R) (c : ByteArray) (e1 : R'.m = mputE R.m c none) (e2 : R'.ks = subK R.ks c) (hb : w'.heap[q]? = some (.cells (rcs R' mb) 92 (0, 0))) {n : Nat} (hm : EMap w' mb n (mputE R.m c none)) : RA w' q mb R' := by
  have hmem : ∀ s, (R'.m s).isSome = true ↔ s ∈ R'.ks := fun s => by
    rw [e1, e2, subK_mem]
    by_cases hs : s = c
    · rw [hs, mputE_same]; simp
    · rw [mputE_other _ _ hs, h.mem s]; simp [hs]
  refine ⟨hb, ?_, by rw [e2]; exact subK_nd h.nd, hmem⟩
  rw [← e1] at hm
  exact hm.tight _ (by rw [e2]; exact subK_nd h.nd) hmem
theorem exec_mapput {o : Oper} {ρ : Operand → Value} {w w' : World} (p y z : Operand) (ho : o.op = .mapUpdate 90 p y z) (mb : Nat) (hp : ρ p = .map (some mb)) (c : ByteArray) (hy : ρ y = .string c) (v : Value) (hz : ρ z = v)
    (hrun : (Instr.mapUpdate 90 (.map (some mb)) (.string c) v).run Tryz.prog w = .ok () w') : (execOp ρ o).run Tryz.prog w = .ok .skip w' := by
  unfold execOp
  simp only [ho, hp, hy, hz, Sem.run_bind, hrun, Result.andThen_ok, Sem.run_pure]
theorem exec_mapdel {o : Oper} {ρ : Operand → Value} {w w' : World} (p y : Operand) (ho : o.op = .call { callee := .builtin .delete, args := #[p, y], argTypes := #[90, 9] }) (mb : Nat) (hp : ρ p = .map (some mb)) (c : ByteArray) (hy : ρ y = .string c)
    (hrun : (Builtin.delete_ #[90, 9] o.type #[.map (some mb), .string c]).run Tryz.prog w = .ok (.tuple #[]) w') : (execOp ρ o).run Tryz.prog w = .ok (.value (.tuple #[])) w' := by
  unfold execOp
  simp [ho, hp, hy, resolve, invoke, builtin, hrun, Result.andThen]
set_option maxHeartbeats 1600000 in
theorem lay_1 (w : World) (q mb : Nat) (R : Ro) (h : RA w q mb R) (x : En) (hc : x.c.size ≤ 1000000) (hl : R.ks.length < 900000) (hk : -1000000 < R.kept ∧ R.kept < 1000000) (hw : wasK R x.c = true) (ht : thr x = true) (hx : x.k = true) :
    Calls Tryz.prog 80 #[.pointer (some ⟨q, 0, none⟩), env x] w fun e w' => e = .returned (.tuple #[]) ∧ RA w' q mb (layR R x) ∧ Keep (fun j => j = q ∨ j = mb) w w' := by
  have hcm : x.c.size ≤ maxLen := by unfold maxLen; omega
  have hEq : Hid (layR R x = { R with m := mputE R.m x.c (some x), ks := addK R.ks x.c, kept := R.kept - 1 + 1 }) := by
    show _ = _
    unfold layR keptB
    rw [ht, hw, hx]
    rfl
  have h1 : EnAt (w.alloc (.cells (enc x) 51)).drew w.heap.size x := (EnAt.made w x).drew
  have hb : Below w.heap.size w (w.alloc (.cells (enc x) 51)).drew := (below1 _ _).drew
  have hR := h.below hb
  have hbq : w.heap.size ≠ q := by have := h.lt; omega
  have hbm : w.heap.size ≠ mb := by have := h.map.lt; omega
  have HK : Hid (-1000000 < R.kept ∧ R.kept < 1000000) := hk
  have HL : Hid (R.ks.length < 900000) := hl
  have HW : Hid (wasK R x.c = true) := hw
  have HTt : Hid (thr x = true) := ht
  have HX : Hid (x.k = true) := hx
  clear hx
  have it := fun w => isThere_any x w
  rw [ht] at it
  unfold env at it
  obtain ⟨B, HB⟩ : ∃ B, Hid (w.heap.size = B) := ⟨_, rfl⟩
  clear h hk hl hw ht hc
  show Calls Tryz.prog _ #[_, .agg (enc x)] _ _
  go_enter Tryz.func80, Tryz.ntmps80
  unfold enc gsv at it ⊢
  unfold enc gsv at h1 hb hR
  go_upto_region 1 with fail
  refine wp_region_lx (fun w' => EnAt w' w.heap.size x ∧ RA w' q mb R) [] 8 (by kernel_rfl) (by kernel_rfl) ?_
  have HS0 := And.intro h1 hR
  generalize World.drew _ = X at h1 hb hR HS0 ⊢
  rw [HB.out] at h1 HS0 hbq hbm ⊢
  refine lx_r 0 (.pointer (some ⟨q, 0, none⟩)) HS0 ?_; simp only [lxa, lxb, lxc]
  refine lx_r 1 (.pointer (some ⟨q, 0, none⟩)) HS0 ?_; simp only [lxa, lxb, lxc]
  refine lx_r 2 (.pointer (some ⟨q, 4, none⟩)) HS0 ?_; simp only [lxa, lxb, lxc]
  refine lx_r 3 (.map (some mb)) HS0 ?_ (hv := fun w' hS => by have q0 := hS.2.c4; first | (go_simp; rfl) | go_simp); simp only [lxa, lxb, lxc]
  refine lx_r 4 (.pointer (some ⟨B, 0, none⟩)) HS0 ?_; simp only [lxa, lxb, lxc]
  refine lx_r 5 (.string x.c) HS0 ?_ (hv := fun w' hS => by have q0 := hS.1.c0; first | (go_simp; rfl) | go_simp); simp only [lxa, lxb, lxc]
  refine lx_r 6 (env ((R.m x.c).getD (en0 ⟨#[]⟩))) HS0 ?_ (hv := fun w' hS => by have q0 := hS.2.map.look1 x.c hcm; first | (go_simp; rfl) | go_simp); simp only [lxa, lxb, lxc]
  refine lx_r 7 (.bool true) HS0 ?_ (hv := fun w' hS => by have q0 : (Instr.field 51 (env ((R.m x.c).getD (en0 ⟨#[]⟩))) 1).run Tryz.prog w' = .ok (.bool ((R.m x.c).getD (en0 ⟨#[]⟩)).k) w' := (by simp [Instr.field, go_sem, asAgg, env, enc]); rw [show ((R.m x.c).getD (en0 ⟨#[]⟩)).k = true from HW.out] at q0; first | (go_simp; rfl) | go_simp); simp only [lxa, lxb, lxc]
  refine lx_nil (by kernel_rfl) ?_
  have wr0 : IntKind.wrap .i64 (R.kept - 1) = R.kept - 1 := (by have := HK.out; exact wi64' (by omega) (by omega) rfl)
  have c5 := hR.c5
  have f5 := hR.fz 5
  have h2 : RA (X.setCell ⟨q, 5, none⟩ (.int .i64 (R.kept - 1))) q mb { R with kept := R.kept - 1 } := hR.set 5 _ _ rfl rfl rfl
  have h3 : EnAt (X.setCell ⟨q, 5, none⟩ (.int .i64 (R.kept - 1))) B x := h1.keep (setK X q 5 _) hbq
  have hb2 : Keep (fun j => j = q ∨ j = mb) w (X.setCell ⟨q, 5, none⟩ (.int .i64 (R.kept - 1))) := (Keep.ofBelow hb).trans ((setK X q 5 _).mono (fun i e => Or.inl e))
  generalize hY : X.setCell ⟨q, 5, none⟩ (.int .i64 (R.kept - 1)) = Y at h2 h3 hb2
  have HY : Hid (X.setCell ⟨q, 5, none⟩ (.int .i64 (R.kept - 1)) = Y) := hY
  clear hY HS0
  have h1' : EnAt X B x := h1
  clear h1 hb hR
  obtain ⟨R1, HR1⟩ : ∃ R1, Hid (({ R with kept := R.kept - 1 } : Ro) = R1) := ⟨_, rfl⟩
  have h2' : RA Y q mb R1 := by rw [← HR1.out]; exact h2
  clear h2
  go_upto_region 5 with (first
    | (refine wp_load_en rfl (.tmp 3) rfl B rfl x (by rw [HY.out]; exact h3) ?_; rw [HY.out])
    | (go_at_call 101; refine (it _).mono ?_; rintro e w4 ⟨rfl, hb4⟩))

  have h4 := h2'.below hb4
  have h5 := h3.carry hb4
  have hb5 : Keep (fun j => j = q ∨ j = mb) w w4 := hb2.trans (Keep.ofBelow hb4)
  clear h2' h3 hb2 hb4
  have c1 := h5.c1
  rw [HX.out] at c1
  have eK : R1.kept = R.kept - 1 := by rw [← HR1.out]
  have wr1 : IntKind.wrap .i64 (R1.kept + 1) = R1.kept + 1 := (by have := HK.out; rw [eK]; exact wi64' (by omega) (by omega) rfl)
  have c5' := h4.c5
  have f5' := h4.fz 5
  obtain ⟨kk, Hkk⟩ : ∃ kk, Hid (R1.kept = kk) := ⟨_, rfl⟩
  rw [Hkk.out] at wr1 c5'
  have h6 : RA (w4.setCell ⟨q, 5, none⟩ (.int .i64 (kk + 1))) q mb { R1 with kept := kk + 1 } := h4.set 5 _ _ rfl rfl rfl
  have h7 : EnAt (w4.setCell ⟨q, 5, none⟩ (.int .i64 (kk + 1))) B x := h5.keep (setK w4 q 5 _) hbq
  have hb6 : Keep (fun j => j = q ∨ j = mb) w (w4.setCell ⟨q, 5, none⟩ (.int .i64 (kk + 1))) := hb5.trans ((setK w4 q 5 _).mono (fun i e => Or.inl e))
  have eK2 : Hid (kk + 1 = R.kept - 1 + 1) := by show _ = _; rw [← Hkk.out, eK]
  clear h4 h5 hb5 eK
  go_upto_region 7 with fail
  have h6d := h6.drew
  have h7d := h7.drew
  have hb6d := Keep.drew hb6
  refine wp_region_lx (fun w' => EnAt w' B x ∧ w'.cell? ⟨q, 4, none⟩ = some (.map (some mb))) [] 8 (by kernel_rfl) (by kernel_rfl) ?_
  generalize World.drew _ = Z at h6d h7d hb6d ⊢
  have HS0 := And.intro h7d h6d.c4
  refine lx_r 0 (.pointer (some ⟨q, 0, none⟩)) HS0 ?_; simp only [lxa, lxb, lxc]
  refine lx_r 1 (.pointer (some ⟨q, 0, none⟩)) HS0 ?_; simp only [lxa, lxb, lxc]
  refine lx_r 2 (.pointer (some ⟨q, 4, none⟩)) HS0 ?_; simp only [lxa, lxb, lxc]
  refine lx_r 3 (.map (some mb)) HS0 ?_ (hv := fun w' hS => by have q0 := hS.2; first | (go_simp; rfl) | go_simp); simp only [lxa, lxb, lxc]
  refine lx_r 4 (.pointer (some ⟨B, 0, none⟩)) HS0 ?_; simp only [lxa, lxb, lxc]
  refine lx_r 5 (.string x.c) HS0 ?_ (hv := fun w' hS => by have q0 := hS.1.c0; first | (go_simp; rfl) | go_simp); simp only [lxa, lxb, lxc]
  refine lx_r 6 (env x) HS0 ?_ (hv := fun w' hS => by exact exec_load_en (.tmp 3) rfl B rfl x hS.1); simp only [lxa, lxb, lxc]
  have e1 : R.m = R1.m := by rw [← HR1.out]
  have e2 : R.ks = R1.ks := by rw [← HR1.out]
  have hm0 := h6d.map
  obtain ⟨Z2, hr2, hm2, hk2⟩ := hm0.store (by show R1.ks.length < 1000000; rw [← e2]; have := HL.out; omega) x.c hcm x
  have h5z : EnAt Z2 B x := h7d.keep hk2 hbm
  refine lx_one 7 (by kernel_rfl) (stepT_store (w' := Z2) rfl rfl rfl ?cd (fun _ => ⟨h5z, hk2.cell HS0.2 h6d.ne⟩) ?_)
  case cd => exact exec_mapput (.tmp 40) (.tmp 42) (.tmp 43) rfl mb rfl x.c rfl (env x) rfl hr2
  refine lx_nil (by kernel_rfl) ?_
  go_wp2
  rw [show layR R x = _ from hEq.out]
  refine bodyPost_end (results_none (by rfl) _ _ _) rfl ⟨rfl, h6d.stored x (by rw [e1]) (by rw [e2]) ?_ hm2, hb6d.trans (hk2.mono (fun i e => Or.inr e))⟩
  rw [hk2.block q h6d.lt h6d.ne, h6d.blk]
  unfold rcs
  rw [← HR1.out, eK2.out]
set_option maxHeartbeats 1600000 in
theorem lay_2 (w : World) (q mb : Nat) (R : Ro) (h : RA w q mb R) (x : En) (hc : x.c.size ≤ 1000000) (hl : R.ks.length < 900000) (hk : -1000000 < R.kept ∧ R.kept < 1000000) (hw : wasK R x.c = false) (ht : thr x = true) (hx : x.k = true) :
    Calls Tryz.prog 80 #[.pointer (some ⟨q, 0, none⟩), env x] w fun e w' => e = .returned (.tuple #[]) ∧ RA w' q mb (layR R x) ∧ Keep (fun j => j = q ∨ j = mb) w w' := by
  have hcm : x.c.size ≤ maxLen := by unfold maxLen; omega
  have hEq : Hid (layR R x = { R with m := mputE R.m x.c (some x), ks := addK R.ks x.c, kept := R.kept + 1 }) := by
    show _ = _
    unfold layR keptB
    rw [ht, hw, hx]
    rfl
  have h1 : EnAt (w.alloc (.cells (enc x) 51)).drew w.heap.size x := (EnAt.made w x).drew
  have hb : Below w.heap.size w (w.alloc (.cells (enc x) 51)).drew := (below1 _ _).drew
  have hR := h.below hb
  have hbq : w.heap.size ≠ q := by have := h.lt; omega
  have hbm : w.heap.size ≠ mb := by have := h.map.lt; omega
  have HK : Hid (-1000000 < R.kept ∧ R.kept < 1000000) := hk
  have HL : Hid (R.ks.length < 900000) := hl
  have HW : Hid (wasK R x.c = false) := hw
  have HTt : Hid (thr x = true) := ht
  have HX : Hid (x.k = true) := hx
  clear hx
  have it := fun w => isThere_any x w
  rw [ht] at it
  unfold env at it
  obtain ⟨B, HB⟩ : ∃ B, Hid (w.heap.size = B) := ⟨_, rfl⟩
  clear h hk hl hw ht hc
  show Calls Tryz.prog _ #[_, .agg (enc x)] _ _
  go_enter Tryz.func80, Tryz.ntmps80
  unfold enc gsv at it ⊢
  unfold enc gsv at h1 hb hR
  go_upto_region 1 with fail
  refine wp_region_lx (fun w' => EnAt w' w.heap.size x ∧ RA w' q mb R) [] 8 (by kernel_rfl) (by kernel_rfl) ?_
  have HS0 := And.intro h1 hR
  generalize World.drew _ = X at h1 hb hR HS0 ⊢
  rw [HB.out] at h1 HS0 hbq hbm ⊢
  refine lx_r 0 (.pointer (some ⟨q, 0, none⟩)) HS0 ?_; simp only [lxa, lxb, lxc]
  refine lx_r 1 (.pointer (some ⟨q, 0, none⟩)) HS0 ?_; simp only [lxa, lxb, lxc]
  refine lx_r 2 (.pointer (some ⟨q, 4, none⟩)) HS0 ?_; simp only [lxa, lxb, lxc]
  refine lx_r 3 (.map (some mb)) HS0 ?_ (hv := fun w' hS => by have q0 := hS.2.c4; first | (go_simp; rfl) | go_simp); simp only [lxa, lxb, lxc]
  refine lx_r 4 (.pointer (some ⟨B, 0, none⟩)) HS0 ?_; simp only [lxa, lxb, lxc]
  refine lx_r 5 (.string x.c) HS0 ?_ (hv := fun w' hS => by have q0 := hS.1.c0; first | (go_simp; rfl) | go_simp); simp only [lxa, lxb, lxc]
  refine lx_r 6 (env ((R.m x.c).getD (en0 ⟨#[]⟩))) HS0 ?_ (hv := fun w' hS => by have q0 := hS.2.map.look1 x.c hcm; first | (go_simp; rfl) | go_simp); simp only [lxa, lxb, lxc]
  refine lx_r 7 (.bool false) HS0 ?_ (hv := fun w' hS => by have q0 : (Instr.field 51 (env ((R.m x.c).getD (en0 ⟨#[]⟩))) 1).run Tryz.prog w' = .ok (.bool ((R.m x.c).getD (en0 ⟨#[]⟩)).k) w' := (by simp [Instr.field, go_sem, asAgg, env, enc]); rw [show ((R.m x.c).getD (en0 ⟨#[]⟩)).k = false from HW.out] at q0; first | (go_simp; rfl) | go_simp); simp only [lxa, lxb, lxc]
  refine lx_nil (by kernel_rfl) ?_
  have h2 : RA X q mb R := hR
  have h3 : EnAt X B x := h1
  have hb2 : Keep (fun j => j = q ∨ j = mb) w X := Keep.ofBelow hb
  clear HS0 h1 hb hR
  obtain ⟨R1, HR1⟩ : ∃ R1, Hid ((R : Ro) = R1) := ⟨_, rfl⟩
  have h2' : RA X q mb R1 := by rw [← HR1.out]; exact h2
  clear h2
  go_upto_region 5 with (first
    | (refine wp_load_en rfl (.tmp 3) rfl B rfl x h3 ?_)
    | (go_at_call 101; refine (it _).mono ?_; rintro e w4 ⟨rfl, hb4⟩))

  have h4 := h2'.below hb4
  have h5 := h3.carry hb4
  have hb5 : Keep (fun j => j = q ∨ j = mb) w w4 := hb2.trans (Keep.ofBelow hb4)
  clear h2' h3 hb2 hb4
  have c1 := h5.c1
  rw [HX.out] at c1
  have eK : R1.kept = R.kept := by rw [← HR1.out]
  have wr1 : IntKind.wrap .i64 (R1.kept + 1) = R1.kept + 1 := (by have := HK.out; rw [eK]; exact wi64' (by omega) (by omega) rfl)
  have c5' := h4.c5
  have f5' := h4.fz 5
  obtain ⟨kk, Hkk⟩ : ∃ kk, Hid (R1.kept = kk) := ⟨_, rfl⟩
  rw [Hkk.out] at wr1 c5'
  have h6 : RA (w4.setCell ⟨q, 5, none⟩ (.int .i64 (kk + 1))) q mb { R1 with kept := kk + 1 } := h4.set 5 _ _ rfl rfl rfl
  have h7 : EnAt (w4.setCell ⟨q, 5, none⟩ (.int .i64 (kk + 1))) B x := h5.keep (setK w4 q 5 _) hbq
  have hb6 : Keep (fun j => j = q ∨ j = mb) w (w4.setCell ⟨q, 5, none⟩ (.int .i64 (kk + 1))) := hb5.trans ((setK w4 q 5 _).mono (fun i e => Or.inl e))
  have eK2 : Hid (kk + 1 = R.kept + 1) := by show _ = _; rw [← Hkk.out, eK]
  clear h4 h5 hb5 eK
  go_upto_region 7 with fail
  have h6d := h6.drew
  have h7d := h7.drew
  have hb6d := Keep.drew hb6
  refine wp_region_lx (fun w' => EnAt w' B x ∧ w'.cell? ⟨q, 4, none⟩ = some (.map (some mb))) [] 8 (by kernel_rfl) (by kernel_rfl) ?_
  generalize World.drew _ = Z at h6d h7d hb6d ⊢
  have HS0 := And.intro h7d h6d.c4
  refine lx_r 0 (.pointer (some ⟨q, 0, none⟩)) HS0 ?_; simp only [lxa, lxb, lxc]
  refine lx_r 1 (.pointer (some ⟨q, 0, none⟩)) HS0 ?_; simp only [lxa, lxb, lxc]
  refine lx_r 2 (.pointer (some ⟨q, 4, none⟩)) HS0 ?_; simp only [lxa, lxb, lxc]
  refine lx_r 3 (.map (some mb)) HS0 ?_ (hv := fun w' hS => by have q0 := hS.2; first | (go_simp; rfl) | go_simp); simp only [lxa, lxb, lxc]
  refine lx_r 4 (.pointer (some ⟨B, 0, none⟩)) HS0 ?_; simp only [lxa, lxb, lxc]
  refine lx_r 5 (.string x.c) HS0 ?_ (hv := fun w' hS => by have q0 := hS.1.c0; first | (go_simp; rfl) | go_simp); simp only [lxa, lxb, lxc]
  refine lx_r 6 (env x) HS0 ?_ (hv := fun w' hS => by exact exec_load_en (.tmp 3) rfl B rfl x hS.1); simp only [lxa, lxb, lxc]
  have e1 : R.m = R1.m := by rw [← HR1.out]
  have e2 : R.ks = R1.ks := by rw [← HR1.out]
  have hm0 := h6d.map
  obtain ⟨Z2, hr2, hm2, hk2⟩ := hm0.store (by show R1.ks.length < 1000000; rw [← e2]; have := HL.out; omega) x.c hcm x
  have h5z : EnAt Z2 B x := h7d.keep hk2 hbm
  refine lx_one 7 (by kernel_rfl) (stepT_store (w' := Z2) rfl rfl rfl ?cd (fun _ => ⟨h5z, hk2.cell HS0.2 h6d.ne⟩) ?_)
  case cd => exact exec_mapput (.tmp 40) (.tmp 42) (.tmp 43) rfl mb rfl x.c rfl (env x) rfl hr2
  refine lx_nil (by kernel_rfl) ?_
  go_wp2
  rw [show layR R x = _ from hEq.out]
  refine bodyPost_end (results_none (by rfl) _ _ _) rfl ⟨rfl, h6d.stored x (by rw [e1]) (by rw [e2]) ?_ hm2, hb6d.trans (hk2.mono (fun i e => Or.inr e))⟩
  rw [hk2.block q h6d.lt h6d.ne, h6d.blk]
  unfold rcs
  rw [← HR1.out, eK2.out]
set_option maxHeartbeats 1600000 in
theorem lay_3 (w : World) (q mb : Nat) (R : Ro) (h : RA w q mb R) (x : En) (hc : x.c.size ≤ 1000000) (hl : R.ks.length < 900000) (hk : -1000000 < R.kept ∧ R.kept < 1000000) (hw : wasK R x.c = true) (ht : thr x = true) (hx : x.k = false) :
    Calls Tryz.prog 80 #[.pointer (some ⟨q, 0, none⟩), env x] w fun e w' => e = .returned (.tuple #[]) ∧ RA w' q mb (layR R x) ∧ Keep (fun j => j = q ∨ j = mb) w w' := by
  have hcm : x.c.size ≤ maxLen := by unfold maxLen; omega
  have hEq : Hid (layR R x = { R with m := mputE R.m x.c (some x), ks := addK R.ks x.c, kept := R.kept - 1 }) := by
    show _ = _
    unfold layR keptB
    rw [ht, hw, hx]
    rfl
  have h1 : EnAt (w.alloc (.cells (enc x) 51)).drew w.heap.size x := (EnAt.made w x).drew
  have hb : Below w.heap.size w (w.alloc (.cells (enc x) 51)).drew := (below1 _ _).drew
  have hR := h.below hb
  have hbq : w.heap.size ≠ q := by have := h.lt; omega
  have hbm : w.heap.size ≠ mb := by have := h.map.lt; omega
  have HK : Hid (-1000000 < R.kept ∧ R.kept < 1000000) := hk
  have HL : Hid (R.ks.length < 900000) := hl
  have HW : Hid (wasK R x.c = true) := hw
  have HTt : Hid (thr x = true) := ht
  have HX : Hid (x.k = false) := hx
  clear hx
  have it := fun w => isThere_any x w
  rw [ht] at it
  unfold env at it
  obtain ⟨B, HB⟩ : ∃ B, Hid (w.heap.size = B) := ⟨_, rfl⟩
  clear h hk hl hw ht hc
  show Calls Tryz.prog _ #[_, .agg (enc x)] _ _
  go_enter Tryz.func80, Tryz.ntmps80
  unfold enc gsv at it ⊢
  unfold enc gsv at h1 hb hR
  go_upto_region 1 with fail
  refine wp_region_lx (fun w' => EnAt w' w.heap.size x ∧ RA w' q mb R) [] 8 (by kernel_rfl) (by kernel_rfl) ?_
  have HS0 := And.intro h1 hR
  generalize World.drew _ = X at h1 hb hR HS0 ⊢
  rw [HB.out] at h1 HS0 hbq hbm ⊢
  refine lx_r 0 (.pointer (some ⟨q, 0, none⟩)) HS0 ?_; simp only [lxa, lxb, lxc]
  refine lx_r 1 (.pointer (some ⟨q, 0, none⟩)) HS0 ?_; simp only [lxa, lxb, lxc]
  refine lx_r 2 (.pointer (some ⟨q, 4, none⟩)) HS0 ?_; simp only [lxa, lxb, lxc]
  refine lx_r 3 (.map (some mb)) HS0 ?_ (hv := fun w' hS => by have q0 := hS.2.c4; first | (go_simp; rfl) | go_simp); simp only [lxa, lxb, lxc]
  refine lx_r 4 (.pointer (some ⟨B, 0, none⟩)) HS0 ?_; simp only [lxa, lxb, lxc]
  refine lx_r 5 (.string x.c) HS0 ?_ (hv := fun w' hS => by have q0 := hS.1.c0; first | (go_simp; rfl) | go_simp); simp only [lxa, lxb, lxc]
  refine lx_r 6 (env ((R.m x.c).getD (en0 ⟨#[]⟩))) HS0 ?_ (hv := fun w' hS => by have q0 := hS.2.map.look1 x.c hcm; first | (go_simp; rfl) | go_simp); simp only [lxa, lxb, lxc]
  refine lx_r 7 (.bool true) HS0 ?_ (hv := fun w' hS => by have q0 : (Instr.field 51 (env ((R.m x.c).getD (en0 ⟨#[]⟩))) 1).run Tryz.prog w' = .ok (.bool ((R.m x.c).getD (en0 ⟨#[]⟩)).k) w' := (by simp [Instr.field, go_sem, asAgg, env, enc]); rw [show ((R.m x.c).getD (en0 ⟨#[]⟩)).k = true from HW.out] at q0; first | (go_simp; rfl) | go_simp); simp only [lxa, lxb, lxc]
  refine lx_nil (by kernel_rfl) ?_
  have wr0 : IntKind.wrap .i64 (R.kept - 1) = R.kept - 1 := (by have := HK.out; exact wi64' (by omega) (by omega) rfl)
  have c5 := hR.c5
  have f5 := hR.fz 5
  have h2 : RA (X.setCell ⟨q, 5, none⟩ (.int .i64 (R.kept - 1))) q mb { R with kept := R.kept - 1 } := hR.set 5 _ _ rfl rfl rfl
  have h3 : EnAt (X.setCell ⟨q, 5, none⟩ (.int .i64 (R.kept - 1))) B x := h1.keep (setK X q 5 _) hbq
  have hb2 : Keep (fun j => j = q ∨ j = mb) w (X.setCell ⟨q, 5, none⟩ (.int .i64 (R.kept - 1))) := (Keep.ofBelow hb).trans ((setK X q 5 _).mono (fun i e => Or.inl e))
  generalize hY : X.setCell ⟨q, 5, none⟩ (.int .i64 (R.kept - 1)) = Y at h2 h3 hb2
  have HY : Hid (X.setCell ⟨q, 5, none⟩ (.int .i64 (R.kept - 1)) = Y) := hY
  clear hY HS0
  have h1' : EnAt X B x := h1
  clear h1 hb hR
  obtain ⟨R1, HR1⟩ : ∃ R1, Hid (({ R with kept := R.kept - 1 } : Ro) = R1) := ⟨_, rfl⟩
  have h2' : RA Y q mb R1 := by rw [← HR1.out]; exact h2
  clear h2
  go_upto_region 5 with (first
    | (refine wp_load_en rfl (.tmp 3) rfl B rfl x (by rw [HY.out]; exact h3) ?_; rw [HY.out])
    | (go_at_call 101; refine (it _).mono ?_; rintro e w4 ⟨rfl, hb4⟩))

  have h4 := h2'.below hb4
  have h5 := h3.carry hb4
  have hb5 : Keep (fun j => j = q ∨ j = mb) w w4 := hb2.trans (Keep.ofBelow hb4)
  clear h2' h3 hb2 hb4
  have c1 := h5.c1
  rw [HX.out] at c1
  have h6d := h4.drew
  have h7d := h5.drew
  have hb6d := Keep.drew hb5
  clear hb5
  go_upto_region 7 with fail
  refine wp_region_lx (fun w' => EnAt w' B x ∧ w'.cell? ⟨q, 4, none⟩ = some (.map (some mb))) [] 8 (by kernel_rfl) (by kernel_rfl) ?_
  generalize World.drew _ = Z at h6d h7d hb6d ⊢
  have HS0 := And.intro h7d h6d.c4
  refine lx_r 0 (.pointer (some ⟨q, 0, none⟩)) HS0 ?_; simp only [lxa, lxb, lxc]
  refine lx_r 1 (.pointer (some ⟨q, 0, none⟩)) HS0 ?_; simp only [lxa, lxb, lxc]
  refine lx_r 2 (.pointer (some ⟨q, 4, none⟩)) HS0 ?_; simp only [lxa, lxb, lxc]
  refine lx_r 3 (.map (some mb)) HS0 ?_ (hv := fun w' hS => by have q0 := hS.2; first | (go_simp; rfl) | go_simp); simp only [lxa, lxb, lxc]
  refine lx_r 4 (.pointer (some ⟨B, 0, none⟩)) HS0 ?_; simp only [lxa, lxb, lxc]
  refine lx_r 5 (.string x.c) HS0 ?_ (hv := fun w' hS => by have q0 := hS.1.c0; first | (go_simp; rfl) | go_simp); simp only [lxa, lxb, lxc]
  refine lx_r 6 (env x) HS0 ?_ (hv := fun w' hS => by exact exec_load_en (.tmp 3) rfl B rfl x hS.1); simp only [lxa, lxb, lxc]
  have e1 : R.m = R1.m := by rw [← HR1.out]
  have e2 : R.ks = R1.ks := by rw [← HR1.out]
  have hm0 := h6d.map
  obtain ⟨Z2, hr2, hm2, hk2⟩ := hm0.store (by show R1.ks.length < 1000000; rw [← e2]; have := HL.out; omega) x.c hcm x
  have h5z : EnAt Z2 B x := h7d.keep hk2 hbm
  refine lx_one 7 (by kernel_rfl) (stepT_store (w' := Z2) rfl rfl rfl ?cd (fun _ => ⟨h5z, hk2.cell HS0.2 h6d.ne⟩) ?_)
  case cd => exact exec_mapput (.tmp 40) (.tmp 42) (.tmp 43) rfl mb rfl x.c rfl (env x) rfl hr2
  refine lx_nil (by kernel_rfl) ?_
  go_wp2
  rw [show layR R x = _ from hEq.out]
  refine bodyPost_end (results_none (by rfl) _ _ _) rfl ⟨rfl, h6d.stored x (by rw [e1]) (by rw [e2]) ?_ hm2, hb6d.trans (hk2.mono (fun i e => Or.inr e))⟩
  rw [hk2.block q h6d.lt h6d.ne, h6d.blk]
  unfold rcs
  rw [← HR1.out]
set_option maxHeartbeats 1600000 in
theorem lay_4 (w : World) (q mb : Nat) (R : Ro) (h : RA w q mb R) (x : En) (hc : x.c.size ≤ 1000000) (hl : R.ks.length < 900000) (hk : -1000000 < R.kept ∧ R.kept < 1000000) (hw : wasK R x.c = false) (ht : thr x = true) (hx : x.k = false) :
    Calls Tryz.prog 80 #[.pointer (some ⟨q, 0, none⟩), env x] w fun e w' => e = .returned (.tuple #[]) ∧ RA w' q mb (layR R x) ∧ Keep (fun j => j = q ∨ j = mb) w w' := by
  have hcm : x.c.size ≤ maxLen := by unfold maxLen; omega
  have hEq : Hid (layR R x = { R with m := mputE R.m x.c (some x), ks := addK R.ks x.c, kept := R.kept }) := by
    show _ = _
    unfold layR keptB
    rw [ht, hw, hx]
    rfl
  have h1 : EnAt (w.alloc (.cells (enc x) 51)).drew w.heap.size x := (EnAt.made w x).drew
  have hb : Below w.heap.size w (w.alloc (.cells (enc x) 51)).drew := (below1 _ _).drew
  have hR := h.below hb
  have hbq : w.heap.size ≠ q := by have := h.lt; omega
  have hbm : w.heap.size ≠ mb := by have := h.map.lt; omega
  have HK : Hid (-1000000 < R.kept ∧ R.kept < 1000000) := hk
  have HL : Hid (R.ks.length < 900000) := hl
  have HW : Hid (wasK R x.c = false) := hw
  have HTt : Hid (thr x = true) := ht
  have HX : Hid (x.k = false) := hx
  clear hx
  have it := fun w => isThere_any x w
  rw [ht] at it
  unfold env at it
  obtain ⟨B, HB⟩ : ∃ B, Hid (w.heap.size = B) := ⟨_, rfl⟩
  clear h hk hl hw ht hc
  show Calls Tryz.prog _ #[_, .agg (enc x)] _ _
  go_enter Tryz.func80, Tryz.ntmps80
  unfold enc gsv at it ⊢
  unfold enc gsv at h1 hb hR
  go_upto_region 1 with fail
  refine wp_region_lx (fun w' => EnAt w' w.heap.size x ∧ RA w' q mb R) [] 8 (by kernel_rfl) (by kernel_rfl) ?_
  have HS0 := And.intro h1 hR
  generalize World.drew _ = X at h1 hb hR HS0 ⊢
  rw [HB.out] at h1 HS0 hbq hbm ⊢
  refine lx_r 0 (.pointer (some ⟨q, 0, none⟩)) HS0 ?_; simp only [lxa, lxb, lxc]
  refine lx_r 1 (.pointer (some ⟨q, 0, none⟩)) HS0 ?_; simp only [lxa, lxb, lxc]
  refine lx_r 2 (.pointer (some ⟨q, 4, none⟩)) HS0 ?_; simp only [lxa, lxb, lxc]
  refine lx_r 3 (.map (some mb)) HS0 ?_ (hv := fun w' hS => by have q0 := hS.2.c4; first | (go_simp; rfl) | go_simp); simp only [lxa, lxb, lxc]
  refine lx_r 4 (.pointer (some ⟨B, 0, none⟩)) HS0 ?_; simp only [lxa, lxb, lxc]
  refine lx_r 5 (.string x.c) HS0 ?_ (hv := fun w' hS => by have q0 := hS.1.c0; first | (go_simp; rfl) | go_simp); simp only [lxa, lxb, lxc]
  refine lx_r 6 (env ((R.m x.c).getD (en0 ⟨#[]⟩))) HS0 ?_ (hv := fun w' hS => by have q0 := hS.2.map.look1 x.c hcm; first | (go_simp; rfl) | go_simp); simp only [lxa, lxb, lxc]
  refine lx_r 7 (.bool false) HS0 ?_ (hv := fun w' hS => by have q0 : (Instr.field 51 (env ((R.m x.c).getD (en0 ⟨#[]⟩))) 1).run Tryz.prog w' = .ok (.bool ((R.m x.c).getD (en0 ⟨#[]⟩)).k) w' := (by simp [Instr.field, go_sem, asAgg, env, enc]); rw [show ((R.m x.c).getD (en0 ⟨#[]⟩)).k = false from HW.out] at q0; first | (go_simp; rfl) | go_simp); simp only [lxa, lxb, lxc]
  refine lx_nil (by kernel_rfl) ?_
  have h2 : RA X q mb R := hR
  have h3 : EnAt X B x := h1
  have hb2 : Keep (fun j => j = q ∨ j = mb) w X := Keep.ofBelow hb
  clear HS0 h1 hb hR
  obtain ⟨R1, HR1⟩ : ∃ R1, Hid ((R : Ro) = R1) := ⟨_, rfl⟩
  have h2' : RA X q mb R1 := by rw [← HR1.out]; exact h2
  clear h2
  go_upto_region 5 with (first
    | (refine wp_load_en rfl (.tmp 3) rfl B rfl x h3 ?_)
    | (go_at_call 101; refine (it _).mono ?_; rintro e w4 ⟨rfl, hb4⟩))

  have h4 := h2'.below hb4
  have h5 := h3.carry hb4
  have hb5 : Keep (fun j => j = q ∨ j = mb) w w4 := hb2.trans (Keep.ofBelow hb4)
  clear h2' h3 hb2 hb4
  have c1 := h5.c1
  rw [HX.out] at c1
  have h6d := h4.drew
  have h7d := h5.drew
  have hb6d := Keep.drew hb5
  clear hb5
  go_upto_region 7 with fail
  refine wp_region_lx (fun w' => EnAt w' B x ∧ w'.cell? ⟨q, 4, none⟩ = some (.map (some mb))) [] 8 (by kernel_rfl) (by kernel_rfl) ?_
  generalize World.drew _ = Z at h6d h7d hb6d ⊢
  have HS0 := And.intro h7d h6d.c4
  refine lx_r 0 (.pointer (some ⟨q, 0, none⟩)) HS0 ?_; simp only [lxa, lxb, lxc]
  refine lx_r 1 (.pointer (some ⟨q, 0, none⟩)) HS0 ?_; simp only [lxa, lxb, lxc]
  refine lx_r 2 (.pointer (some ⟨q, 4, none⟩)) HS0 ?_; simp only [lxa, lxb, lxc]
  refine lx_r 3 (.map (some mb)) HS0 ?_ (hv := fun w' hS => by have q0 := hS.2; first | (go_simp; rfl) | go_simp); simp only [lxa, lxb, lxc]
  refine lx_r 4 (.pointer (some ⟨B, 0, none⟩)) HS0 ?_; simp only [lxa, lxb, lxc]
  refine lx_r 5 (.string x.c) HS0 ?_ (hv := fun w' hS => by have q0 := hS.1.c0; first | (go_simp; rfl) | go_simp); simp only [lxa, lxb, lxc]
  refine lx_r 6 (env x) HS0 ?_ (hv := fun w' hS => by exact exec_load_en (.tmp 3) rfl B rfl x hS.1); simp only [lxa, lxb, lxc]
  have e1 : R.m = R1.m := by rw [← HR1.out]
  have e2 : R.ks = R1.ks := by rw [← HR1.out]
  have hm0 := h6d.map
  obtain ⟨Z2, hr2, hm2, hk2⟩ := hm0.store (by show R1.ks.length < 1000000; rw [← e2]; have := HL.out; omega) x.c hcm x
  have h5z : EnAt Z2 B x := h7d.keep hk2 hbm
  refine lx_one 7 (by kernel_rfl) (stepT_store (w' := Z2) rfl rfl rfl ?cd (fun _ => ⟨h5z, hk2.cell HS0.2 h6d.ne⟩) ?_)
  case cd => exact exec_mapput (.tmp 40) (.tmp 42) (.tmp 43) rfl mb rfl x.c rfl (env x) rfl hr2
  refine lx_nil (by kernel_rfl) ?_
  go_wp2
  rw [show layR R x = _ from hEq.out]
  refine bodyPost_end (results_none (by rfl) _ _ _) rfl ⟨rfl, h6d.stored x (by rw [e1]) (by rw [e2]) ?_ hm2, hb6d.trans (hk2.mono (fun i e => Or.inr e))⟩
  rw [hk2.block q h6d.lt h6d.ne, h6d.blk]
  unfold rcs
  rw [← HR1.out]
set_option maxHeartbeats 1600000 in
theorem lay_5 (w : World) (q mb : Nat) (R : Ro) (h : RA w q mb R) (x : En) (hc : x.c.size ≤ 1000000) (hl : R.ks.length < 900000) (hk : -1000000 < R.kept ∧ R.kept < 1000000) (hw : wasK R x.c = true) (ht : thr x = false) :
    Calls Tryz.prog 80 #[.pointer (some ⟨q, 0, none⟩), env x] w fun e w' => e = .returned (.tuple #[]) ∧ RA w' q mb (layR R x) ∧ Keep (fun j => j = q ∨ j = mb) w w' := by
  have hcm : x.c.size ≤ maxLen := by unfold maxLen; omega
  have hEq : Hid (layR R x = { R with m := mputE R.m x.c none, ks := subK R.ks x.c, kept := R.kept - 1 }) := by
    show _ = _
    unfold layR keptB
    rw [ht, hw]
    rfl
  have h1 : EnAt (w.alloc (.cells (enc x) 51)).drew w.heap.size x := (EnAt.made w x).drew
  have hb : Below w.heap.size w (w.alloc (.cells (enc x) 51)).drew := (below1 _ _).drew
  have hR := h.below hb
  have hbq : w.heap.size ≠ q := by have := h.lt; omega
  have hbm : w.heap.size ≠ mb := by have := h.map.lt; omega
  have HK : Hid (-1000000 < R.kept ∧ R.kept < 1000000) := hk
  have HL : Hid (R.ks.length < 900000) := hl
  have HW : Hid (wasK R x.c = true) := hw
  have HTt : Hid (thr x = false) := ht
  have it := fun w => isThere_any x w
  rw [ht] at it
  unfold env at it
  obtain ⟨B, HB⟩ : ∃ B, Hid (w.heap.size = B) := ⟨_, rfl⟩
  clear h hk hl hw ht hc
  show Calls Tryz.prog _ #[_, .agg (enc x)] _ _
  go_enter Tryz.func80, Tryz.ntmps80
  unfold enc gsv at it ⊢
  unfold enc gsv at h1 hb hR
  go_upto_region 1 with fail
  refine wp_region_lx (fun w' => EnAt w' w.heap.size x ∧ RA w' q mb R) [] 8 (by kernel_rfl) (by kernel_rfl) ?_
  have HS0 := And.intro h1 hR
  generalize World.drew _ = X at h1 hb hR HS0 ⊢
  rw [HB.out] at h1 HS0 hbq hbm ⊢
  refine lx_r 0 (.pointer (some ⟨q, 0, none⟩)) HS0 ?_; simp only [lxa, lxb, lxc]
  refine lx_r 1 (.pointer (some ⟨q, 0, none⟩)) HS0 ?_; simp only [lxa, lxb, lxc]
  refine lx_r 2 (.pointer (some ⟨q, 4, none⟩)) HS0 ?_; simp only [lxa, lxb, lxc]
  refine lx_r 3 (.map (some mb)) HS0 ?_ (hv := fun w' hS => by have q0 := hS.2.c4; first | (go_simp; rfl) | go_simp); simp only [lxa, lxb, lxc]
  refine lx_r 4 (.pointer (some ⟨B, 0, none⟩)) HS0 ?_; simp only [lxa, lxb, lxc]
  refine lx_r 5 (.string x.c) HS0 ?_ (hv := fun w' hS => by have q0 := hS.1.c0; first | (go_simp; rfl) | go_simp); simp only [lxa, lxb, lxc]
  refine lx_r 6 (env ((R.m x.c).getD (en0 ⟨#[]⟩))) HS0 ?_ (hv := fun w' hS => by have q0 := hS.2.map.look1 x.c hcm; first | (go_simp; rfl) | go_simp); simp only [lxa, lxb, lxc]
  refine lx_r 7 (.bool true) HS0 ?_ (hv := fun w' hS => by have q0 : (Instr.field 51 (env ((R.m x.c).getD (en0 ⟨#[]⟩))) 1).run Tryz.prog w' = .ok (.bool ((R.m x.c).getD (en0 ⟨#[]⟩)).k) w' := (by simp [Instr.field, go_sem, asAgg, env, enc]); rw [show ((R.m x.c).getD (en0 ⟨#[]⟩)).k = true from HW.out] at q0; first | (go_simp; rfl) | go_simp); simp only [lxa, lxb, lxc]
  refine lx_nil (by kernel_rfl) ?_
  have wr0 : IntKind.wrap .i64 (R.kept - 1) = R.kept - 1 := (by have := HK.out; exact wi64' (by omega) (by omega) rfl)
  have c5 := hR.c5
  have f5 := hR.fz 5
  have h2 : RA (X.setCell ⟨q, 5, none⟩ (.int .i64 (R.kept - 1))) q mb { R with kept := R.kept - 1 } := hR.set 5 _ _ rfl rfl rfl
  have h3 : EnAt (X.setCell ⟨q, 5, none⟩ (.int .i64 (R.kept - 1))) B x := h1.keep (setK X q 5 _) hbq
  have hb2 : Keep (fun j => j = q ∨ j = mb) w (X.setCell ⟨q, 5, none⟩ (.int .i64 (R.kept - 1))) := (Keep.ofBelow hb).trans ((setK X q 5 _).mono (fun i e => Or.inl e))
  generalize hY : X.setCell ⟨q, 5, none⟩ (.int .i64 (R.kept - 1)) = Y at h2 h3 hb2
  have HY : Hid (X.setCell ⟨q, 5, none⟩ (.int .i64 (R.kept - 1)) = Y) := hY
  clear hY HS0
  have h1' : EnAt X B x := h1
  clear h1 hb hR
  obtain ⟨R1, HR1⟩ : ∃ R1, Hid (({ R with kept := R.kept - 1 } : Ro) = R1) := ⟨_, rfl⟩
  have h2' : RA Y q mb R1 := by rw [← HR1.out]; exact h2
  clear h2
  go_upto_region 4 with (first
    | (refine wp_load_en rfl (.tmp 3) rfl B rfl x (by rw [HY.out]; exact h3) ?_; rw [HY.out])
    | (go_at_call 101; refine (it _).mono ?_; rintro e w4 ⟨rfl, hb4⟩))

  have h4 := h2'.below hb4
  have h5 := h3.carry hb4
  have hb5 : Keep (fun j => j = q ∨ j = mb) w w4.drew := (hb2.trans (Keep.ofBelow hb4)).drew
  clear h2' h3 hb2 hb4
  refine wp_region_lx (fun w' => EnAt w' B x ∧ w'.cell? ⟨q, 4, none⟩ = some (.map (some mb))) [] 7 (by kernel_rfl) (by kernel_rfl) ?_
  have HS0 := And.intro h5.drew h4.drew.c4
  have h4d := h4.drew
  have h5d := h5.drew
  generalize w4.drew = Z at h4d h5d hb5 HS0 ⊢
  refine lx_r 0 (.pointer (some ⟨q, 0, none⟩)) HS0 ?_; simp only [lxa, lxb, lxc]
  refine lx_r 1 (.pointer (some ⟨q, 0, none⟩)) HS0 ?_; simp only [lxa, lxb, lxc]
  refine lx_r 2 (.pointer (some ⟨q, 4, none⟩)) HS0 ?_; simp only [lxa, lxb, lxc]
  refine lx_r 3 (.map (some mb)) HS0 ?_ (hv := fun w' hS => by have q0 := hS.2; first | (go_simp; rfl) | go_simp); simp only [lxa, lxb, lxc]
  refine lx_r 4 (.pointer (some ⟨B, 0, none⟩)) HS0 ?_; simp only [lxa, lxb, lxc]
  refine lx_r 5 (.string x.c) HS0 ?_ (hv := fun w' hS => by have q0 := hS.1.c0; first | (go_simp; rfl) | go_simp); simp only [lxa, lxb, lxc]
  obtain ⟨Z2, hr2, hm2, hk2⟩ := h4d.map.drop x.c hcm 0
  have h5z : EnAt Z2 B x := h5d.keep hk2 hbm
  refine lx_one 6 (by kernel_rfl) (stepT_valN (w' := Z2) (.tuple #[]) rfl rfl rfl ?cd (fun _ => ⟨h5z, hk2.cell HS0.2 h4d.ne⟩) ?_)
  case cd => exact exec_mapdel (.tmp 25) (.tmp 27) rfl mb rfl x.c rfl hr2
  refine lx_nil (by kernel_rfl) ?_
  go_wp2
  rw [show layR R x = _ from hEq.out]
  have e1 : R.m = R1.m := by rw [← HR1.out]
  have e2 : R.ks = R1.ks := by rw [← HR1.out]
  refine bodyPost_ret (results_none (by rfl) _ _ _) rfl ⟨rfl, h4d.dropped x.c (by rw [← e1]) (by rw [← e2]) ?_ hm2, hb5.trans (hk2.mono (fun i e => Or.inr e))⟩
  rw [hk2.block q h4d.lt h4d.ne, h4d.blk, ← HR1.out]
  rfl
set_option maxHeartbeats 1600000 in
theorem lay_6 (w : World) (q mb : Nat) (R : Ro) (h : RA w q mb R) (x : En) (hc : x.c.size ≤ 1000000) (hl : R.ks.length < 900000) (hk : -1000000 < R.kept ∧ R.kept < 1000000) (hw : wasK R x.c = false) (ht : thr x = false) :
    Calls Tryz.prog 80 #[.pointer (some ⟨q, 0, none⟩), env x] w fun e w' => e = .returned (.tuple #[]) ∧ RA w' q mb (layR R x) ∧ Keep (fun j => j = q ∨ j = mb) w w' := by
  have hcm : x.c.size ≤ maxLen := by unfold maxLen; omega
  have hEq : Hid (layR R x = { R with m := mputE R.m x.c none, ks := subK R.ks x.c, kept := R.kept }) := by
    show _ = _
    unfold layR keptB
    rw [ht, hw]
    rfl
  have h1 : EnAt (w.alloc (.cells (enc x) 51)).drew w.heap.size x := (EnAt.made w x).drew
  have hb : Below w.heap.size w (w.alloc (.cells (enc x) 51)).drew := (below1 _ _).drew
  have hR := h.below hb
  have hbq : w.heap.size ≠ q := by have := h.lt; omega
  have hbm : w.heap.size ≠ mb := by have := h.map.lt; omega
  have HK : Hid (-1000000 < R.kept ∧ R.kept < 1000000) := hk
  have HL : Hid (R.ks.length < 900000) := hl
  have HW : Hid (wasK R x.c = false) := hw
  have HTt : Hid (thr x = false) := ht
  have it := fun w => isThere_any x w
  rw [ht] at it
  unfold env at it
  obtain ⟨B, HB⟩ : ∃ B, Hid (w.heap.size = B) := ⟨_, rfl⟩
  clear h hk hl hw ht hc
  show Calls Tryz.prog _ #[_, .agg (enc x)] _ _
  go_enter Tryz.func80, Tryz.ntmps80
  unfold enc gsv at it ⊢
  unfold enc gsv at h1 hb hR
  go_upto_region 1 with fail
  refine wp_region_lx (fun w' => EnAt w' w.heap.size x ∧ RA w' q mb R) [] 8 (by kernel_rfl) (by kernel_rfl) ?_
  have HS0 := And.intro h1 hR
  generalize World.drew _ = X at h1 hb hR HS0 ⊢
  rw [HB.out] at h1 HS0 hbq hbm ⊢
  refine lx_r 0 (.pointer (some ⟨q, 0, none⟩)) HS0 ?_; simp only [lxa, lxb, lxc]
  refine lx_r 1 (.pointer (some ⟨q, 0, none⟩)) HS0 ?_; simp only [lxa, lxb, lxc]
  refine lx_r 2 (.pointer (some ⟨q, 4, none⟩)) HS0 ?_; simp only [lxa, lxb, lxc]
  refine lx_r 3 (.map (some mb)) HS0 ?_ (hv := fun w' hS => by have q0 := hS.2.c4; first | (go_simp; rfl) | go_simp); simp only [lxa, lxb, lxc]
  refine lx_r 4 (.pointer (some ⟨B, 0, none⟩)) HS0 ?_; simp only [lxa, lxb, lxc]
  refine lx_r 5 (.string x.c) HS0 ?_ (hv := fun w' hS => by have q0 := hS.1.c0; first | (go_simp; rfl) | go_simp); simp only [lxa, lxb, lxc]
  refine lx_r 6 (env ((R.m x.c).getD (en0 ⟨#[]⟩))) HS0 ?_ (hv := fun w' hS => by have q0 := hS.2.map.look1 x.c hcm; first | (go_simp; rfl) | go_simp); simp only [lxa, lxb, lxc]
  refine lx_r 7 (.bool false) HS0 ?_ (hv := fun w' hS => by have q0 : (Instr.field 51 (env ((R.m x.c).getD (en0 ⟨#[]⟩))) 1).run Tryz.prog w' = .ok (.bool ((R.m x.c).getD (en0 ⟨#[]⟩)).k) w' := (by simp [Instr.field, go_sem, asAgg, env, enc]); rw [show ((R.m x.c).getD (en0 ⟨#[]⟩)).k = false from HW.out] at q0; first | (go_simp; rfl) | go_simp); simp only [lxa, lxb, lxc]
  refine lx_nil (by kernel_rfl) ?_
  have h2 : RA X q mb R := hR
  have h3 : EnAt X B x := h1
  have hb2 : Keep (fun j => j = q ∨ j = mb) w X := Keep.ofBelow hb
  clear HS0 h1 hb hR
  obtain ⟨R1, HR1⟩ : ∃ R1, Hid ((R : Ro) = R1) := ⟨_, rfl⟩
  have h2' : RA X q mb R1 := by rw [← HR1.out]; exact h2
  clear h2
  go_upto_region 4 with (first
    | (refine wp_load_en rfl (.tmp 3) rfl B rfl x h3 ?_)
    | (go_at_call 101; refine (it _).mono ?_; rintro e w4 ⟨rfl, hb4⟩))

  have h4 := h2'.below hb4
  have h5 := h3.carry hb4
  have hb5 : Keep (fun j => j = q ∨ j = mb) w w4.drew := (hb2.trans (Keep.ofBelow hb4)).drew
  clear h2' h3 hb2 hb4
  refine wp_region_lx (fun w' => EnAt w' B x ∧ w'.cell? ⟨q, 4, none⟩ = some (.map (some mb))) [] 7 (by kernel_rfl) (by kernel_rfl) ?_
  have HS0 := And.intro h5.drew h4.drew.c4
  have h4d := h4.drew
  have h5d := h5.drew
  generalize w4.drew = Z at h4d h5d hb5 HS0 ⊢
  refine lx_r 0 (.pointer (some ⟨q, 0, none⟩)) HS0 ?_; simp only [lxa, lxb, lxc]
  refine lx_r 1 (.pointer (some ⟨q, 0, none⟩)) HS0 ?_; simp only [lxa, lxb, lxc]
  refine lx_r 2 (.pointer (some ⟨q, 4, none⟩)) HS0 ?_; simp only [lxa, lxb, lxc]
  refine lx_r 3 (.map (some mb)) HS0 ?_ (hv := fun w' hS => by have q0 := hS.2; first | (go_simp; rfl) | go_simp); simp only [lxa, lxb, lxc]
  refine lx_r 4 (.pointer (some ⟨B, 0, none⟩)) HS0 ?_; simp only [lxa, lxb, lxc]
  refine lx_r 5 (.string x.c) HS0 ?_ (hv := fun w' hS => by have q0 := hS.1.c0; first | (go_simp; rfl) | go_simp); simp only [lxa, lxb, lxc]
  obtain ⟨Z2, hr2, hm2, hk2⟩ := h4d.map.drop x.c hcm 0
  have h5z : EnAt Z2 B x := h5d.keep hk2 hbm
  refine lx_one 6 (by kernel_rfl) (stepT_valN (w' := Z2) (.tuple #[]) rfl rfl rfl ?cd (fun _ => ⟨h5z, hk2.cell HS0.2 h4d.ne⟩) ?_)
  case cd => exact exec_mapdel (.tmp 25) (.tmp 27) rfl mb rfl x.c rfl hr2
  refine lx_nil (by kernel_rfl) ?_
  go_wp2
  rw [show layR R x = _ from hEq.out]
  have e1 : R.m = R1.m := by rw [← HR1.out]
  have e2 : R.ks = R1.ks := by rw [← HR1.out]
  refine bodyPost_ret (results_none (by rfl) _ _ _) rfl ⟨rfl, h4d.dropped x.c (by rw [← e1]) (by rw [← e2]) ?_ hm2, hb5.trans (hk2.mono (fun i e => Or.inr e))⟩
  rw [hk2.block q h4d.lt h4d.ne, h4d.blk, ← HR1.out]
  rfl
end Go.Proofs.YtppdopcghnfapaaGreatDoor

/- roster: lay whatever the way; turn. -/
set_option maxRecDepth 100000
namespace Go.Proofs.YtppdopcghnfapaaGreatDoor
open Go.RowKit Go.Joins

theorem lay_any (w : World) (q mb : Nat) (R : Ro) (h : RA w q mb R) (x : En) (hc : x.c.size ≤ 1000000) (hl : R.ks.length < 900000) (hk : -1000000 < R.kept ∧ R.kept < 1000000) :
    Calls Tryz.prog 80 #[.pointer (some ⟨q, 0, none⟩), env x] w fun e w' => e = .returned (.tuple #[]) ∧ RA w' q mb (layR R x) ∧ Keep (fun j => j = q ∨ j = mb) w w' := by
  cases hw : wasK R x.c <;> cases ht : thr x
  · exact lay_6 w q mb R h x hc hl hk hw ht
  · cases hx : x.k
    · exact lay_4 w q mb R h x hc hl hk hw ht hx
    · exact lay_2 w q mb R h x hc hl hk hw ht hx
  · exact lay_5 w q mb R h x hc hl hk hw ht
  · cases hx : x.k
    · exact lay_3 w q mb R h x hc hl hk hw ht hx
    · exact lay_1 w q mb R h x hc hl hk hw ht hx

/-- Two halves held against one another. -/
def hne (a b : Hf) : Bool := !(a.o == b.o && a.n == b.n && a.i == b.i && a.m == b.m)
theorem fieldsHalf : (Tryz.prog.fieldsOf 49).toList.map (fun f => (f.name == "_", f.type, f.offset)) = [(false, 3, 0), (false, 33, 1), (false, 3, 2), (false, 33, 3)] := by kernel_rfl
theorem run_neq_half (w : World) (a b : Hf) : (binOp .neq 49 (hfv a) (hfv b)).run Tryz.prog w = .ok (.bool (hne a b)) w := by
  obtain ⟨fs, hfs⟩ : ∃ fs, (Tryz.prog.fieldsOf 49).toList = fs := ⟨_, rfl⟩
  have hF := fieldsHalf
  rw [hfs] at hF
  unfold hfv hfc
  rw [run_neq_struct, run_equalIn_agg w 9999 49 _ _ (by kernel_rfl) (by kernel_rfl), hfs]
  rcases fs with _ | ⟨f0, _ | ⟨f1, _ | ⟨f2, _ | ⟨f3, _ | ⟨f4, fs⟩⟩⟩⟩⟩ <;> simp only [List.map_nil, List.map_cons, List.cons.injEq, reduceCtorEq, and_false, and_true, Prod.mk.injEq, List.nil_eq] at hF
  obtain ⟨⟨n0, t0, o0⟩, ⟨n1, t1, o1⟩, ⟨n2, t2, o2⟩, n3, t3, o3⟩ := hF
  have n0' : f0.name ≠ "_" := by intro e; rw [e] at n0; exact absurd n0 (by decide)
  have n1' : f1.name ≠ "_" := by intro e; rw [e] at n1; exact absurd n1 (by decide)
  have n2' : f2.name ≠ "_" := by intro e; rw [e] at n2; exact absurd n2 (by decide)
  have n3' : f3.name ≠ "_" := by intro e; rw [e] at n3; exact absurd n3 (by decide)
  have pI : ∀ (xs : Array Value) (k : IntKind) (i : Nat) (v : Int) (t : TypeId), t = 3 ∨ t = 33 → xs[i]? = some (.int k v) → (part t xs i).run Tryz.prog w = .ok (.int k v) w := by
    rintro xs k i v t (e | e) hx <;> subst e <;> simp [part, isAgg, run_underlying Tryz.underlying3, run_underlying Tryz.underlying33, hx]
  have eI : ∀ (x y : Int), (Op.equalIn (9998 + 1) 3 (.int .i64 x) (.int .i64 y)).run Tryz.prog w = .ok (x == y) w := fun x y => run_equalIn_int w 9998 3 .i64 .i64 x y Tryz.underlying3
  have eU : ∀ (x y : Int), (Op.equalIn (9998 + 1) 33 (.int .u64 x) (.int .u64 y)).run Tryz.prog w = .ok (x == y) w := fun x y => run_equalIn_int w 9998 33 .u64 .u64 x y Tryz.underlying33
  have hrun : (Op.eqFields 9999 #[.int .i64 a.o, .int .u64 a.n, .int .i64 a.i, .int .u64 a.m] #[.int .i64 b.o, .int .u64 b.n, .int .i64 b.i, .int .u64 b.m] [f0, f1, f2, f3]).run Tryz.prog w = .ok (a.o == b.o && a.n == b.n && a.i == b.i && a.m == b.m) w := by
    simp only [Op.eqFields, n0', n1', n2', n3', ne_eq, not_false_eq_true, if_true, o0, o1, o2, o3, t0, t1, t2, t3, Sem.run_bind]
    rw [pI _ .i64 0 a.o _ (Or.inl rfl) rfl]; simp only [Result.andThen_ok]
    rw [pI _ .i64 0 b.o _ (Or.inl rfl) rfl]; simp only [Result.andThen_ok]
    rw [show (9999 : Nat) = 9998 + 1 from rfl, eI]; simp only [Result.andThen_ok, Sem.run_ite]
    cases a.o == b.o
    · rfl
    simp only [Bool.not_true, Bool.false_eq_true, if_false, Sem.run_bind, Bool.true_and]
    rw [pI _ .u64 1 a.n _ (Or.inr rfl) rfl]; simp only [Result.andThen_ok]
    rw [pI _ .u64 1 b.n _ (Or.inr rfl) rfl]; simp only [Result.andThen_ok]
    rw [eU]; simp only [Result.andThen_ok, Sem.run_ite]
    cases a.n == b.n
    · rfl
    simp only [Bool.not_true, Bool.false_eq_true, if_false, Sem.run_bind, Bool.true_and]
    rw [pI _ .i64 2 a.i _ (Or.inl rfl) rfl]; simp only [Result.andThen_ok]
    rw [pI _ .i64 2 b.i _ (Or.inl rfl) rfl]; simp only [Result.andThen_ok]
    rw [eI]; simp only [Result.andThen_ok, Sem.run_ite]
    cases a.i == b.i
    · rfl
    simp only [Bool.not_true, Bool.false_eq_true, if_false, Sem.run_bind, Bool.true_and]
    rw [pI _ .u64 3 a.m _ (Or.inr rfl) rfl]; simp only [Result.andThen_ok]
    rw [pI _ .u64 3 b.m _ (Or.inr rfl) rfl]; simp only [Result.andThen_ok]
    rw [eU]; simp only [Result.andThen_ok, Sem.run_ite]
    cases a.m == b.m <;> rfl
  rw [hrun]
  rfl
theorem exec_neq_half {w : World} {o : Oper} {ρ : Operand → Value} (x y : Operand) (ho : o.op = .binOp .neq 49 x y 49) (a b : Hf) (hx : ρ x = hfv a) (hy : ρ y = hfv b) : (execOp ρ o).run Tryz.prog w = .ok (.value (.bool (hne a b))) w := by
  have hg : (eqGuard .neq 49 x y (hfv a) (hfv b)).run Tryz.prog w = .ok () w := run_eqGuard_agg w .neq 49 x y _ _ (by kernel_rfl)
  have hr := run_neq_half w a b
  unfold execOp
  simp only [ho, hx, hy, Sem.run_bind, hg, hr, Result.andThen_ok, Sem.run_pure]
theorem wp_neq_halfW {ops : Array Oper} {rest : List Oper} {o : Oper} {a : Act} {w : World} {Q : Exit → Act → World → Prop} (hw : Region.wanted o (yielded ops a.tmps) = true) (x y : Operand) (ho : o.op = .binOp .neq 49 x y 49) (h k : Hf) (hx : a.eval x = hfv h) (hy : a.eval y = hfv k)
    (hK : wpList Tryz.prog ops Q rest (a.put o.dst (.bool (hne h k))) w) : wpList Tryz.prog ops Q (o :: rest) a w := by
  refine Go.BigFrame.wpList_want hw fun _ hK' => ?_
  unfold Oper.wp
  rw [exec_neq_half x y ho h k hx hy]
  exact hK' _ _ hK

theorem keep_setCells (g : Nat) : ∀ (vs : List Value) (o : Nat) (w : World), Keep (fun j => j = g) w (w.setCells g o vs)
  | [], o, w => by
    rw [World.setCells]; exact Keep.refl _ _
  | v :: vs, o, w => by
    rw [World.setCells]
    exact (setK w g o v).trans (keep_setCells g vs (o + 1) _)
theorem EnAt.seth {w : World} {b : Nat} {x : En} (A : EnAt w b x) (h : Hf) : EnAt (w.setCells b 4 (hfc h).toList) b { x with h := h } := by
  show EnAt ((((w.setCell ⟨b, 4, none⟩ (.int .i64 h.o)).setCell ⟨b, 5, none⟩ (.int .u64 h.n)).setCell ⟨b, 6, none⟩ (.int .i64 h.i)).setCell ⟨b, 7, none⟩ (.int .u64 h.m)) b _
  have a1 := block_setCell (i := 4) A (.int .i64 h.o)
  have a2 := block_setCell (i := 5) a1 (.int .u64 h.n)
  have a3 := block_setCell (i := 6) a2 (.int .i64 h.i)
  have a4 := block_setCell (i := 7) a3 (.int .u64 h.m)
  exact a4
theorem EnAt.there {w : World} {b : Nat} {x : En} (A : EnAt w b x) : w.there b 4 4 := fun j hj => by
  have hz : w.frozen? ⟨b, 4 + j, none⟩ = false := A.fz _
  refine ⟨?_, hz⟩
  rcases j with _ | _ | _ | _ | j
  · rw [show (⟨b, 4 + 0, none⟩ : Addr) = ⟨b, 4, none⟩ from rfl, A.c4]; rfl
  · rw [show (⟨b, 4 + 1, none⟩ : Addr) = ⟨b, 5, none⟩ from rfl, A.c5]; rfl
  · rw [show (⟨b, 4 + 2, none⟩ : Addr) = ⟨b, 6, none⟩ from rfl, A.c6]; rfl
  · rw [show (⟨b, 4 + 3, none⟩ : Addr) = ⟨b, 7, none⟩ from rfl, A.c7]; rfl
  · omega

/-- An entry's half turns. -/
def chg (x : En) (h : Hf) : Bool := x.k && hne x.h h
def turnR (R : Ro) (x : En) (h : Hf) : Ro := if chg x h then { layR R { x with h := h } with ver := R.ver + 1 } else layR R { x with h := h }
theorem layR_ver (R : Ro) (x : En) : (layR R x).ver = R.ver := by unfold layR; split <;> rfl
set_option maxHeartbeats 1600000 in
theorem turn_1 (w : World) (q mb : Nat) (R : Ro) (h : RA w q mb R) (x : En) (h' : Hf) (hc : x.c.size ≤ 1000000) (hl : R.ks.length < 900000) (hb0 : -1000000 < R.kept ∧ R.kept < 1000000) (hv : 0 ≤ R.ver ∧ R.ver < 9223372036854775807) (hk : x.k = true) (hn : hne x.h h' = true) :
    Calls Tryz.prog 98 #[.pointer (some ⟨q, 0, none⟩), env x, hfv h'] w fun e w' => e = .returned (.bool true) ∧ RA w' q mb (turnR R x h') ∧ Keep (fun j => j = q ∨ j = mb) w w' := by
  have hCh : chg x h' = true := by unfold chg; rw [hk, hn]; rfl
  have hT : Hid (turnR R x h' = { layR R { x with h := h' } with ver := R.ver + 1 }) := by show _ = _; unfold turnR; rw [hCh]; rfl
  have HK : Hid (x.k = true) := hk
  have HN : Hid (hne x.h h' = true) := hn
  have h1 : EnAt ((w.alloc (.cells (enc x) 51)).alloc (.cells (hfc h') 49)) w.heap.size x := (EnAt.made w x).carry (below1 _ _)
  have h2 : HfAt ((w.alloc (.cells (enc x) 51)).alloc (.cells (hfc h') 49)) (w.heap.size + 1) h' := by have := alloc_at (w.alloc (.cells (enc x) 51)) (.cells (hfc h') 49); rw [show (w.alloc (.cells (enc x) 51)).heap.size = w.heap.size + 1 from by simp] at this; exact this
  have hb : Below w.heap.size w ((w.alloc (.cells (enc x) 51)).alloc (.cells (hfc h') 49)) := below2 _ _ _
  have hR := h.below hb
  have hbq : w.heap.size ≠ q := by have := h.lt; omega
  have hbm : w.heap.size ≠ mb := by have := h.map.lt; omega
  generalize hX : (w.alloc (.cells (enc x) 51)).alloc (.cells (hfc h') 49) = X at h1 h2 hb hR
  have HX : Hid ((w.alloc (.cells (enc x) 51)).alloc (.cells (hfc h') 49) = X) := hX
  have h3 : EnAt (X.setCells w.heap.size 4 (hfc h').toList) w.heap.size { x with h := h' } := h1.seth h'
  have k3 := keep_setCells w.heap.size (hfc h').toList 4 X
  have hR3 : RA (X.setCells w.heap.size 4 (hfc h').toList) q mb R := hR.keep k3 (fun e => hbq e.symm) (fun e => hbm e.symm)
  have b3 : Below w.heap.size w (X.setCells w.heap.size 4 (hfc h').toList) := hb.trans (k3.below hb.size (fun i e => by omega))
  have hlay := lay_any _ q mb R hR3 { x with h := h' } hc hl hb0
  generalize hY : X.setCells w.heap.size 4 (hfc h').toList = Y at h3 hR3 b3 hlay
  have HY : Hid (X.setCells w.heap.size 4 (hfc h').toList = Y) := hY
  have c1 := h1.c1
  have c4 := h1.c4
  have c5 := h1.c5
  have c6 := h1.c6
  have c7 := h1.c7
  have d0 := h2.c0
  have d1 := h2.c1
  have d2 := h2.c2
  have d3 := h2.c3
  rw [hk] at c1
  have HV : Hid (0 ≤ R.ver ∧ R.ver < 9223372036854775807) := hv
  obtain ⟨V, HVv⟩ : ∃ V, Hid (env { x with h := h' } = V) := ⟨_, rfl⟩
  rw [HVv.out] at hlay
  clear hX hY k3 hR hb hk hn hCh hv hb0 hl hc h hR3
  show Calls Tryz.prog _ #[_, .agg (enc x), .agg (hfc h')] _ _
  go_enter Tryz.func98, Tryz.ntmps98
  go_upto_region 1 with fail
  rw [show ((w.alloc (.cells _ 51)).alloc (.cells _ 49)) = X from HX.out]
  go_upto_region 4 with (first
    | (refine wp_neq_halfW rfl (.tmp 11) (.tmp 12) rfl x.h h' rfl rfl ?_; rw [HN.out])
    | (refine wpList_store_mid rfl 49 (.tmp 16) (.tmp 15) rfl w.heap.size 4 (hfc h') rfl rfl h1.there (by rw [infoHalf]; rfl) (hfc_one h') ?_; rw [HY.out])
    | (refine wp_load_en rfl (.tmp 4) rfl w.heap.size rfl { x with h := h' } h3 ?_; rw [HVv.out])
    | (go_at_call 80; refine hlay.mono ?_; clear hlay; rintro e w4 ⟨rfl, h4, k4⟩; have k5 := (Keep.ofBelow (S := fun j => j = q ∨ j = mb) b3).trans k4))
  have c2 := h4.c2
  have f2 := h4.fz 2
  have ev := layR_ver R { x with h := h' }
  have wv : IntKind.wrap .u64 (R.ver + 1) = R.ver + 1 := by have := HV.out; simp [IntKind.wrap, IntKind.bits, IntKind.signed]; omega
  rw [ev] at c2
  have h5 : RA (w4.setCell ⟨q, 2, none⟩ (.int .u64 (R.ver + 1))) q mb { layR R { x with h := h' } with ver := R.ver + 1 } := h4.set 2 _ _ rfl rfl rfl
  have k6 := k5.trans ((setK w4 q 2 (.int .u64 (R.ver + 1))).mono (fun i e => Or.inl e))
  clear ev h4 k5 k4
  go_wp2
  go_ret
  rw [show turnR R x h' = _ from hT.out]
  exact ⟨rfl, h5, k6⟩
set_option maxHeartbeats 1600000 in
theorem turn_2 (w : World) (q mb : Nat) (R : Ro) (h : RA w q mb R) (x : En) (h' : Hf) (hc : x.c.size ≤ 1000000) (hl : R.ks.length < 900000) (hb0 : -1000000 < R.kept ∧ R.kept < 1000000) (hv : 0 ≤ R.ver ∧ R.ver < 9223372036854775807) (hk : x.k = true) (hn : hne x.h h' = false) :
    Calls Tryz.prog 98 #[.pointer (some ⟨q, 0, none⟩), env x, hfv h'] w fun e w' => e = .returned (.bool false) ∧ RA w' q mb (turnR R x h') ∧ Keep (fun j => j = q ∨ j = mb) w w' := by
  have hCh : chg x h' = false := by unfold chg; rw [hk, hn]; rfl
  have hT : Hid (turnR R x h' = layR R { x with h := h' }) := by show _ = _; unfold turnR; rw [hCh]; rfl
  have HK : Hid (x.k = true) := hk
  have HN : Hid (hne x.h h' = false) := hn
  have h1 : EnAt ((w.alloc (.cells (enc x) 51)).alloc (.cells (hfc h') 49)) w.heap.size x := (EnAt.made w x).carry (below1 _ _)
  have h2 : HfAt ((w.alloc (.cells (enc x) 51)).alloc (.cells (hfc h') 49)) (w.heap.size + 1) h' := by have := alloc_at (w.alloc (.cells (enc x) 51)) (.cells (hfc h') 49); rw [show (w.alloc (.cells (enc x) 51)).heap.size = w.heap.size + 1 from by simp] at this; exact this
  have hb : Below w.heap.size w ((w.alloc (.cells (enc x) 51)).alloc (.cells (hfc h') 49)) := below2 _ _ _
  have hR := h.below hb
  have hbq : w.heap.size ≠ q := by have := h.lt; omega
  have hbm : w.heap.size ≠ mb := by have := h.map.lt; omega
  generalize hX : (w.alloc (.cells (enc x) 51)).alloc (.cells (hfc h') 49) = X at h1 h2 hb hR
  have HX : Hid ((w.alloc (.cells (enc x) 51)).alloc (.cells (hfc h') 49) = X) := hX
  have h3 : EnAt (X.setCells w.heap.size 4 (hfc h').toList) w.heap.size { x with h := h' } := h1.seth h'
  have k3 := keep_setCells w.heap.size (hfc h').toList 4 X
  have hR3 : RA (X.setCells w.heap.size 4 (hfc h').toList) q mb R := hR.keep k3 (fun e => hbq e.symm) (fun e => hbm e.symm)
  have b3 : Below w.heap.size w (X.setCells w.heap.size 4 (hfc h').toList) := hb.trans (k3.below hb.size (fun i e => by omega))
  have hlay := lay_any _ q mb R hR3 { x with h := h' } hc hl hb0
  generalize hY : X.setCells w.heap.size 4 (hfc h').toList = Y at h3 hR3 b3 hlay
  have HY : Hid (X.setCells w.heap.size 4 (hfc h').toList = Y) := hY
  have c1 := h1.c1
  have c4 := h1.c4
  have c5 := h1.c5
  have c6 := h1.c6
  have c7 := h1.c7
  have d0 := h2.c0
  have d1 := h2.c1
  have d2 := h2.c2
  have d3 := h2.c3
  rw [hk] at c1
  have HV : Hid (0 ≤ R.ver ∧ R.ver < 9223372036854775807) := hv
  obtain ⟨V, HVv⟩ : ∃ V, Hid (env { x with h := h' } = V) := ⟨_, rfl⟩
  rw [HVv.out] at hlay
  clear hX hY k3 hR hb hk hn hCh hv hb0 hl hc h hR3
  show Calls Tryz.prog _ #[_, .agg (enc x), .agg (hfc h')] _ _
  go_enter Tryz.func98, Tryz.ntmps98
  go_upto_region 1 with fail
  rw [show ((w.alloc (.cells _ 51)).alloc (.cells _ 49)) = X from HX.out]
  go_upto_region 4 with (first
    | (refine wp_neq_halfW rfl (.tmp 11) (.tmp 12) rfl x.h h' rfl rfl ?_; rw [HN.out])
    | (refine wpList_store_mid rfl 49 (.tmp 16) (.tmp 15) rfl w.heap.size 4 (hfc h') rfl rfl h1.there (by rw [infoHalf]; rfl) (hfc_one h') ?_; rw [HY.out])
    | (refine wp_load_en rfl (.tmp 4) rfl w.heap.size rfl { x with h := h' } h3 ?_; rw [HVv.out])
    | (go_at_call 80; refine hlay.mono ?_; clear hlay; rintro e w4 ⟨rfl, h4, k4⟩; have k5 := (Keep.ofBelow (S := fun j => j = q ∨ j = mb) b3).trans k4))
  clear k4
  go_wp2
  go_ret
  rw [show turnR R x h' = _ from hT.out]
  exact ⟨rfl, h4, k5⟩
set_option maxHeartbeats 1600000 in
theorem turn_3 (w : World) (q mb : Nat) (R : Ro) (h : RA w q mb R) (x : En) (h' : Hf) (hc : x.c.size ≤ 1000000) (hl : R.ks.length < 900000) (hb0 : -1000000 < R.kept ∧ R.kept < 1000000) (hv : 0 ≤ R.ver ∧ R.ver < 9223372036854775807) (hk : x.k = false) :
    Calls Tryz.prog 98 #[.pointer (some ⟨q, 0, none⟩), env x, hfv h'] w fun e w' => e = .returned (.bool false) ∧ RA w' q mb (turnR R x h') ∧ Keep (fun j => j = q ∨ j = mb) w w' := by
  have hCh : chg x h' = false := by unfold chg; rw [hk]; rfl
  have hT : Hid (turnR R x h' = layR R { x with h := h' }) := by show _ = _; unfold turnR; rw [hCh]; rfl
  have HK : Hid (x.k = false) := hk
  
  have h1 : EnAt ((w.alloc (.cells (enc x) 51)).alloc (.cells (hfc h') 49)) w.heap.size x := (EnAt.made w x).carry (below1 _ _)
  have h2 : HfAt ((w.alloc (.cells (enc x) 51)).alloc (.cells (hfc h') 49)) (w.heap.size + 1) h' := by have := alloc_at (w.alloc (.cells (enc x) 51)) (.cells (hfc h') 49); rw [show (w.alloc (.cells (enc x) 51)).heap.size = w.heap.size + 1 from by simp] at this; exact this
  have hb : Below w.heap.size w ((w.alloc (.cells (enc x) 51)).alloc (.cells (hfc h') 49)) := below2 _ _ _
  have hR := h.below hb
  have hbq : w.heap.size ≠ q := by have := h.lt; omega
  have hbm : w.heap.size ≠ mb := by have := h.map.lt; omega
  generalize hX : (w.alloc (.cells (enc x) 51)).alloc (.cells (hfc h') 49) = X at h1 h2 hb hR
  have HX : Hid ((w.alloc (.cells (enc x) 51)).alloc (.cells (hfc h') 49) = X) := hX
  have h3 : EnAt (X.setCells w.heap.size 4 (hfc h').toList) w.heap.size { x with h := h' } := h1.seth h'
  have k3 := keep_setCells w.heap.size (hfc h').toList 4 X
  have hR3 : RA (X.setCells w.heap.size 4 (hfc h').toList) q mb R := hR.keep k3 (fun e => hbq e.symm) (fun e => hbm e.symm)
  have b3 : Below w.heap.size w (X.setCells w.heap.size 4 (hfc h').toList) := hb.trans (k3.below hb.size (fun i e => by omega))
  have hlay := lay_any _ q mb R hR3 { x with h := h' } hc hl hb0
  generalize hY : X.setCells w.heap.size 4 (hfc h').toList = Y at h3 hR3 b3 hlay
  have HY : Hid (X.setCells w.heap.size 4 (hfc h').toList = Y) := hY
  have c1 := h1.c1
  have c4 := h1.c4
  have c5 := h1.c5
  have c6 := h1.c6
  have c7 := h1.c7
  have d0 := h2.c0
  have d1 := h2.c1
  have d2 := h2.c2
  have d3 := h2.c3
  rw [hk] at c1
  have HV : Hid (0 ≤ R.ver ∧ R.ver < 9223372036854775807) := hv
  obtain ⟨V, HVv⟩ : ∃ V, Hid (env { x with h := h' } = V) := ⟨_, rfl⟩
  rw [HVv.out] at hlay
  clear hX hY k3 hR hb hk hCh hv hb0 hl hc h hR3
  show Calls Tryz.prog _ #[_, .agg (enc x), .agg (hfc h')] _ _
  go_enter Tryz.func98, Tryz.ntmps98
  go_upto_region 1 with fail
  rw [show ((w.alloc (.cells _ 51)).alloc (.cells _ 49)) = X from HX.out]
  go_upto_region 4 with (first
    | (refine wp_neq_halfW rfl (.tmp 11) (.tmp 12) rfl x.h h' rfl rfl ?_)
    | (refine wpList_store_mid rfl 49 (.tmp 16) (.tmp 15) rfl w.heap.size 4 (hfc h') rfl rfl h1.there (by rw [infoHalf]; rfl) (hfc_one h') ?_; rw [HY.out])
    | (refine wp_load_en rfl (.tmp 4) rfl w.heap.size rfl { x with h := h' } h3 ?_; rw [HVv.out])
    | (go_at_call 80; refine hlay.mono ?_; clear hlay; rintro e w4 ⟨rfl, h4, k4⟩; have k5 := (Keep.ofBelow (S := fun j => j = q ∨ j = mb) b3).trans k4))
  clear k4
  go_wp2
  go_ret
  rw [show turnR R x h' = _ from hT.out]
  exact ⟨rfl, h4, k5⟩
theorem turn_any (w : World) (q mb : Nat) (R : Ro) (h : RA w q mb R) (x : En) (h' : Hf) (hc : x.c.size ≤ 1000000) (hl : R.ks.length < 900000) (hb0 : -1000000 < R.kept ∧ R.kept < 1000000) (hv : 0 ≤ R.ver ∧ R.ver < 9223372036854775807) :
    Calls Tryz.prog 98 #[.pointer (some ⟨q, 0, none⟩), env x, hfv h'] w fun e w' => e = .returned (.bool (chg x h')) ∧ RA w' q mb (turnR R x h') ∧ Keep (fun j => j = q ∨ j = mb) w w' := by
  unfold chg
  cases hk : x.k
  · exact turn_3 w q mb R h x h' hc hl hb0 hv hk
  · cases hn : hne x.h h'
    · exact turn_2 w q mb R h x h' hc hl hb0 hv hk hn
    · exact turn_1 w q mb R h x h' hc hl hb0 hv hk hn
end Go.Proofs.YtppdopcghnfapaaGreatDoor

/- Names, by definition, over lists of bytes: what name's functions are held against. No program in this text. -/
set_option maxRecDepth 100000
namespace Go.Proofs.YtppdopcghnfapaaGreatDoor.Nm
open Go.Lib

def small (r : Int) : Int := if 65 ≤ r ∧ r ≤ 90 then r + 32 else r
def foldR (r : Int) : Int := if (65 ≤ r ∧ r ≤ 90) ∨ (192 ≤ r ∧ r ≤ 222 ∧ r ≠ 215) ∨ (913 ≤ r ∧ r ≤ 937 ∧ r ≠ 930) ∨ (1040 ≤ r ∧ r ≤ 1071) then r + 32 else r
def labelB (r : Int) : Bool := decide ((97 ≤ r ∧ r ≤ 122) ∨ (48 ≤ r ∧ r ≤ 57))
def letterB (r : Int) : Bool := decide ((97 ≤ r ∧ r ≤ 122) ∨ (48 ≤ r ∧ r ≤ 57) ∨ r = 46 ∨ r = 45 ∨ r = 95 ∨ (223 ≤ r ∧ r ≤ 255 ∧ r ≠ 247) ∨ (945 ≤ r ∧ r ≤ 969) ∨ (1072 ≤ r ∧ r ≤ 1103))
def followsB (last r : Int) : Bool := if r = 46 then labelB last else if r = 45 then decide (last ≠ 46) else labelB r
def resB (r : Int) : Bool := decide (¬ (r < 32 ∨ (127 ≤ r ∧ r ≤ 159) ∨ r = 65534 ∨ r = 65535))

def stepL (_ r : Int) : Option Int := if letterB (foldR r) = true then some (foldR r) else none
def stepH (st r : Int) : Option Int := if followsB st (small r) = true then some (small r) else none
def stepR (_ r : Int) : Option Int := if resB r = true then some r else none

def eachGo (step : Int → Int → Option Int) : Nat → Int → List UInt8 → Option (List UInt8 × Int)
  | 0, st, _ => some ([], st)
  | n + 1, st, l =>
    if l = [] then some ([], st)
    else match step st ((decodeL l).1 : Int) with
      | none => none
      | some r => match eachGo step n r (l.drop (decodeL l).2) with
        | none => none
        | some (bs, st') => some (encodeRune r ++ bs, st')

def each (step : Int → Int → Option Int) (st : Int) (l : List UInt8) : Option (List UInt8 × Int) := eachGo step l.length st l

theorem eachGo_fuel (step : Int → Int → Option Int) : ∀ (n m : Nat) (st : Int) (l : List UInt8), l.length ≤ n → l.length ≤ m → eachGo step n st l = eachGo step m st l
  | 0, 0, _, _, _, _ => rfl
  | 0, m + 1, st, l, h, _ => by
    have : l = [] := List.length_eq_zero_iff.1 (by omega)
    simp [eachGo, this]
  | n + 1, 0, st, l, _, h => by
    have : l = [] := List.length_eq_zero_iff.1 (by omega)
    simp [eachGo, this]
  | n + 1, m + 1, st, l, h1, h2 => by
    by_cases hl : l = []
    · simp [eachGo, hl]
    · have hw := decodeL_width l
      have hp : 0 < l.length := List.length_pos_iff.2 hl
      have e : ∀ r, eachGo step n r (l.drop (decodeL l).2) = eachGo step m r (l.drop (decodeL l).2) := fun r =>
        eachGo_fuel step n m r _ (by rw [List.length_drop]; omega) (by rw [List.length_drop]; omega)
      simp only [eachGo, hl, if_false, e]

theorem each_nil (step : Int → Int → Option Int) (st : Int) : each step st [] = some ([], st) := rfl
theorem each_step (step : Int → Int → Option Int) (st : Int) (l : List UInt8) (hl : l ≠ []) :
    each step st l = match step st ((decodeL l).1 : Int) with
      | none => none
      | some r => match each step r (l.drop (decodeL l).2) with
        | none => none
        | some (bs, st') => some (encodeRune r ++ bs, st') := by
  have hp : 0 < l.length := List.length_pos_iff.2 hl
  obtain ⟨n, hn⟩ : ∃ n, l.length = n + 1 := ⟨l.length - 1, by omega⟩
  have hw := decodeL_width l
  unfold each
  rw [hn]
  have e : ∀ r, eachGo step n r (l.drop (decodeL l).2) = eachGo step (l.drop (decodeL l).2).length r (l.drop (decodeL l).2) := fun r =>
    eachGo_fuel step _ _ r _ (by rw [List.length_drop]; omega) (Nat.le_refl _)
  simp only [eachGo, hl, if_false, e]

/-- What a text becomes, and the error's number. -/
def prep (step : Int → Int → Option Int) (fin : Int → Bool) (l : List UInt8) : List UInt8 × Nat :=
  if 64 < l.length then ([], 5)
  else if l = [] ∨ validD l = false then ([], 4)
  else match each step 46 l with
    | none => ([], 4)
    | some (bs, st) => if fin st = true then (bs, 0) else ([], 4)

def localN (l : List UInt8) : List UInt8 × Nat := prep stepL (fun _ => true) l
def hostN (l : List UInt8) : List UInt8 × Nat := prep stepH (fun st => followsB st 46) l
def resN (l : List UInt8) : List UInt8 × Nat := prep stepR (fun _ => true) l

/-- Where a byte stands first (the length: nowhere). -/
def ix (c : UInt8) (l : List UInt8) : Nat := l.findIdx (fun b => b == c)
def cutA (c : UInt8) (l : List UInt8) : List UInt8 := l.take (ix c l)
def cutZ (c : UInt8) (l : List UInt8) : List UInt8 := l.drop (ix c l + 1)
def hasB (c : UInt8) (l : List UInt8) : Bool := decide (ix c l < l.length)

def partL (l : List UInt8) : List UInt8 × Nat := if hasB 64 (cutA 47 l) = true then localN (cutA 64 (cutA 47 l)) else ([], 0)
def partH (l : List UInt8) : List UInt8 × Nat := hostN (if hasB 64 (cutA 47 l) = true then cutZ 64 (cutA 47 l) else cutA 47 l)
def partR (l : List UInt8) : List UInt8 × Nat := if hasB 47 l = true then resN (cutZ 47 l) else ([], 0)

structure Jid where
  l : List UInt8
  h : List UInt8
  r : List UInt8

def parseN (l : List UInt8) : Jid × Nat :=
  if (partL l).2 ≠ 0 then (⟨[], [], []⟩, (partL l).2)
  else if (partH l).2 ≠ 0 then (⟨[], [], []⟩, (partH l).2)
  else if (partR l).2 ≠ 0 then (⟨[], [], []⟩, (partR l).2)
  else (⟨(partL l).1, (partH l).1, (partR l).1⟩, 0)

def optL (l : List UInt8) : List UInt8 × Nat := if l = [] then ([], 0) else localN l
def optR (l : List UInt8) : List UInt8 × Nat := if l = [] then ([], 0) else resN l

def textN (j : Jid) : List UInt8 × Nat :=
  if (hostN j.h).2 ≠ 0 then ([], (hostN j.h).2)
  else if (optL j.l).2 ≠ 0 then ([], (optL j.l).2)
  else if (optR j.r).2 ≠ 0 then ([], (optR j.r).2)
  else ((if j.l = [] then [] else (localN j.l).1 ++ [64]) ++ (hostN j.h).1 ++ (if j.r = [] then [] else 47 :: (resN j.r).1), 0)

/-! ### plain facts -/

theorem prep_cases (step : Int → Int → Option Int) (fin : Int → Bool) (l : List UInt8) : (prep step fin l).2 = 0 ∨ ((prep step fin l).1 = [] ∧ ((prep step fin l).2 = 4 ∨ (prep step fin l).2 = 5)) := by
  unfold prep
  split
  · exact .inr ⟨rfl, .inr rfl⟩
  · split
    · exact .inr ⟨rfl, .inl rfl⟩
    · split
      · exact .inr ⟨rfl, .inl rfl⟩
      · split
        · exact .inl rfl
        · exact .inr ⟨rfl, .inl rfl⟩

theorem ix_le (c : UInt8) (l : List UInt8) : ix c l ≤ l.length := List.findIdx_le_length
theorem indexByte_ix (c : UInt8) : ∀ l : List UInt8, indexByte l c = if ix c l < l.length then (ix c l : Int) else -1
  | [] => rfl
  | b :: l => by
    have ih := indexByte_ix c l
    have hle := ix_le c l
    by_cases hb : (b == c) = true
    · simp [indexByte, ix, List.findIdx_cons, hb]
    · have e : ix c (b :: l) = ix c l + 1 := by simp [ix, List.findIdx_cons, hb]
      rw [indexByte, if_neg hb, ih, e]
      by_cases h : ix c l < l.length
      · have h1 : ix c l + 1 < (b :: l).length := by rw [List.length_cons]; omega
        rw [if_pos h, if_pos h1, if_neg (by simp only [beq_iff_eq]; omega)]; rfl
      · have h1 : ¬ ix c l + 1 < (b :: l).length := by rw [List.length_cons]; omega
        rw [if_neg h, if_neg h1, if_pos (by rfl)]
end Go.Proofs.YtppdopcghnfapaaGreatDoor.Nm

/- name's small functions: what each answers. -/
set_option maxRecDepth 100000
namespace Go.Proofs.YtppdopcghnfapaaGreatDoor.Nm
open Go.RowKit

theorem ret_bool {a b : Bool} (h : a = b) : Ending.returned (.bool a) = .returned (.bool b) := by rw [h]
theorem ret_int {k : IntKind} {a b : Int} (h : a = b) : Ending.returned (.int k a) = .returned (.int k b) := by rw [h]

theorem within_any (r a b : Int) (w : World) : Calls Tryz.prog 173 #[.int .i32 r, .int .i32 a, .int .i32 b] w fun e w' => e = .returned (.bool (decide (a ≤ r ∧ r ≤ b))) ∧ w' = w := by
  go_enter Tryz.func173, Tryz.ntmps173
  go_wp2
  all_goals go_ret
  all_goals (refine ⟨ret_bool ?_, rfl⟩; simp_all)
  all_goals omega

theorem ofLabel_any (r : Int) (w : World) : Calls Tryz.prog 175 #[.int .i32 r] w fun e w' => e = .returned (.bool (labelB r)) ∧ w' = w := by
  unfold labelB
  go_enter Tryz.func175, Tryz.ntmps175
  go_wp2_with (go_at_call 173; refine (within_any _ _ _ _).mono ?_; rintro e w1 ⟨rfl, rfl⟩)
  all_goals go_ret
  all_goals (refine ⟨ret_bool ?_, rfl⟩; simp_all)

theorem small_any (r : Int) (w : World) (h0 : 0 ≤ r) (h1 : r ≤ 1114111) : Calls Tryz.prog 174 #[.int .i32 r] w fun e w' => e = .returned (.int .i32 (small r)) ∧ w' = w := by
  unfold small
  by_cases hc : 65 ≤ r ∧ r ≤ 90
  · have hd : decide (65 ≤ r ∧ r ≤ 90) = true := decide_eq_true hc
    go_enter Tryz.func174, Tryz.ntmps174
    go_wp2_with (go_at_call 173; refine (within_any _ _ _ _).mono ?_; rintro e w1 ⟨rfl, rfl⟩)
    all_goals go_ret
    all_goals (refine ⟨ret_int ?_, rfl⟩; simp_all)
  · have hd : decide (65 ≤ r ∧ r ≤ 90) = false := decide_eq_false hc
    go_enter Tryz.func174, Tryz.ntmps174
    go_wp2_with (go_at_call 173; refine (within_any _ _ _ _).mono ?_; rintro e w1 ⟨rfl, rfl⟩)
    all_goals go_ret
    all_goals (refine ⟨ret_int ?_, rfl⟩; simp_all)

theorem folded_any (r : Int) (w : World) (h0 : 0 ≤ r) (h1 : r ≤ 1114111) : Calls Tryz.prog 144 #[.int .i32 r] w fun e w' => e = .returned (.int .i32 (foldR r)) ∧ w' = w := by
  by_cases ha : r = 215
  · subst ha
    go_enter Tryz.func144, Tryz.ntmps144
    go_wp2
    go_ret
    exact ⟨rfl, rfl⟩
  by_cases hb : r = 930
  · subst hb
    go_enter Tryz.func144, Tryz.ntmps144
    go_wp2
    go_ret
    exact ⟨rfl, rfl⟩
  by_cases hc : 192 ≤ r ∧ r ≤ 222
  · have hd : decide (192 ≤ r ∧ r ≤ 222) = true := decide_eq_true hc
    have hf : foldR r = r + 32 := by unfold foldR; rw [if_pos (by omega)]
    go_enter Tryz.func144, Tryz.ntmps144
    go_wp2_with (go_at_call 173; refine (within_any _ _ _ _).mono ?_; rintro e w1 ⟨rfl, rfl⟩)
    all_goals go_ret
    all_goals (refine ⟨ret_int ?_, rfl⟩; simp_all)
  have hd : decide (192 ≤ r ∧ r ≤ 222) = false := decide_eq_false hc
  by_cases hc2 : 913 ≤ r ∧ r ≤ 937
  · have hd2 : decide (913 ≤ r ∧ r ≤ 937) = true := decide_eq_true hc2
    have hf : foldR r = r + 32 := by unfold foldR; rw [if_pos (by omega)]
    go_enter Tryz.func144, Tryz.ntmps144
    go_wp2_with (go_at_call 173; refine (within_any _ _ _ _).mono ?_; rintro e w1 ⟨rfl, rfl⟩)
    all_goals go_ret
    all_goals (refine ⟨ret_int ?_, rfl⟩; simp_all)
  have hd2 : decide (913 ≤ r ∧ r ≤ 937) = false := decide_eq_false hc2
  by_cases hc3 : 1040 ≤ r ∧ r ≤ 1071
  · have hd3 : decide (1040 ≤ r ∧ r ≤ 1071) = true := decide_eq_true hc3
    have hf : foldR r = r + 32 := by unfold foldR; rw [if_pos (by omega)]
    go_enter Tryz.func144, Tryz.ntmps144
    go_wp2_with (go_at_call 173; refine (within_any _ _ _ _).mono ?_; rintro e w1 ⟨rfl, rfl⟩)
    all_goals go_ret
    all_goals (refine ⟨ret_int ?_, rfl⟩; simp_all)
  have hd3 : decide (1040 ≤ r ∧ r ≤ 1071) = false := decide_eq_false hc3
  have qa : (r == 215) = false := by simpa using ha
  have qb : (r == 930) = false := by simpa using hb
  have hf : foldR r = small r := by
    unfold foldR small
    by_cases hs : 65 ≤ r ∧ r ≤ 90
    · rw [if_pos hs, if_pos (.inl hs)]
    · rw [if_neg hs, if_neg (by omega)]
  go_enter Tryz.func144, Tryz.ntmps144
  go_wp2_with (first
    | (go_at_call 173; refine (within_any _ _ _ _).mono ?_; rintro e w1 ⟨rfl, rfl⟩)
    | (go_at_call 174; refine (small_any _ _ h0 h1).mono ?_; rintro e w1 ⟨rfl, rfl⟩))
  all_goals go_ret
  all_goals (refine ⟨ret_int ?_, rfl⟩; simp_all)

theorem ofLocal_any (r : Int) (w : World) : Calls Tryz.prog 145 #[.int .i32 r] w fun e w' => e = .returned (.bool (letterB r)) ∧ w' = w := by
  by_cases ha : r = 46
  · subst ha
    go_enter Tryz.func145, Tryz.ntmps145
    go_wp2
    go_ret
    exact ⟨rfl, rfl⟩
  by_cases hb : r = 45
  · subst hb
    go_enter Tryz.func145, Tryz.ntmps145
    go_wp2
    go_ret
    exact ⟨rfl, rfl⟩
  by_cases hc : r = 95
  · subst hc
    go_enter Tryz.func145, Tryz.ntmps145
    go_wp2
    go_ret
    exact ⟨rfl, rfl⟩
  by_cases hd : r = 247
  · subst hd
    go_enter Tryz.func145, Tryz.ntmps145
    go_wp2
    go_ret
    exact ⟨rfl, rfl⟩
  have qa : (r == 46) = false := by simpa using ha
  have qb : (r == 45) = false := by simpa using hb
  have qc : (r == 95) = false := by simpa using hc
  have qd : (r == 247) = false := by simpa using hd
  have hl : letterB r = (labelB r || decide (223 ≤ r ∧ r ≤ 255) || decide (945 ≤ r ∧ r ≤ 969) || decide (1072 ≤ r ∧ r ≤ 1103)) := by
    unfold letterB labelB
    rw [← Bool.decide_or, ← Bool.decide_or, ← Bool.decide_or]
    exact decide_eq_decide.2 (by omega)
  rw [hl]
  clear hl
  generalize hL : labelB r = L
  cases L with
  | true =>
    go_enter Tryz.func145, Tryz.ntmps145
    go_wp2_with (first
      | (go_at_call 175; refine (ofLabel_any _ _).mono ?_; rw [hL]; rintro e w1 ⟨rfl, rfl⟩)
      | (go_at_call 173; refine (within_any _ _ _ _).mono ?_; rintro e w1 ⟨rfl, rfl⟩))
    go_ret
    exact ⟨rfl, rfl⟩
  | false =>
    generalize hA : decide (223 ≤ r ∧ r ≤ 255) = A
    generalize hB : decide (945 ≤ r ∧ r ≤ 969) = B
    generalize hC : decide (1072 ≤ r ∧ r ≤ 1103) = C
    cases A <;> cases B <;> cases C
    all_goals
      go_enter Tryz.func145, Tryz.ntmps145
      go_wp2_with (first
        | (go_at_call 175; refine (ofLabel_any _ _).mono ?_; rw [hL]; rintro e w1 ⟨rfl, rfl⟩)
        | (go_at_call 173; refine (within_any _ _ _ _).mono ?_; (first | rw [hA] | rw [hB] | rw [hC]); rintro e w1 ⟨rfl, rfl⟩))
      go_ret
      exact ⟨rfl, rfl⟩

/-- The value with which a preparing gives up. -/
def gaveUp (n : Int) : List PanicEntry := [{ v := .iface 175 (.agg #[.int .i64 n]), recovered := false }]

theorem giveUp_any (n : Int) (w : World) : Calls Tryz.prog 146 #[.int .i64 n] w fun e w' => e = .panicked (gaveUp n) ∧ w' = w := by
  go_enter Tryz.func146, Tryz.ntmps146
  go_wp2
  exact ⟨rfl, rfl, rfl⟩
end Go.Proofs.YtppdopcghnfapaaGreatDoor.Nm

/- What a text's runes are taken by: the three function values, and what eachRune asks of one. -/
set_option maxRecDepth 100000
namespace Go.Proofs.YtppdopcghnfapaaGreatDoor.Nm
open Go.RowKit

/-- Blocks from B on stand as they stood, and so do those below B0. -/
structure Aside (B0 B : Nat) (w w' : World) : Prop where
  below : Below B0 w w'
  size : w'.heap.size = w.heap.size
  above : ∀ k, B ≤ k → w'.heap[k]? = w.heap[k]?

theorem Aside.refl (B0 B : Nat) (w : World) : Aside B0 B w w := ⟨Below.refl _ _, rfl, fun _ _ => rfl⟩

/-- What eachRune asks of the function that takes the runes. -/
structure Taker (k : Nat) (caps : Array Value) (step : Int → Int → Option Int) (B0 B : Nat) (J : Int → World → Prop) : Prop where
  ent : ∀ args w, (callFunc k args).run Tryz.prog w = .ok (.enter k args) w
  call : ∀ st r W, J st W → 0 ≤ r → r ≤ 1114111 → Calls Tryz.prog k (#[.int .i32 r] ++ caps) W fun e W' =>
    (step st r = none ∧ e = .panicked (gaveUp 4) ∧ Below B0 W W') ∨ ∃ r', step st r = some r' ∧ e = .returned (.int .i32 r') ∧ J r' W' ∧ Aside B0 B W W'
  keep : ∀ st W W', J st W → Below B W W' → J st W'
  lim : ∀ st r r', 0 ≤ r → r ≤ 1114111 → step st r = some r' → 0 ≤ r' ∧ r' ≤ 1114200

theorem small_lim (r : Int) (h0 : 0 ≤ r) (h1 : r ≤ 1114111) : 0 ≤ small r ∧ small r ≤ 1114200 := by unfold small; split <;> omega
theorem foldR_lim (r : Int) (h0 : 0 ≤ r) (h1 : r ≤ 1114111) : 0 ≤ foldR r ∧ foldR r ≤ 1114200 := by unfold foldR; split <;> omega
theorem stepL_lim (st r r' : Int) (h0 : 0 ≤ r) (h1 : r ≤ 1114111) (h : stepL st r = some r') : 0 ≤ r' ∧ r' ≤ 1114200 := by
  unfold stepL at h; split at h
  · cases h; exact foldR_lim r h0 h1
  · cases h
theorem stepH_lim (st r r' : Int) (h0 : 0 ≤ r) (h1 : r ≤ 1114111) (h : stepH st r = some r') : 0 ≤ r' ∧ r' ≤ 1114200 := by
  unfold stepH at h; split at h
  · cases h; exact small_lim r h0 h1
  · cases h
theorem stepR_lim (st r r' : Int) (h0 : 0 ≤ r) (h1 : r ≤ 1114111) (h : stepR st r = some r') : 0 ≤ r' ∧ r' ≤ 1114200 := by
  unfold stepR at h; split at h
  · cases h; omega
  · cases h

theorem takeL_any (st r : Int) (w : World) (h0 : 0 ≤ r) (h1 : r ≤ 1114111) : Calls Tryz.prog 143 #[.int .i32 r] w fun e w' =>
    (stepL st r = none ∧ e = .panicked (gaveUp 4) ∧ w' = w) ∨ ∃ r', stepL st r = some r' ∧ e = .returned (.int .i32 r') ∧ w' = w := by
  unfold stepL
  generalize hL : letterB (foldR r) = L
  cases L with
  | true =>
    rw [if_pos rfl]
    go_enter Tryz.func143, Tryz.ntmps143
    go_wp2_with (first
      | (go_at_call 144; refine (folded_any _ _ h0 h1).mono ?_; rintro e w1 ⟨rfl, rfl⟩)
      | (go_at_call 145; refine (ofLocal_any _ _).mono ?_; rw [hL]; rintro e w1 ⟨rfl, rfl⟩))
    go_ret
    exact .inr ⟨_, rfl, rfl, rfl⟩
  | false =>
    rw [if_neg (by simp)]
    go_enter Tryz.func143, Tryz.ntmps143
    go_wp2_with (first
      | (go_at_call 144; refine (folded_any _ _ h0 h1).mono ?_; rintro e w1 ⟨rfl, rfl⟩)
      | (go_at_call 145; refine (ofLocal_any _ _).mono ?_; rw [hL]; rintro e w1 ⟨rfl, rfl⟩)
      | (go_at_call 146; refine (giveUp_any _ _).mono ?_; rintro e w1 ⟨rfl, rfl⟩))
    exact ⟨rfl, .inl ⟨trivial, rfl, rfl⟩⟩

theorem takerL (B : Nat) : Taker 143 #[] stepL B B (fun _ _ => True) :=
  ⟨enters_of Tryz.func143 (by kernel_rfl) rfl,
   fun st r W _ h0 h1 => (takeL_any st r W h0 h1).mono fun _ _ h => by
     rcases h with ⟨a, b, rfl⟩ | ⟨r', a, b, rfl⟩
     · exact .inl ⟨a, b, Below.refl _ _⟩
     · exact .inr ⟨r', a, b, trivial, Aside.refl _ _ _⟩,
   fun _ _ _ _ _ => trivial, stepL_lim⟩
/-- The variable that holds what stood last. -/
def LastAt (B : Nat) (st : Int) (w : World) : Prop := w.heap[B]? = some (.cells #[.int .i32 st] 21 (0, 0))

theorem LastAt.cell {B : Nat} {st : Int} {w : World} (h : LastAt B st w) : w.cell? ⟨B, 0, none⟩ = some (.int .i32 st) := by simp [World.cell?, show w.heap[B]? = _ from h]
theorem LastAt.thaw {B : Nat} {st : Int} {w : World} (h : LastAt B st w) : w.frozen? ⟨B, 0, none⟩ = false := by simp [World.frozen?, show w.heap[B]? = _ from h]
theorem LastAt.put {B : Nat} {st : Int} {w : World} (h : LastAt B st w) (r : Int) : LastAt B r (w.setCell ⟨B, 0, none⟩ (.int .i32 r)) := by
  show (w.setCell ⟨B, 0, none⟩ (.int .i32 r)).heap[B]? = _
  simp [World.setCell, Array.getElem?_modify, show w.heap[B]? = _ from h]
theorem LastAt.aside {B : Nat} {st : Int} {w : World} (_ : LastAt B st w) (r : Int) : Aside B (B + 1) w (w.setCell ⟨B, 0, none⟩ (.int .i32 r)) :=
  ⟨⟨rfl, rfl, rfl, by simp [World.setCell], fun k hk => Below.heap_setCell _ _ _ _ (by show k ≠ B; omega)⟩, by simp [World.setCell], fun k hk => Below.heap_setCell _ _ _ _ (by show k ≠ B; omega)⟩

end Go.Proofs.YtppdopcghnfapaaGreatDoor.Nm

/-
  DERIVED: THE SHELF's CONTRACTS AT THIS DUMP, IN PLAIN WORDS (tools/lay-plain.mjs out of 'ShelfSrcNow.lean', which tools/lay-shelf.mjs wrote): THE SAME DECLARATIONS UNDER THE SAME NAMES: 'import', 'namespace', 'open', 'def', 'theorem' AND NOTHING ELSE: no command of the shelf's: FOR A HAND-IN. Each laying: the table of numbers ('.._ren') and one theorem, a field a fact of the dump's own or the kernel's comparison; each contract: ONE APPLICATION.
-/
namespace Go.Proofs
open Go.Shelf
def Tryz.lays169_ren : Go.Shelf.Ren := ⟨fun | 169 => 172 | n => n, fun | 70 => 195 | 9 => 9 | 0 => 0 | 72 => 197 | 37 => 172 | 127 => 173 | 3 => 3 | 5 => 5 | n => n, fun | n => n⟩
theorem Tryz.lays169 : Go.Proofs.Lays.n169 Tryz.prog Tryz.lays169_ren := {
  mixed := by kernel_rfl
  f169 := Tryz.func172.trans (congrArg some (by kernel_rfl))
  t0 := Tryz.underlying0
  a0 := Tryz.isAgg0
  z0 := Tryz.sizeOf0
  v0 := Tryz.zeroValue0
  t3 := Tryz.underlying3
  a3 := Tryz.isAgg3
  z3 := Tryz.sizeOf3
  v3 := Tryz.zeroValue3
  t9 := Tryz.underlying9
  a9 := Tryz.isAgg9
  z9 := Tryz.sizeOf9
  v9 := Tryz.zeroValue9
  t37 := Tryz.underlying172
  a37 := Tryz.isAgg172
  z37 := Tryz.sizeOf172
  v37 := Tryz.zeroValue172
  t70 := Tryz.underlying195
  a70 := Tryz.isAgg195
  z70 := Tryz.sizeOf195
  v70 := Tryz.zeroValue195
  t72 := Tryz.underlying197
  a72 := Tryz.isAgg197
  z72 := Tryz.sizeOf197
  v72 := Tryz.zeroValue197
  t127 := Tryz.underlying173
  a127 := Tryz.isAgg173
  z127 := Tryz.sizeOf173
  v127 := Tryz.zeroValue173 }
def Tryz.lays242_ren : Go.Shelf.Ren := ⟨fun | 242 => 184 | 278 => 187 | n => n, fun | 37 => 172 | 21 => 21 | 51 => 165 | 4 => 4 | 5 => 5 | 72 => 197 | 46 => 144 | n => n, fun | n => n⟩
theorem Tryz.lays242 : Go.Proofs.Lays.n242 Tryz.prog Tryz.lays242_ren := {
  mixed := by kernel_rfl
  f242 := Tryz.func184.trans (congrArg some (by kernel_rfl))
  f278 := Tryz.func187.trans (congrArg some (by kernel_rfl))
  t4 := Tryz.underlying4
  a4 := Tryz.isAgg4
  z4 := Tryz.sizeOf4
  v4 := Tryz.zeroValue4
  t5 := Tryz.underlying5
  a5 := Tryz.isAgg5
  z5 := Tryz.sizeOf5
  v5 := Tryz.zeroValue5
  t21 := Tryz.underlying21
  a21 := Tryz.isAgg21
  z21 := Tryz.sizeOf21
  v21 := Tryz.zeroValue21
  t37 := Tryz.underlying172
  a37 := Tryz.isAgg172
  z37 := Tryz.sizeOf172
  v37 := Tryz.zeroValue172
  t46 := Tryz.underlying144
  a46 := Tryz.isAgg144
  z46 := Tryz.sizeOf144
  v46 := Tryz.zeroValue144
  t51 := Tryz.underlying165
  a51 := Tryz.isAgg165
  z51 := Tryz.sizeOf165
  v51 := Tryz.zeroValue165 }
def Tryz.lays196_ren : Go.Shelf.Ren := ⟨fun | 196 => 114 | 259 => 140 | n => n, fun | 9 => 9 | 4 => 4 | 3 => 3 | 5 => 5 | 12 => 12 | 119 => 168 | 0 => 0 | 46 => 144 | 139 => 171 | 138 => 170 | 53 => 33 | n => n, fun | 3 => 2 | 4 => 3 | n => n⟩
theorem Tryz.lays196 : Go.Proofs.Lays.n196 Tryz.prog Tryz.lays196_ren := {
  mixed := by kernel_rfl
  f196 := Tryz.func114.trans (congrArg some (by kernel_rfl))
  f259 := Tryz.func140.trans (congrArg some (by kernel_rfl))
  t0 := Tryz.underlying0
  a0 := Tryz.isAgg0
  z0 := Tryz.sizeOf0
  v0 := Tryz.zeroValue0
  t3 := Tryz.underlying3
  a3 := Tryz.isAgg3
  z3 := Tryz.sizeOf3
  v3 := Tryz.zeroValue3
  t4 := Tryz.underlying4
  a4 := Tryz.isAgg4
  z4 := Tryz.sizeOf4
  v4 := Tryz.zeroValue4
  t5 := Tryz.underlying5
  a5 := Tryz.isAgg5
  z5 := Tryz.sizeOf5
  v5 := Tryz.zeroValue5
  t9 := Tryz.underlying9
  a9 := Tryz.isAgg9
  z9 := Tryz.sizeOf9
  v9 := Tryz.zeroValue9
  t12 := Tryz.underlying12
  a12 := Tryz.isAgg12
  z12 := Tryz.sizeOf12
  v12 := Tryz.zeroValue12
  t46 := Tryz.underlying144
  a46 := Tryz.isAgg144
  z46 := Tryz.sizeOf144
  v46 := Tryz.zeroValue144
  t53 := Tryz.underlying33
  a53 := Tryz.isAgg33
  z53 := Tryz.sizeOf33
  v53 := Tryz.zeroValue33
  t119 := Tryz.underlying168
  a119 := Tryz.isAgg168
  z119 := Tryz.sizeOf168
  t138 := Tryz.underlying170
  a138 := Tryz.isAgg170
  z138 := Tryz.sizeOf170
  v138 := Tryz.zeroValue170
  t139 := Tryz.underlying171
  a139 := Tryz.isAgg171
  z139 := Tryz.sizeOf171
  v139 := Tryz.zeroValue171
  g3 := by kernel_rfl
  g4 := by kernel_rfl }
def Tryz.laysM316_ren : Go.Shelf.Ren := ⟨fun | 316 => 115 | n => n, fun | 9 => 9 | 3 => 3 | 4 => 4 | 37 => 172 | 0 => 0 | 127 => 173 | 5 => 5 | n => n, fun | n => n⟩
theorem Tryz.laysM316 : Go.Proofs.LaysM.n316 Tryz.prog Tryz.laysM316_ren := {
  mixed := by kernel_rfl
  f316 := Tryz.func115.trans (congrArg some (by kernel_rfl))
  t0 := Tryz.underlying0
  a0 := Tryz.isAgg0
  z0 := Tryz.sizeOf0
  v0 := Tryz.zeroValue0
  t3 := Tryz.underlying3
  a3 := Tryz.isAgg3
  z3 := Tryz.sizeOf3
  v3 := Tryz.zeroValue3
  t4 := Tryz.underlying4
  a4 := Tryz.isAgg4
  z4 := Tryz.sizeOf4
  v4 := Tryz.zeroValue4
  t9 := Tryz.underlying9
  a9 := Tryz.isAgg9
  z9 := Tryz.sizeOf9
  v9 := Tryz.zeroValue9
  t37 := Tryz.underlying172
  a37 := Tryz.isAgg172
  z37 := Tryz.sizeOf172
  v37 := Tryz.zeroValue172
  t127 := Tryz.underlying173
  a127 := Tryz.isAgg173
  z127 := Tryz.sizeOf173
  v127 := Tryz.zeroValue173
  t5 := Tryz.underlying5
  a5 := Tryz.isAgg5
  z5 := Tryz.sizeOf5
  v5 := Tryz.zeroValue5
  i0 := by kernel_rfl
  i3 := by kernel_rfl
  i4 := by kernel_rfl
  i5 := by kernel_rfl
  i9 := by kernel_rfl
  i37 := by kernel_rfl
  i127 := by kernel_rfl }
end Go.Proofs
