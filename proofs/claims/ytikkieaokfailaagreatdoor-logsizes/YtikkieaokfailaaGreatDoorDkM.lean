/- The disk's map: names to files, read by a function. -/
import Derived.Test.YtikkieaokfailaaGreatDoorDkP
import Derived.Test.YtikkieaokfailaaGreatDoorOwnA
import Derived.Maps.OwnSet
import Derived.Maps.OwnOps
import Derived.Sort.KeysCollected
namespace Go.Proofs.YtikkieaokfailaaGreatDoor
open Go.RowKit

/-- A file as it lies in the map: its row's block (none: nil), length, capacity; how many bytes are safe. -/
abbrev FV := Option Nat × Nat × Nat × Int
def slv (f : FV) : Value := .slice (f.1.map fun g => ⟨g, 0, none⟩) f.2.1 f.2.2.1
def fv (f : FV) : Value := .agg #[slv f, .int .i64 f.2.2.2]
def fd : FV → DataW Unit
  | (none, n, c, s) => .agg [.lit (.int .i64 (-1)), .lit (.int .i64 n), .lit (.int .i64 c), .lit (.int .i64 s)]
  | (some g, n, c, s) => .agg [.lit (.int .i64 g), .lit (.int .i64 n), .lit (.int .i64 c), .lit (.int .i64 s)]

theorem fd_inj {f g : FV} (h : fd f = fd g) : f = g := by
  obtain ⟨a, n, c, s⟩ := f
  obtain ⟨b, m, d, t⟩ := g
  have hl : ∀ {x y : List (DataW Unit)}, DataW.agg x = DataW.agg y → x = y := fun h => by injection h
  have hi : ∀ {x y : Int}, (DataW.lit (.int .i64 x) : DataW Unit) = .lit (.int .i64 y) → x = y := fun h => by injection h with h; injection h
  cases a <;> cases b
  all_goals
    have h1 := hl h
    obtain ⟨e0, h1⟩ := List.cons.inj h1
    obtain ⟨e1, h1⟩ := List.cons.inj h1
    obtain ⟨e2, h1⟩ := List.cons.inj h1
    obtain ⟨e3, _⟩ := List.cons.inj h1
    have e0 := hi e0
    have e1 := hi e1
    have e2 := hi e2
    have e3 := hi e3
  · rw [Int.ofNat.inj e1, Int.ofNat.inj e2, e3]
  · omega
  · omega
  · rw [Int.ofNat.inj e0, Int.ofNat.inj e1, Int.ofNat.inj e2, e3]

def Rf (v : Value) : Option (DataW Unit × List MemPlace) :=
  match v with
  | .agg a => match a.toList with
    | [.slice none n c, .int .i64 s] => some (fd (none, n, c, s), [])
    | [.slice (some ⟨g, 0, none⟩) n c, .int .i64 s] => some (fd (some g, n, c, s), [])
    | _ => none
  | _ => none
theorem Rf_mk (f : FV) : Rf (fv f) = some (fd f, []) := by
  obtain ⟨a, n, c, s⟩ := f
  cases a <;> rfl
theorem Rf_inv {v : Value} {f : FV} {ps : List MemPlace} (h : Rf v = some (fd f, ps)) : v = fv f := by
  unfold Rf at h
  split at h
  · split at h
    · rename_i a n c s e
      injection h with h
      have e1 : fd (none, n, c, s) = fd f := congrArg Prod.fst h
      have e2 := fd_inj e1
      rw [← e2]
      unfold fv slv
      congr 1
      exact Array.toList_inj.1 e
    · rename_i a g n c s e
      injection h with h
      have e1 : fd (some g, n, c, s) = fd f := congrArg Prod.fst h
      have e2 := fd_inj e1
      rw [← e2]
      unfold fv slv
      congr 1
      exact Array.toList_inj.1 e
    · cases h
  · cases h

def kl (s : ByteArray) : Lit := .string s.data.toList
theorem kl_key (s : ByteArray) (hs : s.size ≤ maxLen) : keyOf Tryz.prog 9 (.string s) = some (kl s) := by
  rw [keyOf_string Tryz.underlying9]
  simp [mapKey, Tryz.underlying9, hs, kl]
theorem kl_is (s : ByteArray) : WideAt.IsKeyLit (kl s) := trivial
theorem kl_ne {s t : ByteArray} (h : s ≠ t) : kl s ≠ kl t := fun e => h (by
  unfold kl at e
  injection e with e
  exact nm_ext e)
theorem keyed : Maps.Keyed Tryz.prog 9 := Maps.string_keyed Tryz.underlying9
def fv0 : FV := (none, 0, 0, 0)
theorem zeroF (w : World) : (zeroValue 106).run Tryz.prog w = .ok (fv fv0) w := by kernel_rfl

/-- Block b is a map of at most n entries that holds m. -/
def FMap (w : World) (b n : Nat) (m : Nm → Option FV) : Prop :=
  ∃ D : DataW Unit, w.ownsMap Tryz.prog 9 Rf b n D ∧ ∀ s : Nm, (∀ z, D.atKey (kl s) z = ((m s).map fd).getD z) ∧ Maps.has D (kl s) = (m s).isSome

def mputF (m : Nm → Option FV) (u : Nm) (t : Option FV) : Nm → Option FV := fun s => if s = u then t else m s
theorem mputF_same (m : Nm → Option FV) (u : Nm) (t : Option FV) : mputF m u t u = t := by simp [mputF]
theorem mputF_other (m : Nm → Option FV) {u s : Nm} (t : Option FV) (h : s ≠ u) : mputF m u t s = m s := by simp [mputF, h]

theorem FMap.made (w : World) : FMap (w.alloc (.map #[] 0)) w.heap.size 0 (fun _ => none) :=
  ⟨_, World.ownsMap_made w _ _ _, fun _ => ⟨fun _ => rfl, rfl⟩⟩
theorem FMap.lt {w : World} {b n : Nat} {m : Nm → Option FV} (h : FMap w b n m) : b < w.heap.size := by
  obtain ⟨D, hD, _⟩ := h; exact hD.lt
theorem FMap.keep {S : Nat → Prop} {w w' : World} {b n : Nat} {m : Nm → Option FV} (h : FMap w b n m) (hk : Keep S w w') (hs : ¬ S b) : FMap w' b n m := by
  obtain ⟨D, hD, h2⟩ := h
  have hlt := hD.lt
  obtain ⟨es, clock, hb, F, h3, h4⟩ := hD
  exact ⟨D, ⟨es, clock, (hk.block b hlt hs).trans hb, F, h3, h4⟩, h2⟩
theorem FMap.mono {w : World} {b n n' : Nat} {m : Nm → Option FV} (h : FMap w b n m) (hn : n ≤ n') : FMap w b n' m := by
  obtain ⟨D, hD, h2⟩ := h; exact ⟨D, hD.mono hn, h2⟩
theorem FMap.notCells {w : World} {b n : Nat} {m : Nm → Option FV} (h : FMap w b n m) {g : Nat} {cs : Array Value} {t : TypeId} {fr : Nat × Nat} (hc : w.heap[g]? = some (.cells cs t fr)) : g ≠ b := by
  obtain ⟨D, ⟨es, clock, hb, _⟩, h2⟩ := h
  intro e
  subst e
  rw [hb] at hc
  cases hc
theorem FMap.ext {w : World} {b n : Nat} {m m' : Nm → Option FV} (h : FMap w b n m) (e : ∀ s, m s = m' s) : FMap w b n m' := by
  rw [← show m = m' from funext e]; exact h

theorem Keep.ofTurned {w w' : World} {b : Nat} (h : w.mapTurned w' b) : Keep (fun k => k = b) w w' := (Keep.ofGrown h.grown).mono (fun i e => by cases e; rfl)

/-- 'v, ok := m[k]' at its run. -/
theorem FMap.look2 {w : World} {b n : Nat} {m : Nm → Option FV} (h : FMap w b n m) (s : Nm) (hs : s.size ≤ maxLen) :
    (Instr.lookup 99 (.map (some b)) (.string s) true).run Tryz.prog w = .ok (.tuple #[fv ((m s).getD fv0), .bool (m s).isSome]) w := by
  obtain ⟨D, hD, h2⟩ := h
  obtain ⟨v, ps, hrun, hv⟩ := hD.look_ok keyed Tryz.underlying99 (zeroF w) (Rf_mk fv0) (kl_key s hs)
  rw [hrun, (h2 s).2]
  rw [(h2 s).1] at hv
  have : v = fv ((m s).getD fv0) := by
    cases hm : m s with
    | none => rw [hm] at hv; exact Rf_inv hv
    | some t => rw [hm] at hv; exact Rf_inv hv
  rw [this]
/-- 'm[k]' at its run. -/
theorem FMap.look1 {w : World} {b n : Nat} {m : Nm → Option FV} (h : FMap w b n m) (s : Nm) (hs : s.size ≤ maxLen) :
    (Instr.lookup 99 (.map (some b)) (.string s) false).run Tryz.prog w = .ok (fv ((m s).getD fv0)) w := by
  obtain ⟨D, hD, h2⟩ := h
  obtain ⟨v, ps, hrun, hv⟩ := hD.lookup keyed Tryz.underlying99 (zeroF w) (Rf_mk fv0) (kl_key s hs)
  rw [hrun]
  rw [(h2 s).1] at hv
  have : v = fv ((m s).getD fv0) := by
    cases hm : m s with
    | none => rw [hm] at hv; exact Rf_inv hv
    | some t => rw [hm] at hv; exact Rf_inv hv
  rw [this]

/-- 'm[k] = v' at its run. -/
theorem FMap.store {w : World} {b n : Nat} {m : Nm → Option FV} (h : FMap w b n m) (hn : n < 1000000) (s : Nm) (hs : s.size ≤ maxLen) (t : FV) :
    ∃ w', (Instr.mapUpdate 99 (.map (some b)) (.string s) (fv t)).run Tryz.prog w = .ok () w' ∧ FMap w' b (n + 1) (mputF m s (some t)) ∧ Keep (fun k => k = b) w w' := by
  obtain ⟨D, hD, h2⟩ := h
  obtain ⟨w', hrun, hown, hturn⟩ := hD.store keyed Tryz.underlying99 (by unfold maxLen; omega) (kl_key s hs) (Rf_mk t)
  refine ⟨w', hrun, ⟨_, hown, fun u => ?_⟩, Keep.ofTurned hturn⟩
  by_cases hu : u = s
  · subst hu
    rw [mputF_same]
    exact ⟨fun z => Maps.atKey_put_same hD.isMap (kl_is u) _ z, Maps.has_put_same hD.isMap (kl_is u) _⟩
  · rw [mputF_other m _ hu]
    exact ⟨fun z => (Maps.atKey_put_other (kl_ne hu) _ z).trans ((h2 u).1 z), (Maps.has_put_other (kl_ne hu) _).trans (h2 u).2⟩

/-- 'delete(m, k)' at its run. -/
theorem FMap.drop {w : World} {b n : Nat} {m : Nm → Option FV} (h : FMap w b n m) (s : Nm) (hs : s.size ≤ maxLen) (ty : TypeId) :
    ∃ w', (Builtin.delete_ #[99, 9] ty #[.map (some b), .string s]).run Tryz.prog w = .ok (.tuple #[]) w' ∧ FMap w' b n (mputF m s none) ∧ Keep (fun k => k = b) w w' := by
  obtain ⟨D, hD, h2⟩ := h
  obtain ⟨w', hrun, hown, hturn⟩ := hD.drop keyed Tryz.underlying99 (kl_key s hs) ty
  refine ⟨w', hrun, ⟨_, hown, fun u => ?_⟩, Keep.ofTurned hturn⟩
  by_cases hu : u = s
  · subst hu
    rw [mputF_same]
    exact ⟨fun z => Maps.atKey_del_same z, Maps.has_del_same⟩
  · rw [mputF_other m _ hu]
    exact ⟨fun z => (Maps.atKey_del_other (kl_ne hu) z).trans ((h2 u).1 z), (Maps.has_del_other (kl_ne hu)).trans (h2 u).2⟩

/-- The keys of such a map, by a list of names. -/
theorem FMap.keys {w : World} {b n : Nat} {m : Nm → Option FV} (h : FMap w b n m) (l : List Nm) (hl : l.Nodup) (hm : ∀ s, (m s).isSome = true ↔ s ∈ l) :
    ∃ D : DataW Unit, w.ownsMap Tryz.prog 9 Rf b n D ∧ (l.map (fun s => s.data.toList)).Perm (strKeys D) ∧ Maps.size D = l.length := by
  obtain ⟨D, hD, h2⟩ := h
  obtain ⟨es, rfl, hp, hkl⟩ := hD.entries keyed
  have hst : ∀ p ∈ es, ∃ x, p.1 = .string x := fun p hp' => by
    obtain ⟨es', hes, hko⟩ := hD.keysOf
    cases hes
    obtain ⟨key, hkey⟩ := hko p hp'
    obtain ⟨x, _, hx, _⟩ := Maps.keyOf_str Tryz.underlying9 hkey
    exact ⟨x, hx⟩
  have hperm : (l.map (fun s : Nm => s.data.toList)).Perm (strKeys (.map es)) := by
    refine perm_strKeys hp hst ?_ (fun x => ?_)
    · exact List.pairwise_map.2 (hl.imp (fun {a b} hne e => hne (nm_ext e)))
    · constructor
      · intro hx
        obtain ⟨s, hs, rfl⟩ := List.mem_map.1 hx
        have := (h2 s).2
        rw [(hm s).2 hs] at this
        exact this
      · intro hx
        have := (h2 ⟨x.toArray⟩).2
        unfold kl at this
        rw [show ((⟨x.toArray⟩ : ByteArray).data.toList) = x from rfl, hx] at this
        exact List.mem_map.2 ⟨⟨x.toArray⟩, (hm _).1 this.symm, rfl⟩
  refine ⟨_, hD, hperm, ?_⟩
  have h3 := hperm.length_eq
  simp [strKeys] at h3
  simp [Maps.size]
  omega
theorem FMap.tight {w : World} {b n : Nat} {m : Nm → Option FV} (h : FMap w b n m) (l : List Nm) (hl : l.Nodup) (hm : ∀ s, (m s).isSome = true ↔ s ∈ l) : FMap w b l.length m := by
  obtain ⟨D, hD, h2⟩ := h
  obtain ⟨D', hD', _, hsz⟩ := FMap.keys ⟨D, hD, h2⟩ l hl hm
  refine ⟨D, ?_, h2⟩
  obtain ⟨es, clock, hb, F, h3, h4⟩ := hD
  obtain ⟨es', clock', hb', F', h3', h4'⟩ := hD'
  rw [hb] at hb'
  cases hb'
  refine ⟨es, clock, hb, F, ?_, h4⟩
  have : D' = D := by rw [h4, h4']
  subst this
  have e1 : Maps.size D' = es.size := by rw [h4]; simp [Maps.size, length_sorted]
  omega

/-- 'v, ok := m[k]' at its place in the walk. -/
theorem wp_look2 {w : World} {ops : Array Oper} {rest : List Oper} {o : Oper} {a : Act} {Q : Exit → Act → World → Prop} (hgd : o.guard = none) (p x : Operand) (ho : o.op = .lookup 99 p x true)
    (b n : Nat) (m : Nm → Option FV) (hp : a.eval p = .map (some b)) (h : FMap w b n m) (s : Nm) (hs : s.size ≤ maxLen) (hx : a.eval x = .string s) (v : Value) (sf : Int) (ht : fv ((m s).getD fv0) = .agg #[v, .int .i64 sf]) (kn : Bool) (hk : (m s).isSome = kn)
    (K : wpList Tryz.prog ops Q rest (a.put o.dst (.tuple #[.agg #[v, .int .i64 sf], .bool kn])) w) : wpList Tryz.prog ops Q (o :: rest) a w := by
  refine wpList_plain hgd fun K' hK' => ?_
  have hrun := h.look2 s hs
  rw [ht, hk] at hrun
  unfold Oper.wp
  simp only [execOp, ho, hp, hx, Sem.run_bind, hrun, Result.andThen_ok, Sem.run_pure]
  exact hK' _ _ K
/-- 'm[k]' at its place in the walk. -/
theorem wp_look1 {w : World} {ops : Array Oper} {rest : List Oper} {o : Oper} {a : Act} {Q : Exit → Act → World → Prop} (hgd : o.guard = none) (p x : Operand) (ho : o.op = .lookup 99 p x false)
    (b n : Nat) (m : Nm → Option FV) (hp : a.eval p = .map (some b)) (h : FMap w b n m) (s : Nm) (hs : s.size ≤ maxLen) (hx : a.eval x = .string s) (v : Value) (sf : Int) (ht : fv ((m s).getD fv0) = .agg #[v, .int .i64 sf])
    (K : wpList Tryz.prog ops Q rest (a.put o.dst (.agg #[v, .int .i64 sf])) w) : wpList Tryz.prog ops Q (o :: rest) a w := by
  refine wpList_plain hgd fun K' hK' => ?_
  have hrun := h.look1 s hs
  rw [ht] at hrun
  unfold Oper.wp
  simp only [execOp, ho, hp, hx, Sem.run_bind, hrun, Result.andThen_ok, Sem.run_pure]
  exact hK' _ _ K
/-- 'delete(m, k)' at its place in the walk. -/
theorem wp_dropF {w : World} {ops : Array Oper} {rest : List Oper} {o : Oper} {a : Act} {Q : Exit → Act → World → Prop} (hgd : o.guard = none) (p x : Operand) (ho : o.op = .call { callee := .builtin .delete, args := #[p, x], argTypes := #[99, 9] })
    (b n : Nat) (m : Nm → Option FV) (hp : a.eval p = .map (some b)) (h : FMap w b n m) (s : Nm) (hs : s.size ≤ maxLen) (hx : a.eval x = .string s)
    (K : ∀ w', FMap w' b n (mputF m s none) → Keep (fun k => k = b) w w' → wpList Tryz.prog ops Q rest (a.put o.dst (.tuple #[])) w') : wpList Tryz.prog ops Q (o :: rest) a w := by
  refine wpList_plain hgd fun K' hK' => ?_
  obtain ⟨w', hrun, r1, r2⟩ := h.drop s hs o.type
  unfold Oper.wp
  simp [execOp, ho, resolve, invoke, builtin, hp, hx, hrun, Result.andThen]
  exact hK' _ _ (K w' r1 r2)

end Go.Proofs.YtikkieaokfailaaGreatDoor
