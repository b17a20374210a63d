/- privacy: the map of lists; Lists in memory; New, Has, holding. -/
import Derived.Test.YtiplalbicibahaaDoorPvF
import Derived.Maps.OwnSet
import Derived.Maps.OwnOps
import Derived.Sort.KeysCollected
set_option maxRecDepth 100000
namespace Go.Proofs.YtiplalbicibahaaDoor
open Go.RowKit Go.Joins Go.Shelf Go.Sort

def li (i : Int) : DataW Unit := .lit (.int .i64 i)
def gd : Rw → DataW Unit
  | (none, n, c) => .agg [li (-1), li n, li c]
  | (some b, n, c) => .agg [li b, li n, li c]
theorem li_inj {x y : Int} (h : li x = li y) : x = y := by injection h with h; injection h
theorem gd_inj {g g' : Rw} (h : gd g = gd g') : g = g' := by
  obtain ⟨a, n, c⟩ := g
  obtain ⟨b, m, d⟩ := g'
  have hl : ∀ {x y : List (DataW Unit)}, DataW.agg x = DataW.agg y → x = y := fun h => by injection h
  cases a <;> cases b
  all_goals
    have h := hl h
    obtain ⟨e0, h⟩ := List.cons.inj h
    obtain ⟨e1, h⟩ := List.cons.inj h
    obtain ⟨e2, _⟩ := List.cons.inj h
    have e0 := li_inj e0
    have e1 := li_inj e1
    have e2 := li_inj e2
  · rw [Int.ofNat.inj e1, Int.ofNat.inj e2]
  · omega
  · omega
  · rw [Int.ofNat.inj e0, Int.ofNat.inj e1, Int.ofNat.inj e2]
def Rs (v : Value) : Option (DataW Unit × List MemPlace) :=
  match v with
  | .slice none n q => some (gd (none, n, q), [])
  | .slice (some ⟨b, 0, none⟩) n q => some (gd (some b, n, q), [])
  | _ => none
theorem Rs_mk (f : Rw) : Rs (rsl f) = some (gd f, []) := by
  obtain ⟨g, n, q⟩ := f
  cases g <;> rfl
theorem Rs_inv {v : Value} {f : Rw} {ps : List MemPlace} (h : Rs v = some (gd f, ps)) : v = rsl f := by
  unfold Rs at h
  split at h
  · rename_i n q
    injection h with h
    have e1 : gd (none, n, q) = gd f := congrArg Prod.fst h
    rw [← gd_inj e1]; rfl
  · rename_i b n q
    injection h with h
    have e1 : gd (some b, n, q) = gd f := congrArg Prod.fst h
    rw [← gd_inj e1]; rfl
  · cases h

theorem ba_inj {s t : ByteArray} (h : s.data.toList = t.data.toList) : s = t := by rw [← ba_back s, ← ba_back t, h]
theorem ba_injL {l m : By} (h : ba l = ba m) : l = m := by rw [← ba_list l, ← ba_list m, h]
def kl (l : By) : Lit := .string l
theorem kl_key (l : By) (hs : l.length ≤ maxLen) : keyOf Tryd.prog 9 (.string (ba l)) = some (kl l) := by
  rw [keyOf_string Tryd.underlying9]
  have : (ba l).size ≤ maxLen := by rw [ba_size]; exact hs
  simp [mapKey, Tryd.underlying9, this, kl, ba_list]
theorem kl_is (l : By) : WideAt.IsKeyLit (kl l) := trivial
theorem kl_ne {s t : By} (h : s ≠ t) : kl s ≠ kl t := fun e => h (by unfold kl at e; injection e)
theorem keyed : Maps.Keyed Tryd.prog 9 := Maps.string_keyed Tryd.underlying9
theorem zeroR (w : World) : (zeroValue 66).run Tryd.prog w = .ok (rsl (none, 0, 0)) w := by kernel_rfl

/-- Block b is a map of at most n entries that holds m. -/
def RMap (w : World) (b n : Nat) (m : By → Option Rw) : Prop :=
  ∃ D : DataW Unit, w.ownsMap Tryd.prog 9 Rs b n D ∧ ∀ s : By, (∀ z, D.atKey (kl s) z = ((m s).map gd).getD z) ∧ Maps.has D (kl s) = (m s).isSome
def putM {α : Type} (m : By → Option α) (u : By) (t : Option α) : By → Option α := fun s => if s = u then t else m s
theorem putM_same {α : Type} (m : By → Option α) (u : By) (t : Option α) : putM m u t u = t := by simp [putM]
theorem putM_other {α : Type} (m : By → Option α) {u s : By} (t : Option α) (h : s ≠ u) : putM m u t s = m s := by simp [putM, h]
theorem RMap.made (w : World) : RMap (w.alloc (.map #[] 0)) w.heap.size 0 (fun _ => none) :=
  ⟨_, World.ownsMap_made w _ _ _, fun _ => ⟨fun _ => rfl, rfl⟩⟩
theorem RMap.lt {w : World} {b n : Nat} {m : By → Option Rw} (h : RMap w b n m) : b < w.heap.size := by
  obtain ⟨D, hD, _⟩ := h; exact hD.lt
theorem RMap.keep {S : Nat → Prop} {w w' : World} {b n : Nat} {m : By → Option Rw} (h : RMap w b n m) (hk : Keep S w w') (hs : ¬ S b) : RMap w' b n m := by
  obtain ⟨D, hD, h2⟩ := h
  have hlt := hD.lt
  obtain ⟨es, clock, hb, F, h3, h4⟩ := hD
  exact ⟨D, ⟨es, clock, (hk.block b hlt hs).trans hb, F, h3, h4⟩, h2⟩
theorem RMap.notCells {w : World} {b n : Nat} {m : By → Option Rw} (h : RMap w b n m) {g : Nat} {cs : Array Value} {t : TypeId} {fr : Nat × Nat} (hc : w.heap[g]? = some (.cells cs t fr)) : g ≠ b := by
  obtain ⟨D, ⟨es, clock, hb, _⟩, h2⟩ := h
  intro e
  subst e
  rw [hb] at hc
  cases hc
theorem Keep.ofTurned {w w' : World} {b : Nat} (h : w.mapTurned w' b) : Keep (fun k => k = b) w w' := (Keep.ofGrown h.grown).mono (fun i e => by cases e; rfl)
/-- 'm[k]' at its run. -/
theorem RMap.look1 {w : World} {b n : Nat} {m : By → Option Rw} (h : RMap w b n m) (s : By) (hs : s.length ≤ maxLen) :
    (Instr.lookup 63 (.map (some b)) (.string (ba s)) false).run Tryd.prog w = .ok (rsl ((m s).getD (none, 0, 0))) w := by
  obtain ⟨D, hD, h2⟩ := h
  obtain ⟨v, ps, hrun, hv⟩ := hD.lookup keyed Tryd.underlying63 (zeroR w) (Rs_mk (none, 0, 0)) (kl_key s hs)
  rw [hrun]
  rw [(h2 s).1] at hv
  have : v = rsl ((m s).getD (none, 0, 0)) := by
    cases hm : m s with
    | none => rw [hm] at hv; exact Rs_inv hv
    | some t => rw [hm] at hv; exact Rs_inv hv
  rw [this]
/-- 'v, ok := m[k]' at its run. -/
theorem RMap.look2 {w : World} {b n : Nat} {m : By → Option Rw} (h : RMap w b n m) (s : By) (hs : s.length ≤ maxLen) :
    (Instr.lookup 63 (.map (some b)) (.string (ba s)) true).run Tryd.prog w = .ok (.tuple #[rsl ((m s).getD (none, 0, 0)), .bool (m s).isSome]) w := by
  obtain ⟨D, hD, h2⟩ := h
  obtain ⟨v, ps, hrun, hv⟩ := hD.look_ok keyed Tryd.underlying63 (zeroR w) (Rs_mk (none, 0, 0)) (kl_key s hs)
  rw [hrun, (h2 s).2]
  rw [(h2 s).1] at hv
  have : v = rsl ((m s).getD (none, 0, 0)) := by
    cases hm : m s with
    | none => rw [hm] at hv; exact Rs_inv hv
    | some t => rw [hm] at hv; exact Rs_inv hv
  rw [this]
/-- 'm[k] = v' at its run. -/
theorem RMap.store {w : World} {b n : Nat} {m : By → Option Rw} (h : RMap w b n m) (hn : n < 1000000) (s : By) (hs : s.length ≤ maxLen) (t : Rw) :
    ∃ w', (Instr.mapUpdate 63 (.map (some b)) (.string (ba s)) (rsl t)).run Tryd.prog w = .ok () w' ∧ RMap w' b (n + 1) (putM m s (some t)) ∧ Keep (fun k => k = b) w w' := by
  obtain ⟨D, hD, h2⟩ := h
  obtain ⟨w', hrun, hown, hturn⟩ := hD.store keyed Tryd.underlying63 (by unfold maxLen; omega) (kl_key s hs) (Rs_mk t)
  refine ⟨w', hrun, ⟨_, hown, fun u => ?_⟩, Keep.ofTurned hturn⟩
  by_cases hu : u = s
  · subst hu
    rw [putM_same]
    exact ⟨fun z => Maps.atKey_put_same hD.isMap (kl_is u) _ z, Maps.has_put_same hD.isMap (kl_is u) _⟩
  · rw [putM_other m _ hu]
    exact ⟨fun z => (Maps.atKey_put_other (kl_ne hu) _ z).trans ((h2 u).1 z), (Maps.has_put_other (kl_ne hu) _).trans (h2 u).2⟩
/-- 'delete(m, k)' at its run. -/
theorem RMap.drop {w : World} {b n : Nat} {m : By → Option Rw} (h : RMap w b n m) (s : By) (hs : s.length ≤ maxLen) (ty : TypeId) :
    ∃ w', (Builtin.delete_ #[63, 9] ty #[.map (some b), .string (ba s)]).run Tryd.prog w = .ok (.tuple #[]) w' ∧ RMap w' b n (putM m s none) ∧ Keep (fun k => k = b) w w' := by
  obtain ⟨D, hD, h2⟩ := h
  obtain ⟨w', hrun, hown, hturn⟩ := hD.drop keyed Tryd.underlying63 (kl_key s hs) ty
  refine ⟨w', hrun, ⟨_, hown, fun u => ?_⟩, Keep.ofTurned hturn⟩
  by_cases hu : u = s
  · subst hu
    rw [putM_same]
    exact ⟨fun z => Maps.atKey_del_same z, Maps.has_del_same⟩
  · rw [putM_other m _ hu]
    exact ⟨fun z => (Maps.atKey_del_other (kl_ne hu) z).trans ((h2 u).1 z), (Maps.has_del_other (kl_ne hu)).trans (h2 u).2⟩
/-- The keys of such a map, by a list of names. -/
theorem RMap.keys {w : World} {b n : Nat} {m : By → Option Rw} (h : RMap w b n m) (l : List By) (hl : l.Nodup) (hm : ∀ s, (m s).isSome = true ↔ s ∈ l) :
    ∃ D : DataW Unit, w.ownsMap Tryd.prog 9 Rs b n D ∧ l.Perm (strKeys D) ∧ Maps.size D = l.length := by
  obtain ⟨D, hD, h2⟩ := h
  obtain ⟨es, rfl, hp, hkl⟩ := hD.entries keyed
  have hst : ∀ p ∈ es, ∃ x, p.1 = .string x := fun p hp' => by
    obtain ⟨es', hes, hko⟩ := hD.keysOf
    cases hes
    obtain ⟨key, hkey⟩ := hko p hp'
    obtain ⟨x, _, hx, _⟩ := Maps.keyOf_str Tryd.underlying9 hkey
    exact ⟨x, hx⟩
  have hperm : l.Perm (strKeys (.map es)) := by
    refine perm_strKeys hp hst hl (fun x => ?_)
    constructor
    · intro hx
      have := (h2 x).2
      rw [(hm x).2 hx] at this
      exact this
    · intro hx
      have := (h2 x).2
      unfold kl at this
      rw [hx] at this
      exact (hm _).1 this.symm
  refine ⟨_, hD, hperm, ?_⟩
  have h3 := hperm.length_eq
  simp [strKeys] at h3
  simp [Maps.size]
  omega
theorem RMap.tight {w : World} {b n : Nat} {m : By → Option Rw} (h : RMap w b n m) (l : List By) (hl : l.Nodup) (hm : ∀ s, (m s).isSome = true ↔ s ∈ l) : RMap w b l.length m := by
  obtain ⟨D, hD, h2⟩ := h
  obtain ⟨D', hD', _, hsz⟩ := RMap.keys ⟨D, hD, h2⟩ l hl hm
  refine ⟨D, ?_, h2⟩
  obtain ⟨es, clock, hb, F, h3, h4⟩ := hD
  obtain ⟨es', clock', hb', F', h3', h4'⟩ := hD'
  rw [hb] at hb'
  cases hb'
  refine ⟨es, clock, hb, F, ?_, h4⟩
  have : D' = D := by rw [h4, h4']
  subst this
  have e1 : Maps.size D' = es.size := by rw [h4]; simp [Maps.size, length_sorted]
  omega
/-- 'len(m)' at its run, by a list of its keys. -/
theorem RMap.len {w : World} {b n : Nat} {m : By → Option Rw} (h : RMap w b n m) (l : List By) (hl : l.Nodup) (hm : ∀ s, (m s).isSome = true ↔ s ∈ l) (ty : TypeId) :
    (Builtin.len_ #[63] ty #[.map (some b)]).run Tryd.prog w = .ok (.int .i64 l.length) w := by
  obtain ⟨D, hD, _, hsz⟩ := h.keys l hl hm
  rw [hD.len Tryd.underlying63 ty, hsz]

/-! ### Lists in memory -/
/-- Lists: bounds, the default's name, names, the rules by name. -/
structure Pl where
  li : Int
  ru : Int
  us : By
  ks : List By
  m : By → Option (List Rul)
def lc (P : Pl) (mb : Nat) : Array Value := #[.int .i64 P.li, .int .i64 P.ru, .string (ba P.us), .map (some mb)]
def TieR (w : World) (F : Nat → Prop) (o : Option Rw) (x : Option (List Rul)) : Prop :=
  match o, x with
  | none, none => True
  | some f, some rs => RRd w f rs ∧ ∀ g, f.1 = some g → F g
  | _, _ => False
theorem TieR.isSome {w : World} {F : Nat → Prop} {o : Option Rw} {x : Option (List Rul)} (h : TieR w F o x) : o.isSome = x.isSome := by
  cases o <;> cases x
  · rfl
  · exact h.elim
  · exact h.elim
  · rfl
theorem TieR.keep {S : Nat → Prop} {w w' : World} {F G : Nat → Prop} {o : Option Rw} {x : Option (List Rul)} (h : TieR w F o x) (hk : Keep S w w') (hs : ∀ f g, o = some f → f.1 = some g → ¬ S g) (hG : ∀ i, F i → G i) : TieR w' G o x := by
  cases o <;> cases x
  · trivial
  · exact h.elim
  · exact h.elim
  · exact ⟨h.1.keep hk (fun g hg => hs _ g rfl hg), fun g hg => hG g (h.2 g hg)⟩
theorem TieR.get {w : World} {F : Nat → Prop} {o : Option Rw} {x : Option (List Rul)} (h : TieR w F o x) : RRd w (o.getD (none, 0, 0)) (x.getD []) := by
  cases o <;> cases x
  · exact RRd.nil w
  · exact h.elim
  · exact h.elim
  · exact h.1
/-- Lists at block q, their map at block mb. -/
structure LsM (w : World) (F : Nat → Prop) (q mb : Nat) (m : By → Option Rw) (P : Pl) : Prop where
  blk : w.heap[q]? = some (.cells (lc P mb) 65 (0, 0))
  map : RMap w mb P.ks.length m
  fq : F q
  fm : F mb
  tie : ∀ s, TieR w F (m s) (P.m s)
  lt : ∀ i, F i → i < w.heap.size
  nd : P.ks.Nodup
  mem : ∀ s, (P.m s).isSome = true ↔ s ∈ P.ks
def LsAt (w : World) (F : Nat → Prop) (q : Nat) (P : Pl) : Prop := ∃ mb m, LsM w F q mb m P
section
variable {w w' : World} {F : Nat → Prop} {q mb : Nat} {m : By → Option Rw} {P : Pl}
theorem LsM.c0 (h : LsM w F q mb m P) : w.cell? ⟨q, 0, none⟩ = some (.int .i64 P.li) := by rw [cell_of_block h.blk]; rfl
theorem LsM.c1 (h : LsM w F q mb m P) : w.cell? ⟨q, 1, none⟩ = some (.int .i64 P.ru) := by rw [cell_of_block h.blk]; rfl
theorem LsM.c2 (h : LsM w F q mb m P) : w.cell? ⟨q, 2, none⟩ = some (.string (ba P.us)) := by rw [cell_of_block h.blk]; rfl
theorem LsM.c3 (h : LsM w F q mb m P) : w.cell? ⟨q, 3, none⟩ = some (.map (some mb)) := by rw [cell_of_block h.blk]; rfl
theorem LsM.fz (h : LsM w F q mb m P) (i : Nat) : w.frozen? ⟨q, i, none⟩ = false := unfrozen_of_block h.blk i
theorem LsM.ne (h : LsM w F q mb m P) : q ≠ mb := h.map.notCells h.blk
/-- The blocks of the rules are neither Lists' own nor the map's. -/
theorem LsM.row (h : LsM w F q mb m P) {s : By} {f : Rw} {g : Nat} (hf : m s = some f) (hg : f.1 = some g) : g ≠ q ∧ g ≠ mb := by
  have ht := h.tie s
  rw [hf] at ht
  cases hx : P.m s with
  | none => rw [hx] at ht; exact ht.elim
  | some rs =>
    rw [hx] at ht
    obtain ⟨cur, hc⟩ := ht.1.typ g hg
    refine ⟨fun e => ?_, h.map.notCells hc⟩
    subst e
    rw [h.blk] at hc
    injection hc with hc
    injection hc with _ ht2 _
    exact absurd ht2 (by decide)
theorem LsM.keep {S : Nat → Prop} (h : LsM w F q mb m P) (hk : Keep S w w') (hs : ∀ i, F i → ¬ S i) : LsM w' F q mb m P := by
  refine ⟨box_keep h.blk hk (hs q h.fq), h.map.keep hk (hs mb h.fm), h.fq, h.fm, fun s => ?_, fun i hi => Nat.lt_of_lt_of_le (h.lt i hi) hk.size, h.nd, h.mem⟩
  refine (h.tie s).keep hk (fun f g hf hg => ?_) (fun _ h => h)
  have ht := h.tie s
  rw [hf] at ht
  cases hx : P.m s with
  | none => rw [hx] at ht; exact ht.elim
  | some rs => rw [hx] at ht; exact hs g (ht.2 g hg)
theorem LsM.below (h : LsM w F q mb m P) (hb : Below w.heap.size w w') : LsM w' F q mb m P := h.keep (S := fun _ => False) (Keep.ofBelow hb) (fun _ _ h => h)
theorem LsAt.keep {S : Nat → Prop} (h : LsAt w F q P) (hk : Keep S w w') (hs : ∀ i, F i → ¬ S i) : LsAt w' F q P := by
  obtain ⟨mb, m, h⟩ := h; exact ⟨mb, m, h.keep hk hs⟩
theorem LsAt.below (h : LsAt w F q P) (hb : Below w.heap.size w w') : LsAt w' F q P := h.keep (S := fun _ => False) (Keep.ofBelow hb) (fun _ _ h => h)
theorem LsAt.lt (h : LsAt w F q P) : ∀ i, F i → i < w.heap.size := by obtain ⟨mb, m, h⟩ := h; exact h.lt
end
/-- What a call leaves: Lists as they are to be; nothing else is turned. -/
def Lq (w : World) (F : Nat → Prop) (q : Nat) (P' : Pl) (w' : World) : Prop := ∃ F', LsAt w' F' q P' ∧ Keep F w w' ∧ (∀ i, F' i → F i ∨ w.heap.size ≤ i)
theorem Lq.ofBelow {w w' : World} {F : Nat → Prop} {q : Nat} {P : Pl} (h : LsAt w F q P) (hb : Below w.heap.size w w') : Lq w F q P w' := ⟨F, h.below hb, Keep.ofBelow hb, fun _ h => Or.inl h⟩

theorem has_any (s : By) (w : World) (F : Nat → Prop) (q mb : Nat) (m : By → Option Rw) (P : Pl) (h : LsM w F q mb m P) (hs : s.length ≤ 1000000) :
    Calls Tryd.prog 29 #[.pointer (some ⟨q, 0, none⟩), .string (ba s)] w fun e w' => e = .returned (.bool (P.m s).isSome) ∧ w' = w := by
  have c3 := h.c3
  have hl := h.map.look2 s (by unfold maxLen; omega)
  rw [(h.tie s).isSome] at hl
  generalize (P.m s).isSome = B at hl ⊢
  generalize rsl ((m s).getD (none, 0, 0)) = V at hl
  clear h
  go_enter Tryd.func29, Tryd.ntmps29
  go_wp2
  go_ret
  exact ⟨rfl, rfl⟩

/-- The rules that hold for a name. -/
def heldN (P : Pl) (s : By) : By := if (P.m s).isSome = true then s else P.us
def heldR (P : Pl) (s : By) : List Rul := (P.m (heldN P s)).getD []
theorem holding_any (s : By) (w : World) (F : Nat → Prop) (q mb : Nat) (m : By → Option Rw) (P : Pl) (h : LsM w F q mb m P) (hs : s.length ≤ 1000000) (hu : P.us.length ≤ 1000000) :
    Calls Tryd.prog 31 #[.pointer (some ⟨q, 0, none⟩), .string (ba s)] w fun e w' => ∃ f, e = .returned (rsl f) ∧ RRd w f (heldR P s) ∧ w' = w := by
  have c2 := h.c2
  have c3 := h.c3
  have cH := has_any s w F q mb m P h hs
  have hl := h.map.look1 (heldN P s) (by unfold maxLen heldN; split <;> omega)
  have HT : Hid (RRd w ((m (heldN P s)).getD (none, 0, 0)) (heldR P s)) := (h.tie (heldN P s)).get
  generalize (m (heldN P s)).getD (none, 0, 0) = f at hl HT
  generalize hz : rsl f = V at hl
  have HZ : Hid (rsl f = V) := hz
  clear hz h
  unfold heldN at hl
  cases hb : (P.m s).isSome with
  | true =>
    rw [hb] at hl cH
    rw [if_pos rfl] at hl
    clear hb
    go_enter Tryd.func31, Tryd.ntmps31
    go_wp2_with (go_at_call 29; refine cH.mono ?_; clear cH; rintro e w1 ⟨rfl, hw1⟩; replace hw1 := hw1.symm; subst hw1)
    go_ret
    exact ⟨f, by rw [HZ.out]; rfl, HT.out, rfl⟩
  | false =>
    rw [hb] at hl cH
    rw [if_neg (by decide)] at hl
    clear hb
    go_enter Tryd.func31, Tryd.ntmps31
    go_wp2_with (go_at_call 29; refine cH.mono ?_; clear cH; rintro e w1 ⟨rfl, hw1⟩; replace hw1 := hw1.symm; subst hw1)
    go_ret
    exact ⟨f, by rw [HZ.out]; rfl, HT.out, rfl⟩

/-! ### New -/
def bnd (n : Int) : Bool := decide (0 ≤ n) && decide (n ≤ 1000)
theorem bound_any (n : Int) (w : World) : Calls Tryd.prog 26 #[.int .i64 n] w fun e w' => e = .returned (.bool (bnd n)) ∧ w' = w := by
  unfold bnd
  by_cases h0 : 0 ≤ n
  · by_cases h1 : n ≤ 1000
    · rw [show (decide (0 ≤ n) && decide (n ≤ 1000)) = true from by simp [h0, h1]]
      have d0 : decide (0 ≤ n) = true := by simp [h0]
      have d1 : decide (n ≤ 1000) = true := by simp [h1]
      clear h0 h1
      go_enter Tryd.func26, Tryd.ntmps26
      go_wp2
      go_ret
      exact ⟨rfl, rfl⟩
    · rw [show (decide (0 ≤ n) && decide (n ≤ 1000)) = false from by simp [h1]]
      have d0 : decide (0 ≤ n) = true := by simp [h0]
      have d1 : decide (n ≤ 1000) = false := by simp; omega
      clear h0 h1
      go_enter Tryd.func26, Tryd.ntmps26
      go_wp2
      go_ret
      exact ⟨rfl, rfl⟩
  · rw [show (decide (0 ≤ n) && decide (n ≤ 1000)) = false from by simp [h0]]
    have d0 : decide (0 ≤ n) = false := by simp; omega
    clear h0
    go_enter Tryd.func26, Tryd.ntmps26
    go_wp2
    go_ret
    exact ⟨rfl, rfl⟩
def pl0 (l r : Int) : Pl := ⟨l, r, [], [], fun _ => none⟩
theorem new_bad (l r : Int) (w : World) (h : (bnd l && bnd r) = false) : Calls Tryd.prog 13 #[.int .i64 l, .int .i64 r] w fun e w' => e = .returned (.tuple #[.pointer none, .int .i64 1]) ∧ w' = w := by
  have cl := fun w => bound_any l w
  have cr := fun w => bound_any r w
  have tk : True := trivial
  generalize bnd l = bl at *
  generalize bnd r = br at *
  cases bl with
  | false =>
    clear cr
    go_enter Tryd.func13, Tryd.ntmps13
    go_wp2_with (go_at_call 26; refine (cl _).mono ?_; clear cl; rintro e w1 ⟨rfl, hw1⟩; replace hw1 := hw1.symm; subst hw1)
    go_ret2
    exact ⟨rfl, rfl⟩
  | true => cases br with
    | true => cases h
    | false =>
      clear h
      go_enter Tryd.func13, Tryd.ntmps13
      go_wp2_with (first
        | (go_at_call 26; clear tk; refine (cl _).mono ?_; rintro e w1 ⟨rfl, hw1⟩; replace hw1 := hw1.symm; subst hw1)
        | (go_at_call 26; refine (cr _).mono ?_; rintro e w1 ⟨rfl, hw1⟩; replace hw1 := hw1.symm; subst hw1))
      go_ret2
      exact ⟨rfl, rfl⟩
theorem new_ok (l r : Int) (w : World) (hl : bnd l = true) (hr : bnd r = true) : Calls Tryd.prog 13 #[.int .i64 l, .int .i64 r] w fun e w' => e = .returned (.tuple #[.pointer (some ⟨w.heap.size + 1, 0, none⟩), .int .i64 0]) ∧ LsAt w' (fun i => i = w.heap.size ∨ i = w.heap.size + 1) (w.heap.size + 1) (pl0 l r) ∧ Below w.heap.size w w' := by
  have cl := fun w => bound_any l w
  have cr := fun w => bound_any r w
  have tk : True := trivial
  rw [hl] at cl
  rw [hr] at cr
  clear hl hr
  have HL : Hid (LsAt ((w.alloc (.map #[] 0)).alloc (.cells (lc (pl0 l r) w.heap.size) 65)) (fun i => i = w.heap.size ∨ i = w.heap.size + 1) (w.heap.size + 1) (pl0 l r)) :=
    ⟨w.heap.size, fun _ => none, ⟨push_at _ _ (by simp), (RMap.made w).keep (S := fun _ => False) (Keep.ofBelow (below1 _ _)) (fun h => h), Or.inr rfl, Or.inl rfl, fun s => trivial, fun i hi => by simp; omega, List.nodup_nil, fun s => by simp [pl0]⟩⟩
  have HB : Hid (Below w.heap.size w ((w.alloc (.map #[] 0)).alloc (.cells (lc (pl0 l r) w.heap.size) 65))) := below2 _ _ _
  have hmm : (Instr.makeMap 63 none).run Tryd.prog w = .ok (.map (some w.heap.size)) (w.alloc (.map #[] 0)) := by simp [Instr.makeMap, go_sem]
  go_enter Tryd.func13, Tryd.ntmps13
  go_wp2_with (first
    | (go_at_call 26; clear tk; refine (cl _).mono ?_; rintro e w1 ⟨rfl, hw1⟩; replace hw1 := hw1.symm; subst hw1)
    | (go_at_call 26; refine (cr _).mono ?_; rintro e w1 ⟨rfl, hw1⟩; replace hw1 := hw1.symm; subst hw1))
  go_ret2
  exact ⟨rfl, HL.out, HB.out⟩
end Go.Proofs.YtiplalbicibahaaDoor
