/- Texts of one seat, one behind the other: PvG, PvH, PvI, PvJ. -/
import Derived.Test.YtiplalbicibahaaGreatDoorM2
import Derived.Maps.OwnSet
import Derived.Maps.OwnOps
import Derived.Sort.KeysCollected
/- privacy: the map of lists; Lists in memory; New, Has, holding. -/
set_option maxRecDepth 100000
namespace Go.Proofs.YtiplalbicibahaaGreatDoor
open Go.RowKit Go.Joins Go.Shelf Go.Sort

def li (i : Int) : DataW Unit := .lit (.int .i64 i)
def gd : Rw → DataW Unit
  | (none, n, c) => .agg [li (-1), li n, li c]
  | (some b, n, c) => .agg [li b, li n, li c]
theorem li_inj {x y : Int} (h : li x = li y) : x = y := by injection h with h; injection h
theorem gd_inj {g g' : Rw} (h : gd g = gd g') : g = g' := by
  obtain ⟨a, n, c⟩ := g
  obtain ⟨b, m, d⟩ := g'
  have hl : ∀ {x y : List (DataW Unit)}, DataW.agg x = DataW.agg y → x = y := fun h => by injection h
  cases a <;> cases b
  all_goals
    have h := hl h
    obtain ⟨e0, h⟩ := List.cons.inj h
    obtain ⟨e1, h⟩ := List.cons.inj h
    obtain ⟨e2, _⟩ := List.cons.inj h
    have e0 := li_inj e0
    have e1 := li_inj e1
    have e2 := li_inj e2
  · rw [Int.ofNat.inj e1, Int.ofNat.inj e2]
  · omega
  · omega
  · rw [Int.ofNat.inj e0, Int.ofNat.inj e1, Int.ofNat.inj e2]
def Rs (v : Value) : Option (DataW Unit × List MemPlace) :=
  match v with
  | .slice none n q => some (gd (none, n, q), [])
  | .slice (some ⟨b, 0, none⟩) n q => some (gd (some b, n, q), [])
  | _ => none
theorem Rs_mk (f : Rw) : Rs (rsl f) = some (gd f, []) := by
  obtain ⟨g, n, q⟩ := f
  cases g <;> rfl
theorem Rs_inv {v : Value} {f : Rw} {ps : List MemPlace} (h : Rs v = some (gd f, ps)) : v = rsl f := by
  unfold Rs at h
  split at h
  · rename_i n q
    injection h with h
    have e1 : gd (none, n, q) = gd f := congrArg Prod.fst h
    rw [← gd_inj e1]; rfl
  · rename_i b n q
    injection h with h
    have e1 : gd (some b, n, q) = gd f := congrArg Prod.fst h
    rw [← gd_inj e1]; rfl
  · cases h

theorem ba_inj {s t : ByteArray} (h : s.data.toList = t.data.toList) : s = t := by rw [← ba_back s, ← ba_back t, h]
theorem ba_injL {l m : By} (h : ba l = ba m) : l = m := by rw [← ba_list l, ← ba_list m, h]
def kl (l : By) : Lit := .string l
theorem kl_key (l : By) (hs : l.length ≤ maxLen) : keyOf Tryz.prog 9 (.string (ba l)) = some (kl l) := by
  rw [keyOf_string Tryz.underlying9]
  have : (ba l).size ≤ maxLen := by rw [ba_size]; exact hs
  simp [mapKey, Tryz.underlying9, this, kl, ba_list]
theorem kl_is (l : By) : WideAt.IsKeyLit (kl l) := trivial
theorem kl_ne {s t : By} (h : s ≠ t) : kl s ≠ kl t := fun e => h (by unfold kl at e; injection e)
theorem keyed : Maps.Keyed Tryz.prog 9 := Maps.string_keyed Tryz.underlying9
theorem zeroR (w : World) : (zeroValue 68).run Tryz.prog w = .ok (rsl (none, 0, 0)) w := by kernel_rfl

/-- Block b is a map of at most n entries that holds m. -/
def RMap (w : World) (b n : Nat) (m : By → Option Rw) : Prop :=
  ∃ D : DataW Unit, w.ownsMap Tryz.prog 9 Rs b n D ∧ ∀ s : By, (∀ z, D.atKey (kl s) z = ((m s).map gd).getD z) ∧ Maps.has D (kl s) = (m s).isSome
def putM {α : Type} (m : By → Option α) (u : By) (t : Option α) : By → Option α := fun s => if s = u then t else m s
theorem putM_same {α : Type} (m : By → Option α) (u : By) (t : Option α) : putM m u t u = t := by simp [putM]
theorem putM_other {α : Type} (m : By → Option α) {u s : By} (t : Option α) (h : s ≠ u) : putM m u t s = m s := by simp [putM, h]
theorem RMap.made (w : World) : RMap (w.alloc (.map #[] 0)) w.heap.size 0 (fun _ => none) :=
  ⟨_, World.ownsMap_made w _ _ _, fun _ => ⟨fun _ => rfl, rfl⟩⟩
theorem RMap.lt {w : World} {b n : Nat} {m : By → Option Rw} (h : RMap w b n m) : b < w.heap.size := by
  obtain ⟨D, hD, _⟩ := h; exact hD.lt
theorem RMap.keep {S : Nat → Prop} {w w' : World} {b n : Nat} {m : By → Option Rw} (h : RMap w b n m) (hk : Keep S w w') (hs : ¬ S b) : RMap w' b n m := by
  obtain ⟨D, hD, h2⟩ := h
  have hlt := hD.lt
  obtain ⟨es, clock, hb, F, h3, h4⟩ := hD
  exact ⟨D, ⟨es, clock, (hk.block b hlt hs).trans hb, F, h3, h4⟩, h2⟩
theorem RMap.notCells {w : World} {b n : Nat} {m : By → Option Rw} (h : RMap w b n m) {g : Nat} {cs : Array Value} {t : TypeId} {fr : Nat × Nat} (hc : w.heap[g]? = some (.cells cs t fr)) : g ≠ b := by
  obtain ⟨D, ⟨es, clock, hb, _⟩, h2⟩ := h
  intro e
  subst e
  rw [hb] at hc
  cases hc
theorem Keep.ofTurned {w w' : World} {b : Nat} (h : w.mapTurned w' b) : Keep (fun k => k = b) w w' := (Keep.ofGrown h.grown).mono (fun i e => by cases e; rfl)
/-- 'm[k]' at its run. -/
theorem RMap.look1 {w : World} {b n : Nat} {m : By → Option Rw} (h : RMap w b n m) (s : By) (hs : s.length ≤ maxLen) :
    (Instr.lookup 52 (.map (some b)) (.string (ba s)) false).run Tryz.prog w = .ok (rsl ((m s).getD (none, 0, 0))) w := by
  obtain ⟨D, hD, h2⟩ := h
  obtain ⟨v, ps, hrun, hv⟩ := hD.lookup keyed Tryz.underlying52 (zeroR w) (Rs_mk (none, 0, 0)) (kl_key s hs)
  rw [hrun]
  rw [(h2 s).1] at hv
  have : v = rsl ((m s).getD (none, 0, 0)) := by
    cases hm : m s with
    | none => rw [hm] at hv; exact Rs_inv hv
    | some t => rw [hm] at hv; exact Rs_inv hv
  rw [this]
/-- 'v, ok := m[k]' at its run. -/
theorem RMap.look2 {w : World} {b n : Nat} {m : By → Option Rw} (h : RMap w b n m) (s : By) (hs : s.length ≤ maxLen) :
    (Instr.lookup 52 (.map (some b)) (.string (ba s)) true).run Tryz.prog w = .ok (.tuple #[rsl ((m s).getD (none, 0, 0)), .bool (m s).isSome]) w := by
  obtain ⟨D, hD, h2⟩ := h
  obtain ⟨v, ps, hrun, hv⟩ := hD.look_ok keyed Tryz.underlying52 (zeroR w) (Rs_mk (none, 0, 0)) (kl_key s hs)
  rw [hrun, (h2 s).2]
  rw [(h2 s).1] at hv
  have : v = rsl ((m s).getD (none, 0, 0)) := by
    cases hm : m s with
    | none => rw [hm] at hv; exact Rs_inv hv
    | some t => rw [hm] at hv; exact Rs_inv hv
  rw [this]
/-- 'm[k] = v' at its run. -/
theorem RMap.store {w : World} {b n : Nat} {m : By → Option Rw} (h : RMap w b n m) (hn : n < 1000000) (s : By) (hs : s.length ≤ maxLen) (t : Rw) :
    ∃ w', (Instr.mapUpdate 52 (.map (some b)) (.string (ba s)) (rsl t)).run Tryz.prog w = .ok () w' ∧ RMap w' b (n + 1) (putM m s (some t)) ∧ Keep (fun k => k = b) w w' := by
  obtain ⟨D, hD, h2⟩ := h
  obtain ⟨w', hrun, hown, hturn⟩ := hD.store keyed Tryz.underlying52 (by unfold maxLen; omega) (kl_key s hs) (Rs_mk t)
  refine ⟨w', hrun, ⟨_, hown, fun u => ?_⟩, Keep.ofTurned hturn⟩
  by_cases hu : u = s
  · subst hu
    rw [putM_same]
    exact ⟨fun z => Maps.atKey_put_same hD.isMap (kl_is u) _ z, Maps.has_put_same hD.isMap (kl_is u) _⟩
  · rw [putM_other m _ hu]
    exact ⟨fun z => (Maps.atKey_put_other (kl_ne hu) _ z).trans ((h2 u).1 z), (Maps.has_put_other (kl_ne hu) _).trans (h2 u).2⟩
/-- 'delete(m, k)' at its run. -/
theorem RMap.drop {w : World} {b n : Nat} {m : By → Option Rw} (h : RMap w b n m) (s : By) (hs : s.length ≤ maxLen) (ty : TypeId) :
    ∃ w', (Builtin.delete_ #[52, 9] ty #[.map (some b), .string (ba s)]).run Tryz.prog w = .ok (.tuple #[]) w' ∧ RMap w' b n (putM m s none) ∧ Keep (fun k => k = b) w w' := by
  obtain ⟨D, hD, h2⟩ := h
  obtain ⟨w', hrun, hown, hturn⟩ := hD.drop keyed Tryz.underlying52 (kl_key s hs) ty
  refine ⟨w', hrun, ⟨_, hown, fun u => ?_⟩, Keep.ofTurned hturn⟩
  by_cases hu : u = s
  · subst hu
    rw [putM_same]
    exact ⟨fun z => Maps.atKey_del_same z, Maps.has_del_same⟩
  · rw [putM_other m _ hu]
    exact ⟨fun z => (Maps.atKey_del_other (kl_ne hu) z).trans ((h2 u).1 z), (Maps.has_del_other (kl_ne hu)).trans (h2 u).2⟩
/-- The keys of such a map, by a list of names. -/
theorem RMap.keys {w : World} {b n : Nat} {m : By → Option Rw} (h : RMap w b n m) (l : List By) (hl : l.Nodup) (hm : ∀ s, (m s).isSome = true ↔ s ∈ l) :
    ∃ D : DataW Unit, w.ownsMap Tryz.prog 9 Rs b n D ∧ l.Perm (strKeys D) ∧ Maps.size D = l.length := by
  obtain ⟨D, hD, h2⟩ := h
  obtain ⟨es, rfl, hp, hkl⟩ := hD.entries keyed
  have hst : ∀ p ∈ es, ∃ x, p.1 = .string x := fun p hp' => by
    obtain ⟨es', hes, hko⟩ := hD.keysOf
    cases hes
    obtain ⟨key, hkey⟩ := hko p hp'
    obtain ⟨x, _, hx, _⟩ := Maps.keyOf_str Tryz.underlying9 hkey
    exact ⟨x, hx⟩
  have hperm : l.Perm (strKeys (.map es)) := by
    refine perm_strKeys hp hst hl (fun x => ?_)
    constructor
    · intro hx
      have := (h2 x).2
      rw [(hm x).2 hx] at this
      exact this
    · intro hx
      have := (h2 x).2
      unfold kl at this
      rw [hx] at this
      exact (hm _).1 this.symm
  refine ⟨_, hD, hperm, ?_⟩
  have h3 := hperm.length_eq
  simp [strKeys] at h3
  simp [Maps.size]
  omega
theorem RMap.tight {w : World} {b n : Nat} {m : By → Option Rw} (h : RMap w b n m) (l : List By) (hl : l.Nodup) (hm : ∀ s, (m s).isSome = true ↔ s ∈ l) : RMap w b l.length m := by
  obtain ⟨D, hD, h2⟩ := h
  obtain ⟨D', hD', _, hsz⟩ := RMap.keys ⟨D, hD, h2⟩ l hl hm
  refine ⟨D, ?_, h2⟩
  obtain ⟨es, clock, hb, F, h3, h4⟩ := hD
  obtain ⟨es', clock', hb', F', h3', h4'⟩ := hD'
  rw [hb] at hb'
  cases hb'
  refine ⟨es, clock, hb, F, ?_, h4⟩
  have : D' = D := by rw [h4, h4']
  subst this
  have e1 : Maps.size D' = es.size := by rw [h4]; simp [Maps.size, length_sorted]
  omega
/-- 'len(m)' at its run, by a list of its keys. -/
theorem RMap.len {w : World} {b n : Nat} {m : By → Option Rw} (h : RMap w b n m) (l : List By) (hl : l.Nodup) (hm : ∀ s, (m s).isSome = true ↔ s ∈ l) (ty : TypeId) :
    (Builtin.len_ #[52] ty #[.map (some b)]).run Tryz.prog w = .ok (.int .i64 l.length) w := by
  obtain ⟨D, hD, _, hsz⟩ := h.keys l hl hm
  rw [hD.len Tryz.underlying52 ty, hsz]

/-! ### Lists in memory -/
/-- Lists: bounds, the default's name, names, the rules by name. -/
structure Pl where
  li : Int
  ru : Int
  us : By
  ks : List By
  m : By → Option (List Rul)
def lc (P : Pl) (mb : Nat) : Array Value := #[.int .i64 P.li, .int .i64 P.ru, .string (ba P.us), .map (some mb)]
def TieR (w : World) (F : Nat → Prop) (o : Option Rw) (x : Option (List Rul)) : Prop :=
  match o, x with
  | none, none => True
  | some f, some rs => RRd w f rs ∧ ∀ g, f.1 = some g → F g
  | _, _ => False
theorem TieR.isSome {w : World} {F : Nat → Prop} {o : Option Rw} {x : Option (List Rul)} (h : TieR w F o x) : o.isSome = x.isSome := by
  cases o <;> cases x
  · rfl
  · exact h.elim
  · exact h.elim
  · rfl
theorem TieR.keep {S : Nat → Prop} {w w' : World} {F G : Nat → Prop} {o : Option Rw} {x : Option (List Rul)} (h : TieR w F o x) (hk : Keep S w w') (hs : ∀ f g, o = some f → f.1 = some g → ¬ S g) (hG : ∀ i, F i → G i) : TieR w' G o x := by
  cases o <;> cases x
  · trivial
  · exact h.elim
  · exact h.elim
  · exact ⟨h.1.keep hk (fun g hg => hs _ g rfl hg), fun g hg => hG g (h.2 g hg)⟩
theorem TieR.get {w : World} {F : Nat → Prop} {o : Option Rw} {x : Option (List Rul)} (h : TieR w F o x) : RRd w (o.getD (none, 0, 0)) (x.getD []) := by
  cases o <;> cases x
  · exact RRd.nil w
  · exact h.elim
  · exact h.elim
  · exact h.1
/-- Lists at block q, their map at block mb. -/
structure LsM (w : World) (F : Nat → Prop) (q mb : Nat) (m : By → Option Rw) (P : Pl) : Prop where
  blk : w.heap[q]? = some (.cells (lc P mb) 54 (0, 0))
  map : RMap w mb P.ks.length m
  fq : F q
  fm : F mb
  tie : ∀ s, TieR w F (m s) (P.m s)
  lt : ∀ i, F i → i < w.heap.size
  nd : P.ks.Nodup
  mem : ∀ s, (P.m s).isSome = true ↔ s ∈ P.ks
def LsAt (w : World) (F : Nat → Prop) (q : Nat) (P : Pl) : Prop := ∃ mb m, LsM w F q mb m P
section
variable {w w' : World} {F : Nat → Prop} {q mb : Nat} {m : By → Option Rw} {P : Pl}
theorem LsM.c0 (h : LsM w F q mb m P) : w.cell? ⟨q, 0, none⟩ = some (.int .i64 P.li) := by rw [cell_of_block h.blk]; rfl
theorem LsM.c1 (h : LsM w F q mb m P) : w.cell? ⟨q, 1, none⟩ = some (.int .i64 P.ru) := by rw [cell_of_block h.blk]; rfl
theorem LsM.c2 (h : LsM w F q mb m P) : w.cell? ⟨q, 2, none⟩ = some (.string (ba P.us)) := by rw [cell_of_block h.blk]; rfl
theorem LsM.c3 (h : LsM w F q mb m P) : w.cell? ⟨q, 3, none⟩ = some (.map (some mb)) := by rw [cell_of_block h.blk]; rfl
theorem LsM.fz (h : LsM w F q mb m P) (i : Nat) : w.frozen? ⟨q, i, none⟩ = false := unfrozen_of_block h.blk i
theorem LsM.ne (h : LsM w F q mb m P) : q ≠ mb := h.map.notCells h.blk
/-- The blocks of the rules are neither Lists' own nor the map's. -/
theorem LsM.row (h : LsM w F q mb m P) {s : By} {f : Rw} {g : Nat} (hf : m s = some f) (hg : f.1 = some g) : g ≠ q ∧ g ≠ mb := by
  have ht := h.tie s
  rw [hf] at ht
  cases hx : P.m s with
  | none => rw [hx] at ht; exact ht.elim
  | some rs =>
    rw [hx] at ht
    obtain ⟨cur, hc⟩ := ht.1.typ g hg
    refine ⟨fun e => ?_, h.map.notCells hc⟩
    subst e
    rw [h.blk] at hc
    injection hc with hc
    injection hc with _ ht2 _
    exact absurd ht2 (by decide)
theorem LsM.keep {S : Nat → Prop} (h : LsM w F q mb m P) (hk : Keep S w w') (hs : ∀ i, F i → ¬ S i) : LsM w' F q mb m P := by
  refine ⟨box_keep h.blk hk (hs q h.fq), h.map.keep hk (hs mb h.fm), h.fq, h.fm, fun s => ?_, fun i hi => Nat.lt_of_lt_of_le (h.lt i hi) hk.size, h.nd, h.mem⟩
  refine (h.tie s).keep hk (fun f g hf hg => ?_) (fun _ h => h)
  have ht := h.tie s
  rw [hf] at ht
  cases hx : P.m s with
  | none => rw [hx] at ht; exact ht.elim
  | some rs => rw [hx] at ht; exact hs g (ht.2 g hg)
theorem LsM.below (h : LsM w F q mb m P) (hb : Below w.heap.size w w') : LsM w' F q mb m P := h.keep (S := fun _ => False) (Keep.ofBelow hb) (fun _ _ h => h)
theorem LsAt.keep {S : Nat → Prop} (h : LsAt w F q P) (hk : Keep S w w') (hs : ∀ i, F i → ¬ S i) : LsAt w' F q P := by
  obtain ⟨mb, m, h⟩ := h; exact ⟨mb, m, h.keep hk hs⟩
theorem LsAt.below (h : LsAt w F q P) (hb : Below w.heap.size w w') : LsAt w' F q P := h.keep (S := fun _ => False) (Keep.ofBelow hb) (fun _ _ h => h)
theorem LsAt.lt (h : LsAt w F q P) : ∀ i, F i → i < w.heap.size := by obtain ⟨mb, m, h⟩ := h; exact h.lt
end
/-- What a call leaves: Lists as they are to be; nothing else is turned. -/
def Lq (w : World) (F : Nat → Prop) (q : Nat) (P' : Pl) (w' : World) : Prop := ∃ F', LsAt w' F' q P' ∧ Keep F w w' ∧ (∀ i, F' i → F i ∨ w.heap.size ≤ i)
theorem Lq.ofBelow {w w' : World} {F : Nat → Prop} {q : Nat} {P : Pl} (h : LsAt w F q P) (hb : Below w.heap.size w w') : Lq w F q P w' := ⟨F, h.below hb, Keep.ofBelow hb, fun _ h => Or.inl h⟩

theorem has_any (s : By) (w : World) (F : Nat → Prop) (q mb : Nat) (m : By → Option Rw) (P : Pl) (h : LsM w F q mb m P) (hs : s.length ≤ 1000000) :
    Calls Tryz.prog 29 #[.pointer (some ⟨q, 0, none⟩), .string (ba s)] w fun e w' => e = .returned (.bool (P.m s).isSome) ∧ w' = w := by
  have c3 := h.c3
  have hl := h.map.look2 s (by unfold maxLen; omega)
  rw [(h.tie s).isSome] at hl
  generalize (P.m s).isSome = B at hl ⊢
  generalize rsl ((m s).getD (none, 0, 0)) = V at hl
  clear h
  go_enter Tryz.func29, Tryz.ntmps29
  go_wp2
  go_ret
  exact ⟨rfl, rfl⟩

/-- The rules that hold for a name. -/
def heldN (P : Pl) (s : By) : By := if (P.m s).isSome = true then s else P.us
def heldR (P : Pl) (s : By) : List Rul := (P.m (heldN P s)).getD []
theorem holding_any (s : By) (w : World) (F : Nat → Prop) (q mb : Nat) (m : By → Option Rw) (P : Pl) (h : LsM w F q mb m P) (hs : s.length ≤ 1000000) (hu : P.us.length ≤ 1000000) :
    Calls Tryz.prog 44 #[.pointer (some ⟨q, 0, none⟩), .string (ba s)] w fun e w' => ∃ f, e = .returned (rsl f) ∧ RRd w f (heldR P s) ∧ w' = w := by
  have c2 := h.c2
  have c3 := h.c3
  have cH := has_any s w F q mb m P h hs
  have hl := h.map.look1 (heldN P s) (by unfold maxLen heldN; split <;> omega)
  have HT : Hid (RRd w ((m (heldN P s)).getD (none, 0, 0)) (heldR P s)) := (h.tie (heldN P s)).get
  generalize (m (heldN P s)).getD (none, 0, 0) = f at hl HT
  generalize hz : rsl f = V at hl
  have HZ : Hid (rsl f = V) := hz
  clear hz h
  unfold heldN at hl
  cases hb : (P.m s).isSome with
  | true =>
    rw [hb] at hl cH
    rw [if_pos rfl] at hl
    clear hb
    go_enter Tryz.func44, Tryz.ntmps44
    go_wp2_with (go_at_call 29; refine cH.mono ?_; clear cH; rintro e w1 ⟨rfl, hw1⟩; replace hw1 := hw1.symm; subst hw1)
    go_ret
    exact ⟨f, by rw [HZ.out]; rfl, HT.out, rfl⟩
  | false =>
    rw [hb] at hl cH
    rw [if_neg (by decide)] at hl
    clear hb
    go_enter Tryz.func44, Tryz.ntmps44
    go_wp2_with (go_at_call 29; refine cH.mono ?_; clear cH; rintro e w1 ⟨rfl, hw1⟩; replace hw1 := hw1.symm; subst hw1)
    go_ret
    exact ⟨f, by rw [HZ.out]; rfl, HT.out, rfl⟩

/-! ### New -/
def bnd (n : Int) : Bool := decide (0 ≤ n) && decide (n ≤ 1000)
theorem bound_any (n : Int) (w : World) : Calls Tryz.prog 21 #[.int .i64 n] w fun e w' => e = .returned (.bool (bnd n)) ∧ w' = w := by
  unfold bnd
  by_cases h0 : 0 ≤ n
  · by_cases h1 : n ≤ 1000
    · rw [show (decide (0 ≤ n) && decide (n ≤ 1000)) = true from by simp [h0, h1]]
      have d0 : decide (0 ≤ n) = true := by simp [h0]
      have d1 : decide (n ≤ 1000) = true := by simp [h1]
      clear h0 h1
      go_enter Tryz.func21, Tryz.ntmps21
      go_wp2
      go_ret
      exact ⟨rfl, rfl⟩
    · rw [show (decide (0 ≤ n) && decide (n ≤ 1000)) = false from by simp [h1]]
      have d0 : decide (0 ≤ n) = true := by simp [h0]
      have d1 : decide (n ≤ 1000) = false := by simp; omega
      clear h0 h1
      go_enter Tryz.func21, Tryz.ntmps21
      go_wp2
      go_ret
      exact ⟨rfl, rfl⟩
  · rw [show (decide (0 ≤ n) && decide (n ≤ 1000)) = false from by simp [h0]]
    have d0 : decide (0 ≤ n) = false := by simp; omega
    clear h0
    go_enter Tryz.func21, Tryz.ntmps21
    go_wp2
    go_ret
    exact ⟨rfl, rfl⟩
def pl0 (l r : Int) : Pl := ⟨l, r, [], [], fun _ => none⟩
theorem new_bad (l r : Int) (w : World) (h : (bnd l && bnd r) = false) : Calls Tryz.prog 6 #[.int .i64 l, .int .i64 r] w fun e w' => e = .returned (.tuple #[.pointer none, .int .i64 1]) ∧ w' = w := by
  have cl := fun w => bound_any l w
  have cr := fun w => bound_any r w
  have tk : True := trivial
  generalize bnd l = bl at *
  generalize bnd r = br at *
  cases bl with
  | false =>
    clear cr
    go_enter Tryz.func6, Tryz.ntmps6
    go_wp2_with (go_at_call 21; refine (cl _).mono ?_; clear cl; rintro e w1 ⟨rfl, hw1⟩; replace hw1 := hw1.symm; subst hw1)
    go_ret2
    exact ⟨rfl, rfl⟩
  | true => cases br with
    | true => cases h
    | false =>
      clear h
      go_enter Tryz.func6, Tryz.ntmps6
      go_wp2_with (first
        | (go_at_call 21; clear tk; refine (cl _).mono ?_; rintro e w1 ⟨rfl, hw1⟩; replace hw1 := hw1.symm; subst hw1)
        | (go_at_call 21; refine (cr _).mono ?_; rintro e w1 ⟨rfl, hw1⟩; replace hw1 := hw1.symm; subst hw1))
      go_ret2
      exact ⟨rfl, rfl⟩
theorem new_ok (l r : Int) (w : World) (hl : bnd l = true) (hr : bnd r = true) : Calls Tryz.prog 6 #[.int .i64 l, .int .i64 r] w fun e w' => e = .returned (.tuple #[.pointer (some ⟨w.heap.size + 1, 0, none⟩), .int .i64 0]) ∧ LsAt w' (fun i => i = w.heap.size ∨ i = w.heap.size + 1) (w.heap.size + 1) (pl0 l r) ∧ Below w.heap.size w w' := by
  have cl := fun w => bound_any l w
  have cr := fun w => bound_any r w
  have tk : True := trivial
  rw [hl] at cl
  rw [hr] at cr
  clear hl hr
  have HL : Hid (LsAt ((w.alloc (.map #[] 0)).alloc (.cells (lc (pl0 l r) w.heap.size) 54)) (fun i => i = w.heap.size ∨ i = w.heap.size + 1) (w.heap.size + 1) (pl0 l r)) :=
    ⟨w.heap.size, fun _ => none, ⟨push_at _ _ (by simp), (RMap.made w).keep (S := fun _ => False) (Keep.ofBelow (below1 _ _)) (fun h => h), Or.inr rfl, Or.inl rfl, fun s => trivial, fun i hi => by simp; omega, List.nodup_nil, fun s => by simp [pl0]⟩⟩
  have HB : Hid (Below w.heap.size w ((w.alloc (.map #[] 0)).alloc (.cells (lc (pl0 l r) w.heap.size) 54))) := below2 _ _ _
  have hmm : (Instr.makeMap 52 none).run Tryz.prog w = .ok (.map (some w.heap.size)) (w.alloc (.map #[] 0)) := by simp [Instr.makeMap, go_sem]
  go_enter Tryz.func6, Tryz.ntmps6
  go_wp2_with (first
    | (go_at_call 21; clear tk; refine (cl _).mono ?_; rintro e w1 ⟨rfl, hw1⟩; replace hw1 := hw1.symm; subst hw1)
    | (go_at_call 21; refine (cr _).mono ?_; rintro e w1 ⟨rfl, hw1⟩; replace hw1 := hw1.symm; subst hw1))
  go_ret2
  exact ⟨rfl, HL.out, HB.out⟩
end Go.Proofs.YtiplalbicibahaaGreatDoor

/- privacy: whether a rule fits; Allows. -/
set_option maxRecDepth 100000
namespace Go.Proofs.YtiplalbicibahaaGreatDoor
open Go.RowKit Go.Joins Go.Shelf

/-! ### strings.TrimSuffix of ",ask" -/
def wAsk : By := [44, 97, 115, 107]
def endsA (l : By) : Bool := decide (4 ≤ l.length) && (l.drop (l.length - 4) == wAsk)
def trimA (l : By) : By := if endsA l = true then l.take (l.length - 4) else l
theorem slice_tail (s : ByteArray) : (s.extract (s.size - 4) s.size).toList = s.data.toList.drop (s.data.toList.length - 4) := by
  rw [Lib.toList_data, Lib.extract_eq]
  have hl : s.data.toList.length = s.size := by simp
  simp only [hl]
  rw [List.take_of_length_le (by rw [List.length_drop, hl]; omega)]
theorem slice_head (s : ByteArray) : s.extract 0 (s.size - 4) = ba (s.data.toList.take (s.data.toList.length - 4)) := by
  rw [Lib.extract_eq]
  have hl : s.data.toList.length = s.size := by simp
  simp only [hl, List.drop_zero, Nat.sub_zero]
  rfl
theorem hasSuffix_any (s : ByteArray) (w : World) (hs : s.size ≤ 9223372036854775807) :
    Calls Tryz.prog 89 #[.string s, .string ⟨#[44, 97, 115, 107]⟩] w fun e w' => e = .returned (.bool (endsA s.data.toList)) ∧ w' = w := by
  have hl : s.data.toList.length = s.size := by simp
  unfold endsA
  by_cases h : 4 ≤ s.size
  · have he : ((s.extract (s.size - 4) s.size).toList == [44, 97, 115, 107]) = (s.data.toList.drop (s.data.toList.length - 4) == wAsk) := by rw [slice_tail]; rfl
    rw [← he, hl, decide_eq_true h, Bool.true_and]
    have hd : (4 : Int) ≤ (s.size : Int) := by omega
    have hlo : ((s.size : Int) - 4 + 9223372036854775808) % 18446744073709551616 - 9223372036854775808 = ((s.size - 4 : Nat) : Int) := by omega
    clear he hl
    generalize hB : ((s.extract (s.size - 4) s.size).toList == [44, 97, 115, 107]) = B
    replace hs : Hid (s.size ≤ 9223372036854775807) := hs
    go_enter Tryz.func89, Tryz.ntmps89
    go_wp2
    go_ret
    exact ⟨rfl, rfl⟩
  · rw [hl, decide_eq_false h, Bool.false_and]
    have hd : ¬ (4 : Int) ≤ (s.size : Int) := by omega
    clear hl
    go_enter Tryz.func89, Tryz.ntmps89
    go_wp2
    go_ret
    exact ⟨rfl, rfl⟩
theorem ltrim_any (s : ByteArray) (w : World) (hs : s.size ≤ 9223372036854775807) :
    Calls Tryz.prog 72 #[.string s, .string ⟨#[44, 97, 115, 107]⟩] w fun e w' => e = .returned (.string (ba (trimA s.data.toList))) ∧ w' = w := by
  have cS := hasSuffix_any s w hs
  have hl : s.data.toList.length = s.size := by simp
  unfold trimA
  cases he : endsA s.data.toList with
  | true =>
    rw [if_pos rfl, ← slice_head]
    rw [he] at cS
    have h4 : 4 ≤ s.size := by
      unfold endsA at he
      rw [Bool.and_eq_true, decide_eq_true_eq, hl] at he
      exact he.1
    have hlo : ((s.size : Int) - 4 + 9223372036854775808) % 18446744073709551616 - 9223372036854775808 = ((s.size - 4 : Nat) : Int) := by omega
    have h0 : (0 : Int) ≤ ((s.size - 4 : Nat) : Int) := by omega
    have h1 : ((s.size - 4 : Nat) : Int) ≤ (s.size : Int) := by omega
    clear he hl h4
    replace hs : Hid (s.size ≤ 9223372036854775807) := hs
    go_enter Tryz.func72, Tryz.ntmps72
    go_wp2_with (go_at_call 89; refine cS.mono ?_; rintro e w' ⟨rfl, rfl⟩)
    go_ret
    exact ⟨rfl, rfl⟩
  | false =>
    rw [if_neg (by decide), ba_back]
    rw [he] at cS
    clear he hl
    go_enter Tryz.func72, Tryz.ntmps72
    go_wp2_with (go_at_call 89; refine cS.mono ?_; rintro e w' ⟨rfl, rfl⟩)
    go_ret
    exact ⟨rfl, rfl⟩
theorem trim_any (s : ByteArray) (w : World) (hs : s.size ≤ 9223372036854775807) :
    Calls Tryz.prog 59 #[.string s, .string ⟨#[44, 97, 115, 107]⟩] w fun e w' => e = .returned (.string (ba (trimA s.data.toList))) ∧ w' = w := by
  have cT := ltrim_any s w hs
  generalize ba (trimA s.data.toList) = T at cT ⊢
  go_enter Tryz.func59, Tryz.ntmps59
  go_wp2_with (go_at_call 72; refine cT.mono ?_; rintro e w' ⟨rfl, rfl⟩)
  go_ret
  exact ⟨rfl, rfl⟩

/-! ### slices.Contains -/
theorem index_any (a : Option Addr) (n c : Nat) (ts : List By) (v : By) (w : World) (hR : TRd w a n c ts) :
    Calls Tryz.prog 73 #[.slice a n c, .string (ba v)] w fun e w' => (∃ k : Int, e = .returned (.int .i64 k) ∧ decide (0 ≤ k) = ts.contains v) ∧ w' = w := by
  have Hn : Hid (ts.length = n) := hR.len
  have hnc := hR.cap
  have hcm := hR.most
  unfold maxLen at hcm
  have HR : Hid (TRd w a n c ts) := hR
  clear hR
  go_enter Tryz.func73, Tryz.ntmps73
  go_upto_region 2 with fail
  go_loopw [5, 8] (fun _ s8 wr => ∃ j : Nat, s8 = .int .i64 j ∧ j ≤ n ∧ Hid (∀ t ∈ ts.take j, t ≠ v) ∧ Hid (wr = w)) (fun _ s8 _ => n - (intOf s8).toNat)
  case atStart => exact ⟨0, rfl, by omega, fun t ht => by simp at ht, rfl⟩
  case round =>
    obtain ⟨j, rfl, hjn, HP, HW⟩ := hrel
    by_cases hlt : j < n
    · have hcl : (j : Int) < (n : Int) := by omega
      have HR2 : Hid (TRd wr a n c ts) := by show TRd _ _ _ _ _; rw [HW.out]; exact HR.out
      obtain ⟨b, off, rfl, hce⟩ := HR2.out.flat (by omega)
      have hcj := hce j hlt
      clear hce
      obtain ⟨y, hy⟩ : ∃ y, ts[j]? = some y := ⟨_, List.getElem?_eq_getElem (by rw [Hn.out]; exact hlt)⟩
      rw [show ts.getD j [] = y by rw [List.getD_eq_getElem?_getD, hy]; rfl] at hcj
      have HTk : Hid (ts.take (j + 1) = ts.take j ++ [y]) := by
        show _ = _
        rw [List.take_add_one, hy]; rfl
      by_cases hv : y = v
      · subst hv
        have he : ((ba y).toList == (ba y).toList) = true := by simp
        have HC : Hid (ts.contains y = true) := by
          show _ = _
          rw [List.contains_iff_mem]
          exact List.mem_of_getElem? hy
        clear hy HTk HP HR2 HR
        go_wp2
        go_ret
        exact ⟨⟨_, rfl, by rw [HC.out]; simp⟩, HW.out⟩
      · have he : ((ba v).toList == (ba y).toList) = false := by
          rw [Lib.toList_data, Lib.toList_data, ba_list, ba_list]
          exact beq_false_of_ne (fun e => hv e.symm)
        have HP2 : Hid (∀ t ∈ ts.take (j + 1), t ≠ v) := fun t ht => by
          rw [HTk.out] at ht
          rcases List.mem_append.1 ht with q | q
          · exact HP.out t q
          · have : t = y := by simpa using q
            rw [this]; exact hv
        clear hy HTk HP HR2 hv
        go_wp2
        exact ⟨⟨j + 1, by go_num, by omega, HP2.out, HW.out⟩, by simp [intOf]; omega⟩
    · have hcl : ¬ (j : Int) < (n : Int) := by omega
      obtain rfl : j = n := by omega
      have HC : Hid (¬ v ∈ ts) := by
        have h := HP.out
        rw [List.take_of_length_le (by rw [Hn.out]; exact Nat.le_refl _)] at h
        exact fun hc => h v hc rfl
      clear HP
      go_wp2
      go_ret
      exact ⟨⟨-1, rfl, by simp [HC.out]⟩, HW.out⟩
theorem contains_any (a : Option Addr) (n c : Nat) (ts : List By) (v : By) (w : World) (hR : TRd w a n c ts) :
    Calls Tryz.prog 61 #[.slice a n c, .string (ba v)] w fun e w' => e = .returned (.bool (ts.contains v)) ∧ w' = w := by
  have cI := index_any a n c ts v w hR
  clear hR
  generalize ts.contains v = B at *
  generalize ba v = V at *
  go_enter Tryz.func61, Tryz.ntmps61
  go_wp2_with (go_at_call 73; refine cI.mono ?_; clear cI; rintro e w1 ⟨⟨k, rfl, hk⟩, hw1⟩; replace hw1 := hw1.symm; subst hw1)
  go_ret
  exact ⟨rfl, rfl⟩

/-! ### fitting -/
/-- Who is asked about. -/
structure Qy where
  i : Bool
  c : By
  gs : List By
  s : By
def fitsR (q : Qy) (r : Rul) : Bool :=
  if ((q.i && !r.i) || (!q.i && !r.o)) = true then false
  else if (r.k == wJid) = true then r.v == q.c
  else if (r.k == wGroup) = true then q.gs.contains r.v
  else if (r.k == wSub) = true then r.v == trimA q.s
  else true
/-- What the closure holds. -/
structure FitAt (w : World) (g : Nat) (q : Qy) (a : Option Addr) (n c : Nat) : Prop where
  b0 : w.heap[g]? = some (.cells #[.bool q.i] 4 (0, 0))
  b1 : w.heap[g + 1]? = some (.cells #[.string (ba q.c)] 9 (0, 0))
  b2 : w.heap[g + 2]? = some (.cells #[.slice a n c] 32 (0, 0))
  b3 : w.heap[g + 3]? = some (.cells #[.string (ba (trimA q.s))] 9 (0, 0))
  gs : TRd w a n c q.gs
theorem FitAt.below {w w' : World} {g : Nat} {q : Qy} {a : Option Addr} {n c : Nat} (h : FitAt w g q a n c) (hb : Below w.heap.size w w') : FitAt w' g q a n c :=
  ⟨box_below h.b0 hb, box_below h.b1 hb, box_below h.b2 hb, box_below h.b3 hb, h.gs.below hb⟩
abbrev fitV (g : Nat) : Value := .func (.func 60) #[] #[.pointer (some ⟨g, 0, none⟩), .pointer (some ⟨g + 1, 0, none⟩), .pointer (some ⟨g + 2, 0, none⟩), .pointer (some ⟨g + 3, 0, none⟩)]
theorem fitting_any (q : Qy) (a : Option Addr) (n c : Nat) (w : World) (hR : TRd w a n c q.gs) (hs : q.s.length ≤ 9223372036854775807) :
    Calls Tryz.prog 46 #[.bool q.i, .string (ba q.c), .slice a n c, .string (ba q.s)] w fun e w' => e = .returned (fitV w.heap.size) ∧ FitAt w' w.heap.size q a n c ∧ Below w.heap.size w w' := by
  have hmf : ∀ (fn : Fn) (first cap : Array Value) (w : World), (Instr.makeFunc fn first cap).run Tryz.prog w = .ok (.func fn first cap) w := fun _ _ _ _ => rfl
  have cT := fun w => trim_any (ba q.s) w (by rw [ba_size]; exact hs)
  rw [ba_list] at cT
  have hb3 : Below w.heap.size w ((((w.alloc (.cells #[.bool q.i] 4)).alloc (.cells #[.string (ba q.c)] 9)).alloc (.cells #[.slice a n c] 32)).alloc (.cells #[.string (ba (trimA q.s))] 9)) :=
    (((below1 w _).alloc (by simp) _).alloc (by simp; omega) _).alloc (by simp; omega) _
  have HF : Hid (FitAt ((((w.alloc (.cells #[.bool q.i] 4)).alloc (.cells #[.string (ba q.c)] 9)).alloc (.cells #[.slice a n c] 32)).alloc (.cells #[.string (ba (trimA q.s))] 9)) w.heap.size q a n c ∧ Below w.heap.size w ((((w.alloc (.cells #[.bool q.i] 4)).alloc (.cells #[.string (ba q.c)] 9)).alloc (.cells #[.slice a n c] 32)).alloc (.cells #[.string (ba (trimA q.s))] 9))) :=
    ⟨⟨push_old (push_old (push_old (push_at _ _ rfl))), push_old (push_old (push_at _ _ (by simp))), push_old (push_at _ _ (by simp)), push_at _ _ (by simp), hR.below hb3⟩, hb3⟩
  clear hR hb3 hs
  obtain ⟨qi, qc, qg, qs⟩ := q
  dsimp only at *
  generalize ba (trimA qs) = T at *
  generalize ba qs = S at *
  generalize ba qc = C at *
  go_enter Tryz.func46, Tryz.ntmps46
  go_wp2_with (go_at_call 59; refine (cT _).mono ?_; clear cT; rintro e w1 ⟨rfl, hw1⟩; replace hw1 := hw1.symm; subst hw1)
  go_ret
  exact ⟨rfl, HF.out⟩

end Go.Proofs.YtiplalbicibahaaGreatDoor

/- privacy: the closure of fitting; slices.IndexFunc; Allows. -/
set_option maxRecDepth 100000
namespace Go.Proofs.YtiplalbicibahaaGreatDoor
open Go.RowKit Go.Joins Go.Shelf

set_option maxHeartbeats 1600000 in
theorem fitC_any (g : Nat) (q : Qy) (a : Option Addr) (n c : Nat) (r : Rul) (w : World) (hF : FitAt w g q a n c) :
    Calls Tryz.prog 60 #[rv r, .pointer (some ⟨g, 0, none⟩), .pointer (some ⟨g + 1, 0, none⟩), .pointer (some ⟨g + 2, 0, none⟩), .pointer (some ⟨g + 3, 0, none⟩)] w fun e w' => e = .returned (.bool (fitsR q r)) ∧ Below w.heap.size w w' := by
  obtain ⟨al, ri, ro, k, v⟩ := r
  have hF1 : FitAt (w.alloc (.cells (rc ⟨al, ri, ro, k, v⟩) 72)) g q a n c := hF.below (below1 _ _)
  have hR1 : RuAt (w.alloc (.cells (rc ⟨al, ri, ro, k, v⟩) 72)) w.heap.size ⟨al, ri, ro, k, v⟩ := push_at _ _ rfl
  have HB1 : Hid (Below w.heap.size w (w.alloc (.cells (rc ⟨al, ri, ro, k, v⟩) 72))) := below1 _ _
  have cC := contains_any a n c q.gs v (w.alloc (.cells (rc ⟨al, ri, ro, k, v⟩) 72)) hF1.gs
  have e1 : ((ba k).toList == [106, 105, 100]) = (k == wJid) := ba_eq _ _
  have e2 : ((ba k).toList == [103, 114, 111, 117, 112]) = (k == wGroup) := ba_eq _ _
  have e3 : ((ba k).toList == [115, 117, 98]) = (k == wSub) := ba_eq _ _
  have e4 : ((ba v).toList == (ba q.c).toList) = (v == q.c) := by rw [ba_eq, Lib.toList_data, ba_list]
  have e5 : ((ba v).toList == (ba (trimA q.s)).toList) = (v == trimA q.s) := by rw [ba_eq, Lib.toList_data, ba_list]
  have p0 := p_cell hF1.b0
  have p1 := p_cell hF1.b1
  have p2 := p_cell hF1.b2
  have p3 := p_cell hF1.b3
  have u1 := hR1.c1
  have u2 := hR1.c2
  have u3 := hR1.c3
  have u4 := hR1.c4
  unfold fitsR rv rc
  unfold rc at cC p0 p1 p2 p3 u1 u2 u3 u4 HB1
  dsimp only at *
  clear hF hF1 hR1
  generalize q.gs.contains v = B at cC ⊢
  generalize (k == wJid) = a1 at *
  generalize (k == wGroup) = a2 at *
  generalize (k == wSub) = a3 at *
  generalize (v == q.c) = a4 at *
  generalize (v == trimA q.s) = a5 at *
  generalize q.i = qi at *
  generalize ba k = K at *
  generalize ba v = V at *
  generalize ba q.c = C at *
  generalize ba (trimA q.s) = T at *
  obtain ⟨W, HW⟩ : ∃ W, Hid (w.alloc (.cells #[.bool al, .bool ri, .bool ro, .string K, .string V] 72) = W) := ⟨_, rfl⟩
  rw [HW.out] at cC p0 p1 p2 p3 u1 u2 u3 u4 HB1
  cases qi <;> cases ri <;> cases ro
  case false.false.false =>
    clear cC e1 e2 e3 e4 e5
    go_enter Tryz.func60, Tryz.ntmps60
    go_upto_region 1 with fail
    rw [HW.out]
    go_wp2
    go_ret
    exact ⟨rfl, HB1.out⟩
  case false.false.true =>
    cases a1
    case true =>
      clear cC e2 e3 e5
      go_enter Tryz.func60, Tryz.ntmps60
      go_upto_region 1 with fail
      rw [HW.out]
      go_wp2
      go_ret
      exact ⟨rfl, HB1.out⟩
    cases a2
    case true =>
      clear e3 e4 e5
      go_enter Tryz.func60, Tryz.ntmps60
      go_upto_region 1 with fail
      rw [HW.out]
      go_wp2_with (go_at_call 61; refine cC.mono ?_; clear cC; rintro e w1 ⟨rfl, hw1⟩; replace hw1 := hw1.symm; subst hw1)
      go_ret
      exact ⟨rfl, HB1.out⟩
    cases a3
    case true =>
      clear cC e4
      go_enter Tryz.func60, Tryz.ntmps60
      go_upto_region 1 with fail
      rw [HW.out]
      go_wp2
      go_ret
      exact ⟨rfl, HB1.out⟩
    clear cC e4 e5
    go_enter Tryz.func60, Tryz.ntmps60
    go_upto_region 1 with fail
    rw [HW.out]
    go_wp2
    go_ret
    exact ⟨rfl, HB1.out⟩
  case false.true.false =>
    clear cC e1 e2 e3 e4 e5
    go_enter Tryz.func60, Tryz.ntmps60
    go_upto_region 1 with fail
    rw [HW.out]
    go_wp2
    go_ret
    exact ⟨rfl, HB1.out⟩
  case false.true.true =>
    cases a1
    case true =>
      clear cC e2 e3 e5
      go_enter Tryz.func60, Tryz.ntmps60
      go_upto_region 1 with fail
      rw [HW.out]
      go_wp2
      go_ret
      exact ⟨rfl, HB1.out⟩
    cases a2
    case true =>
      clear e3 e4 e5
      go_enter Tryz.func60, Tryz.ntmps60
      go_upto_region 1 with fail
      rw [HW.out]
      go_wp2_with (go_at_call 61; refine cC.mono ?_; clear cC; rintro e w1 ⟨rfl, hw1⟩; replace hw1 := hw1.symm; subst hw1)
      go_ret
      exact ⟨rfl, HB1.out⟩
    cases a3
    case true =>
      clear cC e4
      go_enter Tryz.func60, Tryz.ntmps60
      go_upto_region 1 with fail
      rw [HW.out]
      go_wp2
      go_ret
      exact ⟨rfl, HB1.out⟩
    clear cC e4 e5
    go_enter Tryz.func60, Tryz.ntmps60
    go_upto_region 1 with fail
    rw [HW.out]
    go_wp2
    go_ret
    exact ⟨rfl, HB1.out⟩
  case true.false.false =>
    clear cC e1 e2 e3 e4 e5
    go_enter Tryz.func60, Tryz.ntmps60
    go_upto_region 1 with fail
    rw [HW.out]
    go_wp2
    go_ret
    exact ⟨rfl, HB1.out⟩
  case true.false.true =>
    clear cC e1 e2 e3 e4 e5
    go_enter Tryz.func60, Tryz.ntmps60
    go_upto_region 1 with fail
    rw [HW.out]
    go_wp2
    go_ret
    exact ⟨rfl, HB1.out⟩
  case true.true.false =>
    cases a1
    case true =>
      clear cC e2 e3 e5
      go_enter Tryz.func60, Tryz.ntmps60
      go_upto_region 1 with fail
      rw [HW.out]
      go_wp2
      go_ret
      exact ⟨rfl, HB1.out⟩
    cases a2
    case true =>
      clear e3 e4 e5
      go_enter Tryz.func60, Tryz.ntmps60
      go_upto_region 1 with fail
      rw [HW.out]
      go_wp2_with (go_at_call 61; refine cC.mono ?_; clear cC; rintro e w1 ⟨rfl, hw1⟩; replace hw1 := hw1.symm; subst hw1)
      go_ret
      exact ⟨rfl, HB1.out⟩
    cases a3
    case true =>
      clear cC e4
      go_enter Tryz.func60, Tryz.ntmps60
      go_upto_region 1 with fail
      rw [HW.out]
      go_wp2
      go_ret
      exact ⟨rfl, HB1.out⟩
    clear cC e4 e5
    go_enter Tryz.func60, Tryz.ntmps60
    go_upto_region 1 with fail
    rw [HW.out]
    go_wp2
    go_ret
    exact ⟨rfl, HB1.out⟩
  case true.true.true =>
    cases a1
    case true =>
      clear cC e2 e3 e5
      go_enter Tryz.func60, Tryz.ntmps60
      go_upto_region 1 with fail
      rw [HW.out]
      go_wp2
      go_ret
      exact ⟨rfl, HB1.out⟩
    cases a2
    case true =>
      clear e3 e4 e5
      go_enter Tryz.func60, Tryz.ntmps60
      go_upto_region 1 with fail
      rw [HW.out]
      go_wp2_with (go_at_call 61; refine cC.mono ?_; clear cC; rintro e w1 ⟨rfl, hw1⟩; replace hw1 := hw1.symm; subst hw1)
      go_ret
      exact ⟨rfl, HB1.out⟩
    cases a3
    case true =>
      clear cC e4
      go_enter Tryz.func60, Tryz.ntmps60
      go_upto_region 1 with fail
      rw [HW.out]
      go_wp2
      go_ret
      exact ⟨rfl, HB1.out⟩
    clear cC e4 e5
    go_enter Tryz.func60, Tryz.ntmps60
    go_upto_region 1 with fail
    rw [HW.out]
    go_wp2
    go_ret
    exact ⟨rfl, HB1.out⟩

theorem ent_fitC (args : Array Value) (w : World) : (callFunc 60 args).run Tryz.prog w = .ok (.enter 60 args) w := enters_of Tryz.func60 (by kernel_rfl) rfl args w

/-! ### slices.IndexFunc -/
theorem find_pre (f : Rul → Bool) : ∀ (ps : List Rul) (r : Rul) (qs : List Rul), (∀ p ∈ ps, f p = false) → f r = true → (ps ++ r :: qs).find? f = some r
  | [], r, qs, _, h => by simp [h]
  | p :: ps, r, qs, hp, h => by
    rw [List.cons_append, List.find?_cons, hp p (by simp)]
    exact find_pre f ps r qs (fun x hx => hp x (by simp [hx])) h
def IxR (q : Qy) (rs : List Rul) (k : Int) : Prop := (k = -1 ∧ rs.find? (fitsR q) = none) ∨ ∃ (j : Nat) (r : Rul), k = (j : Int) ∧ rs[j]? = some r ∧ rs.find? (fitsR q) = some r
set_option maxHeartbeats 1600000 in
theorem indexFunc_any (f : Rw) (rs : List Rul) (g : Nat) (q : Qy) (a : Option Addr) (n c : Nat) (w : World) (hR : RRd w f rs) (hF : FitAt w g q a n c) (hl : rs.length ≤ 100000) :
    Calls Tryz.prog 45 #[rsl f, fitV g] w fun e w' => (∃ k : Int, e = .returned (.int .i64 k) ∧ IxR q rs k) ∧ Below w.heap.size w w' := by
  obtain ⟨fa, fn, fc⟩ := f
  have Hn : Hid (rs.length = fn) := hR.len
  have hnc : fn ≤ fc := hR.cap
  have hcm : fc ≤ maxLen := hR.most
  have hln : fn ≤ 100000 := by rw [← Hn.out]; exact hl
  unfold maxLen at hcm
  have HR : Hid (RRd w (fa, fn, fc) rs) := hR
  have HF : Hid (FitAt w g q a n c) := hF
  clear hR hF hl
  show Calls Tryz.prog _ #[.slice (fa.map fun g => ⟨g, 0, none⟩) fn fc, _] _ _
  obtain ⟨A, HA⟩ : ∃ A : Option Addr, Hid ((fa.map fun g => (⟨g, 0, none⟩ : Addr)) = A) := ⟨_, rfl⟩
  rw [HA.out]
  go_enter Tryz.func45, Tryz.ntmps45
  go_upto_region 2 with fail
  go_loopw [5, 8] (fun _ s8 wr => ∃ j : Nat, s8 = .int .i64 j ∧ j ≤ fn ∧ Hid (∀ t ∈ rs.take j, fitsR q t = false) ∧ Hid (Below w.heap.size w wr)) (fun _ s8 _ => fn - (intOf s8).toNat)
  case atStart => exact ⟨0, rfl, by omega, fun t ht => by simp at ht, Below.refl _ _⟩
  case round =>
    obtain ⟨j, rfl, hjn, HP, HB⟩ := hrel
    by_cases hlt : j < fn
    · have hcl : (j : Int) < (fn : Int) := by omega
      obtain ⟨gb, hgb, hrow⟩ := (HR.out.below HB.out).row (by show 0 < fn; omega)
      obtain ⟨y, hy⟩ : ∃ y, rs[j]? = some y := ⟨_, List.getElem?_eq_getElem (by rw [Hn.out]; exact hlt)⟩
      have hmid := hrow j y hy
      replace hgb : fa = some gb := hgb
      have hA := HA.out
      rw [hgb] at hA
      replace hA : A = some ⟨gb, 0, none⟩ := hA.symm
      subst hA
      have hF1 := HF.out.below HB.out
      have cF := fitC_any g q a n c y wr hF1
      have HTk : Hid (rs.take (j + 1) = rs.take j ++ [y]) := by
        show _ = _
        rw [List.take_add_one, hy]; rfl
      have HFd : Hid (fitsR q y = true → rs.find? (fitsR q) = some y) := fun h => by
        have e := List.getElem?_eq_some_iff.1 hy
        have : rs = rs.take j ++ y :: rs.drop (j + 1) := by
          rw [← e.2]
          exact (List.take_append_drop j rs).symm.trans (by rw [List.drop_eq_getElem_cons e.1])
        rw [this]
        exact find_pre _ _ _ _ HP.out h
      have hy' : Hid (rs[j]? = some y) := hy
      have eK := ent_fitC
      have HM : Hid (wr.rangeAt gb (j * 5) (rc y).toList) := hmid
      clear hrow hF1 hmid hy
      cases hv : fitsR q y with
      | true =>
        rw [hv] at cF
        have HFd2 := HFd.out hv
        clear HFd hv HTk
        replace HFd2 : Hid (rs.find? (fitsR q) = some y) := HFd2
        go_wp2_with (first
          | (refine wpList_load_mid rfl 72 (.tmp 14) rfl gb (j * 5) rfl (rc y).toList _ HM.out Tryz.underlying72 rfl (by rw [infoRule]; rfl) ?_)
          | (go_at_fn 60; refine cF.mono ?_; clear cF; rintro e w5 ⟨rfl, hb5⟩))
        go_ret
        exact ⟨⟨_, rfl, Or.inr ⟨j, y, rfl, hy'.out, HFd2.out⟩⟩, HB.out.trans (hb5.mono HB.out.size)⟩
      | false =>
        rw [hv] at cF
        have HP2 : Hid (∀ t ∈ rs.take (j + 1), fitsR q t = false) := fun t ht => by
          rw [HTk.out] at ht
          rcases List.mem_append.1 ht with z | z
          · exact HP.out t z
          · have : t = y := by simpa using z
            rw [this]; exact hv
        clear HFd hv HTk HP
        go_wp2_with (first
          | (refine wpList_load_mid rfl 72 (.tmp 14) rfl gb (j * 5) rfl (rc y).toList _ HM.out Tryz.underlying72 rfl (by rw [infoRule]; rfl) ?_)
          | (go_at_fn 60; refine cF.mono ?_; clear cF; rintro e w5 ⟨rfl, hb5⟩))
        exact ⟨⟨j + 1, by go_num, by omega, HP2.out, HB.out.trans (hb5.mono HB.out.size)⟩, by simp [intOf]; omega⟩
    · have hcl : ¬ (j : Int) < (fn : Int) := by omega
      obtain rfl : j = fn := by omega
      have HC : Hid (IxR q rs (-1)) := by
        have h := HP.out
        rw [List.take_of_length_le (by rw [Hn.out]; exact Nat.le_refl _)] at h
        exact Or.inl ⟨rfl, List.find?_eq_none.2 (fun x hx => by rw [h x hx]; decide)⟩
      clear HP
      go_wp2
      go_ret
      exact ⟨⟨-1, rfl, HC.out⟩, HB.out⟩

/-! ### Allows -/
def allowsR (q : Qy) (rs : List Rul) : Bool := match rs.find? (fitsR q) with | none => true | some r => r.al
theorem allowsR_none {q : Qy} {rs : List Rul} (h : rs.find? (fitsR q) = none) : allowsR q rs = true := by unfold allowsR; rw [h]
theorem allowsR_some {q : Qy} {rs : List Rul} {r : Rul} (h : rs.find? (fitsR q) = some r) : allowsR q rs = r.al := by unfold allowsR; rw [h]
set_option maxHeartbeats 1600000 in
theorem allowsM_any (s : By) (y : Qy) (a : Option Addr) (n c : Nat) (w : World) (F : Nat → Prop) (q mb : Nat) (m : By → Option Rw) (P : Pl) (h : LsM w F q mb m P) (hs : s.length ≤ 1000000) (hu : P.us.length ≤ 1000000) (hR : TRd w a n c y.gs) (hsb : y.s.length ≤ 9223372036854775807) (hl : (heldR P s).length ≤ 100000) :
    Calls Tryz.prog 22 #[.pointer (some ⟨q, 0, none⟩), .string (ba s), .bool y.i, .string (ba y.c), .slice a n c, .string (ba y.s)] w fun e w' => e = .returned (.bool (allowsR y (heldR P s))) ∧ Below w.heap.size w w' := by
  have cH := holding_any s w F q mb m P h hs hu
  have cF := fitting_any y a n c w hR hsb
  clear h hs hu hR hsb
  generalize heldR P s = rs at *
  cases hf : rs.find? (fitsR y) with
  | none =>
    rw [allowsR_none hf]
    replace hf : Hid (rs.find? (fitsR y) = none) := hf
    replace hl : Hid (rs.length ≤ 100000) := hl
    go_enter Tryz.func22, Tryz.ntmps22
    go_wp2_with (first
      | (go_at_call 44; refine cH.mono ?_; clear cH; rintro e w1 ⟨f, rfl, hr, hw1⟩; replace hw1 := hw1.symm; subst hw1; have HRr : Hid (RRd w f rs) := hr; clear hr)
      | (go_at_call 46; refine cF.mono ?_; clear cF; rintro e w2 ⟨rfl, hF2, hb2⟩; have cI := indexFunc_any f rs w.heap.size y a n c w2 (HRr.out.below hb2) hF2 hl.out; clear hF2)
      | (go_at_call 45; refine cI.mono ?_; clear cI; rintro e w3 ⟨⟨k, rfl, hk⟩, hb3⟩; obtain rfl : k = -1 := hk.elim (fun z => z.1) (fun ⟨j, r, _, _, z⟩ => absurd (hf.out.symm.trans z) (by simp)); clear hk))
    go_ret
    exact ⟨rfl, hb2.trans (hb3.mono hb2.size)⟩
  | some r =>
    rw [allowsR_some hf]
    replace hf : Hid (rs.find? (fitsR y) = some r) := hf
    replace hl : Hid (rs.length ≤ 100000) := hl
    go_enter Tryz.func22, Tryz.ntmps22
    go_upto_region 3 with (first
      | (go_at_call 44; refine cH.mono ?_; clear cH; rintro e w1 ⟨f, rfl, hr, hw1⟩; replace hw1 := hw1.symm; subst hw1; have HRr : Hid (RRd w f rs) := hr; clear hr)
      | (go_at_call 46; refine cF.mono ?_; clear cF; rintro e w2 ⟨rfl, hF2, hb2⟩; have cI := indexFunc_any f rs w.heap.size y a n c w2 (HRr.out.below hb2) hF2 hl.out; clear hF2)
      | (go_at_call 45; refine cI.mono ?_; clear cI; rintro e w3 ⟨⟨k, rfl, hk⟩, hb3⟩))
    obtain ⟨j, rfl, hj⟩ : ∃ j : Nat, k = (j : Int) ∧ rs[j]? = some r := by
      rcases hk with z | ⟨j, r', e, z1, z2⟩
      · exact absurd (hf.out.symm.trans z.2) (by simp)
      · have : r' = r := Option.some.inj (z2.symm.trans hf.out)
        exact ⟨j, e, by rw [z1, this]⟩
    have HR3 := (HRr.out.below hb2).below hb3
    obtain ⟨fa, fn, fc⟩ := f
    have hnc : fn ≤ fc := HR3.cap
    have hcm : fc ≤ maxLen := HR3.most
    unfold maxLen at hcm
    have hjl : j < fn := by
      have e : rs.length = fn := HR3.len
      rw [← e]; exact (List.getElem?_eq_some_iff.1 hj).1
    obtain ⟨gb, hgb, hrow⟩ := HR3.row (by show 0 < fn; omega)
    replace hgb : fa = some gb := hgb
    subst hgb
    have c0 : w3.cell? ⟨gb, j * 5, none⟩ = some (.bool r.al) := hrow j r hj 0 (.bool r.al) rfl
    have hcl : ¬ (j : Int) < 0 := by omega
    have hc2 : (j : Int) < (fn : Int) := by omega
    have HB : Hid (Below w.heap.size w w3) := hb2.trans (hb3.mono hb2.size)
    clear hrow HR3 hj hk HRr hb2 hb3
    unfold rsl
    dsimp only [Option.map]
    go_wp2
    go_ret
    exact ⟨rfl, HB.out⟩
theorem allows_any (s : By) (y : Qy) (a : Option Addr) (n c : Nat) (w : World) (F : Nat → Prop) (q : Nat) (P : Pl) (h : LsAt w F q P) (hs : s.length ≤ 1000000) (hu : P.us.length ≤ 1000000) (hR : TRd w a n c y.gs) (hsb : y.s.length ≤ 9223372036854775807) (hl : (heldR P s).length ≤ 100000) :
    Calls Tryz.prog 22 #[.pointer (some ⟨q, 0, none⟩), .string (ba s), .bool y.i, .string (ba y.c), .slice a n c, .string (ba y.s)] w fun e w' => e = .returned (.bool (allowsR y (heldR P s))) ∧ Below w.heap.size w w' := by
  obtain ⟨mb, m, h⟩ := h
  exact allowsM_any s y a n c w F q mb m P h hs hu hR hsb hl
end Go.Proofs.YtiplalbicibahaaGreatDoor

/- privacy: Set. -/
set_option maxRecDepth 100000
namespace Go.Proofs.YtiplalbicibahaaGreatDoor
open Go.RowKit Go.Joins Go.Shelf

/-- What Set does. -/
def fullR (P : Pl) (s : By) (n : Nat) : Bool := decide (P.ru < (n : Int)) || (!(P.m s).isSome && decide (P.li ≤ (P.ks.length : Int)))
def putP (P : Pl) (s : By) (rs : List Rul) : Pl := { P with ks := if (P.m s).isSome = true then P.ks else s :: P.ks, m := putM P.m s (some rs) }
def setR (P : Pl) (s : By) (ts : List By) : Nat × Pl :=
  if nameE s ≠ 0 then (nameE s, P)
  else if (readR ts).2 ≠ 0 then ((readR ts).2, P)
  else if fullR P s ts.length = true then (8, P)
  else (0, putP P s (readR ts).1)

theorem LsM.put {w w1 w' : World} {F : Nat → Prop} {q mb : Nat} {m : By → Option Rw} {P : Pl} (h : LsM w F q mb m P) (hb : Below w.heap.size w w1) (s : By) (f : Rw) (rs : List Rul) (hf : RRd w1 f rs) (hfn : ∀ g, f.1 = some g → w.heap.size ≤ g)
    (hm : RMap w' mb (P.ks.length + 1) (putM m s (some f))) (hk : Keep (fun i => i = mb) w1 w') : Lq w F q (putP P s rs) w' := by
  have h1 := h.below hb
  have hks : (putP P s rs).ks.Nodup := by
    unfold putP
    by_cases hs : (P.m s).isSome = true
    · rw [if_pos hs]; exact h.nd
    · rw [if_neg hs]
      exact List.nodup_cons.2 ⟨fun e => hs ((h.mem s).2 e), h.nd⟩
  have hmem : ∀ u, ((putP P s rs).m u).isSome = true ↔ u ∈ (putP P s rs).ks := fun u => by
    unfold putP
    dsimp only
    by_cases hu : u = s
    · subst hu
      rw [putM_same]
      by_cases hs : (P.m u).isSome = true
      · rw [if_pos hs]; simp [(h.mem u).1 hs]
      · rw [if_neg hs]; simp
    · rw [putM_other _ _ hu, h.mem u]
      by_cases hs : (P.m s).isSome = true
      · rw [if_pos hs]
      · rw [if_neg hs]; simp [hu]
  have htie : ∀ u, TieR w' (fun i => F i ∨ (w.heap.size ≤ i ∧ i < w'.heap.size)) (putM m s (some f) u) ((putP P s rs).m u) := fun u => by
    unfold putP
    dsimp only
    by_cases hu : u = s
    · subst hu
      rw [putM_same, putM_same]
      refine ⟨hf.keep hk (fun g hg e => ?_), fun g hg => Or.inr ⟨hfn g hg, ?_⟩⟩
      · have := hfn g hg; have := h.lt mb h.fm; omega
      · obtain ⟨cur, hc⟩ := hf.typ g hg
        exact Nat.lt_of_lt_of_le (box_lt hc) hk.size
    · rw [putM_other _ _ hu, putM_other _ _ hu]
      exact (h1.tie u).keep hk (fun f g hf hg e => (h1.row hf hg).2 e) (fun i hi => Or.inl hi)
  refine ⟨fun i => F i ∨ (w.heap.size ≤ i ∧ i < w'.heap.size), ⟨mb, putM m s (some f), ?_⟩, (Keep.ofBelow hb).trans (hk.mono (fun i e => by rw [e]; exact h.fm)), fun i hi => hi.imp id (fun k => k.1)⟩
  refine ⟨box_keep h1.blk hk (fun e => h1.ne e), ?_, Or.inl h.fq, Or.inl h.fm, htie, fun i hi => ?_, hks, hmem⟩
  · exact hm.tight _ hks (fun u => by rw [(htie u).isSome]; exact hmem u)
  · rcases hi with z | z
    · exact Nat.lt_of_lt_of_le (h1.lt i z) hk.size
    · exact z.2

theorem exec_mapput {o : Oper} {ρ : Operand → Value} {w w' : World} (p y z : Operand) (ho : o.op = .mapUpdate 52 p y z) (mb : Nat) (hp : ρ p = .map (some mb)) (c : ByteArray) (hy : ρ y = .string c) (v : Value) (hz : ρ z = v)
    (hrun : (Instr.mapUpdate 52 (.map (some mb)) (.string c) v).run Tryz.prog w = .ok () w') : (execOp ρ o).run Tryz.prog w = .ok .skip w' := by
  unfold execOp
  simp only [ho, hp, hy, hz, Sem.run_bind, hrun, Result.andThen_ok, Sem.run_pure]

theorem LsM.hmem {w : World} {F : Nat → Prop} {q mb : Nat} {m : By → Option Rw} {P : Pl} (h : LsM w F q mb m P) (s : By) : (m s).isSome = true ↔ s ∈ P.ks := by rw [(h.tie s).isSome]; exact h.mem s
set_option maxHeartbeats 1600000 in
theorem set_1 (s : By) (a : Option Addr) (n c : Nat) (w : World) (F : Nat → Prop) (q mb : Nat) (m : By → Option Rw) (P : Pl) (h : LsM w F q mb m P) (hs : s.length ≤ 1000000) (hT : Lib.Utf8Tabs 0 1 w) (h0 : nameE s ≠ 0) :
    Calls Tryz.prog 18 #[.pointer (some ⟨q, 0, none⟩), .string (ba s), .slice a n c] w fun e w' => e = .returned (.int .i64 (nameE s : Nat)) ∧ Lq w F q P w' := by
  have cN := checkName_any (ba s) w (by rw [ba_size]; omega) hT
  rw [ba_list] at cN
  have HH : Hid (LsM w F q mb m P) := h
  clear hT h hs
  generalize nameE s = ne at *
  have hd : ((ne : Int) != 0) = true := by simp; omega
  clear h0
  go_enter Tryz.func18, Tryz.ntmps18
  go_wp2_with (go_at_call 40; refine cN.mono ?_; clear cN; rintro e w1 ⟨rfl, hb1⟩)
  go_ret
  exact ⟨rfl, Lq.ofBelow ⟨mb, m, HH.out⟩ hb1⟩
set_option maxHeartbeats 1600000 in
theorem set_2 (s : By) (a : Option Addr) (n c : Nat) (ts : List By) (w : World) (F : Nat → Prop) (q mb : Nat) (m : By → Option Rw) (P : Pl) (h : LsM w F q mb m P) (hs : s.length ≤ 1000000) (hR : TRd w a n c ts) (hn : n ≤ 100000) (hts : ∀ t ∈ ts, t.length ≤ 2000000) (hT : Lib.Utf8Tabs 0 1 w) (h0 : nameE s = 0) (h1 : (readR ts).2 ≠ 0) :
    Calls Tryz.prog 18 #[.pointer (some ⟨q, 0, none⟩), .string (ba s), .slice a n c] w fun e w' => e = .returned (.int .i64 ((readR ts).2 : Nat)) ∧ Lq w F q P w' := by
  have cN := checkName_any (ba s) w (by rw [ba_size]; omega) hT
  rw [ba_list] at cN
  have HH : Hid (LsM w F q mb m P) := h
  have hlen : ts.length = n := hR.len
  rw [h0] at cN
  have cR : Hid (∀ w1, Below w.heap.size w w1 → Calls Tryz.prog 41 #[.slice a n c] w1 (fun e w2 => e = .returned (.tuple #[.slice none 0 0, .int .i64 ((readR ts).2 : Nat)]) ∧ Below w1.heap.size w1 w2)) := fun w1 hb => (read_any a n c ts w1 (hR.below hb) hn hts (tabs_bel hT hb)).mono (fun e w2 hh => ⟨hh.1.elim (fun z => absurd z.1 h1) (fun z => z.2), hh.2⟩)
  clear hR hn hts hT h hlen hs h0
  generalize (readR ts).2 = ne at *
  have hd : ((ne : Int) != 0) = true := by simp; omega
  clear h1
  go_enter Tryz.func18, Tryz.ntmps18
  go_wp2_with (first
    | (go_at_call 40; refine cN.mono ?_; clear cN; rintro e w1 ⟨rfl, hb1⟩; have cR := cR.out w1 hb1)
    | (go_at_call 41; refine cR.mono ?_; clear cR; rintro e w2 ⟨rfl, hb2⟩))
  go_ret
  exact ⟨rfl, Lq.ofBelow ⟨mb, m, HH.out⟩ (hb1.trans (hb2.mono hb1.size))⟩
set_option maxHeartbeats 1600000 in
theorem set_3 (s : By) (a : Option Addr) (n c : Nat) (ts : List By) (w : World) (F : Nat → Prop) (q mb : Nat) (m : By → Option Rw) (P : Pl) (h : LsM w F q mb m P) (hs : s.length ≤ 1000000) (hR : TRd w a n c ts) (hn : n ≤ 100000) (hts : ∀ t ∈ ts, t.length ≤ 2000000) (hk : P.ks.length < 900000) (hT : Lib.Utf8Tabs 0 1 w) (h0 : nameE s = 0) (h1 : (readR ts).2 = 0) (hd1 : Hid (decide (P.ru < (n : Int)) = true)) :
    Calls Tryz.prog 18 #[.pointer (some ⟨q, 0, none⟩), .string (ba s), .slice a n c] w fun e w' => e = .returned (.int .i64 8) ∧ Lq w F q P w' := by
  have cN := checkName_any (ba s) w (by rw [ba_size]; omega) hT
  rw [ba_list] at cN
  have HH : Hid (LsM w F q mb m P) := h
  have hlen : ts.length = n := hR.len
  rw [h0] at cN
  have cR2 : Hid (∀ w1, Below w.heap.size w w1 → Calls Tryz.prog 41 #[.slice a n c] w1 (fun e w2 => ∃ fa fc, e = .returned (.tuple #[.slice (fa.map fun g => ⟨g, 0, none⟩) n fc, .int .i64 0]) ∧ Hid (RRd w2 (fa, n, fc) (readR ts).1 ∧ (∀ g, fa = some g → w1.heap.size ≤ g) ∧ Below w1.heap.size w1 w2))) := fun w1 hb => (read_any a n c ts w1 (hR.below hb) hn hts (tabs_bel hT hb)).mono (fun e w2 hh => by
    obtain ⟨hA, hB⟩ := hh
    rcases hA with ⟨_, v, rfl, ho⟩ | ⟨hne, _⟩
    · obtain ⟨⟨fa, fn, fc⟩, rfl, hf, hfn, hfb⟩ := RRd.ofOwn ho
      have : fn = n := by rw [← hlen]; exact hfn
      subst this
      exact ⟨fa, fc, rfl, hf, fun g hg => (hfb g hg).1, hB⟩
    · exact absurd h1 hne)
  have HL : Hid (P.ks.length < 900000 ∧ s.length ≤ 1000000) := ⟨hk, hs⟩
  have cH : Hid (∀ w1, LsM w1 F q mb m P → Calls Tryz.prog 29 #[.pointer (some ⟨q, 0, none⟩), .string (ba s)] w1 fun e w' => e = .returned (.bool (P.m s).isSome) ∧ w' = w1) := fun w1 k => has_any s w1 F q mb m P k hs
  generalize (readR ts).1 = rs at *
  clear hR hn hts hk hT h hlen hs h0 h1
  go_enter Tryz.func18, Tryz.ntmps18
  go_upto_region 7 with (first
    | (go_at_call 40; refine cN.mono ?_; clear cN; rintro e w1 ⟨rfl, hb1⟩; have cR := cR2.out w1 hb1; clear cR2)
    | (go_at_call 41; refine cR.mono ?_; clear cR; rintro e w2 ⟨fa, fc, rfl, hf⟩))
  have HB2 : Hid (Below w.heap.size w w2.drew ∧ RRd w2.drew (fa, n, fc) rs ∧ ∀ g, fa = some g → w.heap.size ≤ g) := ⟨(hb1.trans (hf.out.2.2.mono hb1.size)).drew, hf.out.1.keep (S := fun _ => False) (Keep.refl _ _).drew (fun _ _ h => h), fun g hg => Nat.le_trans hb1.size (hf.out.2.1 g hg)⟩
  have HS0 : LsM w2.drew F q mb m P := HH.out.below HB2.out.1
  clear hf hb1
  refine wp_region_lx (fun w' => LsM w' F q mb m P) [] 25 (by kernel_rfl) (by kernel_rfl) ?_
  generalize hfa : (fa.map fun g => (⟨g, 0, none⟩ : Addr)) = fA
  replace hfa : Hid _ := hfa
  generalize w2.drew = X at HB2 HS0 ⊢
  obtain ⟨len, HLn⟩ : ∃ len, Hid (P.ks.length = len) := ⟨_, rfl⟩
  refine lx_rd 0 ?vA0 (by kernel_rfl) (fun _ _ d _ _ h => by cases d <;> exact h) (by kernel_rfl) HS0 rfl rfl rfl (fun w' hS => ?hA0) ?_
  case hA0 => first | (go_simp; rfl) | go_simp
  simp only [List.setIfInBounds_toArray, List.set_cons_zero, List.set_cons_succ]
  refine lx_rd 1 (.int .i64 n) (by kernel_rfl) (fun _ _ d _ _ h => by cases d <;> exact h) (by kernel_rfl) HS0 rfl rfl rfl (fun w' hS => ?hA1) ?_
  case hA1 => first | (go_simp; rfl) | go_simp
  simp only [List.setIfInBounds_toArray, List.set_cons_zero, List.set_cons_succ]
  refine lx_rd 2 (.pointer (some ⟨q, 0, none⟩)) (by kernel_rfl) (fun _ _ d _ _ h => by cases d <;> exact h) (by kernel_rfl) HS0 rfl rfl rfl (fun w' hS => ?hA2) ?_
  case hA2 => first | (go_simp; rfl) | go_simp
  simp only [List.setIfInBounds_toArray, List.set_cons_zero, List.set_cons_succ]
  refine lx_rd 3 (.pointer (some ⟨q, 0, none⟩)) (by kernel_rfl) (fun _ _ d _ _ h => by cases d <;> exact h) (by kernel_rfl) HS0 rfl rfl rfl (fun w' hS => ?hA3) ?_
  case hA3 => first | (go_simp; rfl) | go_simp
  simp only [List.setIfInBounds_toArray, List.set_cons_zero, List.set_cons_succ]
  refine lx_rd 4 (.pointer (some ⟨q, 1, none⟩)) (by kernel_rfl) (fun _ _ d _ _ h => by cases d <;> exact h) (by kernel_rfl) HS0 rfl rfl rfl (fun w' hS => ?hA4) ?_
  case hA4 => first | (go_simp; rfl) | go_simp
  simp only [List.setIfInBounds_toArray, List.set_cons_zero, List.set_cons_succ]
  refine lx_rd 5 (.int .i64 P.ru) (by kernel_rfl) (fun _ _ d _ _ h => by cases d <;> exact h) (by kernel_rfl) HS0 rfl rfl rfl (fun w' hS => ?hA5) ?_
  case hA5 => have q0 := hS.c1; first | (go_simp; rfl) | go_simp
  simp only [List.setIfInBounds_toArray, List.set_cons_zero, List.set_cons_succ]
  refine lx_rd 6 (.bool true) (by kernel_rfl) (fun _ _ d _ _ h => by cases d <;> exact h) (by kernel_rfl) HS0 rfl rfl rfl (fun w' hS => ?hA6) ?_
  case hA6 => have q1 := hd1.out; first | (go_simp; rfl) | go_simp
  simp only [List.setIfInBounds_toArray, List.set_cons_zero, List.set_cons_succ]
  refine lx_rd 7 (.bool true) (by kernel_rfl) (fun _ _ d _ _ h => by cases d <;> exact h) (by kernel_rfl) HS0 rfl rfl rfl (fun w' hS => ?hA7) ?_
  case hA7 => first | (go_simp; rfl) | go_simp
  simp only [List.setIfInBounds_toArray, List.set_cons_zero, List.set_cons_succ]
  refine lx_skip 8 (by kernel_rfl) (fun _ _ d _ _ h => by cases d <;> exact h) (by kernel_rfl) HS0 rfl rfl rfl ?_
  simp only [List.setIfInBounds_toArray, List.set_cons_zero, List.set_cons_succ]
  refine lx_skip 9 (by kernel_rfl) (fun _ _ d _ _ h => by cases d <;> exact h) (by kernel_rfl) HS0 rfl rfl rfl ?_
  simp only [List.setIfInBounds_toArray, List.set_cons_zero, List.set_cons_succ]
  refine lx_skip 10 (by kernel_rfl) (fun _ _ d _ _ h => by cases d <;> exact h) (by kernel_rfl) HS0 rfl rfl rfl ?_
  simp only [List.setIfInBounds_toArray, List.set_cons_zero, List.set_cons_succ]
  refine lx_skip 11 (by kernel_rfl) (fun _ _ d _ _ h => by cases d <;> exact h) (by kernel_rfl) HS0 rfl rfl rfl ?_
  simp only [List.setIfInBounds_toArray, List.set_cons_zero, List.set_cons_succ]
  refine lx_skip 12 (by kernel_rfl) (fun _ _ d _ _ h => by cases d <;> exact h) (by kernel_rfl) HS0 rfl rfl rfl ?_
  simp only [List.setIfInBounds_toArray, List.set_cons_zero, List.set_cons_succ]
  refine lx_skip 13 (by kernel_rfl) (fun _ _ d _ _ h => by cases d <;> exact h) (by kernel_rfl) HS0 rfl rfl rfl ?_
  simp only [List.setIfInBounds_toArray, List.set_cons_zero, List.set_cons_succ]
  refine lx_skip 14 (by kernel_rfl) (fun _ _ d _ _ h => by cases d <;> exact h) (by kernel_rfl) HS0 rfl rfl rfl ?_
  simp only [List.setIfInBounds_toArray, List.set_cons_zero, List.set_cons_succ]
  refine lx_skip 15 (by kernel_rfl) (fun _ _ d _ _ h => by cases d <;> exact h) (by kernel_rfl) HS0 rfl rfl rfl ?_
  simp only [List.setIfInBounds_toArray, List.set_cons_zero, List.set_cons_succ]
  refine lx_skip 16 (by kernel_rfl) (fun _ _ d _ _ h => by cases d <;> exact h) (by kernel_rfl) HS0 rfl rfl rfl ?_
  simp only [List.setIfInBounds_toArray, List.set_cons_zero, List.set_cons_succ]
  refine lx_skip 17 (by kernel_rfl) (fun _ _ d _ _ h => by cases d <;> exact h) (by kernel_rfl) HS0 rfl rfl rfl ?_
  simp only [List.setIfInBounds_toArray, List.set_cons_zero, List.set_cons_succ]
  refine lx_skip 18 (by kernel_rfl) (fun _ _ d _ _ h => by cases d <;> exact h) (by kernel_rfl) HS0 rfl rfl rfl ?_
  simp only [List.setIfInBounds_toArray, List.set_cons_zero, List.set_cons_succ]
  refine lx_skip 19 (by kernel_rfl) (fun _ _ d _ _ h => by cases d <;> exact h) (by kernel_rfl) HS0 rfl rfl rfl ?_
  simp only [List.setIfInBounds_toArray, List.set_cons_zero, List.set_cons_succ]
  refine lx_skip 20 (by kernel_rfl) (fun _ _ d _ _ h => by cases d <;> exact h) (by kernel_rfl) HS0 rfl rfl rfl ?_
  simp only [List.setIfInBounds_toArray, List.set_cons_zero, List.set_cons_succ]
  refine lx_skip 21 (by kernel_rfl) (fun _ _ d _ _ h => by cases d <;> exact h) (by kernel_rfl) HS0 rfl rfl rfl ?_
  simp only [List.setIfInBounds_toArray, List.set_cons_zero, List.set_cons_succ]
  refine lx_skip 22 (by kernel_rfl) (fun _ _ d _ _ h => by cases d <;> exact h) (by kernel_rfl) HS0 rfl rfl rfl ?_
  simp only [List.setIfInBounds_toArray, List.set_cons_zero, List.set_cons_succ]
  refine lx_skip 23 (by kernel_rfl) (fun _ _ d _ _ h => by cases d <;> exact h) (by kernel_rfl) HS0 rfl rfl rfl ?_
  simp only [List.setIfInBounds_toArray, List.set_cons_zero, List.set_cons_succ]
  refine lx_rd 24 (.bool true) (by kernel_rfl) (fun _ _ d _ _ h => by cases d <;> exact h) (by kernel_rfl) HS0 rfl rfl rfl (fun w' hS => ?hE24) ?_
  case hE24 => first | (go_simp; rfl) | go_simp
  simp only [List.setIfInBounds_toArray, List.set_cons_zero, List.set_cons_succ]
  refine lx_nil (by kernel_rfl) ?_
  clear HS0 cH
  go_wp2
  go_ret
  exact ⟨rfl, Lq.ofBelow ⟨mb, m, HH.out⟩ HB2.out.1⟩
set_option maxHeartbeats 1600000 in
theorem set_4 (s : By) (a : Option Addr) (n c : Nat) (ts : List By) (w : World) (F : Nat → Prop) (q mb : Nat) (m : By → Option Rw) (P : Pl) (h : LsM w F q mb m P) (hs : s.length ≤ 1000000) (hR : TRd w a n c ts) (hn : n ≤ 100000) (hts : ∀ t ∈ ts, t.length ≤ 2000000) (hk : P.ks.length < 900000) (hT : Lib.Utf8Tabs 0 1 w) (h0 : nameE s = 0) (h1 : (readR ts).2 = 0) (hd1 : Hid (decide (P.ru < (n : Int)) = false)) (hh : (P.m s).isSome = true) :
    Calls Tryz.prog 18 #[.pointer (some ⟨q, 0, none⟩), .string (ba s), .slice a n c] w fun e w' => e = .returned (.int .i64 0) ∧ Lq w F q (putP P s (readR ts).1) w' := by
  have cN := checkName_any (ba s) w (by rw [ba_size]; omega) hT
  rw [ba_list] at cN
  have HH : Hid (LsM w F q mb m P) := h
  have hlen : ts.length = n := hR.len
  rw [h0] at cN
  have cR2 : Hid (∀ w1, Below w.heap.size w w1 → Calls Tryz.prog 41 #[.slice a n c] w1 (fun e w2 => ∃ fa fc, e = .returned (.tuple #[.slice (fa.map fun g => ⟨g, 0, none⟩) n fc, .int .i64 0]) ∧ Hid (RRd w2 (fa, n, fc) (readR ts).1 ∧ (∀ g, fa = some g → w1.heap.size ≤ g) ∧ Below w1.heap.size w1 w2))) := fun w1 hb => (read_any a n c ts w1 (hR.below hb) hn hts (tabs_bel hT hb)).mono (fun e w2 hh => by
    obtain ⟨hA, hB⟩ := hh
    rcases hA with ⟨_, v, rfl, ho⟩ | ⟨hne, _⟩
    · obtain ⟨⟨fa, fn, fc⟩, rfl, hf, hfn, hfb⟩ := RRd.ofOwn ho
      have : fn = n := by rw [← hlen]; exact hfn
      subst this
      exact ⟨fa, fc, rfl, hf, fun g hg => (hfb g hg).1, hB⟩
    · exact absurd h1 hne)
  have HL : Hid (P.ks.length < 900000 ∧ s.length ≤ 1000000) := ⟨hk, hs⟩
  have cH : Hid (∀ w1, LsM w1 F q mb m P → Calls Tryz.prog 29 #[.pointer (some ⟨q, 0, none⟩), .string (ba s)] w1 fun e w' => e = .returned (.bool (P.m s).isSome) ∧ w' = w1) := fun w1 k => has_any s w1 F q mb m P k hs
  generalize (readR ts).1 = rs at *
  clear hR hn hts hk hT h hlen hs h0 h1
  go_enter Tryz.func18, Tryz.ntmps18
  go_upto_region 7 with (first
    | (go_at_call 40; refine cN.mono ?_; clear cN; rintro e w1 ⟨rfl, hb1⟩; have cR := cR2.out w1 hb1; clear cR2)
    | (go_at_call 41; refine cR.mono ?_; clear cR; rintro e w2 ⟨fa, fc, rfl, hf⟩))
  have HB2 : Hid (Below w.heap.size w w2.drew ∧ RRd w2.drew (fa, n, fc) rs ∧ ∀ g, fa = some g → w.heap.size ≤ g) := ⟨(hb1.trans (hf.out.2.2.mono hb1.size)).drew, hf.out.1.keep (S := fun _ => False) (Keep.refl _ _).drew (fun _ _ h => h), fun g hg => Nat.le_trans hb1.size (hf.out.2.1 g hg)⟩
  have HS0 : LsM w2.drew F q mb m P := HH.out.below HB2.out.1
  clear hf hb1
  refine wp_region_lx (fun w' => LsM w' F q mb m P) [] 25 (by kernel_rfl) (by kernel_rfl) ?_
  generalize hfa : (fa.map fun g => (⟨g, 0, none⟩ : Addr)) = fA
  replace hfa : Hid _ := hfa
  generalize w2.drew = X at HB2 HS0 ⊢
  obtain ⟨len, HLn⟩ : ∃ len, Hid (P.ks.length = len) := ⟨_, rfl⟩
  rw [hh] at cH
  refine lx_rd 0 ?vA0 (by kernel_rfl) (fun _ _ d _ _ h => by cases d <;> exact h) (by kernel_rfl) HS0 rfl rfl rfl (fun w' hS => ?hA0) ?_
  case hA0 => first | (go_simp; rfl) | go_simp
  simp only [List.setIfInBounds_toArray, List.set_cons_zero, List.set_cons_succ]
  refine lx_rd 1 (.int .i64 n) (by kernel_rfl) (fun _ _ d _ _ h => by cases d <;> exact h) (by kernel_rfl) HS0 rfl rfl rfl (fun w' hS => ?hA1) ?_
  case hA1 => first | (go_simp; rfl) | go_simp
  simp only [List.setIfInBounds_toArray, List.set_cons_zero, List.set_cons_succ]
  refine lx_rd 2 (.pointer (some ⟨q, 0, none⟩)) (by kernel_rfl) (fun _ _ d _ _ h => by cases d <;> exact h) (by kernel_rfl) HS0 rfl rfl rfl (fun w' hS => ?hA2) ?_
  case hA2 => first | (go_simp; rfl) | go_simp
  simp only [List.setIfInBounds_toArray, List.set_cons_zero, List.set_cons_succ]
  refine lx_rd 3 (.pointer (some ⟨q, 0, none⟩)) (by kernel_rfl) (fun _ _ d _ _ h => by cases d <;> exact h) (by kernel_rfl) HS0 rfl rfl rfl (fun w' hS => ?hA3) ?_
  case hA3 => first | (go_simp; rfl) | go_simp
  simp only [List.setIfInBounds_toArray, List.set_cons_zero, List.set_cons_succ]
  refine lx_rd 4 (.pointer (some ⟨q, 1, none⟩)) (by kernel_rfl) (fun _ _ d _ _ h => by cases d <;> exact h) (by kernel_rfl) HS0 rfl rfl rfl (fun w' hS => ?hA4) ?_
  case hA4 => first | (go_simp; rfl) | go_simp
  simp only [List.setIfInBounds_toArray, List.set_cons_zero, List.set_cons_succ]
  refine lx_rd 5 (.int .i64 P.ru) (by kernel_rfl) (fun _ _ d _ _ h => by cases d <;> exact h) (by kernel_rfl) HS0 rfl rfl rfl (fun w' hS => ?hA5) ?_
  case hA5 => have q0 := hS.c1; first | (go_simp; rfl) | go_simp
  simp only [List.setIfInBounds_toArray, List.set_cons_zero, List.set_cons_succ]
  refine lx_rd 6 (.bool false) (by kernel_rfl) (fun _ _ d _ _ h => by cases d <;> exact h) (by kernel_rfl) HS0 rfl rfl rfl (fun w' hS => ?hA6) ?_
  case hA6 => have q1 := hd1.out; first | (go_simp; rfl) | go_simp
  simp only [List.setIfInBounds_toArray, List.set_cons_zero, List.set_cons_succ]
  refine lx_rd 7 (.bool false) (by kernel_rfl) (fun _ _ d _ _ h => by cases d <;> exact h) (by kernel_rfl) HS0 rfl rfl rfl (fun w' hS => ?hA7) ?_
  case hA7 => first | (go_simp; rfl) | go_simp
  simp only [List.setIfInBounds_toArray, List.set_cons_zero, List.set_cons_succ]
  refine lx_rd 8 ?vB8 (by kernel_rfl) (fun _ _ d _ _ h => by cases d <;> exact h) (by kernel_rfl) HS0 rfl rfl rfl (fun w' hS => ?hB8) ?_
  case hB8 => first | (go_simp; rfl) | go_simp
  simp only [List.setIfInBounds_toArray, List.set_cons_zero, List.set_cons_succ]
  refine lx_rd 9 ?vB9 (by kernel_rfl) (fun _ _ d _ _ h => by cases d <;> exact h) (by kernel_rfl) HS0 rfl rfl rfl (fun w' hS => ?hB9) ?_
  case hB9 => first | (go_simp; rfl) | go_simp
  simp only [List.setIfInBounds_toArray, List.set_cons_zero, List.set_cons_succ]
  refine lx_one 10 (by kernel_rfl) (stepT_call 29 ?ac rfl rfl rfl ?rc ?_)
  case rc => first | (go_simp; rfl) | go_simp
  refine (cH.out X HS0).mono ?_
  rintro e w3 ⟨rfl, hw3⟩
  replace hw3 := hw3.symm
  subst hw3
  refine ⟨_, rfl, fun _ => HS0, ?_⟩
  simp only [lxa, lxb, lxc]
  refine lx_rd 11 (.bool false) (by kernel_rfl) (fun _ _ d _ _ h => by cases d <;> exact h) (by kernel_rfl) HS0 rfl rfl rfl (fun w' hS => ?hF11) ?_
  case hF11 => first | (go_simp; rfl) | go_simp
  simp only [List.setIfInBounds_toArray, List.set_cons_zero, List.set_cons_succ]
  refine lx_rd 12 (.bool false) (by kernel_rfl) (fun _ _ d _ _ h => by cases d <;> exact h) (by kernel_rfl) HS0 rfl rfl rfl (fun w' hS => ?hF12) ?_
  case hF12 => first | (go_simp; rfl) | go_simp
  simp only [List.setIfInBounds_toArray, List.set_cons_zero, List.set_cons_succ]
  refine lx_skip 13 (by kernel_rfl) (fun _ _ d _ _ h => by cases d <;> exact h) (by kernel_rfl) HS0 rfl rfl rfl ?_
  simp only [List.setIfInBounds_toArray, List.set_cons_zero, List.set_cons_succ]
  refine lx_skip 14 (by kernel_rfl) (fun _ _ d _ _ h => by cases d <;> exact h) (by kernel_rfl) HS0 rfl rfl rfl ?_
  simp only [List.setIfInBounds_toArray, List.set_cons_zero, List.set_cons_succ]
  refine lx_skip 15 (by kernel_rfl) (fun _ _ d _ _ h => by cases d <;> exact h) (by kernel_rfl) HS0 rfl rfl rfl ?_
  simp only [List.setIfInBounds_toArray, List.set_cons_zero, List.set_cons_succ]
  refine lx_skip 16 (by kernel_rfl) (fun _ _ d _ _ h => by cases d <;> exact h) (by kernel_rfl) HS0 rfl rfl rfl ?_
  simp only [List.setIfInBounds_toArray, List.set_cons_zero, List.set_cons_succ]
  refine lx_skip 17 (by kernel_rfl) (fun _ _ d _ _ h => by cases d <;> exact h) (by kernel_rfl) HS0 rfl rfl rfl ?_
  simp only [List.setIfInBounds_toArray, List.set_cons_zero, List.set_cons_succ]
  refine lx_skip 18 (by kernel_rfl) (fun _ _ d _ _ h => by cases d <;> exact h) (by kernel_rfl) HS0 rfl rfl rfl ?_
  simp only [List.setIfInBounds_toArray, List.set_cons_zero, List.set_cons_succ]
  refine lx_skip 19 (by kernel_rfl) (fun _ _ d _ _ h => by cases d <;> exact h) (by kernel_rfl) HS0 rfl rfl rfl ?_
  simp only [List.setIfInBounds_toArray, List.set_cons_zero, List.set_cons_succ]
  refine lx_skip 20 (by kernel_rfl) (fun _ _ d _ _ h => by cases d <;> exact h) (by kernel_rfl) HS0 rfl rfl rfl ?_
  simp only [List.setIfInBounds_toArray, List.set_cons_zero, List.set_cons_succ]
  refine lx_skip 21 (by kernel_rfl) (fun _ _ d _ _ h => by cases d <;> exact h) (by kernel_rfl) HS0 rfl rfl rfl ?_
  simp only [List.setIfInBounds_toArray, List.set_cons_zero, List.set_cons_succ]
  refine lx_skip 22 (by kernel_rfl) (fun _ _ d _ _ h => by cases d <;> exact h) (by kernel_rfl) HS0 rfl rfl rfl ?_
  simp only [List.setIfInBounds_toArray, List.set_cons_zero, List.set_cons_succ]
  refine lx_rd 23 (.bool false) (by kernel_rfl) (fun _ _ d _ _ h => by cases d <;> exact h) (by kernel_rfl) HS0 rfl rfl rfl (fun w' hS => ?hH23) ?_
  case hH23 => first | (go_simp; rfl) | go_simp
  simp only [List.setIfInBounds_toArray, List.set_cons_zero, List.set_cons_succ]
  refine lx_rd 24 (.bool false) (by kernel_rfl) (fun _ _ d _ _ h => by cases d <;> exact h) (by kernel_rfl) HS0 rfl rfl rfl (fun w' hS => ?hH24) ?_
  case hH24 => first | (go_simp; rfl) | go_simp
  simp only [List.setIfInBounds_toArray, List.set_cons_zero, List.set_cons_succ]
  refine lx_nil (by kernel_rfl) ?_
  go_upto_region 9 with fail
  have HB3 : Hid (Below w.heap.size w X.drew ∧ RRd X.drew (fa, n, fc) rs ∧ ∀ g, fa = some g → w.heap.size ≤ g) := ⟨HB2.out.1.drew, HB2.out.2.1.keep (S := fun _ => False) (Keep.refl _ _).drew (fun _ _ h => h), HB2.out.2.2⟩
  have HS1 : LsM X.drew F q mb m P := HS0.keep (S := fun _ => False) (Keep.refl _ _).drew (fun _ _ h => h)
  clear HS0 HB2 cH
  refine wp_region_lx (fun w' => LsM w' F q mb m P) [7] 8 (by kernel_rfl) (by kernel_rfl) ?_
  generalize X.drew = Y at HB3 HS1 ⊢
  refine lx_rd 0 (.pointer (some ⟨q, 0, none⟩)) (by kernel_rfl) (fun _ _ d _ _ h => by cases d <;> exact h) (by kernel_rfl) HS1 rfl rfl rfl (fun w' hS => ?hD0) ?_
  case hD0 => first | (go_simp; rfl) | go_simp
  simp only [List.setIfInBounds_toArray, List.set_cons_zero, List.set_cons_succ]
  refine lx_rd 1 (.pointer (some ⟨q, 0, none⟩)) (by kernel_rfl) (fun _ _ d _ _ h => by cases d <;> exact h) (by kernel_rfl) HS1 rfl rfl rfl (fun w' hS => ?hD1) ?_
  case hD1 => first | (go_simp; rfl) | go_simp
  simp only [List.setIfInBounds_toArray, List.set_cons_zero, List.set_cons_succ]
  refine lx_rd 2 (.pointer (some ⟨q, 3, none⟩)) (by kernel_rfl) (fun _ _ d _ _ h => by cases d <;> exact h) (by kernel_rfl) HS1 rfl rfl rfl (fun w' hS => ?hD2) ?_
  case hD2 => first | (go_simp; rfl) | go_simp
  simp only [List.setIfInBounds_toArray, List.set_cons_zero, List.set_cons_succ]
  refine lx_rd 3 (.map (some mb)) (by kernel_rfl) (fun _ _ d _ _ h => by cases d <;> exact h) (by kernel_rfl) HS1 rfl rfl rfl (fun w' hS => ?hD3) ?_
  case hD3 => have q0 := hS.c3; first | (go_simp; rfl) | go_simp
  simp only [List.setIfInBounds_toArray, List.set_cons_zero, List.set_cons_succ]
  refine lx_rd 4 (.string (ba s)) (by kernel_rfl) (fun _ _ d _ _ h => by cases d <;> exact h) (by kernel_rfl) HS1 rfl rfl rfl (fun w' hS => ?hD4) ?_
  case hD4 => first | (go_simp; rfl) | go_simp
  simp only [List.setIfInBounds_toArray, List.set_cons_zero, List.set_cons_succ]
  refine lx_rd 6 ?vD6 (by kernel_rfl) (fun _ _ d _ _ h => by cases d <;> exact h) (by kernel_rfl) HS1 rfl rfl rfl (fun w' hS => ?hD6) ?_
  case hD6 => first | (go_simp; rfl) | go_simp
  simp only [List.setIfInBounds_toArray, List.set_cons_zero, List.set_cons_succ]
  refine lx_one 5 (by kernel_rfl) (stepT_call 31 ?ad rfl rfl rfl ?rd ?_)
  case rd => first | (go_simp; rfl) | go_simp
  refine (clone_any (ba s) Y (by rw [ba_size]; have := HL.out.2; omega)).mono ?_
  rintro e w4 ⟨rfl, hb4⟩
  refine ⟨_, rfl, fun _ => HS1.below hb4, ?_⟩
  simp only [lxa, lxb, lxc]
  have hm4 := (HS1.below hb4).map
  obtain ⟨w5, hr5, hm5, hk5⟩ := hm4.store (by have := HL.out.1; omega) s (by have := HL.out.2; unfold maxLen; omega) (fa, n, fc)
  refine lx_one 7 (by kernel_rfl) (stepT_store (w' := w5) rfl rfl rfl ?cd (fun h => by cases h) ?_)
  case cd => exact exec_mapput (.tmp 51) (.tmp 53) (.tmp 54) rfl mb rfl (ba s) rfl (rsl (fa, n, fc)) (by rw [show rsl (fa, n, fc) = .slice fA n fc from by unfold rsl; rw [hfa.out]]; rfl) hr5
  refine lx_nil (by kernel_rfl) ?_
  have HQ : Hid (Lq w F q (putP P s rs) w5) := HH.out.put (w1 := w4) (HB3.out.1.trans (hb4.mono HB3.out.1.size)) s (fa, n, fc) rs (HB3.out.2.1.below hb4) HB3.out.2.2 hm5 hk5
  clear HS1 hm4 hm5 hk5 hr5 HB3 hb4
  go_wp2
  go_ret
  exact ⟨rfl, HQ.out⟩
set_option maxHeartbeats 1600000 in
theorem set_5 (s : By) (a : Option Addr) (n c : Nat) (ts : List By) (w : World) (F : Nat → Prop) (q mb : Nat) (m : By → Option Rw) (P : Pl) (h : LsM w F q mb m P) (hs : s.length ≤ 1000000) (hR : TRd w a n c ts) (hn : n ≤ 100000) (hts : ∀ t ∈ ts, t.length ≤ 2000000) (hk : P.ks.length < 900000) (hT : Lib.Utf8Tabs 0 1 w) (h0 : nameE s = 0) (h1 : (readR ts).2 = 0) (hd1 : Hid (decide (P.ru < (n : Int)) = false)) (hh : (P.m s).isSome = false) (hd2 : Hid (decide (P.li ≤ (P.ks.length : Int)) = true)) :
    Calls Tryz.prog 18 #[.pointer (some ⟨q, 0, none⟩), .string (ba s), .slice a n c] w fun e w' => e = .returned (.int .i64 8) ∧ Lq w F q P w' := by
  have cN := checkName_any (ba s) w (by rw [ba_size]; omega) hT
  rw [ba_list] at cN
  have HH : Hid (LsM w F q mb m P) := h
  have hlen : ts.length = n := hR.len
  rw [h0] at cN
  have cR2 : Hid (∀ w1, Below w.heap.size w w1 → Calls Tryz.prog 41 #[.slice a n c] w1 (fun e w2 => ∃ fa fc, e = .returned (.tuple #[.slice (fa.map fun g => ⟨g, 0, none⟩) n fc, .int .i64 0]) ∧ Hid (RRd w2 (fa, n, fc) (readR ts).1 ∧ (∀ g, fa = some g → w1.heap.size ≤ g) ∧ Below w1.heap.size w1 w2))) := fun w1 hb => (read_any a n c ts w1 (hR.below hb) hn hts (tabs_bel hT hb)).mono (fun e w2 hh => by
    obtain ⟨hA, hB⟩ := hh
    rcases hA with ⟨_, v, rfl, ho⟩ | ⟨hne, _⟩
    · obtain ⟨⟨fa, fn, fc⟩, rfl, hf, hfn, hfb⟩ := RRd.ofOwn ho
      have : fn = n := by rw [← hlen]; exact hfn
      subst this
      exact ⟨fa, fc, rfl, hf, fun g hg => (hfb g hg).1, hB⟩
    · exact absurd h1 hne)
  have HL : Hid (P.ks.length < 900000 ∧ s.length ≤ 1000000) := ⟨hk, hs⟩
  have cH : Hid (∀ w1, LsM w1 F q mb m P → Calls Tryz.prog 29 #[.pointer (some ⟨q, 0, none⟩), .string (ba s)] w1 fun e w' => e = .returned (.bool (P.m s).isSome) ∧ w' = w1) := fun w1 k => has_any s w1 F q mb m P k hs
  generalize (readR ts).1 = rs at *
  clear hR hn hts hk hT h hlen hs h0 h1
  go_enter Tryz.func18, Tryz.ntmps18
  go_upto_region 7 with (first
    | (go_at_call 40; refine cN.mono ?_; clear cN; rintro e w1 ⟨rfl, hb1⟩; have cR := cR2.out w1 hb1; clear cR2)
    | (go_at_call 41; refine cR.mono ?_; clear cR; rintro e w2 ⟨fa, fc, rfl, hf⟩))
  have HB2 : Hid (Below w.heap.size w w2.drew ∧ RRd w2.drew (fa, n, fc) rs ∧ ∀ g, fa = some g → w.heap.size ≤ g) := ⟨(hb1.trans (hf.out.2.2.mono hb1.size)).drew, hf.out.1.keep (S := fun _ => False) (Keep.refl _ _).drew (fun _ _ h => h), fun g hg => Nat.le_trans hb1.size (hf.out.2.1 g hg)⟩
  have HS0 : LsM w2.drew F q mb m P := HH.out.below HB2.out.1
  clear hf hb1
  refine wp_region_lx (fun w' => LsM w' F q mb m P) [] 25 (by kernel_rfl) (by kernel_rfl) ?_
  generalize hfa : (fa.map fun g => (⟨g, 0, none⟩ : Addr)) = fA
  replace hfa : Hid _ := hfa
  generalize w2.drew = X at HB2 HS0 ⊢
  obtain ⟨len, HLn⟩ : ∃ len, Hid (P.ks.length = len) := ⟨_, rfl⟩
  rw [HLn.out] at hd2
  rw [hh] at cH
  refine lx_rd 0 ?vA0 (by kernel_rfl) (fun _ _ d _ _ h => by cases d <;> exact h) (by kernel_rfl) HS0 rfl rfl rfl (fun w' hS => ?hA0) ?_
  case hA0 => first | (go_simp; rfl) | go_simp
  simp only [List.setIfInBounds_toArray, List.set_cons_zero, List.set_cons_succ]
  refine lx_rd 1 (.int .i64 n) (by kernel_rfl) (fun _ _ d _ _ h => by cases d <;> exact h) (by kernel_rfl) HS0 rfl rfl rfl (fun w' hS => ?hA1) ?_
  case hA1 => first | (go_simp; rfl) | go_simp
  simp only [List.setIfInBounds_toArray, List.set_cons_zero, List.set_cons_succ]
  refine lx_rd 2 (.pointer (some ⟨q, 0, none⟩)) (by kernel_rfl) (fun _ _ d _ _ h => by cases d <;> exact h) (by kernel_rfl) HS0 rfl rfl rfl (fun w' hS => ?hA2) ?_
  case hA2 => first | (go_simp; rfl) | go_simp
  simp only [List.setIfInBounds_toArray, List.set_cons_zero, List.set_cons_succ]
  refine lx_rd 3 (.pointer (some ⟨q, 0, none⟩)) (by kernel_rfl) (fun _ _ d _ _ h => by cases d <;> exact h) (by kernel_rfl) HS0 rfl rfl rfl (fun w' hS => ?hA3) ?_
  case hA3 => first | (go_simp; rfl) | go_simp
  simp only [List.setIfInBounds_toArray, List.set_cons_zero, List.set_cons_succ]
  refine lx_rd 4 (.pointer (some ⟨q, 1, none⟩)) (by kernel_rfl) (fun _ _ d _ _ h => by cases d <;> exact h) (by kernel_rfl) HS0 rfl rfl rfl (fun w' hS => ?hA4) ?_
  case hA4 => first | (go_simp; rfl) | go_simp
  simp only [List.setIfInBounds_toArray, List.set_cons_zero, List.set_cons_succ]
  refine lx_rd 5 (.int .i64 P.ru) (by kernel_rfl) (fun _ _ d _ _ h => by cases d <;> exact h) (by kernel_rfl) HS0 rfl rfl rfl (fun w' hS => ?hA5) ?_
  case hA5 => have q0 := hS.c1; first | (go_simp; rfl) | go_simp
  simp only [List.setIfInBounds_toArray, List.set_cons_zero, List.set_cons_succ]
  refine lx_rd 6 (.bool false) (by kernel_rfl) (fun _ _ d _ _ h => by cases d <;> exact h) (by kernel_rfl) HS0 rfl rfl rfl (fun w' hS => ?hA6) ?_
  case hA6 => have q1 := hd1.out; first | (go_simp; rfl) | go_simp
  simp only [List.setIfInBounds_toArray, List.set_cons_zero, List.set_cons_succ]
  refine lx_rd 7 (.bool false) (by kernel_rfl) (fun _ _ d _ _ h => by cases d <;> exact h) (by kernel_rfl) HS0 rfl rfl rfl (fun w' hS => ?hA7) ?_
  case hA7 => first | (go_simp; rfl) | go_simp
  simp only [List.setIfInBounds_toArray, List.set_cons_zero, List.set_cons_succ]
  refine lx_rd 8 ?vB8 (by kernel_rfl) (fun _ _ d _ _ h => by cases d <;> exact h) (by kernel_rfl) HS0 rfl rfl rfl (fun w' hS => ?hB8) ?_
  case hB8 => first | (go_simp; rfl) | go_simp
  simp only [List.setIfInBounds_toArray, List.set_cons_zero, List.set_cons_succ]
  refine lx_rd 9 ?vB9 (by kernel_rfl) (fun _ _ d _ _ h => by cases d <;> exact h) (by kernel_rfl) HS0 rfl rfl rfl (fun w' hS => ?hB9) ?_
  case hB9 => first | (go_simp; rfl) | go_simp
  simp only [List.setIfInBounds_toArray, List.set_cons_zero, List.set_cons_succ]
  refine lx_one 10 (by kernel_rfl) (stepT_call 29 ?ac rfl rfl rfl ?rc ?_)
  case rc => first | (go_simp; rfl) | go_simp
  refine (cH.out X HS0).mono ?_
  rintro e w3 ⟨rfl, hw3⟩
  replace hw3 := hw3.symm
  subst hw3
  refine ⟨_, rfl, fun _ => HS0, ?_⟩
  simp only [lxa, lxb, lxc]
  refine lx_rd 11 (.bool true) (by kernel_rfl) (fun _ _ d _ _ h => by cases d <;> exact h) (by kernel_rfl) HS0 rfl rfl rfl (fun w' hS => ?hF11) ?_
  case hF11 => first | (go_simp; rfl) | go_simp
  simp only [List.setIfInBounds_toArray, List.set_cons_zero, List.set_cons_succ]
  refine lx_rd 12 (.bool true) (by kernel_rfl) (fun _ _ d _ _ h => by cases d <;> exact h) (by kernel_rfl) HS0 rfl rfl rfl (fun w' hS => ?hF12) ?_
  case hF12 => first | (go_simp; rfl) | go_simp
  simp only [List.setIfInBounds_toArray, List.set_cons_zero, List.set_cons_succ]
  refine lx_rd 13 (.pointer (some ⟨q, 0, none⟩)) (by kernel_rfl) (fun _ _ d _ _ h => by cases d <;> exact h) (by kernel_rfl) HS0 rfl rfl rfl (fun w' hS => ?hC13) ?_
  case hC13 => first | (go_simp; rfl) | go_simp
  simp only [List.setIfInBounds_toArray, List.set_cons_zero, List.set_cons_succ]
  refine lx_rd 14 (.pointer (some ⟨q, 0, none⟩)) (by kernel_rfl) (fun _ _ d _ _ h => by cases d <;> exact h) (by kernel_rfl) HS0 rfl rfl rfl (fun w' hS => ?hC14) ?_
  case hC14 => first | (go_simp; rfl) | go_simp
  simp only [List.setIfInBounds_toArray, List.set_cons_zero, List.set_cons_succ]
  refine lx_rd 15 (.pointer (some ⟨q, 3, none⟩)) (by kernel_rfl) (fun _ _ d _ _ h => by cases d <;> exact h) (by kernel_rfl) HS0 rfl rfl rfl (fun w' hS => ?hC15) ?_
  case hC15 => first | (go_simp; rfl) | go_simp
  simp only [List.setIfInBounds_toArray, List.set_cons_zero, List.set_cons_succ]
  refine lx_rd 16 (.map (some mb)) (by kernel_rfl) (fun _ _ d _ _ h => by cases d <;> exact h) (by kernel_rfl) HS0 rfl rfl rfl (fun w' hS => ?hC16) ?_
  case hC16 => have q0 := hS.c3; first | (go_simp; rfl) | go_simp
  simp only [List.setIfInBounds_toArray, List.set_cons_zero, List.set_cons_succ]
  refine lx_rd 17 (.int .i64 len) (by kernel_rfl) (fun _ _ d _ _ h => by cases d <;> exact h) (by kernel_rfl) HS0 rfl rfl rfl (fun w' hS => ?hC17) ?_
  case hC17 => have p := fun ty => hS.map.len P.ks hS.nd hS.hmem ty; rw [HLn.out] at p; first | (go_simp; rfl) | go_simp
  simp only [List.setIfInBounds_toArray, List.set_cons_zero, List.set_cons_succ]
  refine lx_rd 18 (.pointer (some ⟨q, 0, none⟩)) (by kernel_rfl) (fun _ _ d _ _ h => by cases d <;> exact h) (by kernel_rfl) HS0 rfl rfl rfl (fun w' hS => ?hC18) ?_
  case hC18 => first | (go_simp; rfl) | go_simp
  simp only [List.setIfInBounds_toArray, List.set_cons_zero, List.set_cons_succ]
  refine lx_rd 19 (.pointer (some ⟨q, 0, none⟩)) (by kernel_rfl) (fun _ _ d _ _ h => by cases d <;> exact h) (by kernel_rfl) HS0 rfl rfl rfl (fun w' hS => ?hC19) ?_
  case hC19 => first | (go_simp; rfl) | go_simp
  simp only [List.setIfInBounds_toArray, List.set_cons_zero, List.set_cons_succ]
  refine lx_rd 20 (.pointer (some ⟨q, 0, none⟩)) (by kernel_rfl) (fun _ _ d _ _ h => by cases d <;> exact h) (by kernel_rfl) HS0 rfl rfl rfl (fun w' hS => ?hC20) ?_
  case hC20 => first | (go_simp; rfl) | go_simp
  simp only [List.setIfInBounds_toArray, List.set_cons_zero, List.set_cons_succ]
  refine lx_rd 21 (.int .i64 P.li) (by kernel_rfl) (fun _ _ d _ _ h => by cases d <;> exact h) (by kernel_rfl) HS0 rfl rfl rfl (fun w' hS => ?hC21) ?_
  case hC21 => have q0 := hS.c0; first | (go_simp; rfl) | go_simp
  simp only [List.setIfInBounds_toArray, List.set_cons_zero, List.set_cons_succ]
  refine lx_rd 22 (.bool true) (by kernel_rfl) (fun _ _ d _ _ h => by cases d <;> exact h) (by kernel_rfl) HS0 rfl rfl rfl (fun w' hS => ?hC22) ?_
  case hC22 => have q1 := hd2.out; first | (go_simp; rfl) | go_simp
  simp only [List.setIfInBounds_toArray, List.set_cons_zero, List.set_cons_succ]
  refine lx_rd 23 (.bool true) (by kernel_rfl) (fun _ _ d _ _ h => by cases d <;> exact h) (by kernel_rfl) HS0 rfl rfl rfl (fun w' hS => ?hC23) ?_
  case hC23 => first | (go_simp; rfl) | go_simp
  simp only [List.setIfInBounds_toArray, List.set_cons_zero, List.set_cons_succ]
  refine lx_rd 24 (.bool true) (by kernel_rfl) (fun _ _ d _ _ h => by cases d <;> exact h) (by kernel_rfl) HS0 rfl rfl rfl (fun w' hS => ?hC24) ?_
  case hC24 => first | (go_simp; rfl) | go_simp
  simp only [List.setIfInBounds_toArray, List.set_cons_zero, List.set_cons_succ]
  refine lx_nil (by kernel_rfl) ?_
  clear HS0 cH
  go_wp2
  go_ret
  exact ⟨rfl, Lq.ofBelow ⟨mb, m, HH.out⟩ HB2.out.1⟩
set_option maxHeartbeats 1600000 in
theorem set_6 (s : By) (a : Option Addr) (n c : Nat) (ts : List By) (w : World) (F : Nat → Prop) (q mb : Nat) (m : By → Option Rw) (P : Pl) (h : LsM w F q mb m P) (hs : s.length ≤ 1000000) (hR : TRd w a n c ts) (hn : n ≤ 100000) (hts : ∀ t ∈ ts, t.length ≤ 2000000) (hk : P.ks.length < 900000) (hT : Lib.Utf8Tabs 0 1 w) (h0 : nameE s = 0) (h1 : (readR ts).2 = 0) (hd1 : Hid (decide (P.ru < (n : Int)) = false)) (hh : (P.m s).isSome = false) (hd2 : Hid (decide (P.li ≤ (P.ks.length : Int)) = false)) :
    Calls Tryz.prog 18 #[.pointer (some ⟨q, 0, none⟩), .string (ba s), .slice a n c] w fun e w' => e = .returned (.int .i64 0) ∧ Lq w F q (putP P s (readR ts).1) w' := by
  have cN := checkName_any (ba s) w (by rw [ba_size]; omega) hT
  rw [ba_list] at cN
  have HH : Hid (LsM w F q mb m P) := h
  have hlen : ts.length = n := hR.len
  rw [h0] at cN
  have cR2 : Hid (∀ w1, Below w.heap.size w w1 → Calls Tryz.prog 41 #[.slice a n c] w1 (fun e w2 => ∃ fa fc, e = .returned (.tuple #[.slice (fa.map fun g => ⟨g, 0, none⟩) n fc, .int .i64 0]) ∧ Hid (RRd w2 (fa, n, fc) (readR ts).1 ∧ (∀ g, fa = some g → w1.heap.size ≤ g) ∧ Below w1.heap.size w1 w2))) := fun w1 hb => (read_any a n c ts w1 (hR.below hb) hn hts (tabs_bel hT hb)).mono (fun e w2 hh => by
    obtain ⟨hA, hB⟩ := hh
    rcases hA with ⟨_, v, rfl, ho⟩ | ⟨hne, _⟩
    · obtain ⟨⟨fa, fn, fc⟩, rfl, hf, hfn, hfb⟩ := RRd.ofOwn ho
      have : fn = n := by rw [← hlen]; exact hfn
      subst this
      exact ⟨fa, fc, rfl, hf, fun g hg => (hfb g hg).1, hB⟩
    · exact absurd h1 hne)
  have HL : Hid (P.ks.length < 900000 ∧ s.length ≤ 1000000) := ⟨hk, hs⟩
  have cH : Hid (∀ w1, LsM w1 F q mb m P → Calls Tryz.prog 29 #[.pointer (some ⟨q, 0, none⟩), .string (ba s)] w1 fun e w' => e = .returned (.bool (P.m s).isSome) ∧ w' = w1) := fun w1 k => has_any s w1 F q mb m P k hs
  generalize (readR ts).1 = rs at *
  clear hR hn hts hk hT h hlen hs h0 h1
  go_enter Tryz.func18, Tryz.ntmps18
  go_upto_region 7 with (first
    | (go_at_call 40; refine cN.mono ?_; clear cN; rintro e w1 ⟨rfl, hb1⟩; have cR := cR2.out w1 hb1; clear cR2)
    | (go_at_call 41; refine cR.mono ?_; clear cR; rintro e w2 ⟨fa, fc, rfl, hf⟩))
  have HB2 : Hid (Below w.heap.size w w2.drew ∧ RRd w2.drew (fa, n, fc) rs ∧ ∀ g, fa = some g → w.heap.size ≤ g) := ⟨(hb1.trans (hf.out.2.2.mono hb1.size)).drew, hf.out.1.keep (S := fun _ => False) (Keep.refl _ _).drew (fun _ _ h => h), fun g hg => Nat.le_trans hb1.size (hf.out.2.1 g hg)⟩
  have HS0 : LsM w2.drew F q mb m P := HH.out.below HB2.out.1
  clear hf hb1
  refine wp_region_lx (fun w' => LsM w' F q mb m P) [] 25 (by kernel_rfl) (by kernel_rfl) ?_
  generalize hfa : (fa.map fun g => (⟨g, 0, none⟩ : Addr)) = fA
  replace hfa : Hid _ := hfa
  generalize w2.drew = X at HB2 HS0 ⊢
  obtain ⟨len, HLn⟩ : ∃ len, Hid (P.ks.length = len) := ⟨_, rfl⟩
  rw [HLn.out] at hd2
  rw [hh] at cH
  refine lx_rd 0 ?vA0 (by kernel_rfl) (fun _ _ d _ _ h => by cases d <;> exact h) (by kernel_rfl) HS0 rfl rfl rfl (fun w' hS => ?hA0) ?_
  case hA0 => first | (go_simp; rfl) | go_simp
  simp only [List.setIfInBounds_toArray, List.set_cons_zero, List.set_cons_succ]
  refine lx_rd 1 (.int .i64 n) (by kernel_rfl) (fun _ _ d _ _ h => by cases d <;> exact h) (by kernel_rfl) HS0 rfl rfl rfl (fun w' hS => ?hA1) ?_
  case hA1 => first | (go_simp; rfl) | go_simp
  simp only [List.setIfInBounds_toArray, List.set_cons_zero, List.set_cons_succ]
  refine lx_rd 2 (.pointer (some ⟨q, 0, none⟩)) (by kernel_rfl) (fun _ _ d _ _ h => by cases d <;> exact h) (by kernel_rfl) HS0 rfl rfl rfl (fun w' hS => ?hA2) ?_
  case hA2 => first | (go_simp; rfl) | go_simp
  simp only [List.setIfInBounds_toArray, List.set_cons_zero, List.set_cons_succ]
  refine lx_rd 3 (.pointer (some ⟨q, 0, none⟩)) (by kernel_rfl) (fun _ _ d _ _ h => by cases d <;> exact h) (by kernel_rfl) HS0 rfl rfl rfl (fun w' hS => ?hA3) ?_
  case hA3 => first | (go_simp; rfl) | go_simp
  simp only [List.setIfInBounds_toArray, List.set_cons_zero, List.set_cons_succ]
  refine lx_rd 4 (.pointer (some ⟨q, 1, none⟩)) (by kernel_rfl) (fun _ _ d _ _ h => by cases d <;> exact h) (by kernel_rfl) HS0 rfl rfl rfl (fun w' hS => ?hA4) ?_
  case hA4 => first | (go_simp; rfl) | go_simp
  simp only [List.setIfInBounds_toArray, List.set_cons_zero, List.set_cons_succ]
  refine lx_rd 5 (.int .i64 P.ru) (by kernel_rfl) (fun _ _ d _ _ h => by cases d <;> exact h) (by kernel_rfl) HS0 rfl rfl rfl (fun w' hS => ?hA5) ?_
  case hA5 => have q0 := hS.c1; first | (go_simp; rfl) | go_simp
  simp only [List.setIfInBounds_toArray, List.set_cons_zero, List.set_cons_succ]
  refine lx_rd 6 (.bool false) (by kernel_rfl) (fun _ _ d _ _ h => by cases d <;> exact h) (by kernel_rfl) HS0 rfl rfl rfl (fun w' hS => ?hA6) ?_
  case hA6 => have q1 := hd1.out; first | (go_simp; rfl) | go_simp
  simp only [List.setIfInBounds_toArray, List.set_cons_zero, List.set_cons_succ]
  refine lx_rd 7 (.bool false) (by kernel_rfl) (fun _ _ d _ _ h => by cases d <;> exact h) (by kernel_rfl) HS0 rfl rfl rfl (fun w' hS => ?hA7) ?_
  case hA7 => first | (go_simp; rfl) | go_simp
  simp only [List.setIfInBounds_toArray, List.set_cons_zero, List.set_cons_succ]
  refine lx_rd 8 ?vB8 (by kernel_rfl) (fun _ _ d _ _ h => by cases d <;> exact h) (by kernel_rfl) HS0 rfl rfl rfl (fun w' hS => ?hB8) ?_
  case hB8 => first | (go_simp; rfl) | go_simp
  simp only [List.setIfInBounds_toArray, List.set_cons_zero, List.set_cons_succ]
  refine lx_rd 9 ?vB9 (by kernel_rfl) (fun _ _ d _ _ h => by cases d <;> exact h) (by kernel_rfl) HS0 rfl rfl rfl (fun w' hS => ?hB9) ?_
  case hB9 => first | (go_simp; rfl) | go_simp
  simp only [List.setIfInBounds_toArray, List.set_cons_zero, List.set_cons_succ]
  refine lx_one 10 (by kernel_rfl) (stepT_call 29 ?ac rfl rfl rfl ?rc ?_)
  case rc => first | (go_simp; rfl) | go_simp
  refine (cH.out X HS0).mono ?_
  rintro e w3 ⟨rfl, hw3⟩
  replace hw3 := hw3.symm
  subst hw3
  refine ⟨_, rfl, fun _ => HS0, ?_⟩
  simp only [lxa, lxb, lxc]
  refine lx_rd 11 (.bool true) (by kernel_rfl) (fun _ _ d _ _ h => by cases d <;> exact h) (by kernel_rfl) HS0 rfl rfl rfl (fun w' hS => ?hF11) ?_
  case hF11 => first | (go_simp; rfl) | go_simp
  simp only [List.setIfInBounds_toArray, List.set_cons_zero, List.set_cons_succ]
  refine lx_rd 12 (.bool true) (by kernel_rfl) (fun _ _ d _ _ h => by cases d <;> exact h) (by kernel_rfl) HS0 rfl rfl rfl (fun w' hS => ?hF12) ?_
  case hF12 => first | (go_simp; rfl) | go_simp
  simp only [List.setIfInBounds_toArray, List.set_cons_zero, List.set_cons_succ]
  refine lx_rd 13 (.pointer (some ⟨q, 0, none⟩)) (by kernel_rfl) (fun _ _ d _ _ h => by cases d <;> exact h) (by kernel_rfl) HS0 rfl rfl rfl (fun w' hS => ?hC13) ?_
  case hC13 => first | (go_simp; rfl) | go_simp
  simp only [List.setIfInBounds_toArray, List.set_cons_zero, List.set_cons_succ]
  refine lx_rd 14 (.pointer (some ⟨q, 0, none⟩)) (by kernel_rfl) (fun _ _ d _ _ h => by cases d <;> exact h) (by kernel_rfl) HS0 rfl rfl rfl (fun w' hS => ?hC14) ?_
  case hC14 => first | (go_simp; rfl) | go_simp
  simp only [List.setIfInBounds_toArray, List.set_cons_zero, List.set_cons_succ]
  refine lx_rd 15 (.pointer (some ⟨q, 3, none⟩)) (by kernel_rfl) (fun _ _ d _ _ h => by cases d <;> exact h) (by kernel_rfl) HS0 rfl rfl rfl (fun w' hS => ?hC15) ?_
  case hC15 => first | (go_simp; rfl) | go_simp
  simp only [List.setIfInBounds_toArray, List.set_cons_zero, List.set_cons_succ]
  refine lx_rd 16 (.map (some mb)) (by kernel_rfl) (fun _ _ d _ _ h => by cases d <;> exact h) (by kernel_rfl) HS0 rfl rfl rfl (fun w' hS => ?hC16) ?_
  case hC16 => have q0 := hS.c3; first | (go_simp; rfl) | go_simp
  simp only [List.setIfInBounds_toArray, List.set_cons_zero, List.set_cons_succ]
  refine lx_rd 17 (.int .i64 len) (by kernel_rfl) (fun _ _ d _ _ h => by cases d <;> exact h) (by kernel_rfl) HS0 rfl rfl rfl (fun w' hS => ?hC17) ?_
  case hC17 => have p := fun ty => hS.map.len P.ks hS.nd hS.hmem ty; rw [HLn.out] at p; first | (go_simp; rfl) | go_simp
  simp only [List.setIfInBounds_toArray, List.set_cons_zero, List.set_cons_succ]
  refine lx_rd 18 (.pointer (some ⟨q, 0, none⟩)) (by kernel_rfl) (fun _ _ d _ _ h => by cases d <;> exact h) (by kernel_rfl) HS0 rfl rfl rfl (fun w' hS => ?hC18) ?_
  case hC18 => first | (go_simp; rfl) | go_simp
  simp only [List.setIfInBounds_toArray, List.set_cons_zero, List.set_cons_succ]
  refine lx_rd 19 (.pointer (some ⟨q, 0, none⟩)) (by kernel_rfl) (fun _ _ d _ _ h => by cases d <;> exact h) (by kernel_rfl) HS0 rfl rfl rfl (fun w' hS => ?hC19) ?_
  case hC19 => first | (go_simp; rfl) | go_simp
  simp only [List.setIfInBounds_toArray, List.set_cons_zero, List.set_cons_succ]
  refine lx_rd 20 (.pointer (some ⟨q, 0, none⟩)) (by kernel_rfl) (fun _ _ d _ _ h => by cases d <;> exact h) (by kernel_rfl) HS0 rfl rfl rfl (fun w' hS => ?hC20) ?_
  case hC20 => first | (go_simp; rfl) | go_simp
  simp only [List.setIfInBounds_toArray, List.set_cons_zero, List.set_cons_succ]
  refine lx_rd 21 (.int .i64 P.li) (by kernel_rfl) (fun _ _ d _ _ h => by cases d <;> exact h) (by kernel_rfl) HS0 rfl rfl rfl (fun w' hS => ?hC21) ?_
  case hC21 => have q0 := hS.c0; first | (go_simp; rfl) | go_simp
  simp only [List.setIfInBounds_toArray, List.set_cons_zero, List.set_cons_succ]
  refine lx_rd 22 (.bool false) (by kernel_rfl) (fun _ _ d _ _ h => by cases d <;> exact h) (by kernel_rfl) HS0 rfl rfl rfl (fun w' hS => ?hC22) ?_
  case hC22 => have q1 := hd2.out; first | (go_simp; rfl) | go_simp
  simp only [List.setIfInBounds_toArray, List.set_cons_zero, List.set_cons_succ]
  refine lx_rd 23 (.bool false) (by kernel_rfl) (fun _ _ d _ _ h => by cases d <;> exact h) (by kernel_rfl) HS0 rfl rfl rfl (fun w' hS => ?hC23) ?_
  case hC23 => first | (go_simp; rfl) | go_simp
  simp only [List.setIfInBounds_toArray, List.set_cons_zero, List.set_cons_succ]
  refine lx_rd 24 (.bool false) (by kernel_rfl) (fun _ _ d _ _ h => by cases d <;> exact h) (by kernel_rfl) HS0 rfl rfl rfl (fun w' hS => ?hC24) ?_
  case hC24 => first | (go_simp; rfl) | go_simp
  simp only [List.setIfInBounds_toArray, List.set_cons_zero, List.set_cons_succ]
  refine lx_nil (by kernel_rfl) ?_
  go_upto_region 9 with fail
  have HB3 : Hid (Below w.heap.size w X.drew ∧ RRd X.drew (fa, n, fc) rs ∧ ∀ g, fa = some g → w.heap.size ≤ g) := ⟨HB2.out.1.drew, HB2.out.2.1.keep (S := fun _ => False) (Keep.refl _ _).drew (fun _ _ h => h), HB2.out.2.2⟩
  have HS1 : LsM X.drew F q mb m P := HS0.keep (S := fun _ => False) (Keep.refl _ _).drew (fun _ _ h => h)
  clear HS0 HB2 cH
  refine wp_region_lx (fun w' => LsM w' F q mb m P) [7] 8 (by kernel_rfl) (by kernel_rfl) ?_
  generalize X.drew = Y at HB3 HS1 ⊢
  refine lx_rd 0 (.pointer (some ⟨q, 0, none⟩)) (by kernel_rfl) (fun _ _ d _ _ h => by cases d <;> exact h) (by kernel_rfl) HS1 rfl rfl rfl (fun w' hS => ?hD0) ?_
  case hD0 => first | (go_simp; rfl) | go_simp
  simp only [List.setIfInBounds_toArray, List.set_cons_zero, List.set_cons_succ]
  refine lx_rd 1 (.pointer (some ⟨q, 0, none⟩)) (by kernel_rfl) (fun _ _ d _ _ h => by cases d <;> exact h) (by kernel_rfl) HS1 rfl rfl rfl (fun w' hS => ?hD1) ?_
  case hD1 => first | (go_simp; rfl) | go_simp
  simp only [List.setIfInBounds_toArray, List.set_cons_zero, List.set_cons_succ]
  refine lx_rd 2 (.pointer (some ⟨q, 3, none⟩)) (by kernel_rfl) (fun _ _ d _ _ h => by cases d <;> exact h) (by kernel_rfl) HS1 rfl rfl rfl (fun w' hS => ?hD2) ?_
  case hD2 => first | (go_simp; rfl) | go_simp
  simp only [List.setIfInBounds_toArray, List.set_cons_zero, List.set_cons_succ]
  refine lx_rd 3 (.map (some mb)) (by kernel_rfl) (fun _ _ d _ _ h => by cases d <;> exact h) (by kernel_rfl) HS1 rfl rfl rfl (fun w' hS => ?hD3) ?_
  case hD3 => have q0 := hS.c3; first | (go_simp; rfl) | go_simp
  simp only [List.setIfInBounds_toArray, List.set_cons_zero, List.set_cons_succ]
  refine lx_rd 4 (.string (ba s)) (by kernel_rfl) (fun _ _ d _ _ h => by cases d <;> exact h) (by kernel_rfl) HS1 rfl rfl rfl (fun w' hS => ?hD4) ?_
  case hD4 => first | (go_simp; rfl) | go_simp
  simp only [List.setIfInBounds_toArray, List.set_cons_zero, List.set_cons_succ]
  refine lx_rd 6 ?vD6 (by kernel_rfl) (fun _ _ d _ _ h => by cases d <;> exact h) (by kernel_rfl) HS1 rfl rfl rfl (fun w' hS => ?hD6) ?_
  case hD6 => first | (go_simp; rfl) | go_simp
  simp only [List.setIfInBounds_toArray, List.set_cons_zero, List.set_cons_succ]
  refine lx_one 5 (by kernel_rfl) (stepT_call 31 ?ad rfl rfl rfl ?rd ?_)
  case rd => first | (go_simp; rfl) | go_simp
  refine (clone_any (ba s) Y (by rw [ba_size]; have := HL.out.2; omega)).mono ?_
  rintro e w4 ⟨rfl, hb4⟩
  refine ⟨_, rfl, fun _ => HS1.below hb4, ?_⟩
  simp only [lxa, lxb, lxc]
  have hm4 := (HS1.below hb4).map
  obtain ⟨w5, hr5, hm5, hk5⟩ := hm4.store (by have := HL.out.1; omega) s (by have := HL.out.2; unfold maxLen; omega) (fa, n, fc)
  refine lx_one 7 (by kernel_rfl) (stepT_store (w' := w5) rfl rfl rfl ?cd (fun h => by cases h) ?_)
  case cd => exact exec_mapput (.tmp 51) (.tmp 53) (.tmp 54) rfl mb rfl (ba s) rfl (rsl (fa, n, fc)) (by rw [show rsl (fa, n, fc) = .slice fA n fc from by unfold rsl; rw [hfa.out]]; rfl) hr5
  refine lx_nil (by kernel_rfl) ?_
  have HQ : Hid (Lq w F q (putP P s rs) w5) := HH.out.put (w1 := w4) (HB3.out.1.trans (hb4.mono HB3.out.1.size)) s (fa, n, fc) rs (HB3.out.2.1.below hb4) HB3.out.2.2 hm5 hk5
  clear HS1 hm4 hm5 hk5 hr5 HB3 hb4
  go_wp2
  go_ret
  exact ⟨rfl, HQ.out⟩
theorem set_any (s : By) (a : Option Addr) (n c : Nat) (ts : List By) (w : World) (F : Nat → Prop) (q : Nat) (P : Pl) (h : LsAt w F q P) (hs : s.length ≤ 1000000) (hR : TRd w a n c ts) (hn : n ≤ 100000) (hts : ∀ t ∈ ts, t.length ≤ 2000000) (hk : P.ks.length < 900000) (hT : Lib.Utf8Tabs 0 1 w) :
    Calls Tryz.prog 18 #[.pointer (some ⟨q, 0, none⟩), .string (ba s), .slice a n c] w fun e w' => e = .returned (.int .i64 ((setR P s ts).1 : Nat)) ∧ Lq w F q (setR P s ts).2 w' := by
  obtain ⟨mb, m, h⟩ := h
  have hlen : ts.length = n := hR.len
  unfold setR
  rw [hlen]
  by_cases h0 : nameE s = 0
  · rw [if_neg (by simp [h0])]
    by_cases h1 : (readR ts).2 = 0
    · rw [if_neg (by simp [h1])]
      unfold fullR
      cases hd1 : decide (P.ru < (n : Int)) with
      | true => exact set_3 s a n c ts w F q mb m P h hs hR hn hts hk hT h0 h1 hd1
      | false =>
        cases hh : (P.m s).isSome with
        | true => exact set_4 s a n c ts w F q mb m P h hs hR hn hts hk hT h0 h1 hd1 hh
        | false =>
          cases hd2 : decide (P.li ≤ (P.ks.length : Int)) with
          | true => exact set_5 s a n c ts w F q mb m P h hs hR hn hts hk hT h0 h1 hd1 hh hd2
          | false => exact set_6 s a n c ts w F q mb m P h hs hR hn hts hk hT h0 h1 hd1 hh hd2
    · rw [if_pos h1]
      exact set_2 s a n c ts w F q mb m P h hs hR hn hts hT h0 h1
  · rw [if_pos h0]
    exact set_1 s a n c w F q mb m P h hs hT h0
end Go.Proofs.YtiplalbicibahaaGreatDoor
