/- lease: the map of the leases: texts to blocks, read by a function. -/
import Derived.Test.YtfakcjelibdnbaaOwnA
import Derived.Maps.OwnSet
import Derived.Maps.OwnOps
import Derived.Sort.KeysCollected
namespace Go.Proofs.Ytfakcjelibdnbaa
open Go.RowKit Go.Sort

def ptrO (o : Option Nat) : Value := .pointer (o.map fun b => ⟨b, 0, none⟩)
def pd : Option Nat → DataW Unit
  | none => .lit (.int .i64 (-1))
  | some b => .lit (.int .i64 b)
theorem pd_inj {s t : Option Nat} (h : pd s = pd t) : s = t := by
  have hi : ∀ {x y : Int}, (DataW.lit (.int .i64 x) : DataW Unit) = .lit (.int .i64 y) → x = y := fun h => by injection h with h; injection h
  cases s <;> cases t
  · rfl
  · have := hi h; omega
  · have := hi h; omega
  · rw [Int.ofNat.inj (hi h)]
def Rp (v : Value) : Option (DataW Unit × List MemPlace) :=
  match v with
  | .pointer none => some (pd none, [])
  | .pointer (some ⟨b, 0, none⟩) => some (pd (some b), [])
  | _ => none
theorem Rp_mk (o : Option Nat) : Rp (ptrO o) = some (pd o, []) := by cases o <;> rfl
theorem Rp_inv {v : Value} {o : Option Nat} {ps : List MemPlace} (h : Rp v = some (pd o, ps)) : v = ptrO o := by
  unfold Rp at h
  split at h
  · injection h with h
    have e0 : pd none = pd o := congrArg Prod.fst h
    have e := pd_inj e0
    rw [← e]; rfl
  · rename_i b
    injection h with h
    have e0 : pd (some b) = pd o := congrArg Prod.fst h
    have e := pd_inj e0
    rw [← e]; rfl
  · cases h

def kl (s : ByteArray) : Lit := .string s.data.toList
theorem kl_key (s : ByteArray) (hs : s.size ≤ maxLen) : keyOf Try.prog 9 (.string s) = some (kl s) := by
  rw [keyOf_string Try.underlying9]
  simp [mapKey, Try.underlying9, hs, kl]
theorem kl_is (s : ByteArray) : WideAt.IsKeyLit (kl s) := trivial
theorem ba_ext {s t : ByteArray} (h : s.data.toList = t.data.toList) : s = t := by
  apply ByteArray.ext
  exact Array.toList_inj.1 h
theorem kl_ne {s t : ByteArray} (h : s ≠ t) : kl s ≠ kl t := fun e => h (by
  unfold kl at e
  injection e with e
  exact ba_ext e)
theorem keyed : Maps.Keyed Try.prog 9 := Maps.string_keyed Try.underlying9
theorem zeroP (w : World) : (zeroValue 71).run Try.prog w = .ok (ptrO none) w := by kernel_rfl

/-- Block b is a map of at most n entries that holds m. -/
def PMap (w : World) (b n : Nat) (m : ByteArray → Option Nat) : Prop :=
  ∃ D : DataW Unit, w.ownsMap Try.prog 9 Rp b n D ∧ ∀ s : ByteArray, (∀ z, D.atKey (kl s) z = ((m s).map fun b => pd (some b)).getD z) ∧ Maps.has D (kl s) = (m s).isSome

def mputP (m : ByteArray → Option Nat) (u : ByteArray) (t : Option Nat) : ByteArray → Option Nat := fun s => if s = u then t else m s
theorem mputP_same (m : ByteArray → Option Nat) (u : ByteArray) (t : Option Nat) : mputP m u t u = t := by simp [mputP]
theorem mputP_other (m : ByteArray → Option Nat) {u s : ByteArray} (t : Option Nat) (h : s ≠ u) : mputP m u t s = m s := by simp [mputP, h]

theorem PMap.made (w : World) : PMap (w.alloc (.map #[] 0)) w.heap.size 0 (fun _ => none) :=
  ⟨_, World.ownsMap_made w _ _ _, fun _ => ⟨fun _ => rfl, rfl⟩⟩
theorem PMap.lt {w : World} {b n : Nat} {m : ByteArray → Option Nat} (h : PMap w b n m) : b < w.heap.size := by
  obtain ⟨D, hD, _⟩ := h; exact hD.lt
theorem PMap.keep {S : Nat → Prop} {w w' : World} {b n : Nat} {m : ByteArray → Option Nat} (h : PMap w b n m) (hk : Keep S w w') (hs : ¬ S b) : PMap w' b n m := by
  obtain ⟨D, hD, h2⟩ := h
  have hlt := hD.lt
  obtain ⟨es, clock, hb, F, h3, h4⟩ := hD
  exact ⟨D, ⟨es, clock, (hk.block b hlt hs).trans hb, F, h3, h4⟩, h2⟩
theorem PMap.notCells {w : World} {b n : Nat} {m : ByteArray → Option Nat} (h : PMap w b n m) {g : Nat} {cs : Array Value} {t : TypeId} {fr : Nat × Nat} (hc : w.heap[g]? = some (.cells cs t fr)) : g ≠ b := by
  obtain ⟨D, ⟨es, clock, hb, _⟩, h2⟩ := h
  intro e
  subst e
  rw [hb] at hc
  cases hc
theorem PMap.ext {w : World} {b n : Nat} {m m' : ByteArray → Option Nat} (h : PMap w b n m) (e : ∀ s, m s = m' s) : PMap w b n m' := by
  rw [← show m = m' from funext e]; exact h
theorem Keep.ofTurned {w w' : World} {b : Nat} (h : w.mapTurned w' b) : Keep (fun k => k = b) w w' := (Keep.ofGrown h.grown).mono (fun i e => by cases e; rfl)

/-- 'm[k]' at its run. -/
theorem PMap.look {w : World} {b n : Nat} {m : ByteArray → Option Nat} (h : PMap w b n m) (s : ByteArray) (hs : s.size ≤ maxLen) :
    (Instr.lookup 62 (.map (some b)) (.string s) false).run Try.prog w = .ok (ptrO (m s)) w := by
  obtain ⟨D, hD, h2⟩ := h
  obtain ⟨v, ps, hrun, hv⟩ := hD.lookup keyed Try.underlying62 (zeroP w) (Rp_mk none) (kl_key s hs)
  rw [hrun]
  rw [(h2 s).1] at hv
  have : v = ptrO (m s) := by
    cases hm : m s with
    | none => rw [hm] at hv; exact Rp_inv hv
    | some t => rw [hm] at hv; exact Rp_inv hv
  rw [this]

/-- 'm[k] = v' at its run. -/
theorem PMap.store {w : World} {b n : Nat} {m : ByteArray → Option Nat} (h : PMap w b n m) (hn : n < 1000000) (s : ByteArray) (hs : s.size ≤ maxLen) (t : Nat) :
    ∃ w', (Instr.mapUpdate 62 (.map (some b)) (.string s) (.pointer (some ⟨t, 0, none⟩))).run Try.prog w = .ok () w' ∧ PMap w' b (n + 1) (mputP m s (some t)) ∧ Keep (fun k => k = b) w w' := by
  obtain ⟨D, hD, h2⟩ := h
  obtain ⟨w', hrun, hown, hturn⟩ := hD.store keyed Try.underlying62 (by unfold maxLen; omega) (kl_key s hs) (Rp_mk (some t))
  refine ⟨w', hrun, ⟨_, hown, fun u => ?_⟩, Keep.ofTurned hturn⟩
  by_cases hu : u = s
  · subst hu
    rw [mputP_same]
    exact ⟨fun z => Maps.atKey_put_same hD.isMap (kl_is u) _ z, Maps.has_put_same hD.isMap (kl_is u) _⟩
  · rw [mputP_other m _ hu]
    exact ⟨fun z => (Maps.atKey_put_other (kl_ne hu) _ z).trans ((h2 u).1 z), (Maps.has_put_other (kl_ne hu) _).trans (h2 u).2⟩

/-- 'delete(m, k)' at its run. -/
theorem PMap.drop {w : World} {b n : Nat} {m : ByteArray → Option Nat} (h : PMap w b n m) (s : ByteArray) (hs : s.size ≤ maxLen) (ty : TypeId) :
    ∃ w', (Builtin.delete_ #[62, 9] ty #[.map (some b), .string s]).run Try.prog w = .ok (.tuple #[]) w' ∧ PMap w' b n (mputP m s none) ∧ Keep (fun k => k = b) w w' := by
  obtain ⟨D, hD, h2⟩ := h
  obtain ⟨w', hrun, hown, hturn⟩ := hD.drop keyed Try.underlying62 (kl_key s hs) ty
  refine ⟨w', hrun, ⟨_, hown, fun u => ?_⟩, Keep.ofTurned hturn⟩
  by_cases hu : u = s
  · subst hu
    rw [mputP_same]
    exact ⟨fun z => Maps.atKey_del_same z, Maps.has_del_same⟩
  · rw [mputP_other m _ hu]
    exact ⟨fun z => (Maps.atKey_del_other (kl_ne hu) z).trans ((h2 u).1 z), (Maps.has_del_other (kl_ne hu)).trans (h2 u).2⟩

/-- 'len(m)' at its run, by a list of its keys. -/
theorem PMap.len {w : World} {b n : Nat} {m : ByteArray → Option Nat} (h : PMap w b n m) (l : List ByteArray) (hl : l.Nodup) (hm : ∀ s, (m s).isSome = true ↔ s ∈ l) (ty : TypeId) :
    (Builtin.len_ #[62] ty #[.map (some b)]).run Try.prog w = .ok (.int .i64 l.length) w := by
  obtain ⟨D, hD, h2⟩ := h
  rw [hD.len Try.underlying62 ty]
  obtain ⟨es, rfl, hp, hkl⟩ := hD.entries keyed
  have hst : ∀ p ∈ es, ∃ x, p.1 = .string x := fun p hp' => by
    obtain ⟨es', hes, hko⟩ := hD.keysOf
    cases hes
    obtain ⟨key, hkey⟩ := hko p hp'
    obtain ⟨x, _, hx, _⟩ := Maps.keyOf_str Try.underlying9 hkey
    exact ⟨x, hx⟩
  have hperm : (l.map (fun s : ByteArray => s.data.toList)).Perm (strKeys (.map es)) := by
    refine perm_strKeys hp hst ?_ (fun x => ?_)
    · exact List.pairwise_map.2 (hl.imp (fun {a b} hne e => hne (ba_ext e)))
    · constructor
      · intro hx
        obtain ⟨s, hs, rfl⟩ := List.mem_map.1 hx
        have := (h2 s).2
        rw [(hm s).2 hs] at this
        exact this
      · intro hx
        have := (h2 ⟨x.toArray⟩).2
        unfold kl at this
        rw [show ((⟨x.toArray⟩ : ByteArray).data.toList) = x from rfl, hx] at this
        exact List.mem_map.2 ⟨⟨x.toArray⟩, (hm _).1 this.symm, rfl⟩
  have h3 := hperm.length_eq
  have : Maps.size (DataW.map es : DataW Unit) = l.length := by
    simp [strKeys] at h3
    simp [Maps.size]
    omega
  rw [this]

end Go.Proofs.Ytfakcjelibdnbaa
