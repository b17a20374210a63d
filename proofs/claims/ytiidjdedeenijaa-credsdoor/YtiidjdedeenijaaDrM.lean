/- The door's map: texts to tries, read by a function. -/
import Derived.Test.YtiidjdedeenijaaDrF
import Derived.Test.YtiidjdedeenijaaOwnA
import Derived.Maps.OwnSet
import Derived.Maps.OwnOps
namespace Go.Proofs.Ytiidjdedeenijaa
open Go.RowKit

/-- A user's tries: how many failed, and until when. -/
abbrev Tr := Int × Nat
def tv (t : Tr) : Value := .agg #[.int .i64 t.1, .float .f64 t.2]
def td (t : Tr) : DataW Unit := .agg [.lit (.int .i64 t.1), .lit (.int .u64 t.2)]

theorem tv_inj {s t : Tr} (h : tv s = tv t) : s = t := by
  obtain ⟨a, b⟩ := s; obtain ⟨c, d⟩ := t
  simp [tv] at h
  rw [h.1, h.2]
theorem td_inj {s t : Tr} (h : td s = td t) : s = t := by
  obtain ⟨a, b⟩ := s; obtain ⟨c, d⟩ := t
  simp [td] at h
  rw [h.1, Int.ofNat.inj h.2]

def Rt (v : Value) : Option (DataW Unit × List MemPlace) :=
  match v with
  | .agg a => match a.toList with
    | [.int .i64 c, .float .f64 u] => some (td (c, u), [])
    | _ => none
  | _ => none
theorem Rt_mk (t : Tr) : Rt (tv t) = some (td t, []) := rfl
theorem Rt_inv {v : Value} {t : Tr} {ps : List MemPlace} (h : Rt v = some (td t, ps)) : v = tv t := by
  unfold Rt at h
  split at h
  · split at h
    · rename_i a c u e
      injection h with h
      have e2 := td_inj (congrArg Prod.fst h)
      rw [← e2]
      unfold tv
      congr 1
      exact Array.toList_inj.1 e
    · cases h
  · cases h

def kl (s : ByteArray) : Lit := .string s.data.toList
theorem kl_key (s : ByteArray) (hs : s.size ≤ maxLen) : keyOf Try.prog 9 (.string s) = some (kl s) := by
  rw [keyOf_string Try.underlying9]
  simp [mapKey, Try.underlying9, hs, kl]
theorem kl_is (s : ByteArray) : WideAt.IsKeyLit (kl s) := trivial
theorem kl_ne {s t : ByteArray} (h : s ≠ t) : kl s ≠ kl t := fun e => h (by
  unfold kl at e
  injection e with e
  apply ByteArray.ext
  exact Array.toList_inj.1 e)
theorem keyed : Maps.Keyed Try.prog 9 := Maps.string_keyed Try.underlying9
theorem zeroT (w : World) : (zeroValue 56).run Try.prog w = .ok (tv (0, 0)) w := by kernel_rfl

/-- Block b is a map of at most n entries that holds m. -/
def MapAt (w : World) (b n : Nat) (m : ByteArray → Option Tr) : Prop :=
  ∃ D : DataW Unit, w.ownsMap Try.prog 9 Rt b n D ∧ ∀ s : ByteArray, (∀ z, D.atKey (kl s) z = ((m s).map td).getD z) ∧ Maps.has D (kl s) = (m s).isSome

def mput (m : ByteArray → Option Tr) (u : ByteArray) (t : Option Tr) : ByteArray → Option Tr := fun s => if s = u then t else m s
theorem mput_same (m : ByteArray → Option Tr) (u : ByteArray) (t : Option Tr) : mput m u t u = t := by simp [mput]
theorem mput_other (m : ByteArray → Option Tr) {u s : ByteArray} (t : Option Tr) (h : s ≠ u) : mput m u t s = m s := by simp [mput, h]

theorem MapAt.made (w : World) : MapAt (w.alloc (.map #[] 0)) w.heap.size 0 (fun _ => none) :=
  ⟨_, World.ownsMap_made w _ _ _, fun _ => ⟨fun _ => rfl, rfl⟩⟩
theorem MapAt.lt {w : World} {b n : Nat} {m : ByteArray → Option Tr} (h : MapAt w b n m) : b < w.heap.size := by
  obtain ⟨D, hD, _⟩ := h; exact hD.lt
theorem MapAt.keep {S : Nat → Prop} {w w' : World} {b n : Nat} {m : ByteArray → Option Tr} (h : MapAt w b n m) (hk : Keep S w w') (hs : ¬ S b) : MapAt w' b n m := by
  obtain ⟨D, hD, h2⟩ := h
  have hlt := hD.lt
  obtain ⟨es, clock, hb, F, h3, h4⟩ := hD
  exact ⟨D, ⟨es, clock, (hk.block b hlt hs).trans hb, F, h3, h4⟩, h2⟩
theorem MapAt.mono {w : World} {b n n' : Nat} {m : ByteArray → Option Tr} (h : MapAt w b n m) (hn : n ≤ n') : MapAt w b n' m := by
  obtain ⟨D, hD, h2⟩ := h; exact ⟨D, hD.mono hn, h2⟩
theorem MapAt.notCells {w : World} {b n : Nat} {m : ByteArray → Option Tr} (h : MapAt w b n m) {p : Addr} {v : Value} (hc : w.cell? p = some v) : p.block ≠ b := by
  obtain ⟨D, ⟨es, clock, hb, _⟩, h2⟩ := h
  intro e
  subst e
  unfold World.cell? at hc
  rw [hb] at hc
  cases hc

theorem Keep.ofTurned {w w' : World} {b : Nat} (h : w.mapTurned w' b) : Keep (fun k => k = b) w w' := (Keep.ofGrown h.grown).mono (fun i e => by cases e; rfl)

/-- 'v, ok := m[k]' at its run. -/
theorem MapAt.look {w : World} {b n : Nat} {m : ByteArray → Option Tr} (h : MapAt w b n m) (s : ByteArray) (hs : s.size ≤ maxLen) :
    (Instr.lookup 48 (.map (some b)) (.string s) true).run Try.prog w = .ok (.tuple #[tv ((m s).getD (0, 0)), .bool (m s).isSome]) w := by
  obtain ⟨D, hD, h2⟩ := h
  obtain ⟨v, ps, hrun, hv⟩ := hD.look_ok keyed Try.underlying48 (zeroT w) (Rt_mk (0, 0)) (kl_key s hs)
  rw [hrun, (h2 s).2]
  rw [(h2 s).1] at hv
  have : v = tv ((m s).getD (0, 0)) := by
    cases hm : m s with
    | none => rw [hm] at hv; exact Rt_inv hv
    | some t => rw [hm] at hv; exact Rt_inv hv
  rw [this]

/-- 'm[k] = v' at its run. -/
theorem MapAt.store {w : World} {b n : Nat} {m : ByteArray → Option Tr} (h : MapAt w b n m) (hn : n < 1000000) (s : ByteArray) (hs : s.size ≤ maxLen) (t : Tr) :
    ∃ w', (Instr.mapUpdate 48 (.map (some b)) (.string s) (tv t)).run Try.prog w = .ok () w' ∧ MapAt w' b (n + 1) (mput m s (some t)) ∧ Keep (fun k => k = b) w w' := by
  obtain ⟨D, hD, h2⟩ := h
  obtain ⟨w', hrun, hown, hturn⟩ := hD.store keyed Try.underlying48 (by unfold maxLen; omega) (kl_key s hs) (Rt_mk t)
  refine ⟨w', hrun, ⟨_, hown, fun u => ?_⟩, Keep.ofTurned hturn⟩
  by_cases hu : u = s
  · subst hu
    rw [mput_same]
    exact ⟨fun z => Maps.atKey_put_same hD.isMap (kl_is u) _ z, Maps.has_put_same hD.isMap (kl_is u) _⟩
  · rw [mput_other m _ hu]
    exact ⟨fun z => (Maps.atKey_put_other (kl_ne hu) _ z).trans ((h2 u).1 z), (Maps.has_put_other (kl_ne hu) _).trans (h2 u).2⟩

/-- 'delete(m, k)' at its run. -/
theorem MapAt.drop {w : World} {b n : Nat} {m : ByteArray → Option Tr} (h : MapAt w b n m) (s : ByteArray) (hs : s.size ≤ maxLen) (ty : TypeId) :
    ∃ w', (Builtin.delete_ #[48, 9] ty #[.map (some b), .string s]).run Try.prog w = .ok (.tuple #[]) w' ∧ MapAt w' b n (mput m s none) ∧ Keep (fun k => k = b) w w' := by
  obtain ⟨D, hD, h2⟩ := h
  obtain ⟨w', hrun, hown, hturn⟩ := hD.drop keyed Try.underlying48 (kl_key s hs) ty
  refine ⟨w', hrun, ⟨_, hown, fun u => ?_⟩, Keep.ofTurned hturn⟩
  by_cases hu : u = s
  · subst hu
    rw [mput_same]
    exact ⟨fun z => Maps.atKey_del_same z, Maps.has_del_same⟩
  · rw [mput_other m _ hu]
    exact ⟨fun z => (Maps.atKey_del_other (kl_ne hu) z).trans ((h2 u).1 z), (Maps.has_del_other (kl_ne hu)).trans (h2 u).2⟩

/-- 'v, ok := m[k]' at its place in the walk. -/
theorem wp_look {w : World} {ops : Array Oper} {rest : List Oper} {o : Oper} {a : Act} {Q : Exit → Act → World → Prop} (hgd : o.guard = none) (p x : Operand) (ho : o.op = .lookup 48 p x true)
    (b n : Nat) (m : ByteArray → Option Tr) (hp : a.eval p = .map (some b)) (h : MapAt w b n m) (s : ByteArray) (hs : s.size ≤ maxLen) (hx : a.eval x = .string s) (t : Tr) (ht : (m s).getD (0, 0) = t) (kn : Bool) (hk : (m s).isSome = kn)
    (K : wpList Try.prog ops Q rest (a.put o.dst (.tuple #[.agg #[.int .i64 t.1, .float .f64 t.2], .bool kn])) w) : wpList Try.prog ops Q (o :: rest) a w := by
  refine wpList_plain hgd fun K' hK' => ?_
  have hrun := h.look s hs
  rw [ht, hk] at hrun
  unfold Oper.wp
  simp only [execOp, ho, hp, hx, Sem.run_bind, hrun, Result.andThen_ok, Sem.run_pure]
  exact hK' _ _ K

/-- 'delete(m, k)' at its place in the walk. -/
theorem wp_drop {w : World} {ops : Array Oper} {rest : List Oper} {o : Oper} {a : Act} {Q : Exit → Act → World → Prop} (hgd : o.guard = none) (p x : Operand) (ho : o.op = .call { callee := .builtin .delete, args := #[p, x], argTypes := #[48, 9] })
    (b n : Nat) (m : ByteArray → Option Tr) (hp : a.eval p = .map (some b)) (h : MapAt w b n m) (s : ByteArray) (hs : s.size ≤ maxLen) (hx : a.eval x = .string s)
    (K : ∀ w', MapAt w' b n (mput m s none) → Keep (fun k => k = b) w w' → wpList Try.prog ops Q rest (a.put o.dst (.tuple #[])) w') : wpList Try.prog ops Q (o :: rest) a w := by
  refine wpList_plain hgd fun K' hK' => ?_
  obtain ⟨w', hrun, r1, r2⟩ := h.drop s hs o.type
  unfold Oper.wp
  simp [execOp, ho, resolve, invoke, builtin, hp, hx, hrun, Result.andThen]
  exact hK' _ _ (K w' r1 r2)

end Go.Proofs.Ytiidjdedeenijaa
