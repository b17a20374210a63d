/- Floats by their bits: math.IsNaN, Inf, Abs, IsInf; less and greater; a sum, whose NaN has whatever bits. -/
import Derived.Test.YtiidjdedeenijaaDoorProg
import Derived.Test.YtiidjdedeenijaaDoorFlAdd
import Derived.WalkKit
import Derived.WalkLawsBesides
import Derived.WalkSpells
import Derived.Laws.FloatArith
import Derived.Test.YtiidjdedeenijaaDoorOwnA
import Derived.Maps.OwnSet
import Derived.Maps.OwnOps
set_option maxRecDepth 100000
namespace Go.Proofs.YtiidjdedeenijaaDoor
open Go.RowKit

theorem run_from (n : Int) (w : World) : (callFunc 91 #[.int .u64 n]).run Tryd.prog w = .ok (.value (.float .f64 n.toNat)) w := by
  rw [run_callFunc_extern Tryd.func91 (by kernel_rfl) (by kernel_rfl) (by kernel_rfl) (e := Extern.MathFloatBits.float64frombits) (by kernel_rfl)]
  rfl

theorem nan_neq (x : Nat) : (FloatKind.f64.format.order x x != some .eq) = Fl.nan x := by
  show (Ieee.double.order x x != some .eq) = _
  unfold Fl.nan
  by_cases h : Fl.inf < Fl.rung x
  · rw [Fl.order_nan x x (Or.inl h), decide_eq_true h]; rfl
  · rw [Fl.order_eq x x (by omega) (by omega), decide_eq_false h, Fl.cmp_int, if_neg (by omega), if_pos rfl]; rfl

set_option maxHeartbeats 400000 in
theorem isNaN_any (x : Nat) (w : World) : Calls Tryd.prog 51 #[.float .f64 x] w fun e w' => e = .returned (.bool (Fl.nan x)) ∧ w' = w := by
  go_enter Tryd.func51, Tryd.ntmps51
  go_wp2
  go_ret
  rw [nan_neq]
  exact ⟨rfl, rfl⟩

/-- Minus infinity. -/
def NI : Nat := 18442240474082181120

set_option maxHeartbeats 400000 in
theorem inf_any (w : World) : Calls Tryd.prog 75 #[.int .i64 (-1)] w fun e w' => e = .returned (.float .f64 NI) ∧ w' = w := by
  have h := run_from
  go_enter Tryd.func75, Tryd.ntmps75
  go_wp2
  go_ret
  exact ⟨rfl, rfl⟩

def flt (x y : Nat) : Bool := !Fl.nan x && !Fl.nan y && decide (Fl.sr x < Fl.sr y)

theorem f64_lt (x y : Nat) : (FloatKind.f64.format.order x y == some .lt) = flt x y := by
  show (Ieee.double.order x y == some .lt) = _
  unfold flt Fl.nan
  by_cases hx : Fl.inf < Fl.rung x
  · rw [Fl.order_nan x y (Or.inl hx), decide_eq_true hx]; rfl
  · by_cases hy : Fl.inf < Fl.rung y
    · rw [Fl.order_nan x y (Or.inr hy), decide_eq_true hy]; simp
    · rw [Fl.order_eq x y (by omega) (by omega), decide_eq_false hx, decide_eq_false hy, Fl.cmp_int]
      by_cases h : Fl.sr x < Fl.sr y
      · rw [if_pos h, decide_eq_true h]; rfl
      · rw [if_neg h, decide_eq_false h]; split <;> rfl

theorem f64_gt (x y : Nat) : (FloatKind.f64.format.order x y == some .gt) = flt y x := by
  show (Ieee.double.order x y == some .gt) = _
  unfold flt Fl.nan
  by_cases hx : Fl.inf < Fl.rung x
  · rw [Fl.order_nan x y (Or.inl hx), decide_eq_true hx]; simp
  · by_cases hy : Fl.inf < Fl.rung y
    · rw [Fl.order_nan x y (Or.inr hy), decide_eq_true hy]; rfl
    · rw [Fl.order_eq x y (by omega) (by omega), decide_eq_false hx, decide_eq_false hy, Fl.cmp_int]
      by_cases h : Fl.sr y < Fl.sr x
      · rw [if_neg (by omega), if_neg (by omega), decide_eq_true h]; rfl
      · rw [decide_eq_false h]
        by_cases h2 : Fl.sr x < Fl.sr y
        · rw [if_pos h2]; rfl
        · rw [if_neg h2, if_pos (by omega)]; rfl

theorem flt_irrefl (x : Nat) : flt x x = false := by unfold flt; simp
theorem flt_nan {x y : Nat} (h : Fl.nan y = true) : flt x y = false := by unfold flt; simp [h]
theorem flt_nanL {x y : Nat} (h : Fl.nan x = true) : flt x y = false := by unfold flt; simp [h]

/-- Nothing lies below minus infinity. -/
theorem flt_NI (x : Nat) : flt x NI = false := by
  unfold flt
  have e1 : Fl.sr NI = -(Fl.inf : Int) := by decide
  rw [e1]
  by_cases h : Fl.nan x = true
  · simp [h]
  · have hx : Fl.rung x ≤ Fl.inf := by
      unfold Fl.nan at h; simp at h; exact h
    have : ¬ (Fl.sr x < -(Fl.inf : Int)) := by unfold Fl.sr; split <;> omega
    rw [decide_eq_false this]; simp

/-- What a sum may be: the rounded sum, or some NaN where there is none. -/
def IsSum (x y r : Nat) : Prop := Ieee.double.add x y = some r ∨ (Ieee.double.add x y = none ∧ Fl.nan r = true)

theorem nan_cut (x y t : Nat) : Fl.nan ((Question.nanBits .f64 x y).cut t) = true := by
  unfold Question.cut Fl.nan Fl.rung
  have e1 : Fl.sgn = 9223372036854775808 := rfl
  have e2 : Fl.inf = 9218868437227405312 := rfl
  rw [e1, e2]
  simp only [decide_eq_true_eq]
  have h1 : (t / 2) % (2 ^ 52 - 1) < 2 ^ 52 - 1 := Nat.mod_lt _ (by decide)
  have h2 : t % 2 < 2 := Nat.mod_lt _ (by decide)
  generalize (t / 2) % (2 ^ 52 - 1) = u at *
  generalize t % 2 = v at *
  have e3 : (0x7ff0000000000000 : Nat) = 9218868437227405312 := rfl
  have e4 : (2 : Nat) ^ 63 = 9223372036854775808 := rfl
  have e5 : (2 : Nat) ^ 52 = 4503599627370496 := rfl
  rw [e5] at h1
  rw [e3, e4]
  omega

theorem run_fadd (t : TypeId) (x y : Nat) (w : World) : ∃ r w', (binOp .add t (.float .f64 x) (.float .f64 y)).run Tryd.prog w = .ok (.float .f64 r) w' ∧ (w' = w ∨ w' = w.drew) ∧ IsSum x y r := by
  cases h : Ieee.double.add x y with
  | some r => exact ⟨r, w, run_float_arith w .add t .f64 x y r h, Or.inl rfl, Or.inl h⟩
  | none =>
    have h' : FloatKind.f64.format.add x y = none := h
    refine ⟨(Question.nanBits .f64 x y).cut (w.tape w.drawn (Question.nanBits .f64 x y)), w.drew, ?_, Or.inr rfl, Or.inr ⟨h, nan_cut _ _ _⟩⟩
    simp [binOp, Op.floatArith, h', Question.forced]

/-- '+' of floats at its place in the walk. -/
theorem wp_fadd {w : World} {ops : Array Oper} {rest : List Oper} {o : Oper} {a : Act} {Q : Exit → Act → World → Prop} (hgd : o.guard = none) (s x : Operand) (t u : TypeId)
    (ho : o.op = .binOp .add t s x u) (p q : Nat) (hs : a.eval s = .float .f64 p) (hx : a.eval x = .float .f64 q)
    (h : ∀ r k, IsSum p q r → wpList Tryd.prog ops Q rest (a.put o.dst (.float .f64 r)) (w.drewN k)) : wpList Tryd.prog ops Q (o :: rest) a w := by
  refine wpList_plain hgd fun K' hK' => ?_
  obtain ⟨r, w', hrun, hw, hsum⟩ := run_fadd t p q w
  have hg : (eqGuard .add t s x (.float .f64 p) (.float .f64 q)).run Tryd.prog w = .ok () w := by unfold eqGuard; simp
  unfold Oper.wp
  simp only [execOp, ho, hs, hx, Sem.run_bind, hg, hrun, Result.andThen_ok, Sem.run_pure]
  rcases hw with rfl | rfl
  · exact hK' _ _ (h r 0 hsum)
  · exact hK' _ _ (h r 1 hsum)

end Go.Proofs.YtiidjdedeenijaaDoor

/- The door's map: texts to tries, read by a function. -/
set_option maxRecDepth 100000
namespace Go.Proofs.YtiidjdedeenijaaDoor
open Go.RowKit

/-- A user's tries: how many failed, and until when. -/
abbrev Tr := Int × Nat
def tv (t : Tr) : Value := .agg #[.int .i64 t.1, .float .f64 t.2]
def td (t : Tr) : DataW Unit := .agg [.lit (.int .i64 t.1), .lit (.int .u64 t.2)]

theorem tv_inj {s t : Tr} (h : tv s = tv t) : s = t := by
  obtain ⟨a, b⟩ := s; obtain ⟨c, d⟩ := t
  simp [tv] at h
  rw [h.1, h.2]
theorem td_inj {s t : Tr} (h : td s = td t) : s = t := by
  obtain ⟨a, b⟩ := s; obtain ⟨c, d⟩ := t
  simp [td] at h
  rw [h.1, Int.ofNat.inj h.2]

def Rt (v : Value) : Option (DataW Unit × List MemPlace) :=
  match v with
  | .agg a => match a.toList with
    | [.int .i64 c, .float .f64 u] => some (td (c, u), [])
    | _ => none
  | _ => none
theorem Rt_mk (t : Tr) : Rt (tv t) = some (td t, []) := rfl
theorem Rt_inv {v : Value} {t : Tr} {ps : List MemPlace} (h : Rt v = some (td t, ps)) : v = tv t := by
  unfold Rt at h
  split at h
  · split at h
    · rename_i a c u e
      injection h with h
      have e2 := td_inj (congrArg Prod.fst h)
      rw [← e2]
      unfold tv
      congr 1
      exact Array.toList_inj.1 e
    · cases h
  · cases h

def kl (s : ByteArray) : Lit := .string s.data.toList
theorem kl_key (s : ByteArray) (hs : s.size ≤ maxLen) : keyOf Tryd.prog 9 (.string s) = some (kl s) := by
  rw [keyOf_string Tryd.underlying9]
  simp [mapKey, Tryd.underlying9, hs, kl]
theorem kl_is (s : ByteArray) : WideAt.IsKeyLit (kl s) := trivial
theorem kl_ne {s t : ByteArray} (h : s ≠ t) : kl s ≠ kl t := fun e => h (by
  unfold kl at e
  injection e with e
  apply ByteArray.ext
  exact Array.toList_inj.1 e)
theorem keyed : Maps.Keyed Tryd.prog 9 := Maps.string_keyed Tryd.underlying9
theorem zeroT (w : World) : (zeroValue 92).run Tryd.prog w = .ok (tv (0, 0)) w := by kernel_rfl

/-- Block b is a map of at most n entries that holds m. -/
def MapAt (w : World) (b n : Nat) (m : ByteArray → Option Tr) : Prop :=
  ∃ D : DataW Unit, w.ownsMap Tryd.prog 9 Rt b n D ∧ ∀ s : ByteArray, (∀ z, D.atKey (kl s) z = ((m s).map td).getD z) ∧ Maps.has D (kl s) = (m s).isSome

def mput (m : ByteArray → Option Tr) (u : ByteArray) (t : Option Tr) : ByteArray → Option Tr := fun s => if s = u then t else m s
theorem mput_same (m : ByteArray → Option Tr) (u : ByteArray) (t : Option Tr) : mput m u t u = t := by simp [mput]
theorem mput_other (m : ByteArray → Option Tr) {u s : ByteArray} (t : Option Tr) (h : s ≠ u) : mput m u t s = m s := by simp [mput, h]

theorem MapAt.made (w : World) : MapAt (w.alloc (.map #[] 0)) w.heap.size 0 (fun _ => none) :=
  ⟨_, World.ownsMap_made w _ _ _, fun _ => ⟨fun _ => rfl, rfl⟩⟩
theorem MapAt.lt {w : World} {b n : Nat} {m : ByteArray → Option Tr} (h : MapAt w b n m) : b < w.heap.size := by
  obtain ⟨D, hD, _⟩ := h; exact hD.lt
theorem MapAt.keep {S : Nat → Prop} {w w' : World} {b n : Nat} {m : ByteArray → Option Tr} (h : MapAt w b n m) (hk : Keep S w w') (hs : ¬ S b) : MapAt w' b n m := by
  obtain ⟨D, hD, h2⟩ := h
  have hlt := hD.lt
  obtain ⟨es, clock, hb, F, h3, h4⟩ := hD
  exact ⟨D, ⟨es, clock, (hk.block b hlt hs).trans hb, F, h3, h4⟩, h2⟩
theorem MapAt.mono {w : World} {b n n' : Nat} {m : ByteArray → Option Tr} (h : MapAt w b n m) (hn : n ≤ n') : MapAt w b n' m := by
  obtain ⟨D, hD, h2⟩ := h; exact ⟨D, hD.mono hn, h2⟩
theorem MapAt.notCells {w : World} {b n : Nat} {m : ByteArray → Option Tr} (h : MapAt w b n m) {p : Addr} {v : Value} (hc : w.cell? p = some v) : p.block ≠ b := by
  obtain ⟨D, ⟨es, clock, hb, _⟩, h2⟩ := h
  intro e
  subst e
  unfold World.cell? at hc
  rw [hb] at hc
  cases hc

theorem Keep.ofTurned {w w' : World} {b : Nat} (h : w.mapTurned w' b) : Keep (fun k => k = b) w w' := (Keep.ofGrown h.grown).mono (fun i e => by cases e; rfl)

/-- 'v, ok := m[k]' at its run. -/
theorem MapAt.look {w : World} {b n : Nat} {m : ByteArray → Option Tr} (h : MapAt w b n m) (s : ByteArray) (hs : s.size ≤ maxLen) :
    (Instr.lookup 88 (.map (some b)) (.string s) true).run Tryd.prog w = .ok (.tuple #[tv ((m s).getD (0, 0)), .bool (m s).isSome]) w := by
  obtain ⟨D, hD, h2⟩ := h
  obtain ⟨v, ps, hrun, hv⟩ := hD.look_ok keyed Tryd.underlying88 (zeroT w) (Rt_mk (0, 0)) (kl_key s hs)
  rw [hrun, (h2 s).2]
  rw [(h2 s).1] at hv
  have : v = tv ((m s).getD (0, 0)) := by
    cases hm : m s with
    | none => rw [hm] at hv; exact Rt_inv hv
    | some t => rw [hm] at hv; exact Rt_inv hv
  rw [this]

/-- 'm[k] = v' at its run. -/
theorem MapAt.store {w : World} {b n : Nat} {m : ByteArray → Option Tr} (h : MapAt w b n m) (hn : n < 1000000) (s : ByteArray) (hs : s.size ≤ maxLen) (t : Tr) :
    ∃ w', (Instr.mapUpdate 88 (.map (some b)) (.string s) (tv t)).run Tryd.prog w = .ok () w' ∧ MapAt w' b (n + 1) (mput m s (some t)) ∧ Keep (fun k => k = b) w w' := by
  obtain ⟨D, hD, h2⟩ := h
  obtain ⟨w', hrun, hown, hturn⟩ := hD.store keyed Tryd.underlying88 (by unfold maxLen; omega) (kl_key s hs) (Rt_mk t)
  refine ⟨w', hrun, ⟨_, hown, fun u => ?_⟩, Keep.ofTurned hturn⟩
  by_cases hu : u = s
  · subst hu
    rw [mput_same]
    exact ⟨fun z => Maps.atKey_put_same hD.isMap (kl_is u) _ z, Maps.has_put_same hD.isMap (kl_is u) _⟩
  · rw [mput_other m _ hu]
    exact ⟨fun z => (Maps.atKey_put_other (kl_ne hu) _ z).trans ((h2 u).1 z), (Maps.has_put_other (kl_ne hu) _).trans (h2 u).2⟩

/-- 'delete(m, k)' at its run. -/
theorem MapAt.drop {w : World} {b n : Nat} {m : ByteArray → Option Tr} (h : MapAt w b n m) (s : ByteArray) (hs : s.size ≤ maxLen) (ty : TypeId) :
    ∃ w', (Builtin.delete_ #[88, 9] ty #[.map (some b), .string s]).run Tryd.prog w = .ok (.tuple #[]) w' ∧ MapAt w' b n (mput m s none) ∧ Keep (fun k => k = b) w w' := by
  obtain ⟨D, hD, h2⟩ := h
  obtain ⟨w', hrun, hown, hturn⟩ := hD.drop keyed Tryd.underlying88 (kl_key s hs) ty
  refine ⟨w', hrun, ⟨_, hown, fun u => ?_⟩, Keep.ofTurned hturn⟩
  by_cases hu : u = s
  · subst hu
    rw [mput_same]
    exact ⟨fun z => Maps.atKey_del_same z, Maps.has_del_same⟩
  · rw [mput_other m _ hu]
    exact ⟨fun z => (Maps.atKey_del_other (kl_ne hu) z).trans ((h2 u).1 z), (Maps.has_del_other (kl_ne hu)).trans (h2 u).2⟩

/-- 'v, ok := m[k]' at its place in the walk. -/
theorem wp_look {w : World} {ops : Array Oper} {rest : List Oper} {o : Oper} {a : Act} {Q : Exit → Act → World → Prop} (hgd : o.guard = none) (p x : Operand) (ho : o.op = .lookup 88 p x true)
    (b n : Nat) (m : ByteArray → Option Tr) (hp : a.eval p = .map (some b)) (h : MapAt w b n m) (s : ByteArray) (hs : s.size ≤ maxLen) (hx : a.eval x = .string s) (t : Tr) (ht : (m s).getD (0, 0) = t) (kn : Bool) (hk : (m s).isSome = kn)
    (K : wpList Tryd.prog ops Q rest (a.put o.dst (.tuple #[.agg #[.int .i64 t.1, .float .f64 t.2], .bool kn])) w) : wpList Tryd.prog ops Q (o :: rest) a w := by
  refine wpList_plain hgd fun K' hK' => ?_
  have hrun := h.look s hs
  rw [ht, hk] at hrun
  unfold Oper.wp
  simp only [execOp, ho, hp, hx, Sem.run_bind, hrun, Result.andThen_ok, Sem.run_pure]
  exact hK' _ _ K

/-- 'delete(m, k)' at its place in the walk. -/
theorem wp_drop {w : World} {ops : Array Oper} {rest : List Oper} {o : Oper} {a : Act} {Q : Exit → Act → World → Prop} (hgd : o.guard = none) (p x : Operand) (ho : o.op = .call { callee := .builtin .delete, args := #[p, x], argTypes := #[88, 9] })
    (b n : Nat) (m : ByteArray → Option Tr) (hp : a.eval p = .map (some b)) (h : MapAt w b n m) (s : ByteArray) (hs : s.size ≤ maxLen) (hx : a.eval x = .string s)
    (K : ∀ w', MapAt w' b n (mput m s none) → Keep (fun k => k = b) w w' → wpList Tryd.prog ops Q rest (a.put o.dst (.tuple #[])) w') : wpList Tryd.prog ops Q (o :: rest) a w := by
  refine wpList_plain hgd fun K' hK' => ?_
  obtain ⟨w', hrun, r1, r2⟩ := h.drop s hs o.type
  unfold Oper.wp
  simp [execOp, ho, resolve, invoke, builtin, hp, hx, hrun, Result.andThen]
  exact hK' _ _ (K w' r1 r2)

end Go.Proofs.YtiidjdedeenijaaDoor
