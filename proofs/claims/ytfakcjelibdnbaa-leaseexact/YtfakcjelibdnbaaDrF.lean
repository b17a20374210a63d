/- Floats by their bits: math.IsNaN, Inf, Abs, IsInf; less and greater; a sum, whose NaN has whatever bits. -/
import Derived.Test.YtfakcjelibdnbaaProg
import Derived.Test.YtfakcjelibdnbaaFlAdd
import Derived.WalkKit
import Derived.WalkLawsBesides
import Derived.WalkSpells
import Derived.Laws.FloatArith
namespace Go.Proofs.Ytfakcjelibdnbaa
open Go.RowKit

theorem run_from (n : Int) (w : World) : (callFunc 16 #[.int .u64 n]).run Try.prog w = .ok (.value (.float .f64 n.toNat)) w := by
  rw [run_callFunc_extern Try.func16 (by kernel_rfl) (by kernel_rfl) (by kernel_rfl) (e := Extern.MathFloatBits.float64frombits) (by kernel_rfl)]
  rfl

theorem nan_neq (x : Nat) : (FloatKind.f64.format.order x x != some .eq) = Fl.nan x := by
  show (Ieee.double.order x x != some .eq) = _
  unfold Fl.nan
  by_cases h : Fl.inf < Fl.rung x
  · rw [Fl.order_nan x x (Or.inl h), decide_eq_true h]; rfl
  · rw [Fl.order_eq x x (by omega) (by omega), decide_eq_false h, Fl.cmp_int, if_neg (by omega), if_pos rfl]; rfl

set_option maxHeartbeats 400000 in
theorem isNaN_any (x : Nat) (w : World) : Calls Try.prog 33 #[.float .f64 x] w fun e w' => e = .returned (.bool (Fl.nan x)) ∧ w' = w := by
  go_enter Try.func33, Try.ntmps33
  go_wp2
  go_ret
  rw [nan_neq]
  exact ⟨rfl, rfl⟩

/-- Minus infinity. -/
def NI : Nat := 18442240474082181120

set_option maxHeartbeats 400000 in
theorem inf_any (w : World) : Calls Try.prog 13 #[.int .i64 (-1)] w fun e w' => e = .returned (.float .f64 NI) ∧ w' = w := by
  have h := run_from
  go_enter Try.func13, Try.ntmps13
  go_wp2
  go_ret
  exact ⟨rfl, rfl⟩

def flt (x y : Nat) : Bool := !Fl.nan x && !Fl.nan y && decide (Fl.sr x < Fl.sr y)

theorem f64_lt (x y : Nat) : (FloatKind.f64.format.order x y == some .lt) = flt x y := by
  show (Ieee.double.order x y == some .lt) = _
  unfold flt Fl.nan
  by_cases hx : Fl.inf < Fl.rung x
  · rw [Fl.order_nan x y (Or.inl hx), decide_eq_true hx]; rfl
  · by_cases hy : Fl.inf < Fl.rung y
    · rw [Fl.order_nan x y (Or.inr hy), decide_eq_true hy]; simp
    · rw [Fl.order_eq x y (by omega) (by omega), decide_eq_false hx, decide_eq_false hy, Fl.cmp_int]
      by_cases h : Fl.sr x < Fl.sr y
      · rw [if_pos h, decide_eq_true h]; rfl
      · rw [if_neg h, decide_eq_false h]; split <;> rfl

theorem f64_gt (x y : Nat) : (FloatKind.f64.format.order x y == some .gt) = flt y x := by
  show (Ieee.double.order x y == some .gt) = _
  unfold flt Fl.nan
  by_cases hx : Fl.inf < Fl.rung x
  · rw [Fl.order_nan x y (Or.inl hx), decide_eq_true hx]; simp
  · by_cases hy : Fl.inf < Fl.rung y
    · rw [Fl.order_nan x y (Or.inr hy), decide_eq_true hy]; rfl
    · rw [Fl.order_eq x y (by omega) (by omega), decide_eq_false hx, decide_eq_false hy, Fl.cmp_int]
      by_cases h : Fl.sr y < Fl.sr x
      · rw [if_neg (by omega), if_neg (by omega), decide_eq_true h]; rfl
      · rw [decide_eq_false h]
        by_cases h2 : Fl.sr x < Fl.sr y
        · rw [if_pos h2]; rfl
        · rw [if_neg h2, if_pos (by omega)]; rfl

theorem flt_irrefl (x : Nat) : flt x x = false := by unfold flt; simp
theorem flt_nan {x y : Nat} (h : Fl.nan y = true) : flt x y = false := by unfold flt; simp [h]
theorem flt_nanL {x y : Nat} (h : Fl.nan x = true) : flt x y = false := by unfold flt; simp [h]

/-- Nothing lies below minus infinity. -/
theorem flt_NI (x : Nat) : flt x NI = false := by
  unfold flt
  have e1 : Fl.sr NI = -(Fl.inf : Int) := by decide
  rw [e1]
  by_cases h : Fl.nan x = true
  · simp [h]
  · have hx : Fl.rung x ≤ Fl.inf := by
      unfold Fl.nan at h; simp at h; exact h
    have : ¬ (Fl.sr x < -(Fl.inf : Int)) := by unfold Fl.sr; split <;> omega
    rw [decide_eq_false this]; simp

/-- What a sum may be: the rounded sum, or some NaN where there is none. -/
def IsSum (x y r : Nat) : Prop := Ieee.double.add x y = some r ∨ (Ieee.double.add x y = none ∧ Fl.nan r = true)

theorem nan_cut (x y t : Nat) : Fl.nan ((Question.nanBits .f64 x y).cut t) = true := by
  unfold Question.cut Fl.nan Fl.rung
  have e1 : Fl.sgn = 9223372036854775808 := rfl
  have e2 : Fl.inf = 9218868437227405312 := rfl
  rw [e1, e2]
  simp only [decide_eq_true_eq]
  have h1 : (t / 2) % (2 ^ 52 - 1) < 2 ^ 52 - 1 := Nat.mod_lt _ (by decide)
  have h2 : t % 2 < 2 := Nat.mod_lt _ (by decide)
  generalize (t / 2) % (2 ^ 52 - 1) = u at *
  generalize t % 2 = v at *
  have e3 : (0x7ff0000000000000 : Nat) = 9218868437227405312 := rfl
  have e4 : (2 : Nat) ^ 63 = 9223372036854775808 := rfl
  have e5 : (2 : Nat) ^ 52 = 4503599627370496 := rfl
  rw [e5] at h1
  rw [e3, e4]
  omega

theorem run_fadd (t : TypeId) (x y : Nat) (w : World) : ∃ r w', (binOp .add t (.float .f64 x) (.float .f64 y)).run Try.prog w = .ok (.float .f64 r) w' ∧ (w' = w ∨ w' = w.drew) ∧ IsSum x y r := by
  cases h : Ieee.double.add x y with
  | some r => exact ⟨r, w, run_float_arith w .add t .f64 x y r h, Or.inl rfl, Or.inl h⟩
  | none =>
    have h' : FloatKind.f64.format.add x y = none := h
    refine ⟨(Question.nanBits .f64 x y).cut (w.tape w.drawn (Question.nanBits .f64 x y)), w.drew, ?_, Or.inr rfl, Or.inr ⟨h, nan_cut _ _ _⟩⟩
    simp [binOp, Op.floatArith, h', Question.forced]

/-- '+' of floats at its place in the walk. -/
theorem wp_fadd {w : World} {ops : Array Oper} {rest : List Oper} {o : Oper} {a : Act} {Q : Exit → Act → World → Prop} (hgd : o.guard = none) (s x : Operand) (t u : TypeId)
    (ho : o.op = .binOp .add t s x u) (p q : Nat) (hs : a.eval s = .float .f64 p) (hx : a.eval x = .float .f64 q)
    (h : ∀ r k, IsSum p q r → wpList Try.prog ops Q rest (a.put o.dst (.float .f64 r)) (w.drewN k)) : wpList Try.prog ops Q (o :: rest) a w := by
  refine wpList_plain hgd fun K' hK' => ?_
  obtain ⟨r, w', hrun, hw, hsum⟩ := run_fadd t p q w
  have hg : (eqGuard .add t s x (.float .f64 p) (.float .f64 q)).run Try.prog w = .ok () w := by unfold eqGuard; simp
  unfold Oper.wp
  simp only [execOp, ho, hs, hx, Sem.run_bind, hg, hrun, Result.andThen_ok, Sem.run_pure]
  rcases hw with rfl | rfl
  · exact hK' _ _ (h r 0 hsum)
  · exact hK' _ _ (h r 1 hsum)

end Go.Proofs.Ytfakcjelibdnbaa
