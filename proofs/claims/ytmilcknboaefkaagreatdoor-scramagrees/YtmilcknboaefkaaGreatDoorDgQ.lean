/- Arrays of numbers held against one another. -/
import Derived.Test.YtmilcknboaefkaaGreatDoorDgB
import Derived.ChangeKeysEq
set_option maxRecDepth 100000
namespace Go.Proofs.YtmilcknboaefkaaGreatDoor
open Go.RowKit

section
variable {P : Program}
theorem run_part_ar (w : World) (e : TypeId) (k : IntKind) (xs : List Int) (j : Nat) (he : P.underlying e = some (.int k)) (hj : j < xs.length) :
    (part e (ic k xs).toArray j).run P w = .ok (.int k (xs.getD j 0)) w := by
  simp [part, isAgg, run_underlying he, ic, hj, List.getD]

theorem run_eqItems_ar (w : World) (d : Nat) (e : TypeId) (k : IntKind) (xs ys : List Int) (he : P.underlying e = some (.int k)) : ∀ is : List Nat, (∀ i ∈ is, i < xs.length ∧ i < ys.length) →
    (Op.eqItems (d + 1) e 1 (ic k xs).toArray (ic k ys).toArray is).run P w = .ok (is.all fun i => xs.getD i 0 == ys.getD i 0) w
  | [], _ => by simp [Op.eqItems]
  | i :: is, h => by
    have h1 := h i (by simp)
    have ih := run_eqItems_ar w d e k xs ys he is (fun j hj => h j (by simp [hj]))
    simp only [Op.eqItems, Sem.run_bind, Nat.mul_one, run_part_ar w e k xs i he h1.1, run_part_ar w e k ys i he h1.2, Result.andThen_ok, run_equalIn_int (w := w) d e k k _ _ he]
    rw [List.all_cons]
    cases hq : (xs.getD i 0 == ys.getD i 0)
    · rfl
    · exact ih

theorem all_range_eq (n : Nat) (xs ys : List Int) (hx : xs.length = n) (hy : ys.length = n) : ((List.range n).all fun i => xs.getD i 0 == ys.getD i 0) = decide (xs = ys) := by
  rw [Bool.eq_iff_iff, List.all_eq_true, decide_eq_true_eq]
  constructor
  · intro h
    refine List.ext_getElem (by omega) fun i h1 h2 => ?_
    have := h i (by simp; omega)
    simpa [List.getD, h1, h2] using this
  · intro h; subst h; simp

/-- '==' between two arrays of numbers. -/
theorem run_eql_ar (w : World) (t e : TypeId) (k : IntKind) (n : Nat) (xs ys : List Int) (hu : P.underlying t = some (.array n e)) (he : P.underlying e = some (.int k)) (hs : (P.info? e).map (·.size) = some 1) (hx : xs.length = n) (hy : ys.length = n) :
    (binOp .eql t (.agg (ic k xs).toArray) (.agg (ic k ys).toArray)).run P w = .ok (.bool (decide (xs = ys))) w := by
  cases hq : P.info? e with
  | none => simp [hq] at hs
  | some i =>
    have h1 : i.size = 1 := by simpa [hq] using hs
    have hc : P.cellsOf e = 1 := by simp [Program.cellsOf, hq, h1]
    simp only [binOp, Op.equal, Op.maxDepth]
    rw [Sem.run_bind, run_equalIn_array (w := w) 9999 _ _ hu hq, hc, run_eqItems_ar w 9998 e k xs ys he _ (fun j hj => by simp at hj; omega), all_range_eq n xs ys hx hy]
    rfl
theorem run_neq_ar (w : World) (t e : TypeId) (k : IntKind) (n : Nat) (xs ys : List Int) (hu : P.underlying t = some (.array n e)) (he : P.underlying e = some (.int k)) (hs : (P.info? e).map (·.size) = some 1) (hx : xs.length = n) (hy : ys.length = n) :
    (binOp .neq t (.agg (ic k xs).toArray) (.agg (ic k ys).toArray)).run P w = .ok (.bool (!decide (xs = ys))) w := by
  cases hq : P.info? e with
  | none => simp [hq] at hs
  | some i =>
    have h1 : i.size = 1 := by simpa [hq] using hs
    have hc : P.cellsOf e = 1 := by simp [Program.cellsOf, hq, h1]
    simp only [binOp, Op.equal, Op.maxDepth]
    rw [Sem.run_bind, run_equalIn_array (w := w) 9999 _ _ hu hq, hc, run_eqItems_ar w 9998 e k xs ys he _ (fun j hj => by simp at hj; omega), all_range_eq n xs ys hx hy]
    rfl
theorem run_guard_ar (w : World) (op : BinOp) (t : TypeId) (x y : Operand) (a b : Array Value) (hg : P.eqGuardType P.depth t = false) : (eqGuard op t x y (.agg a) (.agg b)).run P w = .ok () w := by
  unfold eqGuard
  cases op <;> simp [hg]
theorem exec_binOp {w : World} {o : Oper} {ρ : Operand → Value} (op : BinOp) (t : TypeId) (x y : Operand) (z : TypeId) (ho : o.op = .binOp op t x y z) (u v r : Value) (hx : ρ x = u) (hy : ρ y = v) (hg : (eqGuard op t x y u v).run P w = .ok () w) (hr : (binOp op t u v).run P w = .ok r w) :
    (execOp ρ o).run P w = .ok (.value r) w := by
  unfold execOp
  simp only [ho, hx, hy, Sem.run_bind, hg, hr, Result.andThen_ok, Sem.run_pure]
end

theorem Tryz.guard23 (w : World) (op : BinOp) (x y : Operand) (a b : Array Value) : (eqGuard op 27 x y (.agg a) (.agg b)).run Tryz.prog w = .ok () w := run_guard_ar w op 27 x y a b (by kernel_rfl)
theorem Tryz.eql23 (w : World) (xs ys : List Int) (hx : xs.length = 32) (hy : ys.length = 32) : (binOp .eql 27 (.agg (ic .u8 xs).toArray) (.agg (ic .u8 ys).toArray)).run Tryz.prog w = .ok (.bool (decide (xs = ys))) w :=
  run_eql_ar w 27 5 .u8 32 xs ys (by kernel_rfl) Tryz.underlying5 (by kernel_rfl) hx hy
theorem Tryz.neq23 (w : World) (xs ys : List Int) (hx : xs.length = 32) (hy : ys.length = 32) : (binOp .neq 27 (.agg (ic .u8 xs).toArray) (.agg (ic .u8 ys).toArray)).run Tryz.prog w = .ok (.bool (!decide (xs = ys))) w :=
  run_neq_ar w 27 5 .u8 32 xs ys (by kernel_rfl) Tryz.underlying5 (by kernel_rfl) hx hy

end Go.Proofs.YtmilcknboaefkaaGreatDoor
