/- Arrays of numbers as blocks. -/
import Derived.Test.YtmilcknboaefkaaGreatDoorOwnA
import Derived.Test.YtmilcknboaefkaaGreatDoorDgA
import Derived.Deep.WholeRow
set_option maxRecDepth 100000
namespace Go.Proofs.YtmilcknboaefkaaGreatDoor
open Go.RowKit

/-- The cells of some numbers. -/
def ic (k : IntKind) (xs : List Int) : List Value := xs.map (Value.int k)
/-- A block that is an array of numbers. -/
def Ar (w : World) (g : Nat) (t : TypeId) (k : IntKind) (xs : List Int) : Prop := w.heap[g]? = some (.cells (ic k xs).toArray t (0, 0))

theorem ic_len (k : IntKind) (xs : List Int) : (ic k xs).length = xs.length := by simp [ic]
theorem ic_one (k : IntKind) (xs : List Int) : (ic k xs).toArray.all (·.oneCell') = true := by
  rw [Array.all_eq_true_iff_forall_mem]; intro v hv; simp [ic] at hv; obtain ⟨x, _, rfl⟩ := hv; rfl
theorem ic_get (k : IntKind) (xs : List Int) (j : Nat) (hj : j < xs.length) : (ic k xs).toArray[j]? = some (.int k (xs.getD j 0)) := by
  simp [ic, List.getD, hj]
theorem Ar.lt {w : World} {g : Nat} {t : TypeId} {k : IntKind} {xs : List Int} (h : Ar w g t k xs) : g < w.heap.size := (Array.getElem?_eq_some_iff.1 h).1
theorem Ar.cell {w : World} {g : Nat} {t : TypeId} {k : IntKind} {xs : List Int} (h : Ar w g t k xs) {j : Nat} (hj : j < xs.length) : w.cell? ⟨g, j, none⟩ = some (.int k (xs.getD j 0)) := by
  rw [cell_of_row w g j _ t (0, 0) h]; exact ic_get k xs j hj
theorem Ar.fz {w : World} {g : Nat} {t : TypeId} {k : IntKind} {xs : List Int} (h : Ar w g t k xs) (j : Nat) : w.frozen? ⟨g, j, none⟩ = false := frozen_of_row w g j _ t h
theorem Ar.set {w : World} {g : Nat} {t : TypeId} {k : IntKind} {xs : List Int} (h : Ar w g t k xs) (i : Nat) (v : Int) : Ar (w.setCell ⟨g, i, none⟩ (.int k v)) g t k (xs.set i v) := by
  unfold Ar at *
  rw [heap_setCell_same w g i _ t _ h]
  simp [ic, List.map_set]
theorem Ar.other {w : World} {g : Nat} {t : TypeId} {k : IntKind} {xs : List Int} (h : Ar w g t k xs) {a : Addr} (ha : g ≠ a.block) (v : Value) : Ar (w.setCell a v) g t k xs := by
  unfold Ar at *; rw [heap_setCell_other w a g v ha]; exact h
theorem Ar.keep {S : Nat → Prop} {w w' : World} {g : Nat} {t : TypeId} {k : IntKind} {xs : List Int} (h : Ar w g t k xs) (hk : Keep S w w') (hs : ¬ S g) : Ar w' g t k xs := (hk.block g h.lt hs).trans h
theorem Ar.below {w w' : World} {g : Nat} {t : TypeId} {k : IntKind} {xs : List Int} (h : Ar w g t k xs) {B : Nat} (hb : Below B w w') (hg : g < B) : Ar w' g t k xs := (hb.block g hg).trans h
theorem Ar.drew {w : World} {g : Nat} {t : TypeId} {k : IntKind} {xs : List Int} (h : Ar w g t k xs) : Ar w.drew g t k xs := h
theorem Ar.drewN {w : World} {g : Nat} {t : TypeId} {k : IntKind} {xs : List Int} (h : Ar w g t k xs) (n : Nat) : Ar (w.drewN n) g t k xs := h

section
variable {P : Program}

/-- A new array variable. -/
theorem wp_alloc_ar {ops : Array Oper} {rest : List Oper} {o : Oper} {a : Act} {w : World} {Q : Exit → Act → World → Prop} (hgd : o.guard = none) (ty : TypeId) (ho : o.op = .alloc ty) (k : IntKind) (xs : List Int) (n : Nat)
    (hz : (P.info? ty).map (fun i => (i.zero, i.size)) = some (some (.agg (ic k xs).toArray), n))
    (h : ∀ g w1, Ar w1 g ty k xs → w.heap.size ≤ g → Below w.heap.size w w1 → wpList P ops Q rest (a.put o.dst (.pointer (some ⟨g, 0, none⟩))) w1) : wpList P ops Q (o :: rest) a w :=
  wpList_plain hgd fun K hK => by
    unfold Oper.wp execOp
    simp only [ho, Instr.alloc, Sem.run_bind, (zero_of_info hz).1 w, newVar, newRow, Value.cells, run_newObj_alloc, Sem.run_pure, Result.andThen_ok]
    exact hK _ _ (h w.heap.size _ (heap_alloc_new w _) (Nat.le_refl _) ((Below.refl _ _).alloc (Nat.le_refl _) _))

/-- An array laid in a variable of its own. -/
theorem wp_box_ar {ops : Array Oper} {rest : List Oper} {o : Oper} {a : Act} {w : World} {Q : Exit → Act → World → Prop} (hgd : o.guard = none) (ty : TypeId) (x : Operand) (ho : o.op = .box ty x) (k : IntKind) (xs : List Int)
    (hx : a.eval x = .agg (ic k xs).toArray)
    (h : ∀ g w1, Ar w1 g ty k xs → w.heap.size ≤ g → Below w.heap.size w w1 → wpList P ops Q rest (a.put o.dst (.pointer (some ⟨g, 0, none⟩))) w1) : wpList P ops Q (o :: rest) a w :=
  wpList_plain hgd fun K hK => by
    unfold Oper.wp execOp
    simp only [ho, hx, Instr.box, Sem.run_bind, newVar, newRow, Value.cells, run_newObj_alloc, Sem.run_pure, Result.andThen_ok]
    exact hK _ _ (h w.heap.size _ (heap_alloc_new w _) (Nat.le_refl _) ((Below.refl _ _).alloc (Nat.le_refl _) _))

theorem size_of {ty : TypeId} {d : TypeDesc} {n : Nat} (hu : (P.underlying ty, (P.info? ty).map (·.size)) = (some d, some n)) : P.underlying ty = some d ∧ (P.info? ty).map (·.size) = some n := by
  cases hu' : P.underlying ty <;> simp_all

/-- The whole array out of its variable. -/
theorem wp_load_ar {ops : Array Oper} {rest : List Oper} {o : Oper} {a : Act} {w : World} {Q : Exit → Act → World → Prop} (hgd : o.guard = none) (ty : TypeId) (x : Operand) (ho : o.op = .load ty x)
    (g : Nat) (hx : a.eval x = .pointer (some ⟨g, 0, none⟩)) (t : TypeId) (k : IntKind) (xs : List Int) (e : TypeId) (n : Nat) (hg : Ar w g t k xs)
    (hu : (P.underlying ty, (P.info? ty).map (·.size)) = (some (.array n e), some n)) (hn : xs.length = n)
    (h : wpList P ops Q rest (a.put o.dst (.agg (ic k xs).toArray)) w) : wpList P ops Q (o :: rest) a w :=
  wpList_load_row hgd ty x ho g hx t _ (0, 0) _ hg (size_of hu).1 rfl (by rw [(size_of hu).2]; simp [ic_len, hn]) h

/-- A whole array into its variable. -/
theorem wp_store_ar {ops : Array Oper} {rest : List Oper} {o : Oper} {a : Act} {w : World} {Q : Exit → Act → World → Prop} (hgd : o.guard = none) (ty : TypeId) (x y : Operand) (ho : o.op = .store ty x y)
    (g : Nat) (hx : a.eval x = .pointer (some ⟨g, 0, none⟩)) (k : IntKind) (ys : List Int) (hy : a.eval y = .agg (ic k ys).toArray)
    (t : TypeId) (xs : List Int) (hg : Ar w g t k xs) (hl : xs.length = ys.length) (hi : (P.info? ty).map (·.size) = some ys.length)
    (h : ∀ w1, Ar w1 g t k ys → Keep (fun j => j = g) w w1 → w1.heap.size = w.heap.size → wpList P ops Q rest (a.put o.dst undef) w1) : wpList P ops Q (o :: rest) a w :=
  wpList_store_row hgd ty x y ho g _ hx hy t _ hg (by rw [hi]; simp [ic_len]) (by simp [ic_len, hl]) (ic_one k ys)
    (h _ (setRow_heap w g _ _ t (0, 0) hg) ⟨rfl, rfl, rfl, by simp, fun j _ hj => setRow_other w g j _ hj⟩ (by simp))

theorem ar_results {fn : Func} {p : Tmp} {ty : TypeId} (h : fn.results = #[.cell p ty]) (tmps : Array Value) (w : World) (g : Nat) (t : TypeId) (k : IntKind) (xs : List Int) (e : TypeId) (n : Nat)
    (hp : tmps.getD p undef = .pointer (some ⟨g, 0, none⟩)) (hg : Ar w g t k xs) (hu : (P.underlying ty, (P.info? ty).map (·.size)) = (some (.array n e), some n)) (hn : xs.length = n) :
    (results fn tmps).run P w = .ok (.agg (ic k xs).toArray) w :=
  results_cell_row h tmps w g t _ (0, 0) _ hp hg (size_of hu).1 rfl (by rw [(size_of hu).2]; simp [ic_len, hn])

theorem run_index_ar (w : World) (t e : TypeId) (n : Nat) (k : IntKind) (xs : List Int) (j : Nat) (hu : P.underlying t = some (.array n e)) (he : P.underlying e = some (.int k)) (hs : (P.info? e).map (·.size) = some 1) (hn : xs.length = n) (hj : j < n) :
    (Instr.index t (.agg (ic k xs).toArray) (.int .i64 (j : Int))).run P w = .ok (.int k (xs.getD j 0)) w := by
  cases hq : P.info? e with
  | none => simp [hq] at hs
  | some i =>
    have h1 : i.size = 1 := by simpa [hq] using hs
    have hjx : j < xs.length := by omega
    simp [Instr.index, asIntOf, run_underlying hu, hj, sizeOf, typeInfo, hq, h1, part, isAgg, run_underlying he, ic, hjx, List.getD]
end

theorem wi64' {n m : Int} (h0 : -9223372036854775808 ≤ n) (h1 : n ≤ 9223372036854775807) (h : n = m) : IntKind.i64.wrap n = m := by
  subst h; simp [IntKind.wrap, IntKind.bits, IntKind.signed]; omega
theorem idx_ok {g j : Nat} {i m : Int} {W : World} {X : Result Next} (h1 : i = (j : Int)) (h2 : (j : Int) < m) :
    (if 0 ≤ i ∧ i < m then Result.ok (Next.value (.pointer (some ⟨g, i.toNat, none⟩))) W else X) = Result.ok (Next.value (.pointer (some ⟨g, j, none⟩))) W := by
  subst h1; rw [if_pos ⟨by omega, by omega⟩, Int.toNat_natCast]

theorem Tryz.z46 : (Tryz.prog.info? 98).map (fun i => (i.zero, i.size)) = some (some (.agg (ic .u32 (List.replicate 64 0)).toArray), 64) := by kernel_rfl
theorem Tryz.z45 : (Tryz.prog.info? 90).map (fun i => (i.zero, i.size)) = some (some (.agg (ic .u32 (List.replicate 8 0)).toArray), 8) := by kernel_rfl
theorem Tryz.z55 : (Tryz.prog.info? 123).map (fun i => (i.zero, i.size)) = some (some (.agg (ic .u8 (List.replicate 64 0)).toArray), 64) := by kernel_rfl
theorem Tryz.z23 : (Tryz.prog.info? 27).map (fun i => (i.zero, i.size)) = some (some (.agg (ic .u8 (List.replicate 32 0)).toArray), 32) := by kernel_rfl
theorem Tryz.u46 : (Tryz.prog.underlying 98, (Tryz.prog.info? 98).map (·.size)) = (some (.array 64 88), some 64) := by kernel_rfl
theorem Tryz.u45 : (Tryz.prog.underlying 90, (Tryz.prog.info? 90).map (·.size)) = (some (.array 8 88), some 8) := by kernel_rfl
theorem Tryz.u55 : (Tryz.prog.underlying 123, (Tryz.prog.info? 123).map (·.size)) = (some (.array 64 5), some 64) := by kernel_rfl
theorem Tryz.u23 : (Tryz.prog.underlying 27, (Tryz.prog.info? 27).map (·.size)) = (some (.array 32 5), some 32) := by kernel_rfl

end Go.Proofs.YtmilcknboaefkaaGreatDoor
