/- subs: the acts and what is heard, one by one. -/
import Derived.Test.YtgijofcnknehdaaDoorSuA
import Derived.Lib.SmallJoins
namespace Go.Proofs.YtgijofcnknehdaaDoor
open Go.RowKit Go.Joins

/-- A half in a variable of its own. -/
def HfAt (w : World) (b : Nat) (h : Hf) : Prop := w.heap[b]? = some (.cells (hfc h) 24 (0, 0))
section
variable {w w' : World} {b : Nat} {h : Hf}
theorem HfAt.lt (A : HfAt w b h) : b < w.heap.size := (Array.getElem?_eq_some_iff.1 A).1
theorem HfAt.below (A : HfAt w b h) {B : Nat} (hb : Below B w w') (hB : b < B) : HfAt w' b h := (hb.block b hB).trans A
theorem HfAt.drew (A : HfAt w b h) : HfAt w.drew b h := A
theorem HfAt.c0 (A : HfAt w b h) : w.cell? ⟨b, 0, none⟩ = some (.int .i64 h.o) := by rw [cell_of_block A]; rfl
theorem HfAt.c1 (A : HfAt w b h) : w.cell? ⟨b, 1, none⟩ = some (.int .u64 h.n) := by rw [cell_of_block A]; rfl
theorem HfAt.c2 (A : HfAt w b h) : w.cell? ⟨b, 2, none⟩ = some (.int .i64 h.i) := by rw [cell_of_block A]; rfl
theorem HfAt.c3 (A : HfAt w b h) : w.cell? ⟨b, 3, none⟩ = some (.int .u64 h.m) := by rw [cell_of_block A]; rfl
theorem infoHalf : (Tryd.prog.info? 24).map (·.size) = some 4 := by kernel_rfl
theorem hfc_one (h : Hf) : (hfc h).all (·.oneCell') = true := by simp [hfc, Value.oneCell']
theorem HfAt.load (A : HfAt w b h) : (loadVar 24 ⟨b, 0, none⟩).run Tryd.prog w = .ok (hfv h) w := run_loadVar_row w b 24 24 _ (0, 0) _ A Tryd.underlying24 rfl (by rw [infoHalf]; rfl)
theorem HfAt.set (A : HfAt w b h) (h' : Hf) : HfAt (w.setRow b (hfc h')) b h' := setRow_heap w b _ _ 24 (0, 0) A
theorem HfAt.row (A : HfAt w b h) {c : Nat} (v : Array Value) (hc : b ≠ c) : HfAt (w.setRow c v) b h := (setRow_other w c b _ hc).trans A
theorem HfAt.keepB (_ : HfAt w b h) (h' : Hf) : Keep (fun j => j = b) w (w.setRow b (hfc h')) := ⟨rfl, rfl, rfl, by simp, fun j _ hj => setRow_other w b j _ hj⟩
theorem HfAt.setB (A : HfAt w b h) {w0 : World} {B : Nat} (hb : Below B w0 w) (hB : B ≤ b) (h' : Hf) : Below B w0 (w.setRow b (hfc h')) := hb.trans ((A.keepB h').below (Nat.le_trans hB (Nat.le_of_lt A.lt)) (fun q hq => by omega))
end
theorem exec_store_half {o : Oper} {ρ : Operand → Value} {w : World} (x y : Operand) (ho : o.op = .store 24 x y) (g : Nat) (hx : ρ x = .pointer (some ⟨g, 0, none⟩)) (h' : Hf) (hy : ρ y = hfv h') (h : Hf) (hg : HfAt w g h) :
    (execOp ρ o).run Tryd.prog w = .ok .skip (w.setRow g (hfc h')) := by
  unfold execOp
  simp only [ho, hx, hy, hfv, Instr.storeAt, Instr.sureAddr, Sem.run_bind, Sem.run_pure, Result.andThen_ok, run_storeVar_row w g 24 24 _ (hfc h') hg (by rw [infoHalf]; rfl) (by rfl) (hfc_one h')]
theorem wp_store_half {ops : Array Oper} {rest : List Oper} {o : Oper} {a : Act} {w : World} {Q : Exit → Act → World → Prop} (hgd : o.guard = none) (x y : Operand) (ho : o.op = .store 24 x y)
    (g : Nat) (hx : a.eval x = .pointer (some ⟨g, 0, none⟩)) (h' : Hf) (hy : a.eval y = hfv h') (h : Hf) (hg : HfAt w g h)
    (hk : wpList Tryd.prog ops Q rest (a.put o.dst undef) (w.setRow g (hfc h'))) : wpList Tryd.prog ops Q (o :: rest) a w :=
  wpList_store_row hgd 24 x y ho g _ hx hy 24 _ hg (by rw [infoHalf]; rfl) (by rfl) (hfc_one h') hk

def askH (h : Hf) (x : Int) : Hf × Int × Int := if h.o = 0 then ({ h with o := 1, n := x }, 1, x) else (h, 0, 0)
def grantH (h : Hf) : Hf × Int × Int := if h.i = 1 then ({ h with i := 2 }, 3, h.m) else (h, 0, 0)
def leaveH (h : Hf) : Hf × Int × Int := if h.o = 0 then (h, 0, 0) else ({ h with o := 0, n := 0 }, 2, h.n)
def denyH (h : Hf) : Hf × Int × Int := if h.i = 0 then (h, 0, 0) else ({ h with i := 0, m := 0 }, 4, h.m)
def rv3 (r : Hf × Int × Int) : Value := .tuple #[hfv r.1, .int .i64 r.2.1, .int .u64 r.2.2]

theorem ask_any (h : Hf) (x : Int) (w : World) : Calls Tryd.prog 25 #[hfv h, .int .u64 x] w fun e w' => e = .returned (rv3 (askH h x)) ∧ Below w.heap.size w w' := by
  unfold askH rv3 hfv hfc
  by_cases h0 : h.o = 0
  · rw [if_pos h0]
    go_enter Tryd.func25, Tryd.ntmps25
    go_wp2
    simp [bodyPost, results, Tryd.results25, go_sem]
    exact below2 _ _ _
  · rw [if_neg h0]
    go_enter Tryd.func25, Tryd.ntmps25
    go_wp2
    simp [bodyPost, results, Tryd.results25, go_sem]
    exact below2 _ _ _
theorem grant_any (h : Hf) (w : World) : Calls Tryd.prog 26 #[hfv h] w fun e w' => e = .returned (rv3 (grantH h)) ∧ Below w.heap.size w w' := by
  unfold grantH rv3 hfv hfc
  by_cases h0 : h.i = 1
  · rw [if_pos h0]
    go_enter Tryd.func26, Tryd.ntmps26
    go_wp2
    go_region
    all_goals go_wp2
    all_goals simp [bodyPost, results, Tryd.results26, go_sem]
    all_goals exact (below2 _ _ _).drew
  · rw [if_neg h0]
    go_enter Tryd.func26, Tryd.ntmps26
    go_wp2
    simp [bodyPost, results, Tryd.results26, go_sem]
    exact below2 _ _ _

set_option maxHeartbeats 800000 in
theorem leave_any (h : Hf) (w : World) : Calls Tryd.prog 27 #[hfv h] w fun e w' => e = .returned (rv3 (leaveH h)) ∧ Below w.heap.size w w' := by
  unfold leaveH rv3
  by_cases h0 : h.o = 0
  · rw [if_pos h0]
    unfold hfv hfc
    go_enter Tryd.func27, Tryd.ntmps27
    go_wp2
    simp [bodyPost, results, Tryd.results27, go_sem]
    exact ⟨h0.symm, below2 _ _ _⟩
  · rw [if_neg h0]
    have hw := fun w => woOut_any h w
    have hb2 := below2 w (.cells (hfc h) 24) (.cells (hfc ⟨0, 0, 0, 0⟩) 24)
    have A1 : HfAt ((w.alloc (.cells (hfc h) 24)).alloc (.cells (hfc ⟨0, 0, 0, 0⟩) 24)) w.heap.size h := (Below.heap_alloc _ _ _ (by simp)).trans (heap_alloc_new w _)
    have A2 : HfAt ((w.alloc (.cells (hfc h) 24)).alloc (.cells (hfc ⟨0, 0, 0, 0⟩) 24)) (w.heap.size + 1) ⟨0, 0, 0, 0⟩ := by have := heap_alloc_new (w.alloc (.cells (hfc h) 24)) (.cells (hfc ⟨0, 0, 0, 0⟩) 24); simpa [HfAt] using this
    unfold hfv hfc at hw ⊢
    unfold hfc at A1 A2 hb2
    go_enter Tryd.func27, Tryd.ntmps27
    go_upto_region 3 with fail
    refine wp_region_lx (fun w' => HfAt w' w.heap.size h) [] 7 (by kernel_rfl) (by kernel_rfl) ?_
    have A1d := HfAt.drew A1
    have A2d := HfAt.drew A2
    have hbd := Below.drew hb2
    clear A1 A2 hb2
    generalize World.drew _ = W at A1d A2d hbd ⊢
    have HS : HfAt W w.heap.size h := A1d
    refine lx_rd 0 (.agg #[.int .i64 h.o, .int .u64 h.n, .int .i64 h.i, .int .u64 h.m]) (by kernel_rfl) (fun _ _ d _ _ h => by cases d <;> exact h) (by kernel_rfl) HS rfl rfl rfl (fun w' hS => ?hR0) ?_
    case hR0 => have z0 := hS.c0; have z1 := hS.c1; have z2 := hS.c2; have z3 := hS.c3; first | (go_simp; rfl) | go_simp
    simp only [List.setIfInBounds_toArray, List.set_cons_zero, List.set_cons_succ]
    refine lx_rd 2 ?vR2 (by kernel_rfl) (fun _ _ d _ _ h => by cases d <;> exact h) (by kernel_rfl) HS rfl rfl rfl (fun w' hS => ?hR2) ?_
    case hR2 => first | (go_simp; rfl) | go_simp
    simp only [List.setIfInBounds_toArray, List.set_cons_zero, List.set_cons_succ]
    refine lx_rd 3 (.int .u64 h.n) (by kernel_rfl) (fun _ _ d _ _ h => by cases d <;> exact h) (by kernel_rfl) HS rfl rfl rfl (fun w' hS => ?hR3) ?_
    case hR3 => have z0 := hS.c1; first | (go_simp; rfl) | go_simp
    simp only [List.setIfInBounds_toArray, List.set_cons_zero, List.set_cons_succ]
    refine lx_one 1 (by kernel_rfl) (stepT_call 33 ?c1 rfl rfl rfl ?d1 ?_)
    case d1 => first | (go_simp; rfl) | go_simp
    refine (hw W).mono ?_
    rintro e w5 ⟨rfl, hb5⟩
    have B1 := A1d.below hb5 A1d.lt
    have B2 := A2d.below hb5 A2d.lt
    have hb6 := hbd.trans (hb5.mono hbd.size)
    refine ⟨_, rfl, fun _ => B1, ?_⟩
    simp only [List.setIfInBounds_toArray, List.set_cons_zero, List.set_cons_succ]
    have C1 : HfAt (w5.setRow (w.heap.size + 1) (hfc (leaveH h).1)) w.heap.size h := B1.row _ (by omega)
    refine lx_one 4 (by kernel_rfl) (stepT_store (w' := w5.setRow (w.heap.size + 1) (hfc (leaveH h).1)) rfl rfl rfl ?d4 (fun _ => C1) ?_)
    case d4 => exact exec_store_half (.tmp 2) (.tmp 10) rfl (w.heap.size + 1) rfl (leaveH h).1 (by unfold leaveH; rw [if_neg h0]; rfl) _ B2
    refine lx_one 5 (by kernel_rfl) (stepT_val (w' := w5.setRow (w.heap.size + 1) (hfc (leaveH h).1)) (.int .i64 2) rfl rfl rfl ?d5 (fun _ => C1) ?_)
    case d5 => first | (go_simp; done) | (go_simp; rfl)
    simp only [List.setIfInBounds_toArray, List.set_cons_zero, List.set_cons_succ]
    refine lx_one 6 (by kernel_rfl) (stepT_val (w' := w5.setRow (w.heap.size + 1) (hfc (leaveH h).1)) (.int .u64 h.n) rfl rfl rfl ?d6 (fun _ => C1) ?_)
    case d6 => first | (go_simp; done) | (go_simp; rfl)
    simp only [List.setIfInBounds_toArray, List.set_cons_zero, List.set_cons_succ]
    refine lx_nil (by kernel_rfl) ?_
    have C2 : HfAt (w5.setRow (w.heap.size + 1) (hfc (leaveH h).1)) (w.heap.size + 1) (leaveH h).1 := B2.set _
    have hb7 := B2.setB hb6 (by omega) (leaveH h).1
    generalize w5.setRow (w.heap.size + 1) (hfc (leaveH h).1) = WX at *
    go_wp2
    unfold leaveH at C2
    rw [if_neg h0] at C2
    simp [bodyPost, results, Tryd.results27, go_sem, C2.c0, C2.c1, C2.c2, C2.c3]
    exact hb7

set_option maxHeartbeats 800000 in
theorem deny_any (h : Hf) (w : World) : Calls Tryd.prog 28 #[hfv h] w fun e w' => e = .returned (rv3 (denyH h)) ∧ Below w.heap.size w w' := by
  unfold denyH rv3
  by_cases h0 : h.i = 0
  · rw [if_pos h0]
    unfold hfv hfc
    go_enter Tryd.func28, Tryd.ntmps28
    go_wp2
    simp [bodyPost, results, Tryd.results28, go_sem]
    exact ⟨h0.symm, below2 _ _ _⟩
  · rw [if_neg h0]
    have hw := fun w => woIn_any h w
    have hb2 := below2 w (.cells (hfc h) 24) (.cells (hfc ⟨0, 0, 0, 0⟩) 24)
    have A1 : HfAt ((w.alloc (.cells (hfc h) 24)).alloc (.cells (hfc ⟨0, 0, 0, 0⟩) 24)) w.heap.size h := (Below.heap_alloc _ _ _ (by simp)).trans (heap_alloc_new w _)
    have A2 : HfAt ((w.alloc (.cells (hfc h) 24)).alloc (.cells (hfc ⟨0, 0, 0, 0⟩) 24)) (w.heap.size + 1) ⟨0, 0, 0, 0⟩ := by have := heap_alloc_new (w.alloc (.cells (hfc h) 24)) (.cells (hfc ⟨0, 0, 0, 0⟩) 24); simpa [HfAt] using this
    unfold hfv hfc at hw ⊢
    unfold hfc at A1 A2 hb2
    go_enter Tryd.func28, Tryd.ntmps28
    go_upto_region 3 with fail
    refine wp_region_lx (fun w' => HfAt w' w.heap.size h) [] 7 (by kernel_rfl) (by kernel_rfl) ?_
    have A1d := HfAt.drew A1
    have A2d := HfAt.drew A2
    have hbd := Below.drew hb2
    clear A1 A2 hb2
    generalize World.drew _ = W at A1d A2d hbd ⊢
    have HS : HfAt W w.heap.size h := A1d
    refine lx_rd 0 (.agg #[.int .i64 h.o, .int .u64 h.n, .int .i64 h.i, .int .u64 h.m]) (by kernel_rfl) (fun _ _ d _ _ h => by cases d <;> exact h) (by kernel_rfl) HS rfl rfl rfl (fun w' hS => ?hR0) ?_
    case hR0 => have z0 := hS.c0; have z1 := hS.c1; have z2 := hS.c2; have z3 := hS.c3; first | (go_simp; rfl) | go_simp
    simp only [List.setIfInBounds_toArray, List.set_cons_zero, List.set_cons_succ]
    refine lx_rd 2 ?vR2 (by kernel_rfl) (fun _ _ d _ _ h => by cases d <;> exact h) (by kernel_rfl) HS rfl rfl rfl (fun w' hS => ?hR2) ?_
    case hR2 => first | (go_simp; rfl) | go_simp
    simp only [List.setIfInBounds_toArray, List.set_cons_zero, List.set_cons_succ]
    refine lx_rd 3 (.int .u64 h.m) (by kernel_rfl) (fun _ _ d _ _ h => by cases d <;> exact h) (by kernel_rfl) HS rfl rfl rfl (fun w' hS => ?hR3) ?_
    case hR3 => have z0 := hS.c3; first | (go_simp; rfl) | go_simp
    simp only [List.setIfInBounds_toArray, List.set_cons_zero, List.set_cons_succ]
    refine lx_one 1 (by kernel_rfl) (stepT_call 34 ?c1 rfl rfl rfl ?d1 ?_)
    case d1 => first | (go_simp; rfl) | go_simp
    refine (hw W).mono ?_
    rintro e w5 ⟨rfl, hb5⟩
    have B1 := A1d.below hb5 A1d.lt
    have B2 := A2d.below hb5 A2d.lt
    have hb6 := hbd.trans (hb5.mono hbd.size)
    refine ⟨_, rfl, fun _ => B1, ?_⟩
    simp only [List.setIfInBounds_toArray, List.set_cons_zero, List.set_cons_succ]
    have C1 : HfAt (w5.setRow (w.heap.size + 1) (hfc (denyH h).1)) w.heap.size h := B1.row _ (by omega)
    refine lx_one 4 (by kernel_rfl) (stepT_store (w' := w5.setRow (w.heap.size + 1) (hfc (denyH h).1)) rfl rfl rfl ?d4 (fun _ => C1) ?_)
    case d4 => exact exec_store_half (.tmp 2) (.tmp 10) rfl (w.heap.size + 1) rfl (denyH h).1 (by unfold denyH; rw [if_neg h0]; rfl) _ B2
    refine lx_one 5 (by kernel_rfl) (stepT_val (w' := w5.setRow (w.heap.size + 1) (hfc (denyH h).1)) (.int .i64 4) rfl rfl rfl ?d5 (fun _ => C1) ?_)
    case d5 => first | (go_simp; done) | (go_simp; rfl)
    simp only [List.setIfInBounds_toArray, List.set_cons_zero, List.set_cons_succ]
    refine lx_one 6 (by kernel_rfl) (stepT_val (w' := w5.setRow (w.heap.size + 1) (hfc (denyH h).1)) (.int .u64 h.m) rfl rfl rfl ?d6 (fun _ => C1) ?_)
    case d6 => first | (go_simp; done) | (go_simp; rfl)
    simp only [List.setIfInBounds_toArray, List.set_cons_zero, List.set_cons_succ]
    refine lx_nil (by kernel_rfl) ?_
    have C2 : HfAt (w5.setRow (w.heap.size + 1) (hfc (denyH h).1)) (w.heap.size + 1) (denyH h).1 := B2.set _
    have hb7 := B2.setB hb6 (by omega) (denyH h).1
    generalize w5.setRow (w.heap.size + 1) (hfc (denyH h).1) = WX at *
    go_wp2
    unfold denyH at C2
    rw [if_neg h0] at C2
    simp [bodyPost, results, Tryd.results28, go_sem, C2.c0, C2.c1, C2.c2, C2.c3]
    exact hb7
end Go.Proofs.YtgijofcnknehdaaDoor
