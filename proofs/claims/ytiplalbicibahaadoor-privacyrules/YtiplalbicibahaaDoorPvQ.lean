/- privacy: a rule as text; Text. -/
import Derived.Test.YtiplalbicibahaaDoorPvK
import Derived.Laws.StructEq
set_option maxRecDepth 100000
namespace Go.Proofs.YtiplalbicibahaaDoor
open Go.RowKit Go.Joins Go.Shelf

theorem ba_app (a b : By) : ba a ++ ba b = ba (a ++ b) := by
  apply ByteArray.ext
  simp [ba, ByteArray.data_append]
theorem exec_addB {o : Oper} {ρ : Operand → Value} {x y : Operand} {t u : TypeId} {a b : By} {w : World} (ho : o.op = .binOp .add t x y u) (hx : ρ x = .string (ba a)) (hy : ρ y = .string (ba b)) (hs : a.length + b.length ≤ 9223372036854775807) : (execOp ρ o).run Tryd.prog w = .ok (.value (.string (ba (a ++ b)))) w := by
  rw [← ba_app]
  have hs' : (ba a).size + (ba b).size ≤ 9223372036854775807 := by rw [ba_size, ba_size]; exact hs
  simp only [execOp, ho, hx, hy, Sem.run_bind, Sem.run_pure]
  go_simp
theorem wp_addB {ops : Array Oper} {rest : List Oper} {o : Oper} {a : Act} {w : World} {Q : Exit → Act → World → Prop} (hgd : o.guard = none) {x y : Operand} {t u : TypeId} (ho : o.op = .binOp .add t x y u) (l m : By) (hx : a.eval x = .string (ba l)) (hy : a.eval y = .string (ba m)) (hs : l.length + m.length ≤ 9223372036854775807)
    (hk : wpList Tryd.prog ops Q rest (a.put o.dst (.string (ba (l ++ m)))) w) : wpList Tryd.prog ops Q (o :: rest) a w := by
  refine wpList_plain hgd fun K' hK' => ?_
  unfold Oper.wp
  rw [exec_addB ho hx hy hs]
  exact hK' _ _ hk

def verdictT (r : Rul) : By := if r.al then wAllow else wDeny
def wayT (r : Rul) : By := if r.i && r.o then wBoth else if r.i then wIn else wOut
def headT (r : Rul) : By := verdictT r ++ [32] ++ wayT r ++ [32] ++ r.k
def writtenR (r : Rul) : By := if (r.k == wAll) = true then headT r else headT r ++ [32] ++ r.v
theorem verdictT_len (r : Rul) : (verdictT r).length ≤ 5 := by unfold verdictT; split <;> decide
theorem wayT_len (r : Rul) : (wayT r).length ≤ 4 := by unfold wayT; split; · decide
                                                       · split <;> decide
theorem headT_len (r : Rul) : (headT r).length ≤ 11 + r.k.length := by
  unfold headT
  have := verdictT_len r
  have := wayT_len r
  simp only [List.length_append, List.length_cons, List.length_nil]
  omega
theorem writtenR_len (r : Rul) : (writtenR r).length ≤ 12 + r.k.length + r.v.length := by
  unfold writtenR
  have := headT_len r
  split
  · omega
  · simp only [List.length_append, List.length_cons, List.length_nil]; omega

theorem verdictP_any (r : Rul) (w : World) : Calls Tryd.prog 41 #[rv r] w fun e w' => e = .returned (.string (ba (verdictT r))) ∧ Below w.heap.size w w' := by
  obtain ⟨al, i, o, k, v⟩ := r
  unfold verdictT rv rc
  dsimp only
  generalize ba k = K
  generalize ba v = V
  cases al
  all_goals
    go_enter Tryd.func41, Tryd.ntmps41
    go_wp2
    go_ret
    exact ⟨rfl, below1 _ _⟩
theorem wayP_any (r : Rul) (w : World) : Calls Tryd.prog 42 #[rv r] w fun e w' => e = .returned (.string (ba (wayT r))) ∧ Below w.heap.size w w' := by
  obtain ⟨al, i, o, k, v⟩ := r
  unfold wayT rv rc
  dsimp only
  generalize ba k = K
  generalize ba v = V
  cases i <;> cases o
  all_goals
    go_enter Tryd.func42, Tryd.ntmps42
    go_wp2
    go_ret
    exact ⟨rfl, below1 _ _⟩

set_option maxHeartbeats 1600000 in
theorem written_any (r : Rul) (w : World) (hz : r.k.length + r.v.length ≤ 281474976710000) : Calls Tryd.prog 23 #[rv r] w fun e w' => e = .returned (.string (ba (writtenR r))) ∧ Below w.heap.size w w' := by
  have e1 : ((ba r.k).toList == [97, 108, 108]) = (r.k == wAll) := ba_eq _ _
  have HL : Hid ((verdictT r).length ≤ 5 ∧ (wayT r).length ≤ 4 ∧ (headT r).length ≤ 11 + r.k.length ∧ r.k.length + r.v.length ≤ 281474976710000) := ⟨verdictT_len r, wayT_len r, headT_len r, hz⟩
  have cV := fun w => verdictP_any r w
  have cW := fun w => wayP_any r w
  have HR : Hid (RuAt (w.alloc (.cells (rc r) 23)).drew w.heap.size r ∧ Below w.heap.size w (w.alloc (.cells (rc r) 23)).drew) := ⟨push_at _ _ rfl, (below1 _ _).drew⟩
  clear hz
  obtain ⟨W, HW⟩ : ∃ W, Hid (writtenR r = W) := ⟨_, rfl⟩
  rw [HW.out]
  show Calls _ _ #[.agg (rc r)] _ _
  go_enter Tryd.func23, Tryd.ntmps23
  unfold rc
  unfold rc at HR
  go_upto_region 1 with fail
  obtain ⟨B, HB⟩ : ∃ B, Hid (w.heap.size = B) := ⟨_, rfl⟩
  refine wp_region_lx (fun w' => RuAt w' w.heap.size r) [] 11 (by kernel_rfl) (by kernel_rfl) ?_
  generalize World.drew _ = X at HR ⊢
  rw [HB.out] at HR ⊢
  have HS0 := HR.out.1
  refine lx_rd 0 (rv r) (by kernel_rfl) (fun _ _ d _ _ h => by cases d <;> exact h) (by kernel_rfl) HS0 rfl rfl rfl (fun w' hS => ?hA0) ?_
  case hA0 => exact exec_load_ru (.tmp 1) rfl B rfl r hS
  simp only [List.setIfInBounds_toArray, List.set_cons_zero, List.set_cons_succ]
  refine lx_rd 3 (rv r) (by kernel_rfl) (fun _ _ d _ _ h => by cases d <;> exact h) (by kernel_rfl) HS0 rfl rfl rfl (fun w' hS => ?hA3) ?_
  case hA3 => exact exec_load_ru (.tmp 1) rfl B rfl r hS
  simp only [List.setIfInBounds_toArray, List.set_cons_zero, List.set_cons_succ]
  refine lx_rd 7 (.pointer (some ⟨B, 3, none⟩)) (by kernel_rfl) (fun _ _ d _ _ h => by cases d <;> exact h) (by kernel_rfl) HS0 rfl rfl rfl (fun w' hS => ?hA7) ?_
  case hA7 => first | (go_simp; rfl) | go_simp
  simp only [List.setIfInBounds_toArray, List.set_cons_zero, List.set_cons_succ]
  refine lx_rd 8 (.string (ba r.k)) (by kernel_rfl) (fun _ _ d _ _ h => by cases d <;> exact h) (by kernel_rfl) HS0 rfl rfl rfl (fun w' hS => ?hA8) ?_
  case hA8 => have q0 := hS.c3; first | (go_simp; rfl) | go_simp
  simp only [List.setIfInBounds_toArray, List.set_cons_zero, List.set_cons_succ]
  refine lx_one 1 (by kernel_rfl) (stepT_call 41 ?ac rfl rfl rfl ?rc ?_)
  case rc => first | (go_simp; rfl) | go_simp
  refine (cV X).mono ?_
  rintro e X1 ⟨rfl, hb1⟩
  have HS1 : RuAt X1 B r := HS0.carry hb1
  refine ⟨_, rfl, fun _ => HS1, ?_⟩
  simp only [lxa, lxb, lxc]
  refine lx_rd 2 (.string (ba (verdictT r ++ [32]))) (by kernel_rfl) (fun _ _ d _ _ h => by cases d <;> exact h) (by kernel_rfl) HS1 rfl rfl rfl (fun w' hS => ?hB2) ?_
  case hB2 => exact exec_addB (a := verdictT r) (b := [32]) rfl rfl rfl (by have := HL.out; simp only [List.length_cons, List.length_nil]; omega)
  simp only [List.setIfInBounds_toArray, List.set_cons_zero, List.set_cons_succ]
  refine lx_one 4 (by kernel_rfl) (stepT_call 42 ?ad rfl rfl rfl ?rd ?_)
  case rd => first | (go_simp; rfl) | go_simp
  refine (cW X1).mono ?_
  rintro e X2 ⟨rfl, hb2⟩
  have HS2 : RuAt X2 B r := HS1.carry hb2
  refine ⟨_, rfl, fun _ => HS2, ?_⟩
  simp only [lxa, lxb, lxc]
  refine lx_rd 5 (.string (ba (verdictT r ++ [32] ++ wayT r))) (by kernel_rfl) (fun _ _ d _ _ h => by cases d <;> exact h) (by kernel_rfl) HS2 rfl rfl rfl (fun w' hS => ?hC5) ?_
  case hC5 => exact exec_addB (a := verdictT r ++ [32]) (b := wayT r) rfl rfl rfl (by have := HL.out; simp only [List.length_append, List.length_cons, List.length_nil]; omega)
  simp only [List.setIfInBounds_toArray, List.set_cons_zero, List.set_cons_succ]
  refine lx_rd 6 (.string (ba (verdictT r ++ [32] ++ wayT r ++ [32]))) (by kernel_rfl) (fun _ _ d _ _ h => by cases d <;> exact h) (by kernel_rfl) HS2 rfl rfl rfl (fun w' hS => ?hC6) ?_
  case hC6 => exact exec_addB (a := verdictT r ++ [32] ++ wayT r) (b := [32]) rfl rfl rfl (by have := HL.out; simp only [List.length_append, List.length_cons, List.length_nil]; omega)
  simp only [List.setIfInBounds_toArray, List.set_cons_zero, List.set_cons_succ]
  refine lx_rd 9 (.string (ba (headT r))) (by kernel_rfl) (fun _ _ d _ _ h => by cases d <;> exact h) (by kernel_rfl) HS2 rfl rfl rfl (fun w' hS => ?hC9) ?_
  case hC9 => exact exec_addB (a := verdictT r ++ [32] ++ wayT r ++ [32]) (b := r.k) rfl rfl rfl (by have := HL.out; simp only [List.length_append, List.length_cons, List.length_nil]; omega)
  simp only [List.setIfInBounds_toArray, List.set_cons_zero, List.set_cons_succ]
  refine lx_rd 10 (.string (ba (headT r))) (by kernel_rfl) (fun _ _ d _ _ h => by cases d <;> exact h) (by kernel_rfl) HS2 rfl rfl rfl (fun w' hS => ?hC10) ?_
  case hC10 => first | (go_simp; rfl) | go_simp
  simp only [List.setIfInBounds_toArray, List.set_cons_zero, List.set_cons_succ]
  refine lx_nil (by kernel_rfl) ?_
  have HB2 : Hid (Below B w X2) := by
    have h1 := HR.out.2
    have h2 := h1.size
    have h3 := hb1.size
    have h4 := HB.out
    exact (h1.trans (hb1.mono (by omega))).trans (hb2.mono (by omega))
  have u3 := HS2.c3
  have u4 := HS2.c4
  clear HS0 HS1 HS2 hb1 hb2 HR cV cW
  have HW2 := HW.out
  unfold writtenR at HW2
  generalize (r.k == wAll) = b at e1 HW2
  cases b with
  | true =>
    rw [if_pos rfl] at HW2
    replace HW2 : Hid _ := HW2
    go_wp2
    go_ret
    exact ⟨by rw [← HW2.out]; rfl, by rw [HB.out]; exact HB2.out⟩
  | false =>
    rw [if_neg (by decide)] at HW2
    replace HW2 : Hid _ := HW2
    go_wp2_with (first
      | (refine wp_addB rfl rfl (headT r) [32] rfl rfl (by have := HL.out; simp only [List.length_cons, List.length_nil]; omega) ?_)
      | (refine wp_addB rfl rfl (headT r ++ [32]) r.v rfl rfl (by have := HL.out; simp only [List.length_append, List.length_cons, List.length_nil]; omega) ?_))
    go_ret
    exact ⟨by rw [← HW2.out, show headT r ++ [32] ++ r.v = headT r ++ 32 :: r.v from by simp]; rfl, by rw [HB.out]; exact HB2.out⟩

/-! ### Text -/
def eqRul (a b : Rul) : Bool := a.al == b.al && (a.i == b.i && (a.o == b.o && (a.k == b.k && a.v == b.v)))
theorem eqRul_true {a b : Rul} (h : eqRul a b = true) : a = b := by
  obtain ⟨a1, a2, a3, a4, a5⟩ := a
  obtain ⟨b1, b2, b3, b4, b5⟩ := b
  unfold eqRul at h
  simp only [Bool.and_eq_true, beq_iff_eq] at h
  obtain ⟨rfl, rfl, rfl, rfl, rfl⟩ := h
  rfl
theorem eqRul_self (a : Rul) : eqRul a a = true := by unfold eqRul; simp
theorem fieldsRule : (Tryd.prog.fieldsOf 23).toList.map (fun f => (f.name == "_", f.type, f.offset)) = [(false, 4, 0), (false, 4, 1), (false, 4, 2), (false, 9, 3), (false, 9, 4)] := by kernel_rfl
theorem run_neq_rule (w : World) (a b : Rul) : (binOp .neq 23 (rv a) (rv b)).run Tryd.prog w = .ok (.bool (!(eqRul a b))) w := by
  obtain ⟨fs, hfs⟩ : ∃ fs, (Tryd.prog.fieldsOf 23).toList = fs := ⟨_, rfl⟩
  have hF := fieldsRule
  rw [hfs] at hF
  have ek : ((ba a.k).toList == (ba b.k).toList) = (a.k == b.k) := by rw [ba_eq, Lib.toList_data, ba_list]
  have ev : ((ba a.v).toList == (ba b.v).toList) = (a.v == b.v) := by rw [ba_eq, Lib.toList_data, ba_list]
  unfold rv rc eqRul
  rw [run_neq_struct, run_equalIn_agg w 9999 23 _ _ (by kernel_rfl) (by kernel_rfl), hfs]
  rcases fs with _ | ⟨f0, _ | ⟨f1, _ | ⟨f2, _ | ⟨f3, _ | ⟨f4, _ | ⟨f5, fs⟩⟩⟩⟩⟩⟩ <;> simp only [List.map_nil, List.map_cons, List.cons.injEq, reduceCtorEq, and_false, and_true, Prod.mk.injEq, List.nil_eq] at hF
  obtain ⟨⟨n0, t0, o0⟩, ⟨n1, t1, o1⟩, ⟨n2, t2, o2⟩, ⟨n3, t3, o3⟩, n4, t4, o4⟩ := hF
  have n0' : f0.name ≠ "_" := by intro e; rw [e] at n0; exact absurd n0 (by decide)
  have n1' : f1.name ≠ "_" := by intro e; rw [e] at n1; exact absurd n1 (by decide)
  have n2' : f2.name ≠ "_" := by intro e; rw [e] at n2; exact absurd n2 (by decide)
  have n3' : f3.name ≠ "_" := by intro e; rw [e] at n3; exact absurd n3 (by decide)
  have n4' : f4.name ≠ "_" := by intro e; rw [e] at n4; exact absurd n4 (by decide)
  have pB : ∀ (xs : Array Value) (i : Nat) (v : Bool), xs[i]? = some (.bool v) → (part 4 xs i).run Tryd.prog w = .ok (.bool v) w := by
    intro xs i v hx; simp [part, isAgg, run_underlying Tryd.underlying4, hx]
  have pS : ∀ (xs : Array Value) (i : Nat) (v : ByteArray), xs[i]? = some (.string v) → (part 9 xs i).run Tryd.prog w = .ok (.string v) w := by
    intro xs i v hx; simp [part, isAgg, run_underlying Tryd.underlying9, hx]
  have eB : ∀ (x y : Bool), (Op.equalIn (9998 + 1) 4 (.bool x) (.bool y)).run Tryd.prog w = .ok (x == y) w := fun x y => run_equalIn_bool w 9998 4 x y Tryd.underlying4
  have eS : ∀ (x y : ByteArray), (Op.equalIn (9998 + 1) 9 (.string x) (.string y)).run Tryd.prog w = .ok (x.toList == y.toList) w := fun x y => run_equalIn_string w 9998 9 x y Tryd.underlying9
  have hrun : (Op.eqFields 9999 #[.bool a.al, .bool a.i, .bool a.o, .string (ba a.k), .string (ba a.v)] #[.bool b.al, .bool b.i, .bool b.o, .string (ba b.k), .string (ba b.v)] [f0, f1, f2, f3, f4]).run Tryd.prog w = .ok (a.al == b.al && (a.i == b.i && (a.o == b.o && (a.k == b.k && a.v == b.v)))) w := by
    simp only [Op.eqFields, n0', n1', n2', n3', n4', ne_eq, not_false_eq_true, if_true, o0, o1, o2, o3, o4, t0, t1, t2, t3, t4, Sem.run_bind]
    rw [pB _ 0 a.al rfl]; simp only [Result.andThen_ok]
    rw [pB _ 0 b.al rfl]; simp only [Result.andThen_ok]
    rw [show (9999 : Nat) = 9998 + 1 from rfl, eB]; simp only [Result.andThen_ok, Sem.run_ite]
    cases a.al == b.al
    · rfl
    simp only [Bool.not_true, Bool.false_eq_true, if_false, Sem.run_bind, Bool.true_and]
    rw [pB _ 1 a.i rfl]; simp only [Result.andThen_ok]
    rw [pB _ 1 b.i rfl]; simp only [Result.andThen_ok]
    rw [eB]; simp only [Result.andThen_ok, Sem.run_ite]
    cases a.i == b.i
    · rfl
    simp only [Bool.not_true, Bool.false_eq_true, if_false, Sem.run_bind, Bool.true_and]
    rw [pB _ 2 a.o rfl]; simp only [Result.andThen_ok]
    rw [pB _ 2 b.o rfl]; simp only [Result.andThen_ok]
    rw [eB]; simp only [Result.andThen_ok, Sem.run_ite]
    cases a.o == b.o
    · rfl
    simp only [Bool.not_true, Bool.false_eq_true, if_false, Sem.run_bind, Bool.true_and]
    rw [pS _ 3 (ba a.k) rfl]; simp only [Result.andThen_ok]
    rw [pS _ 3 (ba b.k) rfl]; simp only [Result.andThen_ok]
    rw [eS, ek]; simp only [Result.andThen_ok, Sem.run_ite]
    cases a.k == b.k
    · rfl
    simp only [Bool.not_true, Bool.false_eq_true, if_false, Sem.run_bind, Bool.true_and]
    rw [pS _ 4 (ba a.v) rfl]; simp only [Result.andThen_ok]
    rw [pS _ 4 (ba b.v) rfl]; simp only [Result.andThen_ok]
    rw [eS, ev]; simp only [Result.andThen_ok, Sem.run_ite]
    cases a.v == b.v <;> rfl
  rw [hrun]
  rfl
theorem exec_neq_rule {w : World} {o : Oper} {ρ : Operand → Value} (x y : Operand) (ho : o.op = .binOp .neq 23 x y 23) (a b : Rul) (hx : ρ x = rv a) (hy : ρ y = rv b) : (execOp ρ o).run Tryd.prog w = .ok (.value (.bool (!(eqRul a b)))) w := by
  have hg : (eqGuard .neq 23 x y (rv a) (rv b)).run Tryd.prog w = .ok () w := run_eqGuard_agg w .neq 23 x y _ _ (by kernel_rfl)
  have hr := run_neq_rule w a b
  unfold execOp
  simp only [ho, hx, hy, Sem.run_bind, hg, hr, Result.andThen_ok, Sem.run_pure]
theorem wp_neq_ruleW {ops : Array Oper} {rest : List Oper} {o : Oper} {a : Act} {w : World} {Q : Exit → Act → World → Prop} (hw : Region.wanted o (yielded ops a.tmps) = true) (x y : Operand) (ho : o.op = .binOp .neq 23 x y 23) (h k : Rul) (hx : a.eval x = rv h) (hy : a.eval y = rv k)
    (hK : wpList Tryd.prog ops Q rest (a.put o.dst (.bool (!(eqRul h k)))) w) : wpList Tryd.prog ops Q (o :: rest) a w := by
  refine Go.BigFrame.wpList_want hw fun _ hK' => ?_
  unfold Oper.wp
  rw [exec_neq_rule x y ho h k hx hy]
  exact hK' _ _ hK
theorem wp_load_ruW {ops : Array Oper} {rest : List Oper} {o : Oper} {a : Act} {w : World} {Q : Exit → Act → World → Prop} (hw : Region.wanted o (yielded ops a.tmps) = true) (x : Operand) (ho : o.op = .load 23 x) (g : Nat) (hx : a.eval x = .pointer (some ⟨g, 0, none⟩)) (r : Rul) (hg : RuAt w g r)
    (hk : wpList Tryd.prog ops Q rest (a.put o.dst (rv r)) w) : wpList Tryd.prog ops Q (o :: rest) a w := by
  refine Go.BigFrame.wpList_want hw fun _ hK' => ?_
  unfold Oper.wp
  rw [exec_load_ru x ho g hx r hg]
  exact hK' _ _ hk

def okT (r : Rul) : Bool := (parseR (writtenR r)).2 == 0 && eqRul (parseR (writtenR r)).1 r
def textV (r : Rul) : Value := .tuple #[.string (ba (if okT r = true then writtenR r else [])), .int .i64 (if okT r = true then 0 else 1)]
set_option maxHeartbeats 1600000 in
theorem text_rule (r : Rul) (w : World) (hz : r.k.length + r.v.length ≤ 281474976710000) (hT : Lib.Utf8Tabs 0 1 w) : Calls Tryd.prog 10 #[rv r] w fun e w' => e = .returned (textV r) ∧ Below w.heap.size w w' := by
  have hwl := writtenR_len r
  have cW := fun w => written_any r w hz
  have cP : Hid (∀ W, Below w.heap.size w W → Calls Tryd.prog 7 #[.string (ba (writtenR r))] W fun e w' => e = .returned (prv (writtenR r)) ∧ Below W.heap.size W w') := fun W hb => parse_any (writtenR r) W (by omega) (tabs_bel hT hb)
  have HR : Hid (RuAt (w.alloc (.cells (rc r) 23)) w.heap.size r ∧ Below w.heap.size w (w.alloc (.cells (rc r) 23))) := ⟨push_at _ _ rfl, below1 _ _⟩
  unfold textV okT
  unfold prv at cP
  clear hwl hz hT
  generalize parseR (writtenR r) = p at *
  obtain ⟨r2, n⟩ := p
  dsimp only at cP ⊢
  obtain ⟨V, HV⟩ : ∃ V, Hid (rv r2 = V) := ⟨_, rfl⟩
  rw [HV.out] at cP
  generalize writtenR r = T at *
  obtain ⟨RR, HRR⟩ : ∃ RR, Hid (Value.tuple #[.string (ba (if (n == 0 && eqRul r2 r) = true then T else [])), .int .i64 (if (n == 0 && eqRul r2 r) = true then 0 else 1)] = RR) := ⟨_, rfl⟩
  rw [HRR.out]
  show Calls _ _ #[.agg (rc r)] _ _
  unfold rc
  unfold rc at HR
  go_enter Tryd.func10, Tryd.ntmps10
  go_upto_region 1 with fail
  generalize w.alloc _ = X at HR ⊢
  obtain ⟨B, HB⟩ : ∃ B, Hid (w.heap.size = B) := ⟨_, rfl⟩
  rw [HB.out] at HR cP ⊢
  go_upto_region 3 with (first
    | (refine wp_load_ru rfl (.tmp 1) rfl B rfl r HR.out.1 ?_)
    | (go_at_call 23; refine (cW _).mono ?_; clear cW; rintro e w1 ⟨rfl, hb1⟩; have R1 : Hid (RuAt w1 B r ∧ Below B w w1) := ⟨HR.out.1.carry hb1, HR.out.2.trans (hb1.mono (by have := HR.out.2.size; have := HB.out; omega))⟩; have cP1 := cP.out w1 R1.out.2; clear hb1 cP)
    | (go_at_call 7; refine cP1.mono ?_; clear cP1; rintro e w2 ⟨rfl, hb2⟩; have R2 : Hid (RuAt w2 B r ∧ Below B w w2) := ⟨R1.out.1.carry hb2, R1.out.2.trans (hb2.mono (by have := R1.out.2.size; have := HB.out; omega))⟩; clear hb2 R1)
    | (refine wp_store_ru rfl (.tmp 5) (.tmp 12) rfl w2.heap.size rfl r2 HV.out.symm r0 (push_at _ _ rfl) ?_))
  have R3 : Hid (RuAt ((w2.alloc oRul).setRow w2.heap.size (rc r2)) B r ∧ RuAt ((w2.alloc oRul).setRow w2.heap.size (rc r2)) w2.heap.size r2 ∧ Below B w ((w2.alloc oRul).setRow w2.heap.size (rc r2))) := by
    have hb : Below w2.heap.size w2 ((w2.alloc oRul).setRow w2.heap.size (rc r2)) := (below1 w2 oRul).trans ((rowK (w2.alloc oRul) w2.heap.size _).below (by simp) (fun j e => by omega))
    exact ⟨R2.out.1.carry hb, RuAt.set (w := w2.alloc oRul) (r := r0) (push_at _ _ rfl) _, R2.out.2.trans (hb.mono (by have := R2.out.2.size; have := HB.out; omega))⟩
  generalize (w2.alloc _).setRow _ _ = w3 at R3 ⊢
  generalize w2.heap.size = g at R3 ⊢
  clear R2 HR
  by_cases h0 : n = 0
  · subst h0
    generalize hE : eqRul r2 r = E
    replace hE : Hid _ := hE
    cases E with
    | true =>
      go_wp2_with (first
        | (refine wp_load_ruW (by rfl) (.tmp 5) rfl g rfl r2 R3.out.2.1 ?_)
        | (refine wp_load_ruW (by rfl) (.tmp 1) rfl B rfl r R3.out.1 ?_)
        | (refine wp_neq_ruleW (by rfl) (.tmp 17) (.tmp 18) rfl r2 r rfl rfl ?_; rw [hE.out]))
      go_ret2
      refine ⟨?_, by rw [HB.out]; exact R3.out.2.2⟩
      rw [← HRR.out, hE.out]
      rfl
    | false =>
      go_wp2_with (first
        | (refine wp_load_ruW (by rfl) (.tmp 5) rfl g rfl r2 R3.out.2.1 ?_)
        | (refine wp_load_ruW (by rfl) (.tmp 1) rfl B rfl r R3.out.1 ?_)
        | (refine wp_neq_ruleW (by rfl) (.tmp 17) (.tmp 18) rfl r2 r rfl rfl ?_; rw [hE.out]))
      go_ret2
      refine ⟨?_, by rw [HB.out]; exact R3.out.2.2⟩
      rw [← HRR.out, hE.out]
      rfl
  · have hd : ((n : Int) != 0) = true := by simp; omega
    have hn : Hid ((n == 0) = false) := by show (n == 0) = false; simp [h0]
    clear h0
    go_wp2
    go_ret2
    refine ⟨?_, by rw [HB.out]; exact R3.out.2.2⟩
    rw [← HRR.out, hn.out]
    rfl
end Go.Proofs.YtiplalbicibahaaDoor
