/- Records as values and in memory; bytes.Clone. -/
import Derived.Test.YtiidjdedeenijaaDoorDgM
import Derived.Test.YtiidjdedeenijaaDoorDgQ
import Derived.Test.YtiidjdedeenijaaDoorAnyQ
import Derived.Test.YtiidjdedeenijaaDoorB6A
namespace Go.Proofs.YtiidjdedeenijaaDoor
open Go.RowKit

def recL (x0 x1 x2 : Value) (K V : List Int) : List Value := x0 :: x1 :: x2 :: (ic .u8 K ++ ic .u8 V)
def RcAt (w : World) (g : Nat) (cs : List Value) : Prop := w.heap[g]? = some (.cells cs.toArray 28 (0, 0))
theorem RcAt.lt {w : World} {g : Nat} {cs : List Value} (h : RcAt w g cs) : g < w.heap.size := (Array.getElem?_eq_some_iff.1 h).1
theorem RcAt.below {w w' : World} {g : Nat} {cs : List Value} (h : RcAt w g cs) (hb : Below w.heap.size w w') : RcAt w' g cs := (hb.block g h.lt).trans h
theorem RcAt.cell {w : World} {g : Nat} {cs : List Value} (h : RcAt w g cs) (j : Nat) : w.cell? ⟨g, j, none⟩ = cs[j]? := by
  unfold RcAt at h
  simp [World.cell?, h]
theorem RcAt.st {w : World} {g : Nat} {x0 x1 x2 : Value} {K V : List Int} (h : RcAt w g (recL x0 x1 x2 K V)) : w.rangeAt g 3 (ic .u8 K) := fun j v hv => by
  rw [h.cell]
  have hl : j < (ic .u8 K).length := (List.getElem?_eq_some_iff.1 hv).1
  unfold recL
  rw [show 3 + j = j + 1 + 1 + 1 by omega]
  simp only [List.getElem?_cons_succ]
  rw [List.getElem?_append_left hl]
  exact hv
theorem RcAt.sv {w : World} {g : Nat} {x0 x1 x2 : Value} {K V : List Int} (h : RcAt w g (recL x0 x1 x2 K V)) (hK : K.length = 32) : w.rangeAt g 35 (ic .u8 V) := fun j v hv => by
  rw [h.cell]
  have hl : (ic .u8 K).length = 32 := by rw [ic_len]; exact hK
  unfold recL
  rw [show 35 + j = (32 + j) + 1 + 1 + 1 by omega]
  simp only [List.getElem?_cons_succ]
  rw [List.getElem?_append_right (by omega), hl, show 32 + j - 32 = j by omega]
  exact hv
theorem wp_box_row {P : Program} {ops : Array Oper} {rest : List Oper} {o : Oper} {a : Act} {w : World} {Q : Exit → Act → World → Prop} (hgd : o.guard = none) (ty : TypeId) (x : Operand) (ho : o.op = .box ty x) (cs : List Value)
    (hx : a.eval x = .agg cs.toArray)
    (h : ∀ g w1, w1.heap[g]? = some (.cells cs.toArray ty (0, 0)) → w.heap.size ≤ g → Below w.heap.size w w1 → wpList P ops Q rest (a.put o.dst (.pointer (some ⟨g, 0, none⟩))) w1) : wpList P ops Q (o :: rest) a w :=
  wpList_plain hgd fun K hK => by
    unfold Oper.wp execOp
    simp only [ho, hx, Instr.box, Sem.run_bind, newVar, newRow, Value.cells, run_newObj_alloc, Sem.run_pure, Result.andThen_ok]
    exact hK _ _ (h w.heap.size _ (heap_alloc_new w _) (Nat.le_refl _) ((Below.refl _ _).alloc (Nat.le_refl _) _))
theorem wp_execW {ops : Array Oper} {rest : List Oper} {o : Oper} {a : Act} {w : World} {Q : Exit → Act → World → Prop} (hw : Region.wanted o (yielded ops a.tmps) = true) {v : Value}
    (hr : (execOp a.eval o).run Tryd.prog w = .ok (.value v) w) (h : wpList Tryd.prog ops Q rest (a.put o.dst v) w) : wpList Tryd.prog ops Q (o :: rest) a w := by
  refine Go.BigFrame.wpList_want hw fun _ hK => ?_
  unfold Oper.wp
  rw [hr]
  exact hK _ _ h

theorem wp_eql23 {ops : Array Oper} {rest : List Oper} {o : Oper} {a : Act} {w : World} {Q : Exit → Act → World → Prop} (hgd : o.guard = none) (x y : Operand) (ho : o.op = .binOp .eql 26 x y 26)
    (xs ys : List Int) (hx : a.eval x = .agg (ic .u8 xs).toArray) (hy : a.eval y = .agg (ic .u8 ys).toArray) (hlx : xs.length = 32) (hly : ys.length = 32)
    (h : wpList Tryd.prog ops Q rest (a.put o.dst (.bool (decide (xs = ys)))) w) : wpList Tryd.prog ops Q (o :: rest) a w := by
  have hr := exec_binOp (P := Tryd.prog) (w := w) (ρ := a.eval) .eql 26 x y _ ho _ _ _ hx hy (Tryd.guard23 w .eql x y _ _) (Tryd.eql23 w xs ys hlx hly)
  refine wpList_plain hgd fun _ hK => ?_
  unfold Oper.wp
  rw [hr]
  exact hK _ _ h

/-- The like, behind a guard. -/
theorem wp_eql23W {ops : Array Oper} {rest : List Oper} {o : Oper} {a : Act} {w : World} {Q : Exit → Act → World → Prop} (hw : Region.wanted o (yielded ops a.tmps) = true) (x y : Operand) (ho : o.op = .binOp .eql 26 x y 26)
    (xs ys : List Int) (hx : a.eval x = .agg (ic .u8 xs).toArray) (hy : a.eval y = .agg (ic .u8 ys).toArray) (hlx : xs.length = 32) (hly : ys.length = 32)
    (h : wpList Tryd.prog ops Q rest (a.put o.dst (.bool (decide (xs = ys)))) w) : wpList Tryd.prog ops Q (o :: rest) a w := by
  have hr := exec_binOp (P := Tryd.prog) (w := w) (ρ := a.eval) .eql 26 x y _ ho _ _ _ hx hy (Tryd.guard23 w .eql x y _ _) (Tryd.eql23 w xs ys hlx hly)
  refine Go.BigFrame.wpList_want hw fun _ hK => ?_
  unfold Oper.wp
  rw [hr]
  exact hK _ _ h


theorem wp_load_arW {ops : Array Oper} {rest : List Oper} {o : Oper} {a : Act} {w : World} {Q : Exit → Act → World → Prop} (hw : Region.wanted o (yielded ops a.tmps) = true) (ty : TypeId) (x : Operand) (ho : o.op = .load ty x)
    (g : Nat) (hx : a.eval x = .pointer (some ⟨g, 0, none⟩)) (t : TypeId) (k : IntKind) (xs : List Int) (e : TypeId) (n : Nat) (hg : Ar w g t k xs)
    (hu : (Tryd.prog.underlying ty, (Tryd.prog.info? ty).map (·.size)) = (some (.array n e), some n)) (hn : xs.length = n)
    (h : wpList Tryd.prog ops Q rest (a.put o.dst (.agg (ic k xs).toArray)) w) : wpList Tryd.prog ops Q (o :: rest) a w := by
  have hr := exec_load_ar (P := Tryd.prog) (w := w) (ρ := a.eval) ty x ho g hx t k xs e n hg hu hn
  refine Go.BigFrame.wpList_want hw fun _ hK => ?_
  unfold Oper.wp
  rw [hr]
  exact hK _ _ h
theorem exec_load_row {o : Oper} {ρ : Operand → Value} {w : World} (ty : TypeId) (x : Operand) (ho : o.op = .load ty x) (g : Nat) (hx : ρ x = .pointer (some ⟨g, 0, none⟩)) (t : TypeId) (cs : Array Value) (fs : Array Field) (hg : w.heap[g]? = some (.cells cs t (0, 0)))
    (hu : Tryd.prog.underlying ty = some (.struct fs)) (hi : (Tryd.prog.info? ty).map (·.size) = some cs.size) :
    (execOp ρ o).run Tryd.prog w = .ok (.value (.agg cs)) w := by
  unfold execOp
  simp only [ho, hx, Instr.loadAt, Instr.sureAddr, Sem.run_bind, Sem.run_pure, Result.andThen_ok, run_loadVar_row w g t ty cs (0, 0) _ hg hu rfl hi]


theorem list32 {l : List Int} (h : l.length = 32) : ∃ x0 x1 x2 x3 x4 x5 x6 x7 x8 x9 x10 x11 x12 x13 x14 x15 x16 x17 x18 x19 x20 x21 x22 x23 x24 x25 x26 x27 x28 x29 x30 x31 : Int, l = [x0, x1, x2, x3, x4, x5, x6, x7, x8, x9, x10, x11, x12, x13, x14, x15, x16, x17, x18, x19, x20, x21, x22, x23, x24, x25, x26, x27, x28, x29, x30, x31] := by
  match l, h with
  | [x0, x1, x2, x3, x4, x5, x6, x7, x8, x9, x10, x11, x12, x13, x14, x15, x16, x17, x18, x19, x20, x21, x22, x23, x24, x25, x26, x27, x28, x29, x30, x31], _ => exact ⟨x0, x1, x2, x3, x4, x5, x6, x7, x8, x9, x10, x11, x12, x13, x14, x15, x16, x17, x18, x19, x20, x21, x22, x23, x24, x25, x26, x27, x28, x29, x30, x31, rfl⟩

def Z32 : List Int := List.replicate 32 0
/-- The record that is none. -/
def rec0 : List Value := recL (.string ⟨#[]⟩) (.slice none 0 0) (.int .i64 0) Z32 Z32
theorem built_rec0 : Tryd.prog.built 28 [] = some rec0.toArray := by kernel_rfl
theorem zero_rec : (Tryd.prog.info? 28).map (fun i => (i.zero, i.size)) = some (some (.agg rec0.toArray), 67) := by kernel_rfl
theorem built_rec (u : ByteArray) (a : Option Addr) (n c : Nat) (z : Int) (K V : List Int) (hK : K.length = 32) (hV : V.length = 32) :
    Tryd.prog.built 28 [(0, .string u), (1, .slice a n c), (2, .int .i64 z), (3, .agg (ic .u8 K).toArray), (4, .agg (ic .u8 V).toArray)] = some (recL (.string u) (.slice a n c) (.int .i64 z) K V).toArray := by
  obtain ⟨x0, x1, x2, x3, x4, x5, x6, x7, x8, x9, x10, x11, x12, x13, x14, x15, x16, x17, x18, x19, x20, x21, x22, x23, x24, x25, x26, x27, x28, x29, x30, x31, rfl⟩ := list32 hK
  obtain ⟨x0', x1', x2', x3', x4', x5', x6', x7', x8', x9', x10', x11', x12', x13', x14', x15', x16', x17', x18', x19', x20', x21', x22', x23', x24', x25', x26', x27', x28', x29', x30', x31', rfl⟩ := list32 hV
  kernel_rfl
theorem rec_len (x0 x1 x2 : Value) {K V : List Int} (hK : K.length = 32) (hV : V.length = 32) : (recL x0 x1 x2 K V).length = 67 := by simp [recL, ic_len, hK, hV]
theorem rec_one (u : ByteArray) (a : Option Addr) (n c : Nat) (z : Int) (K V : List Int) : (recL (.string u) (.slice a n c) (.int .i64 z) K V).toArray.all (·.oneCell') = true := by
  rw [Array.all_eq_true_iff_forall_mem]
  intro v hv
  simp [recL, ic] at hv
  rcases hv with rfl | rfl | rfl | ⟨x, _, rfl⟩ | ⟨x, _, rfl⟩ <;> rfl

theorem wp_alloc_row {P : Program} {ops : Array Oper} {rest : List Oper} {o : Oper} {a : Act} {w : World} {Q : Exit → Act → World → Prop} (hgd : o.guard = none) (ty : TypeId) (ho : o.op = .alloc ty) (cs : List Value) (n : Nat)
    (hz : (P.info? ty).map (fun i => (i.zero, i.size)) = some (some (.agg cs.toArray), n))
    (h : ∀ g w1, w1.heap[g]? = some (.cells cs.toArray ty (0, 0)) → w.heap.size ≤ g → Below w.heap.size w w1 → wpList P ops Q rest (a.put o.dst (.pointer (some ⟨g, 0, none⟩))) w1) : wpList P ops Q (o :: rest) a w :=
  wpList_plain hgd fun K hK => by
    unfold Oper.wp execOp
    simp only [ho, Instr.alloc, Sem.run_bind, (zero_of_info hz).1 w, newVar, newRow, Value.cells, run_newObj_alloc, Sem.run_pure, Result.andThen_ok]
    exact hK _ _ (h w.heap.size _ (heap_alloc_new w _) (Nat.le_refl _) ((Below.refl _ _).alloc (Nat.le_refl _) _))
theorem wp_build_rec0 {ops : Array Oper} {rest : List Oper} {o : Oper} {a : Act} {w : World} {Q : Exit → Act → World → Prop} (hgd : o.guard = none) (ho : o.op = .build 28 #[])
    (h : wpList Tryd.prog ops Q rest (a.put o.dst (.agg rec0.toArray)) w) : wpList Tryd.prog ops Q (o :: rest) a w :=
  wpList_plain hgd fun K hK => by
    have hr := run_build w 28 #[] rec0.toArray built_rec0
    unfold Oper.wp execOp
    simp only [ho, List.map_toArray, List.map_nil, Sem.run_bind, hr, Result.andThen_ok, Sem.run_pure]
    exact hK _ _ h
/-- A whole record into its variable. -/
theorem wp_store_rec {ops : Array Oper} {rest : List Oper} {o : Oper} {a : Act} {w : World} {Q : Exit → Act → World → Prop} (hgd : o.guard = none) (x y : Operand) (ho : o.op = .store 28 x y)
    (g : Nat) (hx : a.eval x = .pointer (some ⟨g, 0, none⟩)) (ys : List Value) (hy : a.eval y = .agg ys.toArray) (xs : List Value) (hg : RcAt w g xs) (hl : xs.length = 67) (hl' : ys.length = 67) (h1 : ys.toArray.all (·.oneCell') = true)
    (h : ∀ w1, RcAt w1 g ys → Keep (fun j => j = g) w w1 → wpList Tryd.prog ops Q rest (a.put o.dst undef) w1) : wpList Tryd.prog ops Q (o :: rest) a w :=
  wpList_store_row hgd 28 x y ho g _ hx hy 28 _ hg (by rw [show (Tryd.prog.info? 28).map (·.size) = some 67 from by kernel_rfl]; simp [hl']) (by simp [hl, hl']) h1
    (h _ (setRow_heap w g _ _ 28 (0, 0) hg) ⟨rfl, rfl, rfl, by simp, fun j _ hj => setRow_other w g j _ hj⟩)
/-- A whole record out of its variable. -/
theorem wp_load_rec {ops : Array Oper} {rest : List Oper} {o : Oper} {a : Act} {w : World} {Q : Exit → Act → World → Prop} (hgd : o.guard = none) (x : Operand) (ho : o.op = .load 28 x)
    (g : Nat) (hx : a.eval x = .pointer (some ⟨g, 0, none⟩)) (cs : List Value) (hg : RcAt w g cs) (hl : cs.length = 67)
    (h : wpList Tryd.prog ops Q rest (a.put o.dst (.agg cs.toArray)) w) : wpList Tryd.prog ops Q (o :: rest) a w :=
  wpList_load_row hgd 28 x ho g hx 28 _ (0, 0) _ hg Tryd.underlying28 rfl (by rw [show (Tryd.prog.info? 28).map (·.size) = some 67 from by kernel_rfl]; simp [hl]) h
theorem results_rec {fn : Func} {p t : Tmp} (h : fn.results = #[.cell p 28, .tmp t]) (tmps : Array Value) (w : World) (g : Nat) (cs : List Value) (v : Value)
    (hp : tmps.getD p undef = .pointer (some ⟨g, 0, none⟩)) (ht : tmps.getD t undef = v) (hg : RcAt w g cs) (hl : cs.length = 67) :
    (results fn tmps).run Tryd.prog w = .ok (.tuple #[.agg cs.toArray, v]) w := by
  have hr := run_loadVar_row w g 28 28 _ (0, 0) _ hg Tryd.underlying28 rfl (by rw [show (Tryd.prog.info? 28).map (·.size) = some 67 from by kernel_rfl]; simp [hl])
  have hp' : tmps[p]?.getD undef = .pointer (some ⟨g, 0, none⟩) := by simpa using hp
  have ht' : tmps[t]?.getD undef = v := by simpa using ht
  simp [results, h, hp', ht', asAddr, hr]

set_option maxRecDepth 100000 in
/-- append([]byte{}, x...), at its run: nothing old is touched. -/
theorem run_appB (w : World) (ty : TypeId) (B g : Nat) (hBg : B ≤ g) (hBw : B ≤ w.heap.size) (hg : w.heap[g]? = some (.cells #[] 5 (0, 0))) (ab : Option Addr) (nb cb : Nat) (ys : List Int) (hR : Rd w ab nb cb ys) (hn : nb ≤ 1000000) :
    ∃ a' c' w', (Builtin.append_ #[22, 22] ty #[.slice (some ⟨g, 0, none⟩) 0 0, .slice ab nb cb]).run Tryd.prog w = .ok (.slice a' nb c') w' ∧ Rd w' a' nb c' ys ∧ Below w.heap.size w w' ∧ ∀ ad, a' = some ad → B ≤ ad.block := by
  obtain ⟨i0, hi, hz0, hz1, hz2⟩ := info_parts Tryd.info5
  have hown : w.ownsRow B 5 1 (.slice (some ⟨g, 0, none⟩) 0 0) 0 (bc []) := ⟨rfl, .inr ⟨g, 0, #[], rfl, hBg, hg, Nat.le_refl _, by unfold maxLen; omega, rfl, rfl⟩⟩
  cases ab with
  | none =>
    obtain ⟨rfl, rfl⟩ := rd_noneK hR rfl
    have hys : ys = [] := List.eq_nil_of_length_eq_zero hR.len
    subst hys
    exact ⟨_, _, w, run_append_owned_none w B 22 ty 5 i0 1 Tryd.underlying22 hi _ 0 (bc []) hown, ⟨rfl, Nat.le_refl _, by unfold maxLen; omega, (fun e => by cases e), Bd.nil, fun _ _ j hj => by omega⟩, Below.refl _ _, fun ad had => by cases had; exact hBg⟩
  | some ad =>
    by_cases h0 : nb = 0
    · subst h0
      have hys : ys = [] := List.eq_nil_of_length_eq_zero hR.len
      subst hys
      have hr2 := run_append_room (P := Tryd.prog) w 22 ty 5 i0 Tryd.underlying22 hi g 0 0 #[] hg ad 0 cb (bc []) (by simp [bc]) (fun j u hj => by simp [bc] at hj) (fun u hu => by simp [bc] at hu) (by omega) (by simp [bc])
      refine ⟨_, _, _, hr2, ⟨rfl, Nat.le_refl _, by unfold maxLen; omega, (fun e => by cases e), Bd.nil, fun _ _ j hj => by omega⟩, ?_, fun ad had => by cases had; exact hBg⟩
      exact ⟨rfl, rfl, rfl, by simp, fun k hk => by
        by_cases e : k = g
        · subst e; rw [setRow_heap w k _ _ 5 (0, 0) hg, hg]; simp [bc]
        · rw [setRow_other w g k _ e]⟩
    · have hr2 := run_append_grow (P := Tryd.prog) w 22 ty 5 i0 (.int .u8 0) Tryd.underlying22 hi hz0 ⟨g, 0, none⟩ 0 0 (bc []) (by simp [bc, hz1]) (hown.cells (g := g) rfl) ad nb cb (bc ys) (by rw [bc_len, hR.len, hz1]; omega) (hR.news rfl) (by omega) (by omega) (growslice_fits (by omega) (by rw [hz2]; omega))
      obtain ⟨v', w', hrun, h2, h3, _⟩ := run_append_own (P := Tryd.prog) w B 22 ty 5 i0 (.int .u8 0) 1 1 Tryd.underlying22 hi hz0 hz1 hz2 rfl (by decide) _ 0 (bc []) hown ad nb cb (bc ys) (by rw [bc_len, hR.len]; omega) (hR.news rfl) (bc_one ys) (by unfold maxLen; omega) (by omega) hBw
      rw [← bc_append, Nat.zero_add, List.nil_append] at h2
      obtain ⟨a', c', rfl, hr⟩ := Rd.ofOwn h2 hR.bytes
      refine ⟨a', c', w', hrun, hr, ?_, fun ad had => (h2.lt ad.block (by rw [had]; rfl)).1⟩
      refine ⟨h3.os, h3.tape, h3.output, h3.size, fun k hk => ?_⟩
      rw [hr2] at hrun
      injection hrun with _ e
      rw [← e]
      exact Below.heap_alloc w.drew _ _ hk

theorem wp_execO {ops : Array Oper} {rest : List Oper} {o : Oper} {a : Act} {w w' : World} {Q : Exit → Act → World → Prop} (hgd : o.guard = none) {v : Value}
    (hr : (execOp a.eval o).run Tryd.prog w = .ok (.value v) w') (h : wpList Tryd.prog ops Q rest (a.put o.dst v) w') : wpList Tryd.prog ops Q (o :: rest) a w :=
  wpList_plain hgd fun K hK => by
    unfold Oper.wp
    rw [hr]
    exact hK _ _ h

set_option maxRecDepth 100000 in
set_option maxHeartbeats 800000 in
/-- bytes.Clone. -/
theorem bclone_any (a : Option Addr) (n c : Nat) (xs : List Int) (w : World) (hR : Rd w a n c xs) (hn : n ≤ 1000000) :
    Calls Tryd.prog 23 #[.slice a n c] w fun e w' => ∃ a' c', e = .returned (.slice a' n c') ∧ Rd w' a' n c' xs ∧ Below w.heap.size w w' ∧ ∀ ad, a' = some ad → w.heap.size ≤ ad.block := by
  cases a with
  | none =>
    obtain ⟨rfl, rfl⟩ := rd_noneK hR rfl
    have he : ∀ w : World, (binOp .eql 22 (.slice none 0 0) (.slice none 0 0)).run Tryd.prog w = .ok (.bool true) w := fun _ => rfl
    go_enter Tryd.func23, Tryd.ntmps23
    go_wp2
    go_ret
    exact ⟨none, 0, rfl, hR, Below.refl _ _, fun ad had => by cases had⟩
  | some ad =>
    have he : ∀ w : World, (binOp .eql 22 (.slice (some ad) n c) (.slice none 0 0)).run Tryd.prog w = .ok (.bool false) w := fun _ => rfl
    have ha := (Below.refl w.heap.size w).alloc (Nat.le_refl _) (.cells #[] 5)
    obtain ⟨a', c', w', hrun, hr, hb, hloc⟩ := run_appB (w.alloc (.cells #[] 5)) 22 w.heap.size w.heap.size (Nat.le_refl _) (by simp) (World.alloc_heap_new _ _) (some ad) n c xs (hR.carry (Nat.le_refl _) ha) hn
    go_enter Tryd.func23, Tryd.ntmps23
    go_wp2_with (at_builtin; refine wp_execO rfl (exec_app rfl rfl rfl hrun) ?_)
    go_ret
    exact ⟨a', c', rfl, hr, ha.trans (hb.mono ha.size), hloc⟩

end Go.Proofs.YtiidjdedeenijaaDoor

/- The law's Same: two records that hold the same. -/
namespace Go.Proofs.YtiidjdedeenijaaDoor
open Go.RowKit

set_option maxRecDepth 100000 in
set_option maxHeartbeats 1600000 in
theorem same_true (u : ByteArray) (a a' : Option Addr) (n n' c c' : Nat) (xs : List Int) (z : Int) (K V : List Int) (w : World) (hR : Rd w a n c xs) (hR' : Rd w a' n' c' xs) (hK : K.length = 32) (hV : V.length = 32) :
    Calls Tryd.prog 10 #[.agg (recL (.string u) (.slice a n c) (.int .i64 z) K V).toArray, .agg (recL (.string u) (.slice a' n' c') (.int .i64 z) K V).toArray] w fun e w' => e = .returned (.bool true) ∧ Below w.heap.size w w' := by
  have hi23 := size_of Tryd.u23
  go_enter Tryd.func10, Tryd.ntmps10
  have tk1 : True := trivial
  go_wp2_with (first
    | (clear tk1; refine wp_box_row rfl 28 (.tmp 0) rfl (recL (.string u) (.slice a n c) (.int .i64 z) K V) rfl ?_; intro g2 w1 R2 hg2 hb1)
    | (refine wp_box_row rfl 28 (.tmp 1) rfl (recL (.string u) (.slice a' n' c') (.int .i64 z) K V) rfl ?_; intro g3 w2 R3 hg3 hb2; have A2 : RcAt w2 g2 _ := RcAt.below (w := w1) R2 hb2; have A3 : RcAt w2 g3 _ := R3; have b2 := hb1.trans (hb2.mono hb1.size); have p0 := A2.cell 0; have p1 := A2.cell 1; have p2 := A2.cell 2; have q0 := A3.cell 0; have q1 := A3.cell 1; have q2 := A3.cell 2; have s1 := (hR.carry (Nat.le_refl _) b2).string; have s2 := (hR'.carry (Nat.le_refl _) b2).string; change _ = some _ at p0; change _ = some _ at p1; change _ = some _ at p2; change _ = some _ at q0; change _ = some _ at q1; change _ = some _ at q2)
    | (refine wp_execW rfl (exec_load_mid 26 (.tmp 27) rfl g2 3 rfl (ic .u8 K) _ (RcAt.st A2) hi23.1 rfl (by rw [hi23.2, ic_len, hK])) ?_)
    | (refine wp_execW rfl (exec_load_mid 26 (.tmp 29) rfl g3 3 rfl (ic .u8 K) _ (RcAt.st A3) hi23.1 rfl (by rw [hi23.2, ic_len, hK])) ?_)
    | (refine wp_execW rfl (exec_load_mid 26 (.tmp 34) rfl g2 35 rfl (ic .u8 V) _ (RcAt.sv A2 hK) hi23.1 rfl (by rw [hi23.2, ic_len, hV])) ?_)
    | (refine wp_execW rfl (exec_load_mid 26 (.tmp 36) rfl g3 35 rfl (ic .u8 V) _ (RcAt.sv A3 hK) hi23.1 rfl (by rw [hi23.2, ic_len, hV])) ?_)
    | (refine wp_eql23W rfl (.tmp 28) (.tmp 30) rfl K K rfl rfl hK hK ?_; rw [show decide (K = K) = true from by simp])
    | (refine wp_eql23W rfl (.tmp 35) (.tmp 37) rfl V V rfl rfl hV hV ?_; rw [show decide (V = V) = true from by simp]))
  go_ret
  exact ⟨rfl, b2⟩

end Go.Proofs.YtiidjdedeenijaaDoor
