/- SubsAgree: all that the law holds at the head of a round. -/
import Derived.Test.YtgijofcnknehdaaDoorSuQ
namespace Go.Proofs.YtgijofcnknehdaaDoor
open Go.RowKit Go.Joins

/-- Two halves, the letters on their way, two numbers, four kinds. -/
structure Ag (w : World) (h0 h1 : Hf) (n0 n1 : Int) (v0 v1 : Value) (q0 q1 : List Lt) (wr : World) : Prop where
  aH : wr.heap[w.heap.size]? = some (.cells #[.int .i64 h0.o, .int .u64 h0.n, .int .i64 h0.i, .int .u64 h0.m, .int .i64 h1.o, .int .u64 h1.n, .int .i64 h1.i, .int .u64 h1.m] 41 (0, 0))
  aW : wr.heap[w.heap.size + 1]? = some (.cells #[v0, v1] 43 (0, 0))
  aN : wr.heap[w.heap.size + 2]? = some (.cells #[.int .u64 n0, .int .u64 n1] 44 (0, 0))
  aK : wr.heap[w.heap.size + 3]? = some (.cells #[.int .i64 11, .int .i64 13, .int .i64 12, .int .i64 14] 3 (0, 0))
  u0 : Qu wr (w.heap.size + 4) v0 q0
  u1 : Qu wr (w.heap.size + 4) v1 q1
  dj : ∀ g, v0.ownBlock = some g → v1.ownBlock ≠ some g
  bl : Below w.heap.size w wr
  tz : w.heap.size + 4 ≤ wr.heap.size
section
variable {w wr wx : World} {h0 h1 : Hf} {n0 n1 : Int} {v0 v1 : Value} {q0 q1 : List Lt}
theorem Ag.keep {S : Nat → Prop} (A : Ag w h0 h1 n0 n1 v0 v1 q0 q1 wr) (hk : Keep S wr wx) (hs : ∀ j, S j → w.heap.size + 4 ≤ j) (s0 : ∀ g, v0.ownBlock = some g → ¬ S g) (s1 : ∀ g, v1.ownBlock = some g → ¬ S g) : Ag w h0 h1 n0 n1 v0 v1 q0 q1 wx :=
  ⟨box_keep A.aH hk (fun e => by have := hs _ e; omega), box_keep A.aW hk (fun e => by have := hs _ e; omega), box_keep A.aN hk (fun e => by have := hs _ e; omega), box_keep A.aK hk (fun e => by have := hs _ e; omega), A.u0.keep hk s0, A.u1.keep hk s1, A.dj, A.bl.trans (hk.below (by have := A.tz; omega) (fun j e => by have := hs _ e; omega)), Nat.le_trans A.tz hk.size⟩
theorem Ag.below (A : Ag w h0 h1 n0 n1 v0 v1 q0 q1 wr) (hb : Below wr.heap.size wr wx) : Ag w h0 h1 n0 n1 v0 v1 q0 q1 wx := A.keep (S := fun _ => False) (Keep.ofBelow hb) (fun _ h => h.elim) (fun _ _ h => h) (fun _ _ h => h)
/-- A variable of its own, made since, is written. -/
theorem Ag.row (A : Ag w h0 h1 n0 n1 v0 v1 q0 q1 wr) {g : Nat} {u : Hf} (G : HfAt wr g u) (t : Hf) (hg : w.heap.size + 4 ≤ g) (g0 : v0.ownBlock ≠ some g) (g1 : v1.ownBlock ≠ some g) : Ag w h0 h1 n0 n1 v0 v1 q0 q1 (wr.setRow g (hfc t)) :=
  A.keep (G.keepB t) (fun j e => by omega) (fun g' e k => g0 (by rw [e, k])) (fun g' e k => g1 (by rw [e, k]))
theorem Ag.out0 (A : Ag w h0 h1 n0 n1 v0 v1 q0 q1 wr) {g : Nat} (hg : wr.heap.size ≤ g) : v0.ownBlock ≠ some g := fun e => by have := (A.u0.own g e).2; omega
theorem Ag.out1 (A : Ag w h0 h1 n0 n1 v0 v1 q0 q1 wr) {g : Nat} (hg : wr.heap.size ≤ g) : v1.ownBlock ≠ some g := fun e => by have := (A.u1.own g e).2; omega
theorem Ag.low (A : Ag w h0 h1 n0 n1 v0 v1 q0 q1 wr) {g : Nat} (hg : g < w.heap.size + 4) : (∀ j, v0.ownBlock = some j → ¬ j = g) ∧ (∀ j, v1.ownBlock = some j → ¬ j = g) := ⟨fun j e k => by have := (A.u0.own j e).1; omega, fun j e k => by have := (A.u1.own j e).1; omega⟩
theorem there_half (A : Ag w h0 h1 n0 n1 v0 v1 q0 q1 wr) (o : Nat) (ho : o + 4 ≤ 8) : wr.there w.heap.size o 4 := fun j hj => ⟨by
  rw [cell_of_block A.aH]
  rw [Array.getElem?_eq_getElem (show o + j < 8 by omega)]
  rfl, unfrozen_of_block A.aH _⟩
theorem Ag.setN0 (A : Ag w h0 h1 n0 n1 v0 v1 q0 q1 wr) (z : Int) : Ag w h0 h1 z n1 v0 v1 q0 q1 (wr.setCell ⟨w.heap.size + 2, 0, none⟩ (.int .u64 z)) := by
  have hk : Keep (fun j => j = w.heap.size + 2) wr (wr.setCell ⟨w.heap.size + 2, 0, none⟩ (.int .u64 z)) := (Keep.refl (fun j => j = w.heap.size + 2) _).setCell (p := ⟨w.heap.size + 2, 0, none⟩) rfl _
  have lo := A.low (g := w.heap.size + 2) (by omega)
  exact ⟨box_keep A.aH hk (by omega), box_keep A.aW hk (by omega), block_setCell A.aN _, box_keep A.aK hk (by omega), A.u0.keep hk lo.1, A.u1.keep hk lo.2, A.dj, A.bl.trans (hk.below (by have := A.tz; omega) (fun j e => by omega)), Nat.le_trans A.tz hk.size⟩
theorem Ag.setH0 (A : Ag w h0 h1 n0 n1 v0 v1 q0 q1 wr) (t : Hf) : Ag w t h1 n0 n1 v0 v1 q0 q1 (wr.setCells w.heap.size 0 (hfc t).toList) := by
  have hk : Keep (fun j => j = w.heap.size) wr (wr.setCells w.heap.size 0 (hfc t).toList) := ((((Keep.refl (fun j => j = w.heap.size) _).setCell (p := ⟨w.heap.size, 0, none⟩) rfl _).setCell (p := ⟨w.heap.size, 1, none⟩) rfl _).setCell (p := ⟨w.heap.size, 2, none⟩) rfl _).setCell (p := ⟨w.heap.size, 3, none⟩) rfl _
  have lo := A.low (g := w.heap.size) (by omega)
  have hb := block_setCell (i := 3) (block_setCell (i := 2) (block_setCell (i := 1) (block_setCell (i := 0) A.aH (.int .i64 t.o)) (.int .u64 t.n)) (.int .i64 t.i)) (.int .u64 t.m)
  exact ⟨hb, box_keep A.aW hk (by omega), box_keep A.aN hk (by omega), box_keep A.aK hk (by omega), A.u0.keep hk lo.1, A.u1.keep hk lo.2, A.dj, A.bl.trans (hk.below (by have := A.tz; omega) (fun j e => by omega)), Nat.le_trans A.tz hk.size⟩
/-- A letter to end 0. -/
theorem Ag.push0 (A : Ag w h0 h1 n0 n1 v0 v1 q0 q1 wr) {v' : Value} {x : Lt} (Q : Qu wx (w.heap.size + 4) v' (q0 ++ [x])) (hk : Keep (fun j => v0.ownBlock = some j) wr wx) (ho : v'.ownBlock = v0.ownBlock ∨ ∃ g, v'.ownBlock = some g ∧ wr.heap.size ≤ g) :
    wx.heap[w.heap.size + 1]? = some (.cells #[v0, v1] 43 (0, 0)) ∧ Ag w h0 h1 n0 n1 v' v1 (q0 ++ [x]) (q1) (wx.setCell ⟨w.heap.size + 1, 0, none⟩ v') := by
  have ns : ∀ i, i < w.heap.size + 4 → ¬ v0.ownBlock = some i := fun i hi e => by have := (A.u0.own i e).1; omega
  have hW := box_keep A.aW hk (ns _ (by omega))
  have hk2 : Keep (fun j => j = w.heap.size + 1) wx (wx.setCell ⟨w.heap.size + 1, 0, none⟩ v') := (Keep.refl (fun j => j = w.heap.size + 1) _).setCell (p := ⟨w.heap.size + 1, 0, none⟩) rfl _
  have Q' := Q.keep hk2 (fun g e k => by have := (Q.own g e).1; omega)
  have U : Qu (wx.setCell ⟨w.heap.size + 1, 0, none⟩ v') (w.heap.size + 4) v1 q1 := (A.u1.keep hk (fun g e k => A.dj g k e)).keep hk2 (fun g e k => by have := (A.u1.own g e).1; omega)
  have dj' : ∀ g, v'.ownBlock = some g → v1.ownBlock ≠ some g := fun g e k => by
    rcases ho with e2 | ⟨g2, e2, hg⟩
    · exact A.dj g (by rw [← e2]; exact e) k
    · have : g = g2 := Option.some.inj (e.symm.trans e2)
      have := (A.u1.own g k).2
      omega
  have b1 := A.bl.trans (hk.below (by have := A.tz; omega) (fun j e => by have := (A.u0.own j e).1; omega))
  refine ⟨hW, box_keep (box_keep A.aH hk (ns _ (by omega))) hk2 (by omega), block_setCell hW _, box_keep (box_keep A.aN hk (ns _ (by omega))) hk2 (by omega), box_keep (box_keep A.aK hk (ns _ (by omega))) hk2 (by omega), Q', U, dj', b1.trans (hk2.below (by have := hk.size; have := A.tz; omega) (fun j e => by omega)), Nat.le_trans (Nat.le_trans A.tz hk.size) hk2.size⟩
/-- A letter is taken off. -/
theorem Ag.pop0 {x : Lt} {q : List Lt} (A : Ag w h0 h1 n0 n1 v0 v1 (x :: q) q1 wr) {v' : Value} (ho : v'.ownBlock = v0.ownBlock) (Q : ∀ wx, Keep (fun j => v0.ownBlock ≠ some j) wr wx → Qu wx (w.heap.size + 4) v' q) : Ag w h0 h1 n0 n1 v' v1 q q1 (wr.setCell ⟨w.heap.size + 1, 0, none⟩ v') := by
  have hk2 : Keep (fun j => j = w.heap.size + 1) wr (wr.setCell ⟨w.heap.size + 1, 0, none⟩ v') := (Keep.refl (fun j => j = w.heap.size + 1) _).setCell (p := ⟨w.heap.size + 1, 0, none⟩) rfl _
  have lo := A.low (g := w.heap.size + 1) (by omega)
  have Q' := Q _ (hk2.mono (fun i e k => lo.1 i k e))
  have U := A.u1.keep hk2 lo.2
  exact ⟨box_keep A.aH hk2 (by omega), block_setCell A.aW _, box_keep A.aN hk2 (by omega), box_keep A.aK hk2 (by omega), Q', U, fun g e => A.dj g (by rw [← ho]; exact e), A.bl.trans (hk2.below (by have := A.tz; omega) (fun j e => by omega)), Nat.le_trans A.tz hk2.size⟩
theorem Ag.setN1 (A : Ag w h0 h1 n0 n1 v0 v1 q0 q1 wr) (z : Int) : Ag w h0 h1 n0 z v0 v1 q0 q1 (wr.setCell ⟨w.heap.size + 2, 1, none⟩ (.int .u64 z)) := by
  have hk : Keep (fun j => j = w.heap.size + 2) wr (wr.setCell ⟨w.heap.size + 2, 1, none⟩ (.int .u64 z)) := (Keep.refl (fun j => j = w.heap.size + 2) _).setCell (p := ⟨w.heap.size + 2, 1, none⟩) rfl _
  have lo := A.low (g := w.heap.size + 2) (by omega)
  exact ⟨box_keep A.aH hk (by omega), box_keep A.aW hk (by omega), block_setCell A.aN _, box_keep A.aK hk (by omega), A.u0.keep hk lo.1, A.u1.keep hk lo.2, A.dj, A.bl.trans (hk.below (by have := A.tz; omega) (fun j e => by omega)), Nat.le_trans A.tz hk.size⟩
theorem Ag.setH1 (A : Ag w h0 h1 n0 n1 v0 v1 q0 q1 wr) (t : Hf) : Ag w h0 t n0 n1 v0 v1 q0 q1 (wr.setCells w.heap.size 4 (hfc t).toList) := by
  have hk : Keep (fun j => j = w.heap.size) wr (wr.setCells w.heap.size 4 (hfc t).toList) := ((((Keep.refl (fun j => j = w.heap.size) _).setCell (p := ⟨w.heap.size, 4, none⟩) rfl _).setCell (p := ⟨w.heap.size, 5, none⟩) rfl _).setCell (p := ⟨w.heap.size, 6, none⟩) rfl _).setCell (p := ⟨w.heap.size, 7, none⟩) rfl _
  have lo := A.low (g := w.heap.size) (by omega)
  have hb := block_setCell (i := 7) (block_setCell (i := 6) (block_setCell (i := 5) (block_setCell (i := 4) A.aH (.int .i64 t.o)) (.int .u64 t.n)) (.int .i64 t.i)) (.int .u64 t.m)
  exact ⟨hb, box_keep A.aW hk (by omega), box_keep A.aN hk (by omega), box_keep A.aK hk (by omega), A.u0.keep hk lo.1, A.u1.keep hk lo.2, A.dj, A.bl.trans (hk.below (by have := A.tz; omega) (fun j e => by omega)), Nat.le_trans A.tz hk.size⟩
/-- A letter to end 1. -/
theorem Ag.push1 (A : Ag w h0 h1 n0 n1 v0 v1 q0 q1 wr) {v' : Value} {x : Lt} (Q : Qu wx (w.heap.size + 4) v' (q1 ++ [x])) (hk : Keep (fun j => v1.ownBlock = some j) wr wx) (ho : v'.ownBlock = v1.ownBlock ∨ ∃ g, v'.ownBlock = some g ∧ wr.heap.size ≤ g) :
    wx.heap[w.heap.size + 1]? = some (.cells #[v0, v1] 43 (0, 0)) ∧ Ag w h0 h1 n0 n1 v0 v' (q0) (q1 ++ [x]) (wx.setCell ⟨w.heap.size + 1, 1, none⟩ v') := by
  have ns : ∀ i, i < w.heap.size + 4 → ¬ v1.ownBlock = some i := fun i hi e => by have := (A.u1.own i e).1; omega
  have hW := box_keep A.aW hk (ns _ (by omega))
  have hk2 : Keep (fun j => j = w.heap.size + 1) wx (wx.setCell ⟨w.heap.size + 1, 1, none⟩ v') := (Keep.refl (fun j => j = w.heap.size + 1) _).setCell (p := ⟨w.heap.size + 1, 1, none⟩) rfl _
  have Q' := Q.keep hk2 (fun g e k => by have := (Q.own g e).1; omega)
  have U : Qu (wx.setCell ⟨w.heap.size + 1, 1, none⟩ v') (w.heap.size + 4) v0 q0 := (A.u0.keep hk (fun g e k => A.dj g e k)).keep hk2 (fun g e k => by have := (A.u0.own g e).1; omega)
  have dj' : ∀ g, v'.ownBlock = some g → v0.ownBlock ≠ some g := fun g e k => by
    rcases ho with e2 | ⟨g2, e2, hg⟩
    · exact A.dj g k (by rw [← e2]; exact e)
    · have : g = g2 := Option.some.inj (e.symm.trans e2)
      have := (A.u0.own g k).2
      omega
  have b1 := A.bl.trans (hk.below (by have := A.tz; omega) (fun j e => by have := (A.u1.own j e).1; omega))
  refine ⟨hW, box_keep (box_keep A.aH hk (ns _ (by omega))) hk2 (by omega), block_setCell hW _, box_keep (box_keep A.aN hk (ns _ (by omega))) hk2 (by omega), box_keep (box_keep A.aK hk (ns _ (by omega))) hk2 (by omega), U, Q', fun g e k => dj' g k e, b1.trans (hk2.below (by have := hk.size; have := A.tz; omega) (fun j e => by omega)), Nat.le_trans (Nat.le_trans A.tz hk.size) hk2.size⟩
/-- A letter is taken off. -/
theorem Ag.pop1 {x : Lt} {q : List Lt} (A : Ag w h0 h1 n0 n1 v0 v1 q0 (x :: q) wr) {v' : Value} (ho : v'.ownBlock = v1.ownBlock) (Q : ∀ wx, Keep (fun j => v1.ownBlock ≠ some j) wr wx → Qu wx (w.heap.size + 4) v' q) : Ag w h0 h1 n0 n1 v0 v' q0 q (wr.setCell ⟨w.heap.size + 1, 1, none⟩ v') := by
  have hk2 : Keep (fun j => j = w.heap.size + 1) wr (wr.setCell ⟨w.heap.size + 1, 1, none⟩ v') := (Keep.refl (fun j => j = w.heap.size + 1) _).setCell (p := ⟨w.heap.size + 1, 1, none⟩) rfl _
  have lo := A.low (g := w.heap.size + 1) (by omega)
  have Q' := Q _ (hk2.mono (fun i e k => lo.2 i k e))
  have U := A.u0.keep hk2 lo.1
  exact ⟨box_keep A.aH hk2 (by omega), block_setCell A.aW _, box_keep A.aN hk2 (by omega), box_keep A.aK hk2 (by omega), U, Q', fun g e k => A.dj g e (by rw [← ho]; exact k), A.bl.trans (hk2.below (by have := A.tz; omega) (fun j e => by omega)), Nat.le_trans A.tz hk2.size⟩
end
theorem wp_appQ {w : World} {ops : Array Oper} {rest : List Oper} {o : Oper} {a : Act} {Q : Exit → Act → World → Prop} (hgd : o.guard = none) (s x : Operand)
    (ho : o.op = .call { callee := .builtin .append, args := #[s, x], argTypes := #[42, 42] })
    {T : Nat} {v : Value} {q : List Lt} (hs : a.eval s = v) (hq : Qu w T v q) (y : Lt) (hx : a.eval x = .slice (some ⟨w.heap.size, 0, none⟩) 1 1) (hT : T ≤ w.heap.size) (hl : q.length ≤ 100000)
    (h : ∀ v' w', Qu w' T v' (q ++ [y]) → Keep (fun k => v.ownBlock = some k) w w' → (v'.ownBlock = v.ownBlock ∨ ∃ g, v'.ownBlock = some g ∧ w.heap.size ≤ g) → wpList Tryd.prog ops Q rest (a.put o.dst v') w') : wpList Tryd.prog ops Q (o :: rest) a (w.alloc (.cells #[.int .i64 y.1, .int .u64 y.2] 48)) := by
  refine wpList_plain hgd fun K hK => ?_
  obtain ⟨v', w', hrun, h2, h3, h4⟩ := run_appQ hq o.type y hT hl
  unfold Oper.wp
  simp only [execOp, ho, resolve, invoke, builtin, Sem.run_bind, Sem.run_pure, Result.andThen_ok, List.map_toArray, List.map_cons, List.map_nil, hs, hx, hrun]
  exact hK _ _ (h v' w' h2 h3 h4)

/-- What is left to do. -/
def mu (N i a b : Nat) : Nat := (N - i) * 5 + 2 * (a + b) + (if i % 2 = 0 then (if a = 0 then 1 else 0) else (if b = 0 then 1 else 0))
theorem mu_early {N i a b a' b' : Nat} (hi : i < N) (h : a' + b' ≤ a + b + 1) : mu N (i + 1) a' b' < mu N i a b := by
  unfold mu
  have : (N - i) * 5 = (N - (i + 1)) * 5 + 5 := by omega
  split <;> split <;> split <;> split <;> omega
theorem mu_hear0 {N i a b : Nat} (hp : i % 2 = 0) : mu N (i + 1) a b < mu N i (a + 1) b := by
  unfold mu
  have : (N - (i + 1)) * 5 ≤ (N - i) * 5 := by omega
  rw [if_pos hp, if_neg (by omega : ¬ (a + 1 = 0)), if_neg (by omega : ¬ ((i + 1) % 2 = 0))]
  split <;> omega
theorem mu_hear1 {N i a b : Nat} (hp : i % 2 = 1) : mu N (i + 1) a b < mu N i a (b + 1) := by
  unfold mu
  have : (N - (i + 1)) * 5 ≤ (N - i) * 5 := by omega
  rw [if_neg (by omega : ¬ (i % 2 = 0)), if_neg (by omega : ¬ (b + 1 = 0)), if_pos (by omega : (i + 1) % 2 = 0)]
  split <;> omega
theorem mu_skip0 {N i b : Nat} (hp : i % 2 = 0) (hb : 0 < b) : mu N (i + 1) 0 b < mu N i 0 b := by
  unfold mu
  have : (N - (i + 1)) * 5 ≤ (N - i) * 5 := by omega
  rw [if_pos hp, if_pos rfl, if_neg (by omega : ¬ ((i + 1) % 2 = 0)), if_neg (by omega : ¬ b = 0)]
  omega
theorem mu_skip1 {N i a : Nat} (hp : i % 2 = 1) (ha : 0 < a) : mu N (i + 1) a 0 < mu N i a 0 := by
  unfold mu
  have : (N - (i + 1)) * 5 ≤ (N - i) * 5 := by omega
  rw [if_neg (by omega : ¬ (i % 2 = 0)), if_pos rfl, if_pos (by omega : (i + 1) % 2 = 0), if_neg (by omega : ¬ a = 0)]
  omega
theorem and_one (x : Int) : bits .and .i64 x 1 = 0 ∨ bits .and .i64 x 1 = 1 := by
  have h1 : (BitVec.ofInt 64 1).toNat = 1 := by decide
  have h2 : bits .and .i64 x 1 = IntKind.i64.wrap (((BitVec.ofInt 64 x &&& BitVec.ofInt 64 1).toNat : Nat) : Int) := rfl
  rw [h2, BitVec.toNat_and, h1, Nat.and_one_is_mod]
  rcases Nat.mod_two_eq_zero_or_one (BitVec.ofInt 64 x).toNat with h | h
  · rw [h]; left; decide
  · rw [h]; right; decide
theorem and_nat (i : Nat) (hi : i < 1000000) : bits .and .i64 (i : Int) 1 = ((i % 2 : Nat) : Int) := by
  have h1 : (BitVec.ofInt 64 1).toNat = 1 := by decide
  have h2 : bits .and .i64 (i : Int) 1 = IntKind.i64.wrap (((BitVec.ofInt 64 (i : Int) &&& BitVec.ofInt 64 1).toNat : Nat) : Int) := rfl
  have h3 : (BitVec.ofInt 64 (i : Int)).toNat = i := by simp; omega
  rw [h2, BitVec.toNat_and, h1, Nat.and_one_is_mod, h3]
  rcases Nat.mod_two_eq_zero_or_one i with h | h
  · rw [h]; decide
  · rw [h]; decide
end Go.Proofs.YtgijofcnknehdaaDoor
