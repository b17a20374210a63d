/- Facts of bytes for a region in whatever order. -/
import Derived.Test.YtikkieaokfailaaGreatDoorAnyO
import Derived.Test.YtikkieaokfailaaGreatDoorOwnA
import Derived.Laws.OwnMore
namespace Go.Proofs.YtikkieaokfailaaGreatDoor
open Go.RowKit

/-- Bytes that read as X, at most m. -/
def fRd (X : List Int) (m : Nat) : Value → World → Prop := fun v w => ∃ a n c, v = .slice a n c ∧ n ≤ m ∧ Rd w a n c X
/-- A new empty slice of bytes. -/
def fEmp : Value → World → Prop := fun v w => ∃ g, v = .slice (some ⟨g, 0, none⟩) 0 0 ∧ w.heap[g]? = some (.cells #[] 5 (0, 0))
theorem lasts_rd (X : List Int) (m : Nat) : Lasts (fRd X m) := fun _ _ _ hb ⟨a, n, c, h1, h2, h3⟩ => ⟨a, n, c, h1, h2, h3.carry (Nat.le_refl _) hb⟩
theorem lasts_emp : Lasts fEmp := fun _ _ _ hb ⟨g, h1, h2⟩ => ⟨g, h1, (hb.block g (Array.getElem?_eq_some_iff.1 h2).1).trans h2⟩

set_option maxRecDepth 100000 in
/-- append([]byte{}, x...), at its run: nothing old is touched. -/
theorem run_appE (w : World) (ty : TypeId) (g : Nat) (hg : w.heap[g]? = some (.cells #[] 5 (0, 0))) (ab : Option Addr) (nb cb : Nat) (ys : List Int) (hR : Rd w ab nb cb ys) (hn : nb ≤ 1000000) :
    ∃ a' c' w', (Builtin.append_ #[29, 29] ty #[.slice (some ⟨g, 0, none⟩) 0 0, .slice ab nb cb]).run Tryz.prog w = .ok (.slice a' nb c') w' ∧ Rd w' a' nb c' ys ∧ Below w.heap.size w w' := by
  obtain ⟨i0, hi, hz0, hz1, hz2⟩ := info_parts Tryz.info5
  have hown : w.ownsRow 0 5 1 (.slice (some ⟨g, 0, none⟩) 0 0) 0 (bc []) := ⟨rfl, .inr ⟨g, 0, #[], rfl, Nat.zero_le _, hg, Nat.le_refl _, by unfold maxLen; omega, rfl, rfl⟩⟩
  cases ab with
  | none =>
    obtain ⟨rfl, rfl⟩ := rd_noneK hR rfl
    have hys : ys = [] := List.eq_nil_of_length_eq_zero hR.len
    subst hys
    exact ⟨_, _, w, run_append_owned_none w 0 29 ty 5 i0 1 Tryz.underlying29 hi _ 0 (bc []) hown, ⟨rfl, Nat.le_refl _, by unfold maxLen; omega, (fun e => by cases e), Bd.nil, fun _ _ j hj => by omega⟩, Below.refl _ _⟩
  | some ad =>
    by_cases h0 : nb = 0
    · subst h0
      have hys : ys = [] := List.eq_nil_of_length_eq_zero hR.len
      subst hys
      have hr2 := run_append_room (P := Tryz.prog) w 29 ty 5 i0 Tryz.underlying29 hi g 0 0 #[] hg ad 0 cb (bc []) (by simp [bc]) (fun j u hj => by simp [bc] at hj) (fun u hu => by simp [bc] at hu) (by omega) (by simp [bc])
      refine ⟨_, _, _, hr2, ⟨rfl, Nat.le_refl _, by unfold maxLen; omega, (fun e => by cases e), Bd.nil, fun _ _ j hj => by omega⟩, ?_⟩
      exact ⟨rfl, rfl, rfl, by simp, fun k hk => by
        by_cases e : k = g
        · subst e; rw [setRow_heap w k _ _ 5 (0, 0) hg, hg]; simp [bc]
        · rw [setRow_other w g k _ e]⟩
    · have hr2 := run_append_grow (P := Tryz.prog) w 29 ty 5 i0 (.int .u8 0) Tryz.underlying29 hi hz0 ⟨g, 0, none⟩ 0 0 (bc []) (by simp [bc, hz1]) (hown.cells (g := g) rfl) ad nb cb (bc ys) (by rw [bc_len, hR.len, hz1]; omega) (hR.news rfl) (by omega) (by omega) (growslice_fits (by omega) (by rw [hz2]; omega))
      obtain ⟨v', w', hrun, h2, h3, _⟩ := run_append_own (P := Tryz.prog) w 0 29 ty 5 i0 (.int .u8 0) 1 1 Tryz.underlying29 hi hz0 hz1 hz2 rfl (by decide) _ 0 (bc []) hown ad nb cb (bc ys) (by rw [bc_len, hR.len]; omega) (hR.news rfl) (bc_one ys) (by unfold maxLen; omega) (by omega) (Nat.zero_le _)
      rw [← bc_append, Nat.zero_add, List.nil_append] at h2
      obtain ⟨a', c', rfl, hr⟩ := Rd.ofOwn h2 hR.bytes
      refine ⟨a', c', w', hrun, hr, ⟨h3.os, h3.tape, h3.output, h3.size, fun k hk => ?_⟩⟩
      rw [hr2] at hrun
      injection hrun with _ e
      rw [← e]
      exact Below.heap_alloc w.drew _ _ hk

theorem exec_app {w w' : World} {o : Oper} {ρ : Operand → Value} {s x : Operand} {v u v' : Value} (ho : o.op = .call { callee := .builtin .append, args := #[s, x], argTypes := #[29, 29] }) (hs : ρ s = v) (hx : ρ x = u)
    (hrun : (Builtin.append_ #[29, 29] o.type #[v, u]).run Tryz.prog w = .ok v' w') : (execOp ρ o).run Tryz.prog w = .ok (.value v') w' := by
  simp only [execOp, ho, resolve, invoke, builtin, Sem.run_bind, Sem.run_pure, Result.andThen_ok, List.map_toArray, List.map_cons, List.map_nil, hs, hx, hrun]
theorem exec_emp {w : World} {o : Oper} {ρ : Operand → Value} (ho : o.op = .buildSlice 29 0 #[]) : (execOp ρ o).run Tryz.prog w = .ok (.value (.slice (some ⟨w.heap.size, 0, none⟩) 0 0)) (w.alloc (.cells #[] 5)) := by
  have hu := Tryz.underlying29
  obtain ⟨i0, hi, hz0, hz1, hz2⟩ := info_parts Tryz.info5
  unfold execOp
  simp only [ho]
  go_simp

theorem rd_one (w : World) (x : Int) (h0 : 0 ≤ x) (h1 : x ≤ 255) : Rd (w.alloc (.cells #[.int .u8 x] 5)) (some ⟨w.heap.size, 0, none⟩) 1 1 [x] := by
  refine ⟨rfl, Nat.le_refl _, by unfold maxLen; omega, (fun h => by cases h), (fun q hq => by simp at hq; omega), fun ad had j hj => ?_⟩
  cases had
  rw [add_flat]
  match j, hj with
  | 0, _ => unfold World.cell?; rw [World.alloc_heap_new]; rfl
/-- append(v, x): one byte behind own ones. -/
theorem wp_app1K {wr : World} {ops : Array Oper} {rest : List Oper} {o : Oper} {a : Act} {Q : Exit → Act → World → Prop} (hgd : o.guard = none) (s x : Operand)
    (ho : o.op = .call { callee := .builtin .append, args := #[s, x], argTypes := #[29, 29] })
    (base : Nat) (v : Value) (n : Nat) (xs : List Int) (hs : a.eval s = v) (hown : wr.ownsRow base 5 1 v n (bc xs)) (x0 : Int) (h0 : 0 ≤ x0) (h1 : x0 ≤ 255) (hx : a.eval x = .slice (some ⟨wr.heap.size, 0, none⟩) 1 1) (hb : n ≤ 100000000) (hbase : base ≤ wr.heap.size)
    (h : ∀ v' w', w'.ownsRow base 5 1 v' (n + 1) (bc (xs ++ [x0])) → Below base wr w' → wpList Tryz.prog ops Q rest (a.put o.dst v') w') : wpList Tryz.prog ops Q (o :: rest) a (wr.alloc (.cells #[.int .u8 x0] 5)) := by
  refine wp_appK hgd s x ho base v n xs hs (hown.alloc _) _ 1 1 [x0] hx (rd_one wr x0 h0 h1) (by omega) (by rw [World.size_alloc]; omega) ?_
  intro v' w' h1 h2 _
  exact h v' w' h1 (below_step (Below.refl _ _) hbase hown h2)

end Go.Proofs.YtikkieaokfailaaGreatDoor
