/- begun, at an address. -/
import Derived.Test.YtikklhnkkfimfaaDoorNmBegun
namespace Go.Proofs.YtikklhnkkfimfaaDoor
open Go.RowKit

def strV (l : List UInt8) : Value := .string ⟨l.toArray⟩
def cellsJ (j : Jid) : Array Value := #[.string ⟨j.l.toArray⟩, .string ⟨j.h.toArray⟩, .string ⟨j.r.toArray⟩]
def noJid : Jid := ⟨[], [], []⟩
def GaveJ (p : Jid × Nat) (e : Ending) : Prop := (p.2 = 0 ∧ e = .returned (.agg (cellsJ p.1))) ∨ (p.2 ≠ 0 ∧ e = .panicked (gaveUp p.2))
def ToldJ (p : Jid × Nat) : Value := .tuple #[.agg (cellsJ p.1), .int .i64 p.2]

theorem catchJ_panicking (p : Addr) (x n : Int) (older : List PanicEntry) (w : World) (hc : w.cell? p = some (.int .i64 x)) (hz : w.frozen? p = false) :
    CallsD Tryd.prog 49 #[.pointer (some p)] (.panicking ({ v := .iface 56 (.agg #[.int .i64 n]), recovered := false } :: older)) w fun e u' w' =>
      e = .returned (.tuple #[]) ∧ u' = .panicking ({ v := .iface 56 (.agg #[.int .i64 n]), recovered := true } :: older) ∧ w' = w.setCell p (.int .i64 n) := by
  refine callsD_of_wpS Tryd.func49 rfl fun c₀ cs hu => ?_
  apply wpS_seq
  apply wpS_region
  simp [wpOpsS, go_sem, recoverD, hu, Tryd.ntmps49, Exit.thenS]
  refine wpS_of_wp ?_
  rw [show #[Value.pointer (some p)] ++ ((Array.replicate 7 undef).setIfInBounds 1 (Value.iface 56 (Value.agg #[Value.int IntKind.i64 n]))).setIfInBounds 0 (Value.iface 56 (Value.agg #[Value.int IntKind.i64 n])) = #[Value.pointer (some p), Value.iface 56 (Value.agg #[Value.int IntKind.i64 n]), Value.iface 56 (Value.agg #[Value.int IntKind.i64 n]), undef, undef, undef, undef, undef] from rfl]
  have hta : (Instr.typeAssert (Value.iface 56 (Value.agg #[Value.int IntKind.i64 n])) 20 56 false).run Tryd.prog w = .ok (Value.agg #[Value.int IntKind.i64 n]) w := by
    simp [Instr.typeAssert, go_sem]
  have hfd : (Instr.field 56 (Value.agg #[Value.int IntKind.i64 n]) 0).run Tryd.prog w = .ok (Value.int IntKind.i64 n) w := by
    simp [Instr.field, go_sem, asAgg]
  go_wp2
  simp [bodyPostS, results, Tryd.results49]
theorem catchJ_idle (p : Addr) (w : World) :
    CallsD Tryd.prog 49 #[.pointer (some p)] .returning w fun e u' w' => e = .returned (.tuple #[]) ∧ u' = .returning ∧ w' = w := by
  refine callsD_of_wpS Tryd.func49 rfl fun c₀ cs hu => ?_
  apply wpS_seq
  apply wpS_region
  simp [wpOpsS, go_sem, recoverD, hu, Tryd.ntmps49, Exit.thenS]
  refine wpS_of_wp ?_
  rw [show #[Value.pointer (some p)] ++ ((Array.replicate 7 undef).setIfInBounds 1 Value.nilIface).setIfInBounds 0 Value.nilIface = #[Value.pointer (some p), Value.nilIface, Value.nilIface, undef, undef, undef, undef, undef] from rfl]
  go_wp2
  cases c₀
  simp_all [bodyPostS, results, Tryd.results49]

theorem cell_three0 {w : World} {B : Nat} {a b c : Value} {t : TypeId} (h : w.heap[B]? = some (.cells #[a, b, c] t (0, 0))) : w.cell? ⟨B, 0, none⟩ = some a := by simp [World.cell?, h]
theorem cell_three1 {w : World} {B : Nat} {a b c : Value} {t : TypeId} (h : w.heap[B]? = some (.cells #[a, b, c] t (0, 0))) : w.cell? ⟨B, 1, none⟩ = some b := by simp [World.cell?, h]
theorem cell_three2 {w : World} {B : Nat} {a b c : Value} {t : TypeId} (h : w.heap[B]? = some (.cells #[a, b, c] t (0, 0))) : w.cell? ⟨B, 2, none⟩ = some c := by simp [World.cell?, h]
theorem thaw_three {w : World} {B : Nat} {a b c : Value} {t : TypeId} (h : w.heap[B]? = some (.cells #[a, b, c] t (0, 0))) (i : Nat) : w.frozen? ⟨B, i, none⟩ = false := by simp [World.frozen?, h]

theorem begunJ_any (k : Nat) (caps : Array Value) (p : Jid × Nat) (w : World) (hent : ∀ args w, (callFunc k args).run Tryd.prog w = .ok (.enter k args) w) (hp : p.2 = 0 ∨ p.1 = noJid)
    (hc : Calls Tryd.prog k caps ((w.alloc (.cells #[.string ⟨#[]⟩, .string ⟨#[]⟩, .string ⟨#[]⟩] 31)).alloc (.cells #[.int .i64 0] 23)) fun e w' => GaveJ p e ∧ Below (w.heap.size + 2) ((w.alloc (.cells #[.string ⟨#[]⟩, .string ⟨#[]⟩, .string ⟨#[]⟩] 31)).alloc (.cells #[.int .i64 0] 23)) w') :
    Calls Tryd.prog 32 #[.func (.func k) #[] caps] w fun e w' => e = .returned (ToldJ p) ∧ Below w.heap.size w w' := by
  have hmf : ∀ (fn : Fn) (first cap : Array Value) (w : World), (Instr.makeFunc fn first cap).run Tryd.prog w = .ok (.func fn first cap) w := fun _ _ _ _ => rfl
  have hb0 : Below w.heap.size w ((w.alloc (.cells #[.string ⟨#[]⟩, .string ⟨#[]⟩, .string ⟨#[]⟩] 31)).alloc (.cells #[.int .i64 0] 23)) := ((Below.refl _ _).alloc (Nat.le_refl _) _).alloc (by simp) _
  have hcJ : ∀ w', Below (w.heap.size + 2) ((w.alloc (.cells #[.string ⟨#[]⟩, .string ⟨#[]⟩, .string ⟨#[]⟩] 31)).alloc (.cells #[.int .i64 0] 23)) w' → w'.heap[w.heap.size]? = some (.cells #[.string ⟨#[]⟩, .string ⟨#[]⟩, .string ⟨#[]⟩] 31 (0, 0)) := fun w' hb => by
    rw [hb.block w.heap.size (by omega)]
    show ((w.heap.push (.cells #[.string ⟨#[]⟩, .string ⟨#[]⟩, .string ⟨#[]⟩] 31)).push (.cells #[.int .i64 0] 23))[w.heap.size]? = _
    rw [Array.getElem?_push_lt (by simp)]
    simp
  have hcE : ∀ w', Below (w.heap.size + 2) ((w.alloc (.cells #[.string ⟨#[]⟩, .string ⟨#[]⟩, .string ⟨#[]⟩] 31)).alloc (.cells #[.int .i64 0] 23)) w' → w'.heap[w.heap.size + 1]? = some (.cells #[.int .i64 0] 23 (0, 0)) := fun w' hb => by
    rw [hb.block (w.heap.size + 1) (by omega)]
    have h := @Array.getElem?_push_size _ (w.heap.push (.cells #[.string ⟨#[]⟩, .string ⟨#[]⟩, .string ⟨#[]⟩] 31)) (.cells #[.int .i64 0] 23)
    rw [Array.size_push] at h
    exact h
  obtain ⟨j, n⟩ := p
  by_cases h0 : n = 0
  · subst h0
    have hc' := hc.mono (fun e w' h => And.intro (h.1.elim (fun k => k.2) (fun k => absurd rfl k.1)) h.2 : ∀ e w', _ → (e = .returned (.agg #[.string ⟨j.l.toArray⟩, .string ⟨j.h.toArray⟩, .string ⟨j.r.toArray⟩]) ∧ _))
    clear hc
    go_enter_defers Tryd.func32, Tryd.ntmps32
    go_wp2_with (go_at_fn k; refine hc'.mono ?_; rintro e w1 ⟨rfl, hb⟩; have hJ := hcJ w1 hb; have c0 := cell_three0 hJ; have c1 := cell_three1 hJ; have c2 := cell_three2 hJ; have f0 := thaw_three hJ 0; have f1 := thaw_three hJ 1; have f2 := thaw_three hJ 2; have hcl := cell_one (hcE w1 hb); have hfz := thaw_one (hcE w1 hb); clear hJ)
    refine leaves_cons (f := 49) (args := #[.pointer (some ⟨w.heap.size + 1, 0, none⟩)]) (by simp) (by simp [go_sem]) ?_
    refine (catchJ_idle ⟨w.heap.size + 1, 0, none⟩ _).mono ?_
    rintro e u' w2 ⟨rfl, rfl, rfl⟩
    have hbl : Below w.heap.size w ((((w1.setCell ⟨w.heap.size, 0, none⟩ (.string ⟨j.l.toArray⟩)).setCell ⟨w.heap.size, 1, none⟩ (.string ⟨j.h.toArray⟩)).setCell ⟨w.heap.size, 2, none⟩ (.string ⟨j.r.toArray⟩)).setCell ⟨w.heap.size + 1, 0, none⟩ (.int .i64 0)) :=
      ((((hb0.trans (hb.mono (by omega))).setCell (p := ⟨w.heap.size, 0, none⟩) (Nat.le_refl _) _).setCell (p := ⟨w.heap.size, 1, none⟩) (Nat.le_refl _) _).setCell (p := ⟨w.heap.size, 2, none⟩) (Nat.le_refl _) _).setCell (p := ⟨w.heap.size + 1, 0, none⟩) (Nat.le_succ _) _
    simp [Leaves, settle, results, Tryd.results32, go_sem, ToldJ, cellsJ, c0, c1, c2, hcl]
    exact hbl
  · have hj : j = noJid := hp.elim (fun h => absurd h h0) id
    subst hj
    have hc' := hc.mono (fun e w' h => And.intro (h.1.elim (fun k => absurd k.1 h0) (fun k => k.2)) h.2 : ∀ e w', _ → (e = .panicked (gaveUp n) ∧ _))
    clear hc
    go_enter_defers Tryd.func32, Tryd.ntmps32
    go_wp2_with (go_at_fn k; refine hc'.mono ?_; rintro e w1 ⟨rfl, hb⟩; have hJ := hcJ w1 hb; have c0 := cell_three0 hJ; have c1 := cell_three1 hJ; have c2 := cell_three2 hJ; have hcl := cell_one (hcE w1 hb); have hfz := thaw_one (hcE w1 hb); clear hJ)
    refine leaves_cons (f := 49) (args := #[.pointer (some ⟨w.heap.size + 1, 0, none⟩)]) (by simp) (by simp [go_sem]) ?_
    refine (catchJ_panicking ⟨w.heap.size + 1, 0, none⟩ 0 n [] _ hcl hfz).mono ?_
    rintro e u' w2 ⟨rfl, rfl, rfl⟩
    have hbl : Below w.heap.size w (w1.setCell ⟨w.heap.size + 1, 0, none⟩ (.int .i64 n)) :=
      (hb0.trans (hb.mono (by omega))).setCell (p := ⟨w.heap.size + 1, 0, none⟩) (Nat.le_succ _) _
    simp [Leaves, settle, results, Tryd.results32, go_sem, ToldJ, cellsJ, noJid, c0, c1, c2, hcl]
    exact hbl
end Go.Proofs.YtikklhnkkfimfaaDoor
