/- begun: a preparing, and the error with which it gave up. -/
import Derived.Test.YtiplalbicibahaaDoorNmPrep
import Derived.Defers
import Derived.Recover
import Derived.Laws.Pointers
namespace Go.Proofs.YtiplalbicibahaaDoor.Nm
open Go.RowKit

theorem catchS_panicking (p : Addr) (x n : Int) (older : List PanicEntry) (w : World) (hc : w.cell? p = some (.int .i64 x)) (hz : w.frozen? p = false) :
    CallsD Tryd.prog 68 #[.pointer (some p)] (.panicking ({ v := .iface 106 (.agg #[.int .i64 n]), recovered := false } :: older)) w fun e u' w' =>
      e = .returned (.tuple #[]) ∧ u' = .panicking ({ v := .iface 106 (.agg #[.int .i64 n]), recovered := true } :: older) ∧ w' = w.setCell p (.int .i64 n) := by
  refine callsD_of_wpS Tryd.func68 rfl fun c₀ cs hu => ?_
  apply wpS_seq
  apply wpS_region
  simp [wpOpsS, go_sem, recoverD, hu, Tryd.ntmps68, Exit.thenS]
  refine wpS_of_wp ?_
  rw [show #[Value.pointer (some p)] ++ ((Array.replicate 7 undef).setIfInBounds 1 (Value.iface 106 (Value.agg #[Value.int IntKind.i64 n]))).setIfInBounds 0 (Value.iface 106 (Value.agg #[Value.int IntKind.i64 n])) = #[Value.pointer (some p), Value.iface 106 (Value.agg #[Value.int IntKind.i64 n]), Value.iface 106 (Value.agg #[Value.int IntKind.i64 n]), undef, undef, undef, undef, undef] from rfl]
  have hta : (Instr.typeAssert (Value.iface 106 (Value.agg #[Value.int IntKind.i64 n])) 20 106 false).run Tryd.prog w = .ok (Value.agg #[Value.int IntKind.i64 n]) w := by
    simp [Instr.typeAssert, go_sem]
  have hfd : (Instr.field 106 (Value.agg #[Value.int IntKind.i64 n]) 0).run Tryd.prog w = .ok (Value.int IntKind.i64 n) w := by
    simp [Instr.field, go_sem, asAgg]
  go_wp2
  simp [bodyPostS, results, Tryd.results68]
theorem catchS_idle (p : Addr) (w : World) :
    CallsD Tryd.prog 68 #[.pointer (some p)] .returning w fun e u' w' => e = .returned (.tuple #[]) ∧ u' = .returning ∧ w' = w := by
  refine callsD_of_wpS Tryd.func68 rfl fun c₀ cs hu => ?_
  apply wpS_seq
  apply wpS_region
  simp [wpOpsS, go_sem, recoverD, hu, Tryd.ntmps68, Exit.thenS]
  refine wpS_of_wp ?_
  rw [show #[Value.pointer (some p)] ++ ((Array.replicate 7 undef).setIfInBounds 1 Value.nilIface).setIfInBounds 0 Value.nilIface = #[Value.pointer (some p), Value.nilIface, Value.nilIface, undef, undef, undef, undef, undef] from rfl]
  go_wp2
  cases c₀
  simp_all [bodyPostS, results, Tryd.results68]

/-- What begun hands back of a text. -/
def Told (p : List UInt8 × Nat) : Value := .tuple #[.string ⟨p.1.toArray⟩, .int .i64 p.2]

theorem cell_one {w : World} {B : Nat} {v : Value} {t : TypeId} (h : w.heap[B]? = some (.cells #[v] t (0, 0))) : w.cell? ⟨B, 0, none⟩ = some v := by simp [World.cell?, h]
theorem thaw_one {w : World} {B : Nat} {v : Value} {t : TypeId} (h : w.heap[B]? = some (.cells #[v] t (0, 0))) : w.frozen? ⟨B, 0, none⟩ = false := by simp [World.frozen?, h]

theorem begunS_any (k : Nat) (caps : Array Value) (p : List UInt8 × Nat) (w : World) (hent : ∀ args w, (callFunc k args).run Tryd.prog w = .ok (.enter k args) w) (hp : p.2 = 0 ∨ p.1 = [])
    (hc : Calls Tryd.prog k caps (w.alloc (.cells #[.int .i64 0] 25)) fun e w' => Gave p e ∧ Below (w.heap.size + 1) (w.alloc (.cells #[.int .i64 0] 25)) w') :
    Calls Tryd.prog 61 #[.func (.func k) #[] caps] w fun e w' => e = .returned (Told p) ∧ Below w.heap.size w w' := by
  have hmf : ∀ (fn : Fn) (first cap : Array Value) (w : World), (Instr.makeFunc fn first cap).run Tryd.prog w = .ok (.func fn first cap) w := fun _ _ _ _ => rfl
  have hb0 : Below w.heap.size w (w.alloc (.cells #[.int .i64 0] 25)) := (Below.refl _ _).alloc (Nat.le_refl _) _
  have hcell : ∀ w', Below (w.heap.size + 1) (w.alloc (.cells #[.int .i64 0] 25)) w' → w'.heap[w.heap.size]? = some (.cells #[.int .i64 0] 25 (0, 0)) := fun w' hb => by
    rw [hb.block w.heap.size (by omega)]
    show (w.heap.push (.cells #[.int .i64 0] 25))[w.heap.size]? = _
    simp
  obtain ⟨l, n⟩ := p
  by_cases h0 : n = 0
  · subst h0
    have hc' := hc.mono (fun e w' h => And.intro (h.1.elim (fun k => k.2) (fun k => absurd rfl k.1)) h.2 : ∀ e w', _ → (e = .returned (.string ⟨l.toArray⟩) ∧ _))
    clear hc
    go_enter_defers Tryd.func61, Tryd.ntmps61
    go_wp2_with (go_at_fn k; refine hc'.mono ?_; rintro e w1 ⟨rfl, hb⟩; have hcl := cell_one (hcell w1 hb); have hfz := thaw_one (hcell w1 hb))
    refine leaves_cons (f := 68) (args := #[.pointer (some ⟨w.heap.size, 0, none⟩)]) (by simp) (by simp [go_sem]) ?_
    refine (catchS_idle ⟨w.heap.size, 0, none⟩ _).mono ?_
    rintro e u' w2 ⟨rfl, rfl, rfl⟩
    have hbl : Below w.heap.size w (w1.setCell ⟨w.heap.size, 0, none⟩ (.int .i64 0)) := (hb0.trans (hb.mono (by omega))).setCell (p := ⟨w.heap.size, 0, none⟩) (Nat.le_refl _) _
    simp [Leaves, settle, results, Tryd.results61, go_sem, hcl, Told]
    exact hbl
  · have hl : l = [] := hp.elim (fun h => absurd h h0) id
    subst hl
    have hc' := hc.mono (fun e w' h => And.intro (h.1.elim (fun k => absurd k.1 h0) (fun k => k.2)) h.2 : ∀ e w', _ → (e = .panicked (gaveUp n) ∧ _))
    clear hc
    go_enter_defers Tryd.func61, Tryd.ntmps61
    go_wp2_with (go_at_fn k; refine hc'.mono ?_; rintro e w1 ⟨rfl, hb⟩; have hcl := cell_one (hcell w1 hb); have hfz := thaw_one (hcell w1 hb))
    refine leaves_cons (f := 68) (args := #[.pointer (some ⟨w.heap.size, 0, none⟩)]) (by simp) (by simp [go_sem]) ?_
    refine (catchS_panicking ⟨w.heap.size, 0, none⟩ 0 n [] _ hcl hfz).mono ?_
    rintro e u' w2 ⟨rfl, rfl, rfl⟩
    have hbl : Below w.heap.size w (w1.setCell ⟨w.heap.size, 0, none⟩ (.int .i64 n)) := (hb0.trans (hb.mono (by omega))).setCell (p := ⟨w.heap.size, 0, none⟩) (Nat.le_refl _) _
    simp [Leaves, settle, results, Tryd.results61, go_sem, hcl, Told]
    exact hbl
end Go.Proofs.YtiplalbicibahaaDoor.Nm
