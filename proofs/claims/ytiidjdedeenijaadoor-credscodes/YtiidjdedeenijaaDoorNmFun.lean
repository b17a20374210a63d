/- local, host, resource: what each makes of a text, or how it gives up. -/
import Derived.Test.YtiidjdedeenijaaDoorNmEach
import Derived.Defers
import Derived.Recover
import Derived.Laws.Pointers
namespace Go.Proofs.YtiidjdedeenijaaDoor.Nm
open Go.RowKit

/-- A text that was prepared, or the error's number with which it was given up. -/
def Gave (p : List UInt8 × Nat) (e : Ending) : Prop := (p.2 = 0 ∧ e = .returned (.string ⟨p.1.toArray⟩)) ∨ (p.2 ≠ 0 ∧ e = .panicked (gaveUp p.2))

theorem tabs_below {w w' : World} (hT : Lib.Utf8Tabs 0 1 w) (hb : Below w.heap.size w w') : Lib.Utf8Tabs 0 1 w' :=
  ⟨fun c hc => (Below.cell hb (World.block_lt_of_cell? w _ (hT.1 c hc))).trans (hT.1 c hc),
   fun i hi => ⟨(Below.cell hb (World.block_lt_of_cell? w _ (hT.2 i hi).1)).trans (hT.2 i hi).1, (Below.cell hb (World.block_lt_of_cell? w _ (hT.2 i hi).2)).trans (hT.2 i hi).2⟩⟩

theorem eachX_num (step : Int → Int → Option Int) (l : List UInt8) (n : Nat) (h : eachX step l = .error n) : n ≠ 0 := by
  unfold eachX at h
  split at h
  · cases h; omega
  · split at h
    · cases h; omega
    · cases he : each step 46 l with
      | none => rw [he] at h; cases h; omega
      | some p => rw [he] at h; cases h

theorem inLocal_any (s : ByteArray) (w : World) (hs : s.size ≤ 9223372036854775807) (hT : Lib.Utf8Tabs 0 1 w) :
    Calls Tryd.prog 42 #[.string s] w fun e w' => Gave (localN s.data.toList) e ∧ Below w.heap.size w w' := by
  have cE := each_any 63 #[] stepL w.heap.size (fun _ _ => True) s w hs (Nat.le_refl _) (takerL _) trivial hT
  rw [localN, prep_eachX]
  generalize hX : eachX stepL s.data.toList = X at cE ⊢
  cases X with
  | error n =>
    have hn := eachX_num _ _ _ hX
    go_enter Tryd.func42, Tryd.ntmps42
    go_wp2_with (go_at_call 62; refine cE.mono ?_; rintro e w1 ⟨rfl, hb⟩)
    exact ⟨rfl, .inr ⟨hn, rfl⟩, hb⟩
  | ok p =>
    obtain ⟨bs, st⟩ := p
    go_enter Tryd.func42, Tryd.ntmps42
    go_wp2_with (go_at_call 62; refine cE.mono ?_; rintro e w1 ⟨⟨rfl, _⟩, hb⟩)
    go_ret
    exact ⟨.inl ⟨rfl, rfl⟩, hb⟩

theorem lastAt_new (w : World) : LastAt w.heap.size 46 (w.alloc (.cells #[.int .i32 46] 21)) := by
  show (w.heap.push (.cells #[.int .i32 46] 21))[w.heap.size]? = _
  simp

end Go.Proofs.YtiidjdedeenijaaDoor.Nm

/- begun: a preparing, and the error with which it gave up. -/
namespace Go.Proofs.YtiidjdedeenijaaDoor.Nm
open Go.RowKit

theorem catchS_panicking (p : Addr) (x n : Int) (older : List PanicEntry) (w : World) (hc : w.cell? p = some (.int .i64 x)) (hz : w.frozen? p = false) :
    CallsD Tryd.prog 61 #[.pointer (some p)] (.panicking ({ v := .iface 103 (.agg #[.int .i64 n]), recovered := false } :: older)) w fun e u' w' =>
      e = .returned (.tuple #[]) ∧ u' = .panicking ({ v := .iface 103 (.agg #[.int .i64 n]), recovered := true } :: older) ∧ w' = w.setCell p (.int .i64 n) := by
  refine callsD_of_wpS Tryd.func61 rfl fun c₀ cs hu => ?_
  apply wpS_seq
  apply wpS_region
  simp [wpOpsS, go_sem, recoverD, hu, Tryd.ntmps61, Exit.thenS]
  refine wpS_of_wp ?_
  rw [show #[Value.pointer (some p)] ++ ((Array.replicate 7 undef).setIfInBounds 1 (Value.iface 103 (Value.agg #[Value.int IntKind.i64 n]))).setIfInBounds 0 (Value.iface 103 (Value.agg #[Value.int IntKind.i64 n])) = #[Value.pointer (some p), Value.iface 103 (Value.agg #[Value.int IntKind.i64 n]), Value.iface 103 (Value.agg #[Value.int IntKind.i64 n]), undef, undef, undef, undef, undef] from rfl]
  have hta : (Instr.typeAssert (Value.iface 103 (Value.agg #[Value.int IntKind.i64 n])) 20 103 false).run Tryd.prog w = .ok (Value.agg #[Value.int IntKind.i64 n]) w := by
    simp [Instr.typeAssert, go_sem]
  have hfd : (Instr.field 103 (Value.agg #[Value.int IntKind.i64 n]) 0).run Tryd.prog w = .ok (Value.int IntKind.i64 n) w := by
    simp [Instr.field, go_sem, asAgg]
  go_wp2
  simp [bodyPostS, results, Tryd.results61]
theorem catchS_idle (p : Addr) (w : World) :
    CallsD Tryd.prog 61 #[.pointer (some p)] .returning w fun e u' w' => e = .returned (.tuple #[]) ∧ u' = .returning ∧ w' = w := by
  refine callsD_of_wpS Tryd.func61 rfl fun c₀ cs hu => ?_
  apply wpS_seq
  apply wpS_region
  simp [wpOpsS, go_sem, recoverD, hu, Tryd.ntmps61, Exit.thenS]
  refine wpS_of_wp ?_
  rw [show #[Value.pointer (some p)] ++ ((Array.replicate 7 undef).setIfInBounds 1 Value.nilIface).setIfInBounds 0 Value.nilIface = #[Value.pointer (some p), Value.nilIface, Value.nilIface, undef, undef, undef, undef, undef] from rfl]
  go_wp2
  cases c₀
  simp_all [bodyPostS, results, Tryd.results61]

/-- What begun hands back of a text. -/
def Told (p : List UInt8 × Nat) : Value := .tuple #[.string ⟨p.1.toArray⟩, .int .i64 p.2]

theorem cell_one {w : World} {B : Nat} {v : Value} {t : TypeId} (h : w.heap[B]? = some (.cells #[v] t (0, 0))) : w.cell? ⟨B, 0, none⟩ = some v := by simp [World.cell?, h]
theorem thaw_one {w : World} {B : Nat} {v : Value} {t : TypeId} (h : w.heap[B]? = some (.cells #[v] t (0, 0))) : w.frozen? ⟨B, 0, none⟩ = false := by simp [World.frozen?, h]

theorem begunS_any (k : Nat) (caps : Array Value) (p : List UInt8 × Nat) (w : World) (hent : ∀ args w, (callFunc k args).run Tryd.prog w = .ok (.enter k args) w) (hp : p.2 = 0 ∨ p.1 = [])
    (hc : Calls Tryd.prog k caps (w.alloc (.cells #[.int .i64 0] 29)) fun e w' => Gave p e ∧ Below (w.heap.size + 1) (w.alloc (.cells #[.int .i64 0] 29)) w') :
    Calls Tryd.prog 40 #[.func (.func k) #[] caps] w fun e w' => e = .returned (Told p) ∧ Below w.heap.size w w' := by
  have hmf : ∀ (fn : Fn) (first cap : Array Value) (w : World), (Instr.makeFunc fn first cap).run Tryd.prog w = .ok (.func fn first cap) w := fun _ _ _ _ => rfl
  have hb0 : Below w.heap.size w (w.alloc (.cells #[.int .i64 0] 29)) := (Below.refl _ _).alloc (Nat.le_refl _) _
  have hcell : ∀ w', Below (w.heap.size + 1) (w.alloc (.cells #[.int .i64 0] 29)) w' → w'.heap[w.heap.size]? = some (.cells #[.int .i64 0] 29 (0, 0)) := fun w' hb => by
    rw [hb.block w.heap.size (by omega)]
    show (w.heap.push (.cells #[.int .i64 0] 29))[w.heap.size]? = _
    simp
  obtain ⟨l, n⟩ := p
  by_cases h0 : n = 0
  · subst h0
    have hc' := hc.mono (fun e w' h => And.intro (h.1.elim (fun k => k.2) (fun k => absurd rfl k.1)) h.2 : ∀ e w', _ → (e = .returned (.string ⟨l.toArray⟩) ∧ _))
    clear hc
    go_enter_defers Tryd.func40, Tryd.ntmps40
    go_wp2_with (go_at_fn k; refine hc'.mono ?_; rintro e w1 ⟨rfl, hb⟩; have hcl := cell_one (hcell w1 hb); have hfz := thaw_one (hcell w1 hb))
    refine leaves_cons (f := 61) (args := #[.pointer (some ⟨w.heap.size, 0, none⟩)]) (by simp) (by simp [go_sem]) ?_
    refine (catchS_idle ⟨w.heap.size, 0, none⟩ _).mono ?_
    rintro e u' w2 ⟨rfl, rfl, rfl⟩
    have hbl : Below w.heap.size w (w1.setCell ⟨w.heap.size, 0, none⟩ (.int .i64 0)) := (hb0.trans (hb.mono (by omega))).setCell (p := ⟨w.heap.size, 0, none⟩) (Nat.le_refl _) _
    simp [Leaves, settle, results, Tryd.results40, go_sem, hcl, Told]
    exact hbl
  · have hl : l = [] := hp.elim (fun h => absurd h h0) id
    subst hl
    have hc' := hc.mono (fun e w' h => And.intro (h.1.elim (fun k => absurd k.1 h0) (fun k => k.2)) h.2 : ∀ e w', _ → (e = .panicked (gaveUp n) ∧ _))
    clear hc
    go_enter_defers Tryd.func40, Tryd.ntmps40
    go_wp2_with (go_at_fn k; refine hc'.mono ?_; rintro e w1 ⟨rfl, hb⟩; have hcl := cell_one (hcell w1 hb); have hfz := thaw_one (hcell w1 hb))
    refine leaves_cons (f := 61) (args := #[.pointer (some ⟨w.heap.size, 0, none⟩)]) (by simp) (by simp [go_sem]) ?_
    refine (catchS_panicking ⟨w.heap.size, 0, none⟩ 0 n [] _ hcl hfz).mono ?_
    rintro e u' w2 ⟨rfl, rfl, rfl⟩
    have hbl : Below w.heap.size w (w1.setCell ⟨w.heap.size, 0, none⟩ (.int .i64 n)) := (hb0.trans (hb.mono (by omega))).setCell (p := ⟨w.heap.size, 0, none⟩) (Nat.le_refl _) _
    simp [Leaves, settle, results, Tryd.results40, go_sem, hcl, Told]
    exact hbl
end Go.Proofs.YtiidjdedeenijaaDoor.Nm

/- Local, Host, Resource: a text prepared, and the error's number. -/
namespace Go.Proofs.YtiidjdedeenijaaDoor.Nm
open Go.RowKit

theorem cell_new (w : World) (v : Value) (t : TypeId) : (w.alloc (.cells #[v] t)).cell? ⟨w.heap.size, 0, none⟩ = some v := by
  have h : (w.alloc (.cells #[v] t)).heap[w.heap.size]? = some (.cells #[v] t (0, 0)) := by
    show (w.heap.push (.cells #[v] t))[w.heap.size]? = _
    simp
  exact cell_one h
theorem cell_newer (w : World) (v : Value) (t : TypeId) (o : Obj) : ((w.alloc (.cells #[v] t)).alloc o).cell? ⟨w.heap.size, 0, none⟩ = some v := by
  rw [World.cell?_alloc_lt _ _ _ (by simp)]; exact cell_new w v t
theorem below_new (w : World) (o : Obj) : Below w.heap.size w (w.alloc o) := (Below.refl _ _).alloc (Nat.le_refl _) _

theorem cloLocal_any (q : Addr) (s : ByteArray) (w : World) (hc : w.cell? q = some (.string s)) (hs : s.size ≤ 9223372036854775807) (hT : Lib.Utf8Tabs 0 1 w) :
    Calls Tryd.prog 41 #[.pointer (some q)] w fun e w' => Gave (localN s.data.toList) e ∧ Below w.heap.size w w' := by
  have cI := inLocal_any s w hs hT
  generalize localN s.data.toList = p at cI ⊢
  obtain ⟨l, n⟩ := p
  by_cases h0 : n = 0
  · subst h0
    have cI' := cI.mono (fun e w' h => And.intro (h.1.elim (fun k => k.2) (fun k => absurd rfl k.1)) h.2 : ∀ e w', _ → (e = .returned (.string ⟨l.toArray⟩) ∧ _))
    clear cI
    go_enter Tryd.func41, Tryd.ntmps41
    go_wp2_with (go_at_call 42; refine cI'.mono ?_; rintro e w1 ⟨rfl, hb⟩)
    go_ret
    exact ⟨.inl ⟨rfl, rfl⟩, hb⟩
  · have cI' := cI.mono (fun e w' h => And.intro (h.1.elim (fun k => absurd k.1 h0) (fun k => k.2)) h.2 : ∀ e w', _ → (e = .panicked (gaveUp n) ∧ _))
    clear cI
    go_enter Tryd.func41, Tryd.ntmps41
    go_wp2_with (go_at_call 42; refine cI'.mono ?_; rintro e w1 ⟨rfl, hb⟩)
    exact ⟨rfl, .inr ⟨h0, rfl⟩, hb⟩

theorem local_any (s : ByteArray) (w : World) (hs : s.size ≤ 9223372036854775807) (hT : Lib.Utf8Tabs 0 1 w) :
    Calls Tryd.prog 19 #[.string s] w fun e w' => e = .returned (Told (localN s.data.toList)) ∧ Below w.heap.size w w' := by
  have hmf : ∀ (fn : Fn) (first cap : Array Value) (w : World), (Instr.makeFunc fn first cap).run Tryd.prog w = .ok (.func fn first cap) w := fun _ _ _ _ => rfl
  have hb1 : Below w.heap.size w ((w.alloc (.cells #[.string s] 9)).alloc (.cells #[.int .i64 0] 29)) := (below_new w _).alloc (by simp) _
  have cB := begunS_any 41 #[.pointer (some ⟨w.heap.size, 0, none⟩)] (localN s.data.toList) (w.alloc (.cells #[.string s] 9)) (enters_of Tryd.func41 (by kernel_rfl) rfl) ((prep_cases _ _ _).elim .inl (fun h => .inr h.1))
    ((cloLocal_any ⟨w.heap.size, 0, none⟩ s _ (cell_newer w _ _ _) hs (tabs_below hT hb1)).mono (fun e w' h => ⟨h.1, by have := h.2; simpa using this⟩))
  generalize localN s.data.toList = p at cB ⊢
  unfold Told at cB ⊢
  go_enter Tryd.func19, Tryd.ntmps19
  go_wp2_with (go_at_call 40; refine cB.mono ?_; rintro e w1 ⟨rfl, hb⟩)
  go_ret2
  exact ⟨rfl, (below_new w _).trans (hb.mono (by simp))⟩

end Go.Proofs.YtiidjdedeenijaaDoor.Nm
