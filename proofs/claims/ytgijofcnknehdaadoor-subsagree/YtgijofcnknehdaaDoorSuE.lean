/- subs: attempt; Act and Hear. -/
import Derived.Test.YtgijofcnknehdaaDoorSuD
import Derived.Shelf.Abstract
namespace Go.Proofs.YtgijofcnknehdaaDoor
open Go.RowKit Go.Joins

/-- It went through, or it gave up with the error's number. -/
def Gs (n : Nat) (e : Ending) : Prop := (n = 0 ∧ e = .returned (.tuple #[])) ∨ (n ≠ 0 ∧ e = .panicked (gaveS n))
theorem gs_no {en : Nat} (h : en ≠ 0) {e : Ending} (he : e = .panicked (gaveS en)) : Gs en e := Or.inr ⟨h, he⟩

theorem cell_one {w : World} {B : Nat} {v : Value} {t : TypeId} (h : w.heap[B]? = some (.cells #[v] t (0, 0))) : w.cell? ⟨B, 0, none⟩ = some v := by simp [World.cell?, h]
theorem thaw_one {w : World} {B : Nat} {v : Value} {t : TypeId} (h : w.heap[B]? = some (.cells #[v] t (0, 0))) : w.frozen? ⟨B, 0, none⟩ = false := by simp [World.frozen?, h]
theorem alloc_at (w : World) (o : Obj) : (w.alloc o).heap[w.heap.size]? = some o := by
  show (w.heap.push o)[w.heap.size]? = _
  simp
theorem box_keep {S : Nat → Prop} {w w' : World} {b : Nat} {o : Obj} (h : w.heap[b]? = some o) (hk : Keep S w w') (hs : ¬ S b) : w'.heap[b]? = some o := (hk.block b (Array.getElem?_eq_some_iff.1 h).1 hs).trans h
theorem box_below {w w' : World} {b : Nat} {o : Obj} (h : w.heap[b]? = some o) (hk : Below w.heap.size w w') : w'.heap[b]? = some o := (hk.block b (Array.getElem?_eq_some_iff.1 h).1).trans h

theorem catchS_panicking (p : Addr) (x : Int) (n : Nat) (w : World) (hc : w.cell? p = some (.int .i64 x)) (hz : w.frozen? p = false) :
    CallsD Tryd.prog 23 #[.pointer (some p)] (.panicking (gaveS n)) w fun e u' w' =>
      e = .returned (.tuple #[]) ∧ u' = .panicking [{ v := .iface 64 (.agg #[.int .i64 n]), recovered := true }] ∧ w' = w.setCell p (.int .i64 n) := by
  unfold gaveS
  refine callsD_of_wpS Tryd.func23 rfl fun c₀ cs hu => ?_
  apply wpS_seq
  apply wpS_region
  simp [wpOpsS, go_sem, recoverD, hu, Tryd.ntmps23, Exit.thenS]
  refine wpS_of_wp ?_
  rw [show #[Value.pointer (some p)] ++ ((Array.replicate 7 undef).setIfInBounds 1 (Value.iface 64 (Value.agg #[Value.int IntKind.i64 n]))).setIfInBounds 0 (Value.iface 64 (Value.agg #[Value.int IntKind.i64 n])) = #[Value.pointer (some p), Value.iface 64 (Value.agg #[Value.int IntKind.i64 n]), Value.iface 64 (Value.agg #[Value.int IntKind.i64 n]), undef, undef, undef, undef, undef] from rfl]
  have hta : (Instr.typeAssert (Value.iface 64 (Value.agg #[Value.int IntKind.i64 n])) 20 64 false).run Tryd.prog w = .ok (Value.agg #[Value.int IntKind.i64 n]) w := by
    simp [Instr.typeAssert, go_sem]
  have hfd : (Instr.field 64 (Value.agg #[Value.int IntKind.i64 n]) 0).run Tryd.prog w = .ok (Value.int IntKind.i64 n) w := by
    simp [Instr.field, go_sem, asAgg]
  go_wp2
  simp [bodyPostS, results, Tryd.results23]
theorem catchS_idle (p : Addr) (w : World) :
    CallsD Tryd.prog 23 #[.pointer (some p)] .returning w fun e u' w' => e = .returned (.tuple #[]) ∧ u' = .returning ∧ w' = w := by
  refine callsD_of_wpS Tryd.func23 rfl fun c₀ cs hu => ?_
  apply wpS_seq
  apply wpS_region
  simp [wpOpsS, go_sem, recoverD, hu, Tryd.ntmps23, Exit.thenS]
  refine wpS_of_wp ?_
  rw [show #[Value.pointer (some p)] ++ ((Array.replicate 7 undef).setIfInBounds 1 Value.nilIface).setIfInBounds 0 Value.nilIface = #[Value.pointer (some p), Value.nilIface, Value.nilIface, undef, undef, undef, undef, undef] from rfl]
  go_wp2
  cases c₀
  simp_all [bodyPostS, results, Tryd.results23]

set_option maxHeartbeats 800000 in
/-- attempt: what is done goes through, or gives up. -/
theorem attemptS (k : Nat) (caps : Array Value) (n : Nat) (Post : World → Prop) (w : World) (hent : ∀ args w, (callFunc k args).run Tryd.prog w = .ok (.enter k args) w)
    (hc : Calls Tryd.prog k caps (w.alloc (.cells #[.int .i64 0] 30)) fun e w' => Gs n e ∧ Post w' ∧ w'.heap[w.heap.size]? = some (.cells #[.int .i64 0] 30 (0, 0))) :
    Calls Tryd.prog 14 #[.func (.func k) #[] caps] w fun e w' => e = .returned (.int .i64 n) ∧ ∃ w1, Post w1 ∧ w' = w1.setCell ⟨w.heap.size, 0, none⟩ (.int .i64 n) := by
  have hmf : ∀ (fn : Fn) (first cap : Array Value) (w : World), (Instr.makeFunc fn first cap).run Tryd.prog w = .ok (.func fn first cap) w := fun _ _ _ _ => rfl
  by_cases h0 : n = 0
  · subst h0
    have hc' := hc.mono (fun e w' h => And.intro (h.1.elim (fun k => k.2) (fun k => absurd rfl k.1)) h.2 : ∀ e w', _ → (e = .returned (.tuple #[]) ∧ _))
    clear hc
    go_enter_defers Tryd.func14, Tryd.ntmps14
    go_wp2_with (first
      | (go_at_fn k; refine hc'.mono ?_; rintro e w1 ⟨rfl, hP, hB⟩; have hcl := cell_one hB; have hfz := thaw_one hB))
    refine leaves_cons (f := 23) (args := #[.pointer (some ⟨w.heap.size, 0, none⟩)]) (by simp) (by simp [go_sem]) ?_
    refine (catchS_idle ⟨w.heap.size, 0, none⟩ _).mono ?_
    rintro e u' w2 ⟨rfl, rfl, rfl⟩
    simp [Leaves, settle, results, Tryd.results14, go_sem, hcl]
    exact ⟨w1, hP, rfl⟩
  · have hc' := hc.mono (fun e w' h => And.intro (h.1.elim (fun k => absurd k.1 h0) (fun k => k.2)) h.2 : ∀ e w', _ → (e = .panicked (gaveS n) ∧ _))
    clear hc
    go_enter_defers Tryd.func14, Tryd.ntmps14
    go_wp2_with (first
      | (go_at_fn k; refine hc'.mono ?_; rintro e w1 ⟨rfl, hP, hB⟩; have hcl := cell_one hB; have hfz := thaw_one hB))
    refine leaves_cons (f := 23) (args := #[.pointer (some ⟨w.heap.size, 0, none⟩)]) (by simp) (by simp [go_sem]) ?_
    refine (catchS_panicking ⟨w.heap.size, 0, none⟩ 0 n _ hcl hfz).mono ?_
    rintro e u' w2 ⟨rfl, rfl, rfl⟩
    simp [Leaves, settle, results, Tryd.results14, go_sem, hcl]
    exact ⟨w1, hP, rfl⟩

/-- The six variables of Act. -/
structure AB (w : World) (b : Nat) (h : Hf) (kind x : Int) (t : Hf) (ml nn : Int) : Prop where
  ah : HfAt w b h
  ak : w.heap[b + 1]? = some (.cells #[.int .i64 kind] 3 (0, 0))
  ax : w.heap[b + 2]? = some (.cells #[.int .u64 x] 22 (0, 0))
  at' : HfAt w (b + 3) t
  am : w.heap[b + 4]? = some (.cells #[.int .i64 ml] 3 (0, 0))
  an : w.heap[b + 5]? = some (.cells #[.int .u64 nn] 22 (0, 0))
theorem AB.below {w w' : World} {b : Nat} {h : Hf} {kind x : Int} {t : Hf} {ml nn : Int} (A : AB w b h kind x t ml nn) (hb : Below w.heap.size w w') : AB w' b h kind x t ml nn :=
  ⟨box_below A.ah hb, box_below A.ak hb, box_below A.ax hb, box_below A.at' hb, box_below A.am hb, box_below A.an hb⟩
/-- Three of them are written. -/
theorem AB.put {w : World} {b : Nat} {h : Hf} {kind x : Int} {t : Hf} {ml nn : Int} (A : AB w b h kind x t ml nn) (t' : Hf) (ml' nn' : Int) :
    AB (((w.setRow (b + 3) (hfc t')).setCell ⟨b + 4, 0, none⟩ (.int .i64 ml')).setCell ⟨b + 5, 0, none⟩ (.int .u64 nn')) b h kind x t' ml' nn' ∧
    Keep (fun j => b + 3 ≤ j ∧ j ≤ b + 5) w (((w.setRow (b + 3) (hfc t')).setCell ⟨b + 4, 0, none⟩ (.int .i64 ml')).setCell ⟨b + 5, 0, none⟩ (.int .u64 nn')) := by
  have k1 := A.at'.keepB t'
  have k2 : Keep (fun j => j = b + 4) (w.setRow (b + 3) (hfc t')) ((w.setRow (b + 3) (hfc t')).setCell ⟨b + 4, 0, none⟩ (.int .i64 ml')) := (Keep.refl (fun j => j = b + 4) _).setCell (p := ⟨b + 4, 0, none⟩) rfl _
  have k3 : Keep (fun j => j = b + 5) ((w.setRow (b + 3) (hfc t')).setCell ⟨b + 4, 0, none⟩ (.int .i64 ml')) (((w.setRow (b + 3) (hfc t')).setCell ⟨b + 4, 0, none⟩ (.int .i64 ml')).setCell ⟨b + 5, 0, none⟩ (.int .u64 nn')) := (Keep.refl (fun j => j = b + 5) _).setCell (p := ⟨b + 5, 0, none⟩) rfl _
  have go : ∀ {i : Nat} {o : Obj}, w.heap[i]? = some o → i ≠ b + 3 → i ≠ b + 4 → i ≠ b + 5 → (((w.setRow (b + 3) (hfc t')).setCell ⟨b + 4, 0, none⟩ (.int .i64 ml')).setCell ⟨b + 5, 0, none⟩ (.int .u64 nn')).heap[i]? = some o := fun hh h1 h2 h3 => box_keep (box_keep (box_keep hh k1 h1) k2 h2) k3 h3
  refine ⟨⟨go A.ah (by omega) (by omega) (by omega), go A.ak (by omega) (by omega) (by omega), go A.ax (by omega) (by omega) (by omega), box_keep (box_keep (A.at'.set t') k2 (by omega)) k3 (by omega), box_keep (heap_setCell_same _ (b + 4) 0 _ _ _ (box_keep A.am k1 (by omega))) k3 (by omega), heap_setCell_same _ (b + 5) 0 _ _ _ (box_keep (box_keep A.an k1 (by omega)) k2 (by omega))⟩, ?_⟩
  exact ((k1.mono (fun i e => by omega)).trans (k2.mono (fun i e => by omega))).trans (k3.mono (fun i e => by omega))

/-- What Act answers: the half, the mail, its number, the error's number. -/
def actA (h : Hf) (kind x : Int) : (Hf × Int × Int) × Nat := if okH h = true then (match actH h kind x with
  | some r => (r, 0)
  | none => ((⟨0, 0, 0, 0⟩, 0, 0), 1)) else ((⟨0, 0, 0, 0⟩, 0, 0), 1)

set_option maxHeartbeats 1600000 in
theorem actC_any (b : Nat) (h : Hf) (kind x : Int) (w : World) (A : AB w b h kind x ⟨0, 0, 0, 0⟩ 0 0) :
    Calls Tryd.prog 17 #[.pointer (some ⟨b, 0, none⟩), .pointer (some ⟨b + 1, 0, none⟩), .pointer (some ⟨b + 2, 0, none⟩), .pointer (some ⟨b + 3, 0, none⟩), .pointer (some ⟨b + 4, 0, none⟩), .pointer (some ⟨b + 5, 0, none⟩)] w fun e w' =>
      Gs (actA h kind x).2 e ∧ AB w' b h kind x (actA h kind x).1.1 (actA h kind x).1.2.1 (actA h kind x).1.2.2 ∧ Keep (fun j => b + 3 ≤ j ∧ j ≤ b + 5) w w' := by
  have c0 := A.ah.c0
  have c1 := A.ah.c1
  have c2 := A.ah.c2
  have c3 := A.ah.c3
  cases hk : okH h with
  | false =>
    have hw := fun w => checkH_no h w hk
    unfold hfv hfc at hw
    rw [show actA h kind x = ((⟨0, 0, 0, 0⟩, 0, 0), 1) from by unfold actA; rw [if_neg (by rw [hk]; decide)]]
    go_enter Tryd.func17, Tryd.ntmps17
    go_wp2_with (first
      | (go_at_call 16; refine (hw _).mono ?_; rintro e w1 ⟨rfl, hb1⟩))
    exact ⟨rfl, gs_no (by decide) rfl, A.below hb1, Keep.ofBelow hb1⟩
  | true =>
    have hw := fun w => checkH_ok h w hk
    unfold hfv hfc at hw
    have hx := fun w => act_any h kind x w
    cases ha : actH h kind x with
    | none =>
      rw [ha] at hx
      unfold hfv hfc at hx
      rw [show actA h kind x = ((⟨0, 0, 0, 0⟩, 0, 0), 1) from by unfold actA; rw [if_pos hk, ha]]
      have hx' : ∀ w, Calls Tryd.prog 18 #[.agg #[.int .i64 h.o, .int .u64 h.n, .int .i64 h.i, .int .u64 h.m], .int .i64 kind, .int .u64 x] w fun e w' => e = .panicked (gaveS 1) ∧ Below w.heap.size w w' := hx
      clear hx ha hk
      go_enter Tryd.func17, Tryd.ntmps17
      go_wp2_with (first
        | (go_at_call 16; refine (hw _).mono ?_; rintro e w1 ⟨rfl, hb1⟩; have A1 := A.below hb1; have d0 := A1.ah.c0; have d1 := A1.ah.c1; have d2 := A1.ah.c2; have d3 := A1.ah.c3; have d4 := cell_one A1.ak; have d5 := cell_one A1.ax)
        | (go_at_call 18; refine (hx' _).mono ?_; rintro e w2 ⟨rfl, hb2⟩))
      exact ⟨rfl, gs_no (by decide) rfl, A1.below hb2, (Keep.ofBelow hb1).trans (Keep.ofBelow hb2)⟩
    | some r =>
      rw [ha] at hx
      unfold hfv hfc at hx
      rw [show actA h kind x = (r, 0) from by unfold actA; rw [if_pos hk, ha]]
      have hx' : ∀ w, Calls Tryd.prog 18 #[.agg #[.int .i64 h.o, .int .u64 h.n, .int .i64 h.i, .int .u64 h.m], .int .i64 kind, .int .u64 x] w fun e w' => e = .returned (.tuple #[.agg #[.int .i64 r.1.o, .int .u64 r.1.n, .int .i64 r.1.i, .int .u64 r.1.m], .int .i64 r.2.1, .int .u64 r.2.2]) ∧ Below w.heap.size w w' := hx
      clear hx ha hk
      go_enter Tryd.func17, Tryd.ntmps17
      go_wp2_with (first
        | (go_at_call 16; refine (hw _).mono ?_; rintro e w1 ⟨rfl, hb1⟩; have A1 := A.below hb1; have d0 := A1.ah.c0; have d1 := A1.ah.c1; have d2 := A1.ah.c2; have d3 := A1.ah.c3; have d4 := cell_one A1.ak; have d5 := cell_one A1.ax)
        | (go_at_call 18; refine (hx' _).mono ?_; rintro e w2 ⟨rfl, hb2⟩; have A2 := A1.below hb2; have P2 := A2.put r.1 r.2.1 r.2.2; have e4 := box_keep A2.am (A2.at'.keepB r.1) (by omega); have e5 := box_keep (box_keep A2.an (A2.at'.keepB r.1) (by omega)) ((Keep.refl (fun j => j = b + 4) _).setCell (p := ⟨b + 4, 0, none⟩) rfl (.int .i64 r.2.1)) (by omega); have z4 := thaw_one e4; have z5 := thaw_one e5; have y4 := cell_one e4; have y5 := cell_one e5; clear e4 e5)
        | (refine wp_store_half rfl (.tmp 3) (.tmp 13) rfl (b + 3) rfl r.1 rfl _ A2.at' ?_))
      go_end0
      exact ⟨Or.inl ⟨rfl, rfl⟩, P2.1, ((Keep.ofBelow hb1).trans (Keep.ofBelow hb2)).trans P2.2⟩
end Go.Proofs.YtgijofcnknehdaaDoor
