/- seglog's small functions: ask, attempt, step. -/
import Derived.Test.YtikkieaokfailaaGreatDoorDkW
import Derived.Test.YtikkieaokfailaaGreatDoorDkVw
import Derived.Test.YtikkieaokfailaaGreatDoorDkVn
namespace Go.Proofs.YtikkieaokfailaaGreatDoor
open Go.RowKit Go.Joins

def gaveS (n : Nat) : List PanicEntry := [{ v := .iface 143 (.agg #[.int .i64 n]), recovered := false }]
/-- It went through, or it gave up with the error's number. -/
def Gs (n : Nat) (e : Ending) : Prop := (n = 0 ∧ e = .returned (.tuple #[])) ∨ (n ≠ 0 ∧ e = .panicked (gaveS n))
theorem gs_no {en : Nat} (h : en ≠ 0) {e : Ending} (he : e = .panicked (gaveS en)) : Gs en e := Or.inr ⟨h, he⟩

theorem sask_ok (n : Int) (w : World) : Calls Tryz.prog 129 #[.bool true, .int .i64 n] w fun e w' => e = .returned (.tuple #[]) ∧ w' = w := by
  go_enter Tryz.func129, Tryz.ntmps129
  go_wp2
  go_end0
  exact ⟨rfl, rfl⟩
theorem sask_no (n : Nat) (w : World) : Calls Tryz.prog 129 #[.bool false, .int .i64 n] w fun e w' => e = .panicked (gaveS n) ∧ w' = w := by
  go_enter Tryz.func129, Tryz.ntmps129
  go_wp2
  exact ⟨rfl, rfl, rfl⟩

theorem catchS_panicking (p : Addr) (x : Int) (n : Nat) (w : World) (hc : w.cell? p = some (.int .i64 x)) (hz : w.frozen? p = false) :
    CallsD Tryz.prog 97 #[.pointer (some p)] (.panicking (gaveS n)) w fun e u' w' =>
      e = .returned (.tuple #[]) ∧ u' = .panicking [{ v := .iface 143 (.agg #[.int .i64 n]), recovered := true }] ∧ w' = w.setCell p (.int .i64 n) := by
  unfold gaveS
  refine callsD_of_wpS Tryz.func97 rfl fun c₀ cs hu => ?_
  apply wpS_seq
  apply wpS_region
  simp [wpOpsS, go_sem, recoverD, hu, Tryz.ntmps97, Exit.thenS]
  refine wpS_of_wp ?_
  rw [show #[Value.pointer (some p)] ++ ((Array.replicate 7 undef).setIfInBounds 1 (Value.iface 143 (Value.agg #[Value.int IntKind.i64 n]))).setIfInBounds 0 (Value.iface 143 (Value.agg #[Value.int IntKind.i64 n])) = #[Value.pointer (some p), Value.iface 143 (Value.agg #[Value.int IntKind.i64 n]), Value.iface 143 (Value.agg #[Value.int IntKind.i64 n]), undef, undef, undef, undef, undef] from rfl]
  have hta : (Instr.typeAssert (Value.iface 143 (Value.agg #[Value.int IntKind.i64 n])) 20 143 false).run Tryz.prog w = .ok (Value.agg #[Value.int IntKind.i64 n]) w := by
    simp [Instr.typeAssert, go_sem]
  have hfd : (Instr.field 143 (Value.agg #[Value.int IntKind.i64 n]) 0).run Tryz.prog w = .ok (Value.int IntKind.i64 n) w := by
    simp [Instr.field, go_sem, asAgg]
  go_wp2
  simp [bodyPostS, results, Tryz.results97]
theorem catchS_idle (p : Addr) (w : World) :
    CallsD Tryz.prog 97 #[.pointer (some p)] .returning w fun e u' w' => e = .returned (.tuple #[]) ∧ u' = .returning ∧ w' = w := by
  refine callsD_of_wpS Tryz.func97 rfl fun c₀ cs hu => ?_
  apply wpS_seq
  apply wpS_region
  simp [wpOpsS, go_sem, recoverD, hu, Tryz.ntmps97, Exit.thenS]
  refine wpS_of_wp ?_
  rw [show #[Value.pointer (some p)] ++ ((Array.replicate 7 undef).setIfInBounds 1 Value.nilIface).setIfInBounds 0 Value.nilIface = #[Value.pointer (some p), Value.nilIface, Value.nilIface, undef, undef, undef, undef, undef] from rfl]
  go_wp2
  cases c₀
  simp_all [bodyPostS, results, Tryz.results97]

/-- attempt: what is done goes through, or gives up. -/
theorem attemptS (k : Nat) (caps : Array Value) (n : Nat) (Post : World → Prop) (w : World) (hent : ∀ args w, (callFunc k args).run Tryz.prog w = .ok (.enter k args) w)
    (hc : Calls Tryz.prog k caps (w.alloc (.cells #[.int .i64 0] 37)) fun e w' => Gs n e ∧ Post w' ∧ w'.heap[w.heap.size]? = some (.cells #[.int .i64 0] 37 (0, 0))) :
    Calls Tryz.prog 60 #[.func (.func k) #[] caps] w fun e w' => e = .returned (.int .i64 n) ∧ ∃ w1, Post w1 ∧ w' = w1.setCell ⟨w.heap.size, 0, none⟩ (.int .i64 n) := by
  have hmf : ∀ (fn : Fn) (first cap : Array Value) (w : World), (Instr.makeFunc fn first cap).run Tryz.prog w = .ok (.func fn first cap) w := fun _ _ _ _ => rfl
  by_cases h0 : n = 0
  · subst h0
    have hc' := hc.mono (fun e w' h => And.intro (h.1.elim (fun k => k.2) (fun k => absurd rfl k.1)) h.2 : ∀ e w', _ → (e = .returned (.tuple #[]) ∧ _))
    clear hc
    go_enter_defers Tryz.func60, Tryz.ntmps60
    go_wp2_with (first
      | (go_at_fn k; refine hc'.mono ?_; rintro e w1 ⟨rfl, hP, hB⟩; have hcl := cell_one hB; have hfz := thaw_one hB))
    refine leaves_cons (f := 97) (args := #[.pointer (some ⟨w.heap.size, 0, none⟩)]) (by simp) (by simp [go_sem]) ?_
    refine (catchS_idle ⟨w.heap.size, 0, none⟩ _).mono ?_
    rintro e u' w2 ⟨rfl, rfl, rfl⟩
    simp [Leaves, settle, results, Tryz.results60, go_sem, hcl]
    exact ⟨w1, hP, rfl⟩
  · have hc' := hc.mono (fun e w' h => And.intro (h.1.elim (fun k => absurd k.1 h0) (fun k => k.2)) h.2 : ∀ e w', _ → (e = .panicked (gaveS n) ∧ _))
    clear hc
    go_enter_defers Tryz.func60, Tryz.ntmps60
    go_wp2_with (first
      | (go_at_fn k; refine hc'.mono ?_; rintro e w1 ⟨rfl, hP, hB⟩; have hcl := cell_one hB; have hfz := thaw_one hB))
    refine leaves_cons (f := 97) (args := #[.pointer (some ⟨w.heap.size, 0, none⟩)]) (by simp) (by simp [go_sem]) ?_
    refine (catchS_panicking ⟨w.heap.size, 0, none⟩ 0 n _ hcl hfz).mono ?_
    rintro e u' w2 ⟨rfl, rfl, rfl⟩
    simp [Leaves, settle, results, Tryz.results60, go_sem, hcl]
    exact ⟨w1, hP, rfl⟩
/-- attempt: what is done goes through, or gives up. -/
theorem attemptM (k : Nat) (x : Value) (n : Nat) (Post : World → Prop) (w : World) (hent : ∀ args w, (callFunc k args).run Tryz.prog w = .ok (.enter k args) w)
    (hc : Calls Tryz.prog k #[x] (w.alloc (.cells #[.int .i64 0] 37)) fun e w' => Gs n e ∧ Post w' ∧ w'.heap[w.heap.size]? = some (.cells #[.int .i64 0] 37 (0, 0))) :
    Calls Tryz.prog 60 #[.func (.func k) #[x] #[]] w fun e w' => e = .returned (.int .i64 n) ∧ ∃ w1, Post w1 ∧ w' = w1.setCell ⟨w.heap.size, 0, none⟩ (.int .i64 n) := by
  have hmf : ∀ (fn : Fn) (first cap : Array Value) (w : World), (Instr.makeFunc fn first cap).run Tryz.prog w = .ok (.func fn first cap) w := fun _ _ _ _ => rfl
  by_cases h0 : n = 0
  · subst h0
    have hc' := hc.mono (fun e w' h => And.intro (h.1.elim (fun k => k.2) (fun k => absurd rfl k.1)) h.2 : ∀ e w', _ → (e = .returned (.tuple #[]) ∧ _))
    clear hc
    go_enter_defers Tryz.func60, Tryz.ntmps60
    go_wp2_with (first
      | (go_at_fn k; refine hc'.mono ?_; rintro e w1 ⟨rfl, hP, hB⟩; have hcl := cell_one hB; have hfz := thaw_one hB))
    refine leaves_cons (f := 97) (args := #[.pointer (some ⟨w.heap.size, 0, none⟩)]) (by simp) (by simp [go_sem]) ?_
    refine (catchS_idle ⟨w.heap.size, 0, none⟩ _).mono ?_
    rintro e u' w2 ⟨rfl, rfl, rfl⟩
    simp [Leaves, settle, results, Tryz.results60, go_sem, hcl]
    exact ⟨w1, hP, rfl⟩
  · have hc' := hc.mono (fun e w' h => And.intro (h.1.elim (fun k => absurd k.1 h0) (fun k => k.2)) h.2 : ∀ e w', _ → (e = .panicked (gaveS n) ∧ _))
    clear hc
    go_enter_defers Tryz.func60, Tryz.ntmps60
    go_wp2_with (first
      | (go_at_fn k; refine hc'.mono ?_; rintro e w1 ⟨rfl, hP, hB⟩; have hcl := cell_one hB; have hfz := thaw_one hB))
    refine leaves_cons (f := 97) (args := #[.pointer (some ⟨w.heap.size, 0, none⟩)]) (by simp) (by simp [go_sem]) ?_
    refine (catchS_panicking ⟨w.heap.size, 0, none⟩ 0 n _ hcl hfz).mono ?_
    rintro e u' w2 ⟨rfl, rfl, rfl⟩
    simp [Leaves, settle, results, Tryz.results60, go_sem, hcl]
    exact ⟨w1, hP, rfl⟩

/-- The cells of a log. -/
structure Ch where
  g : Nat
  cnt : Nat
  size : Nat
  loose : Bool
def lcs (d most : Nat) (v : Value) (c : Ch) (dn : Bool) : Array Value := #[.pointer (some ⟨d, 0, none⟩), .int .i64 (most : Int), v, .int .u64 (c.g : Int), .int .i64 (c.cnt : Int), .int .i64 (c.size : Int), .bool c.loose, .bool dn]
/-- A log at block lb, on the disk d; its records lie elsewhere. -/
structure LD (w : World) (F : Nat → Prop) (lb d most : Nat) (v : Value) (c : Ch) (dn : Bool) (k : Dk) : Prop where
  blk : w.heap[lb]? = some (.cells (lcs d most v c dn) 119 (0, 0))
  D : DiskAt w F d k
  nf : ¬ F lb
section
variable {w w' : World} {F : Nat → Prop} {lb d most : Nat} {v : Value} {c : Ch} {dn : Bool} {k : Dk}
theorem LD.lt (h : LD w F lb d most v c dn k) : lb < w.heap.size := (Array.getElem?_eq_some_iff.1 h.blk).1
theorem LD.keep {S : Nat → Prop} (h : LD w F lb d most v c dn k) (hk : Keep S w w') (hF : ∀ i, F i → ¬ S i) (hl : ¬ S lb) : LD w' F lb d most v c dn k := ⟨box_keep h.blk hk hl, h.D.keep hk hF, h.nf⟩
theorem LD.below (h : LD w F lb d most v c dn k) (hb : Below w.heap.size w w') : LD w' F lb d most v c dn k := ⟨box_below h.blk hb, h.D.below hb, h.nf⟩
theorem LD.c0 (h : LD w F lb d most v c dn k) : w.cell? ⟨lb, 0, none⟩ = some (.pointer (some ⟨d, 0, none⟩)) := by rw [cell_of_block h.blk]; rfl
theorem LD.c1 (h : LD w F lb d most v c dn k) : w.cell? ⟨lb, 1, none⟩ = some (.int .i64 (most : Int)) := by rw [cell_of_block h.blk]; rfl
theorem LD.c2 (h : LD w F lb d most v c dn k) : w.cell? ⟨lb, 2, none⟩ = some v := by rw [cell_of_block h.blk]; rfl
theorem LD.c3 (h : LD w F lb d most v c dn k) : w.cell? ⟨lb, 3, none⟩ = some (.int .u64 (c.g : Int)) := by rw [cell_of_block h.blk]; rfl
theorem LD.c4 (h : LD w F lb d most v c dn k) : w.cell? ⟨lb, 4, none⟩ = some (.int .i64 (c.cnt : Int)) := by rw [cell_of_block h.blk]; rfl
theorem LD.c5 (h : LD w F lb d most v c dn k) : w.cell? ⟨lb, 5, none⟩ = some (.int .i64 (c.size : Int)) := by rw [cell_of_block h.blk]; rfl
theorem LD.c6 (h : LD w F lb d most v c dn k) : w.cell? ⟨lb, 6, none⟩ = some (.bool c.loose) := by rw [cell_of_block h.blk]; rfl
theorem LD.c7 (h : LD w F lb d most v c dn k) : w.cell? ⟨lb, 7, none⟩ = some (.bool dn) := by rw [cell_of_block h.blk]; rfl
theorem LD.fz (h : LD w F lb d most v c dn k) (i : Nat) : w.frozen? ⟨lb, i, none⟩ = false := unfrozen_of_block h.blk i
/-- A cell of the log is written. -/
theorem LD.set (h : LD w F lb d most v c dn k) (i : Nat) (u : Value) {most' : Nat} {v' : Value} {c' : Ch} {dn' : Bool} (e : (lcs d most v c dn).setIfInBounds i u = lcs d most' v' c' dn') : LD (w.setCell ⟨lb, i, none⟩ u) F lb d most' v' c' dn' k :=
  ⟨by rw [← e]; exact block_setCell h.blk u, h.D.keep ((Keep.refl (fun i => i = lb) w).setCell (p := ⟨lb, i, none⟩) rfl u) (fun j hj e => h.nf (by rw [← e]; exact hj)), h.nf⟩
theorem LD.setK (_ : LD w F lb d most v c dn k) (i : Nat) (u : Value) : Keep (fun i => F i ∨ i = lb) w (w.setCell ⟨lb, i, none⟩ u) := (Keep.refl _ w).setCell (p := ⟨lb, i, none⟩) (Or.inr rfl) u
end
/-- What a call leaves: the log and its disk as they are to be; nothing else is turned. -/
def Lp (w : World) (F : Nat → Prop) (lb d most : Nat) (v : Value) (c : Ch) (dn : Bool) (k : Dk) (w' : World) : Prop := ∃ F', LD w' F' lb d most v c dn k ∧ Keep (fun i => F i ∨ i = lb) w w' ∧ (∀ i, F' i → F i ∨ w.heap.size ≤ i)
theorem Lp.refl {w : World} {F : Nat → Prop} {lb d most : Nat} {v : Value} {c : Ch} {dn : Bool} {k : Dk} (h : LD w F lb d most v c dn k) : Lp w F lb d most v c dn k w := ⟨F, h, Keep.refl _ _, fun _ h => Or.inl h⟩
theorem Lp.ofBelow {w w' : World} {F : Nat → Prop} {lb d most : Nat} {v : Value} {c : Ch} {dn : Bool} {k : Dk} (h : LD w F lb d most v c dn k) (hb : Below w.heap.size w w') : Lp w F lb d most v c dn k w' := ⟨F, h.below hb, Keep.ofBelow hb, fun _ h => Or.inl h⟩
theorem Lp.from {w0 w w' : World} {F : Nat → Prop} {lb d most : Nat} {v : Value} {c : Ch} {dn : Bool} {k : Dk} (hb : Below w0.heap.size w0 w) (h : Lp w F lb d most v c dn k w') : Lp w0 F lb d most v c dn k w' := by
  obtain ⟨F', h1, h2, h3⟩ := h
  exact ⟨F', h1, (Keep.ofBelow hb).trans h2, fun i hi => (h3 i hi).imp id (fun h => Nat.le_trans hb.size h)⟩
/-- One behind the other. -/
theorem Lp.next {w w1 w2 : World} {F F1 : Nat → Prop} {lb d most : Nat} {v : Value} {c : Ch} {dn : Bool} {k : Dk} (kp : Keep (fun i => F i ∨ i = lb) w w1) (e1 : ∀ i, F1 i → F i ∨ w.heap.size ≤ i) (h : Lp w1 F1 lb d most v c dn k w2) : Lp w F lb d most v c dn k w2 := by
  obtain ⟨F', h1, h2, h3⟩ := h
  refine ⟨F', h1, kp.andThen h2 (fun i hi hs => ?_), fun i hi => ?_⟩
  · rcases hs with hs | hs
    · rcases e1 i hs with h | h
      · exact Or.inl h
      · omega
    · exact Or.inr hs
  · rcases h3 i hi with h | h
    · exact e1 i h
    · exact Or.inr (Nat.le_trans kp.size h)

/-- A step of the disk, as the log takes it. -/
def stp (dn : Bool) (k : Dk) (r : Nat × Dk) : Nat × Bool × Dk := if dn then (13, true, k) else (r.1, decide (r.1 = 13), r.2)

set_option maxHeartbeats 1000000 in
theorem step_any (f : Nat) (caps : Array Value) (r : Nat × Dk) (w : World) (F : Nat → Prop) (lb d most : Nat) (v : Value) (c : Ch) (dn : Bool) (k : Dk) (h : LD w F lb d most v c dn k)
    (hent : ∀ args w, (callFunc f args).run Tryz.prog w = .ok (.enter f args) w)
    (hc : Calls Tryz.prog f caps w fun e w' => e = .returned (.int .i64 (r.1 : Nat)) ∧ Dp w F d r.2 w') :
    Calls Tryz.prog 117 #[.pointer (some ⟨lb, 0, none⟩), .func (.func f) #[] caps] w fun e w' => Gs (stp dn k r).1 e ∧ Lp w F lb d most v c (stp dn k r).2.1 (stp dn k r).2.2 w' := by
  have q7 := h.c7
  cases dn with
  | true =>
    show Calls _ _ _ _ fun e w' => Gs 13 e ∧ Lp w F lb d most v c true k w'
    go_enter Tryz.func117, Tryz.ntmps117
    go_wp2_with (first
      | (go_at_call 129; refine (sask_no 13 _).mono ?_; rintro e w1 ⟨rfl, rfl⟩))
    exact ⟨rfl, gs_no (by decide) rfl, Lp.refl h⟩
  | false =>
    obtain ⟨en, k2⟩ := r
    show Calls _ _ _ _ fun e w' => Gs en e ∧ Lp w F lb d most v c (decide (en = 13)) k2 w'
    have hfin : ∀ w1 F1, DiskAt w1 F1 d k2 → Keep F w w1 → (∀ i, F1 i → F i ∨ w.heap.size ≤ i) → LD w1 F1 lb d most v c false k2 := fun w1 F1 h1 h2 h3 =>
      ⟨box_keep h.blk h2 h.nf, h1, fun hf => (h3 _ hf).elim h.nf (fun h9 => by have := h.lt; omega)⟩
    have hend : ∀ w1 F1 b, DiskAt w1 F1 d k2 → Keep F w w1 → (∀ i, F1 i → F i ∨ w.heap.size ≤ i) → Lp w F lb d most v c b k2 (w1.setCell ⟨lb, 7, none⟩ (.bool b)) := fun w1 F1 b h1 h2 h3 =>
      ⟨F1, (hfin w1 F1 h1 h2 h3).set 7 _ rfl, (h2.mono (fun _ h => Or.inl h)).trans ((Keep.refl _ w1).setCell (p := ⟨lb, 7, none⟩) (Or.inr rfl) _), h3⟩
    dsimp only at hc
    by_cases h0 : en = 0
    · subst h0
      have hne : (decide ((0 : Nat) = 13)) = false := rfl
      rw [hne]
      have hc' := hc
      go_enter Tryz.func117, Tryz.ntmps117
      go_wp2_with (first
        | (go_at_call 129; clear q7; refine (sask_ok 13 _).mono ?_; rintro e w1 ⟨rfl, rfl⟩)
        | (go_at_fn f; refine hc'.mono ?_; rintro e w1 ⟨rfl, F1, hD1, hk1, hF1⟩; have p7 := (hfin w1 F1 hD1 hk1 hF1).c7; have z7 := (hfin w1 F1 hD1 hk1 hF1).fz 7)
        | (go_at_call 129; refine (sask_ok 0 _).mono ?_; rintro e w2 ⟨rfl, rfl⟩))
      go_end0
      exact ⟨Or.inl ⟨rfl, rfl⟩, hend w1 F1 false hD1 hk1 hF1⟩
    · have he0 : ((en : Int) == 0) = false := by rw [beq_eq_false_iff_ne]; omega
      obtain ⟨b, Hb⟩ : ∃ b, Hid (decide (en = 13) = b) := ⟨_, rfl⟩
      have heb : ((en : Int) == 13) = b := by
        rw [← Hb.out]
        by_cases e : en = 13
        · subst e; rfl
        · rw [decide_eq_false e, beq_eq_false_iff_ne]; omega
      rw [Hb.out]
      have hc' := hc
      go_enter Tryz.func117, Tryz.ntmps117
      go_wp2_with (first
        | (go_at_call 129; clear q7; refine (sask_ok 13 _).mono ?_; rintro e w1 ⟨rfl, rfl⟩)
        | (go_at_fn f; refine hc'.mono ?_; rintro e w1 ⟨rfl, F1, hD1, hk1, hF1⟩; have p7 := (hfin w1 F1 hD1 hk1 hF1).c7; have z7 := (hfin w1 F1 hD1 hk1 hF1).fz 7)
        | (go_at_call 129; refine (sask_no en _).mono ?_; rintro e w2 ⟨rfl, rfl⟩))
      exact ⟨rfl, gs_no h0 rfl, hend w1 F1 b hD1 hk1 hF1⟩

end Go.Proofs.YtikkieaokfailaaGreatDoor
