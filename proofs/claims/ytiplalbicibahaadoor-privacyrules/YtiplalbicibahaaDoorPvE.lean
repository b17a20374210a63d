/- privacy: begun, Parse. -/
import Derived.Test.YtiplalbicibahaaDoorPvD
set_option maxRecDepth 100000
namespace Go.Proofs.YtiplalbicibahaaDoor
open Go.RowKit Go.Joins Go.Shelf

theorem parseR_no (l : By) (h : (parseR l).2 ≠ 0) : (parseR l).1 = r0 := by
  unfold parseR at h ⊢
  by_cases h1 : (verdictR l).2.2 = 0
  · rw [if_pos h1] at h ⊢
    by_cases h2 : (waysR (verdictR l).2.1).2.2.2 = 0
    · rw [if_pos h2] at h ⊢
      by_cases h3 : (whomR (waysR (verdictR l).2.1).2.2.1).2.2 = 0
      · rw [if_pos h3] at h; exact absurd rfl h
      · rw [if_neg h3]
    · rw [if_neg h2]
  · rw [if_neg h1]

theorem res_ru2 {fn : Func} {p t : Tmp} (h : fn.results = #[.cell p 23, .cell t 25]) (tmps : Array Value) (w : World) (g g2 : Nat) (r : Rul) (n : Int) (hp : tmps.getD p undef = .pointer (some ⟨g, 0, none⟩)) (ht : tmps.getD t undef = .pointer (some ⟨g2, 0, none⟩))
    (hg : RuAt w g r) (h2 : w.cell? ⟨g2, 0, none⟩ = some (.int .i64 n)) : (results fn tmps).run Tryd.prog w = .ok (.tuple #[rv r, .int .i64 n]) w := by
  have hr := hg.load
  have hr2 : (loadVar 25 ⟨g2, 0, none⟩).run Tryd.prog w = .ok (.int .i64 n) w := by simp [go_sem, h2]
  have hp' : tmps[p]?.getD undef = .pointer (some ⟨g, 0, none⟩) := by simpa using hp
  have ht' : tmps[t]?.getD undef = .pointer (some ⟨g2, 0, none⟩) := by simpa using ht
  simp [results, h, hp', ht', asAddr, hr, hr2]
theorem res_ru1 {fn : Func} {p t : Tmp} (h : fn.results = #[.cell p 23, .tmp t]) (tmps : Array Value) (w : World) (g : Nat) (r : Rul) (v : Value) (hp : tmps.getD p undef = .pointer (some ⟨g, 0, none⟩)) (ht : tmps.getD t undef = v)
    (hg : RuAt w g r) : (results fn tmps).run Tryd.prog w = .ok (.tuple #[rv r, v]) w := by
  have hr := hg.load
  have hp' : tmps[p]?.getD undef = .pointer (some ⟨g, 0, none⟩) := by simpa using hp
  have ht' : tmps[t]?.getD undef = v := by simpa using ht
  simp [results, h, hp', ht', asAddr, hr]

theorem catchP_panicking (p : Addr) (x : Int) (n : Nat) (w : World) (hc : w.cell? p = some (.int .i64 x)) (hz : w.frozen? p = false) :
    CallsD Tryd.prog 34 #[.pointer (some p)] (.panicking (gaveP n)) w fun e u' w' =>
      e = .returned (.tuple #[]) ∧ u' = .panicking [{ v := .iface 75 (.agg #[.int .i64 n]), recovered := true }] ∧ w' = w.setCell p (.int .i64 n) := by
  unfold gaveP
  refine callsD_of_wpS Tryd.func34 rfl fun c₀ cs hu => ?_
  apply wpS_seq
  apply wpS_region
  simp [wpOpsS, go_sem, recoverD, hu, Tryd.ntmps34, Exit.thenS]
  refine wpS_of_wp ?_
  rw [show #[Value.pointer (some p)] ++ ((Array.replicate 7 undef).setIfInBounds 1 (Value.iface 75 (Value.agg #[Value.int IntKind.i64 n]))).setIfInBounds 0 (Value.iface 75 (Value.agg #[Value.int IntKind.i64 n])) = #[Value.pointer (some p), Value.iface 75 (Value.agg #[Value.int IntKind.i64 n]), Value.iface 75 (Value.agg #[Value.int IntKind.i64 n]), undef, undef, undef, undef, undef] from rfl]
  have hta : (Instr.typeAssert (Value.iface 75 (Value.agg #[Value.int IntKind.i64 n])) 20 75 false).run Tryd.prog w = .ok (Value.agg #[Value.int IntKind.i64 n]) w := by
    simp [Instr.typeAssert, go_sem]
  have hfd : (Instr.field 75 (Value.agg #[Value.int IntKind.i64 n]) 0).run Tryd.prog w = .ok (Value.int IntKind.i64 n) w := by
    simp [Instr.field, go_sem, asAgg]
  go_wp2
  simp [bodyPostS, results, Tryd.results34]
theorem catchP_idle (p : Addr) (w : World) :
    CallsD Tryd.prog 34 #[.pointer (some p)] .returning w fun e u' w' => e = .returned (.tuple #[]) ∧ u' = .returning ∧ w' = w := by
  refine callsD_of_wpS Tryd.func34 rfl fun c₀ cs hu => ?_
  apply wpS_seq
  apply wpS_region
  simp [wpOpsS, go_sem, recoverD, hu, Tryd.ntmps34, Exit.thenS]
  refine wpS_of_wp ?_
  rw [show #[Value.pointer (some p)] ++ ((Array.replicate 7 undef).setIfInBounds 1 Value.nilIface).setIfInBounds 0 Value.nilIface = #[Value.pointer (some p), Value.nilIface, Value.nilIface, undef, undef, undef, undef, undef] from rfl]
  go_wp2
  cases c₀
  simp_all [bodyPostS, results, Tryd.results34]

abbrev oRul : Obj := .cells #[.bool false, .bool false, .bool false, .string ⟨#[]⟩, .string ⟨#[]⟩] 23
abbrev oErr : Obj := .cells #[.int .i64 0] 25
set_option maxHeartbeats 1600000 in
theorem begun_any (k : Nat) (x : Value) (n : Nat) (r : Rul) (hr : n ≠ 0 → r = r0) (S : Nat → Prop) (w : World) (hent : ∀ args w, (callFunc k args).run Tryd.prog w = .ok (.enter k args) w) (hS : ∀ i, w.heap.size ≤ i → ¬ S i)
    (hc : Calls Tryd.prog k #[x] ((w.alloc oRul).alloc oErr) fun e w' => Gv n (rv r) e ∧ Keep S ((w.alloc oRul).alloc oErr) w') :
    Calls Tryd.prog 17 #[.func (.func k) #[x] #[]] w fun e w' => e = .returned (.tuple #[rv r, .int .i64 n]) ∧ Keep S w w' := by
  have hmf : ∀ (fn : Fn) (first cap : Array Value) (w : World), (Instr.makeFunc fn first cap).run Tryd.prog w = .ok (.func fn first cap) w := fun _ _ _ _ => rfl
  have hz0 : RuAt ((w.alloc oRul).alloc oErr) w.heap.size r0 := push_old (push_at _ _ rfl)
  have hz1 : ((w.alloc oRul).alloc oErr).heap[w.heap.size + 1]? = some (.cells #[.int .i64 0] 25 (0, 0)) := push_at _ _ (by simp)
  have hbW : Below w.heap.size w ((w.alloc oRul).alloc oErr) := below2 _ _ _
  have hkS : ∀ w', Keep S ((w.alloc oRul).alloc oErr) w' → Keep S w w' := fun w' k => (Keep.ofBelow hbW).trans k
  have hk0 : ∀ w', Keep S ((w.alloc oRul).alloc oErr) w' → RuAt w' w.heap.size r0 := fun w' k => box_keep hz0 k (hS _ (Nat.le_refl _))
  have hk1 : ∀ w', Keep S ((w.alloc oRul).alloc oErr) w' → w'.heap[w.heap.size + 1]? = some (.cells #[.int .i64 0] 25 (0, 0)) := fun w' k => box_keep hz1 k (hS _ (by omega))
  clear hz0 hz1 hbW hS
  obtain ⟨V, HV⟩ : ∃ V, Hid (rv r = V) := ⟨_, rfl⟩
  by_cases h0 : n = 0
  · subst h0
    have hc' := hc.mono (fun e w' h => And.intro (h.1.elim (fun k => k.2) (fun k => absurd rfl k.1)) h.2 : ∀ e w', _ → (e = .returned (rv r) ∧ _))
    rw [HV.out] at hc'
    clear hc hr
    go_enter_defers Tryd.func17, Tryd.ntmps17
    go_wp2_with (first
      | (go_at_fn k; refine hc'.mono ?_; rintro e w1 ⟨rfl, hB⟩; have z0 := hk0 w1 hB; have z1 := hk1 w1 hB; have hKS := hkS w1 hB; have s1 := box_keep z1 (rowK w1 w.heap.size (rc r)) (by omega); have hcl := p_cell s1; have hfz := p_thaw s1)
      | (refine wp_store_ru rfl (.tmp 2) (.tmp 6) rfl w.heap.size rfl r HV.out.symm _ z0 ?_))
    refine leaves_cons (f := 34) (args := #[.pointer (some ⟨w.heap.size + 1, 0, none⟩)]) (by simp) (by simp [go_sem]) ?_
    refine (catchP_idle ⟨w.heap.size + 1, 0, none⟩ _).mono ?_
    rintro e u' w2 ⟨rfl, rfl, hw2⟩
    have y0 : RuAt w2 w.heap.size r := by rw [hw2]; exact box_keep (z0.set r) (setK _ (w.heap.size + 1) 0 _) (by omega)
    have y1 : w2.cell? ⟨w.heap.size + 1, 0, none⟩ = some (.int .i64 0) := by rw [hw2]; exact p_cell (block_setCell (i := 0) s1 (.int .i64 0))
    have hk2 : Keep S w w2 := by rw [hw2]; exact (hKS.andThen (rowK w1 w.heap.size (rc r)) (fun i hi e => by omega)).setNew (by show w.heap.size ≤ w.heap.size + 1; omega) _
    clear hw2 hcl hfz s1 z0 z1
    simp only [Leaves, settle]
    exact ⟨_, res_ru2 (by rfl) _ w2 _ _ _ _ (by rfl) (by rfl) y0 y1, rfl, hk2⟩
  · obtain rfl := hr h0
    have hc' := hc.mono (fun e w' h => And.intro (h.1.elim (fun k => absurd k.1 h0) (fun k => k.2)) h.2 : ∀ e w', _ → (e = .panicked (gaveP n) ∧ _))
    clear hc hr
    go_enter_defers Tryd.func17, Tryd.ntmps17
    go_wp2_with (first
      | (go_at_fn k; refine hc'.mono ?_; rintro e w1 ⟨rfl, hB⟩; have z0 := hk0 w1 hB; have z1 := hk1 w1 hB; have hKS := hkS w1 hB; have hcl := p_cell z1; have hfz := p_thaw z1))
    refine leaves_cons (f := 34) (args := #[.pointer (some ⟨w.heap.size + 1, 0, none⟩)]) (by simp) (by simp [go_sem]) ?_
    refine (catchP_panicking ⟨w.heap.size + 1, 0, none⟩ 0 n _ hcl hfz).mono ?_
    rintro e u' w2 ⟨rfl, rfl, hw2⟩
    have y0 : RuAt w2 w.heap.size r0 := by rw [hw2]; exact box_keep z0 (setK _ (w.heap.size + 1) 0 _) (by omega)
    have y1 : w2.cell? ⟨w.heap.size + 1, 0, none⟩ = some (.int .i64 n) := by rw [hw2]; exact p_cell (block_setCell (i := 0) z1 (.int .i64 n))
    have hk2 : Keep S w w2 := by rw [hw2]; exact hKS.setNew (by show w.heap.size ≤ w.heap.size + 1; omega) _
    clear hw2 hcl hfz z0 z1
    simp only [settle]
    exact ⟨_, res_ru2 (by rfl) _ w2 _ _ _ _ (by rfl) (by rfl) y0 y1, rfl, hk2⟩

theorem tab_lt {w : World} (hT : Lib.Utf8Tabs 0 1 w) : 0 < w.heap.size ∧ 1 < w.heap.size :=
  ⟨World.block_lt_of_cell? w _ (hT.1 0 (by omega)), World.block_lt_of_cell? w _ (hT.2 0 (by omega)).1⟩

/-- What Parse answers. -/
def prv (l : By) : Value := .tuple #[rv (parseR l).1, .int .i64 (parseR l).2]
set_option maxHeartbeats 1600000 in
theorem parse_any (l : By) (w : World) (hs : l.length ≤ 281474976710656) (hT : Lib.Utf8Tabs 0 1 w) :
    Calls Tryd.prog 7 #[.string (ba l)] w fun e w' => e = .returned (prv l) ∧ Below w.heap.size w w' := by
  obtain ⟨t1, t2⟩ := tab_lt hT
  have hmf : ∀ (fn : Fn) (first cap : Array Value) (w : World), (Instr.makeFunc fn first cap).run Tryd.prog w = .ok (.func fn first cap) w := fun _ _ _ _ => rfl
  have hbW := below2 w oRul (.cells #[.string (ba l)] 51)
  have hR : RdrAt ((w.alloc oRul).alloc (.cells #[.string (ba l)] 51)) (w.heap.size + 1) (ba l) := push_at _ _ (by simp)
  have hU : RuAt ((w.alloc oRul).alloc (.cells #[.string (ba l)] 51)) w.heap.size r0 := push_old (push_at _ _ rfl)
  have hT1 := tabs_bel hT hbW
  generalize hW : (w.alloc oRul).alloc (.cells #[.string (ba l)] 51) = W at hbW hR hU hT1
  have HW : Hid ((w.alloc oRul).alloc (.cells #[.string (ba l)] 51) = W) := hW
  have hlt := box_lt hR
  have cR := rule_any (w.heap.size + 1) l ((W.alloc oRul).alloc oErr) (push_old (push_old hR)) hs (tabs_bel hT1 (below2 _ _ _)) (by omega) (by omega)
  have cB := begun_any 18 (.pointer (some ⟨w.heap.size + 1, 0, none⟩)) (parseR l).2 (parseR l).1 (parseR_no l) (fun i => i = w.heap.size + 1) W (enters_of Tryd.func18 (by kernel_rfl) rfl) (fun i hi e => by omega) cR
  have HU : Hid (RuAt W w.heap.size r0 ∧ Below w.heap.size w W ∧ w.heap.size + 1 < W.heap.size) := ⟨hU, hbW, hlt⟩
  clear hW cR hR hU hT hT1 hbW hlt t1 t2
  unfold prv
  generalize parseR l = p at *
  obtain ⟨r, n⟩ := p
  dsimp only at cB ⊢
  obtain ⟨V, HV⟩ : ∃ V, Hid (rv r = V) := ⟨_, rfl⟩
  rw [HV.out] at cB ⊢
  generalize ba l = L at *
  go_enter Tryd.func7, Tryd.ntmps7
  go_upto_region 2 with fail
  rw [HW.out]
  go_wp2_with (first
    | (go_at_call 17; refine cB.mono ?_; clear cB; rintro e w1 ⟨rfl, hk⟩; have A1 := box_keep HU.out.1 hk (by omega))
    | (refine wp_store_ru rfl (.tmp 2) (.tmp 9) rfl w.heap.size rfl r HV.out.symm _ A1 ?_))
  refine bodyPost_ret (v := .tuple #[V, .int .i64 n]) ?_ rfl ⟨rfl, ?_⟩
  · rw [← HV.out]
    exact res_ru1 rfl _ _ w.heap.size _ _ rfl rfl (RuAt.set A1 r)
  · exact (HU.out.2.1.trans (hk.below HU.out.2.1.size (fun j e => by omega))).trans ((rowK w1 w.heap.size _).below (by have := hk.size; have := HU.out.2.1.size; omega) (fun j e => by omega))
end Go.Proofs.YtiplalbicibahaaDoor
