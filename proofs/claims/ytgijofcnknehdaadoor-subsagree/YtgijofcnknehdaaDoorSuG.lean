/- subs.Hear. -/
import Derived.Test.YtgijofcnknehdaaDoorSuF
namespace Go.Proofs.YtgijofcnknehdaaDoor
open Go.RowKit Go.Joins

/-- The five variables of Hear. -/
structure HB (w : World) (b : Nat) (h : Hf) (mail x : Int) (t : Hf) (tl : Int) : Prop where
  ah : HfAt w b h
  ak : w.heap[b + 1]? = some (.cells #[.int .i64 mail] 3 (0, 0))
  ax : w.heap[b + 2]? = some (.cells #[.int .u64 x] 22 (0, 0))
  at' : HfAt w (b + 3) t
  am : w.heap[b + 4]? = some (.cells #[.int .i64 tl] 3 (0, 0))
section
variable {w w' : World} {b : Nat} {h : Hf} {mail x : Int} {t : Hf} {tl : Int}
theorem HB.keep {S : Nat → Prop} (A : HB w b h mail x t tl) (hk : Keep S w w') (hs : ∀ i, b ≤ i → i ≤ b + 4 → ¬ S i) : HB w' b h mail x t tl :=
  ⟨box_keep A.ah hk (hs _ (by omega) (by omega)), box_keep A.ak hk (hs _ (by omega) (by omega)), box_keep A.ax hk (hs _ (by omega) (by omega)), box_keep A.at' hk (hs _ (by omega) (by omega)), box_keep A.am hk (hs _ (by omega) (by omega))⟩
theorem HB.below (A : HB w b h mail x t tl) (hb : Below w.heap.size w w') : HB w' b h mail x t tl :=
  ⟨box_below A.ah hb, box_below A.ak hb, box_below A.ax hb, box_below A.at' hb, box_below A.am hb⟩
theorem HB.lt (A : HB w b h mail x t tl) : b + 4 < w.heap.size := (Array.getElem?_eq_some_iff.1 A.am).1
theorem HB.put1 (A : HB w b h mail x t tl) (t' : Hf) : HB (w.setRow (b + 3) (hfc t')) b h mail x t' tl :=
  ⟨box_keep A.ah (A.at'.keepB t') (by omega), box_keep A.ak (A.at'.keepB t') (by omega), box_keep A.ax (A.at'.keepB t') (by omega), A.at'.set t', box_keep A.am (A.at'.keepB t') (by omega)⟩
theorem HB.put2 (A : HB w b h mail x t tl) (tl' : Int) : HB (w.setCell ⟨b + 4, 0, none⟩ (.int .i64 tl')) b h mail x t tl' :=
  ⟨box_keep A.ah (keepC _ _ _) (by omega), box_keep A.ak (keepC _ _ _) (by omega), box_keep A.ax (keepC _ _ _) (by omega), box_keep A.at' (keepC _ _ _) (by omega), heap_setCell_same _ (b + 4) 0 _ _ _ A.am⟩
theorem HB.keepP (A : HB w b h mail x t tl) (t' : Hf) (tl' : Int) : Keep (fun j => b + 3 ≤ j ∧ j ≤ b + 4) w ((w.setRow (b + 3) (hfc t')).setCell ⟨b + 4, 0, none⟩ (.int .i64 tl')) :=
  ((A.at'.keepB t').mono (fun i e => by omega)).trans ((keepC _ _ _).mono (fun i e => by omega))
end
/-- What Hear answers: the half, what is told, the error's number. -/
def hearA (h : Hf) (mail x : Int) : (Hf × Int) × Nat := if okH h = true then (if x = 0 then ((⟨0, 0, 0, 0⟩, 0), 1) else match hearH h mail x with
  | some r => (r, 0)
  | none => ((⟨0, 0, 0, 0⟩, 0), 1)) else ((⟨0, 0, 0, 0⟩, 0), 1)

set_option maxHeartbeats 1600000 in
theorem hearC_any (b : Nat) (h : Hf) (mail x : Int) (w : World) (A : HB w b h mail x ⟨0, 0, 0, 0⟩ 0) :
    Calls Tryd.prog 19 #[.pointer (some ⟨b, 0, none⟩), .pointer (some ⟨b + 2, 0, none⟩), .pointer (some ⟨b + 1, 0, none⟩), .pointer (some ⟨b + 3, 0, none⟩), .pointer (some ⟨b + 4, 0, none⟩)] w fun e w' =>
      Gs (hearA h mail x).2 e ∧ HB w' b h mail x (hearA h mail x).1.1 (hearA h mail x).1.2 ∧ Keep (fun j => b + 3 ≤ j ∧ j ≤ b + 4) w w' := by
  have c0 := A.ah.c0
  have c1 := A.ah.c1
  have c2 := A.ah.c2
  have c3 := A.ah.c3
  cases hk : okH h with
  | false =>
    have hw := fun w => checkH_no h w hk
    unfold hfv hfc at hw
    rw [show hearA h mail x = ((⟨0, 0, 0, 0⟩, 0), 1) from by unfold hearA; rw [if_neg (by rw [hk]; decide)]]
    go_enter Tryd.func19, Tryd.ntmps19
    go_wp2_with (first
      | (go_at_call 16; refine (hw _).mono ?_; rintro e w1 ⟨rfl, hb1⟩))
    exact ⟨rfl, gs_no (by decide) rfl, A.below hb1, Keep.ofBelow hb1⟩
  | true =>
    have hw := fun w => checkH_ok h w hk
    unfold hfv hfc at hw
    by_cases x0 : x = 0
    · rw [show hearA h mail x = ((⟨0, 0, 0, 0⟩, 0), 1) from by unfold hearA; rw [if_pos hk, if_pos x0]]
      subst x0
      go_enter Tryd.func19, Tryd.ntmps19
      go_wp2_with (first
        | (go_at_call 16; refine (hw _).mono ?_; rintro e w1 ⟨rfl, hb1⟩; have A1 := A.below hb1; have d5 := cell_one A1.ax)
        | (go_at_call 20; refine (demand_no _).mono ?_; rintro e w2 ⟨rfl, rfl⟩))
      exact ⟨rfl, gs_no (by decide) rfl, A.below hb1, Keep.ofBelow hb1⟩
    have hx0 : (x != 0) = true := by simp [x0]
    have hx := fun w => hear_any h mail x w
    cases ha : hearH h mail x with
    | none =>
      rw [ha] at hx
      unfold hfv hfc at hx
      rw [show hearA h mail x = ((⟨0, 0, 0, 0⟩, 0), 1) from by unfold hearA; rw [if_pos hk, if_neg x0, ha]]
      have hx' : ∀ w, Calls Tryd.prog 21 #[.agg #[.int .i64 h.o, .int .u64 h.n, .int .i64 h.i, .int .u64 h.m], .int .i64 mail, .int .u64 x] w fun e w' => e = .panicked (gaveS 1) ∧ Below w.heap.size w w' := hx
      clear hx ha hk
      go_enter Tryd.func19, Tryd.ntmps19
      go_wp2_with (first
        | (go_at_call 16; refine (hw _).mono ?_; rintro e w1 ⟨rfl, hb1⟩; have A1 := A.below hb1; have d0 := A1.ah.c0; have d1 := A1.ah.c1; have d2 := A1.ah.c2; have d3 := A1.ah.c3; have d4 := cell_one A1.ak; have d5 := cell_one A1.ax)
        | (go_at_call 20; refine (demand_ok _).mono ?_; rintro e w1x ⟨rfl, rfl⟩)
        | (go_at_call 21; refine (hx' _).mono ?_; rintro e w2 ⟨rfl, hb2⟩))
      exact ⟨rfl, gs_no (by decide) rfl, A1.below hb2, (Keep.ofBelow hb1).trans (Keep.ofBelow hb2)⟩
    | some r =>
      rw [ha] at hx
      unfold hfv hfc at hx
      rw [show hearA h mail x = (r, 0) from by unfold hearA; rw [if_pos hk, if_neg x0, ha]]
      have hx' : ∀ w, Calls Tryd.prog 21 #[.agg #[.int .i64 h.o, .int .u64 h.n, .int .i64 h.i, .int .u64 h.m], .int .i64 mail, .int .u64 x] w fun e w' => e = .returned (.tuple #[.agg #[.int .i64 r.1.o, .int .u64 r.1.n, .int .i64 r.1.i, .int .u64 r.1.m], .int .i64 r.2]) ∧ Below w.heap.size w w' := hx
      clear hx ha hk
      go_enter Tryd.func19, Tryd.ntmps19
      go_wp2_with (first
        | (go_at_call 16; refine (hw _).mono ?_; rintro e w1 ⟨rfl, hb1⟩; have A1 := A.below hb1; have d0 := A1.ah.c0; have d1 := A1.ah.c1; have d2 := A1.ah.c2; have d3 := A1.ah.c3; have d4 := cell_one A1.ak; have d5 := cell_one A1.ax)
        | (go_at_call 20; refine (demand_ok _).mono ?_; rintro e w1x ⟨rfl, rfl⟩)
        | (go_at_call 21; refine (hx' _).mono ?_; rintro e w2 ⟨rfl, hb2⟩; have A2 := A1.below hb2; have A3 := A2.put1 r.1; have P2 := A3.put2 r.2; have k2 := A2.keepP r.1 r.2; have z4 := thaw_one A3.am; have y4 := cell_one A3.am)
        | (refine wp_store_half rfl (.tmp 3) (.tmp 15) rfl (b + 3) rfl r.1 rfl _ A2.at' ?_))
      go_end0
      exact ⟨Or.inl ⟨rfl, rfl⟩, P2, ((Keep.ofBelow hb1).trans (Keep.ofBelow hb2)).trans k2⟩

theorem attempt_hear (b : Nat) (h : Hf) (mail x : Int) (w : World) (A : HB w b h mail x ⟨0, 0, 0, 0⟩ 0) :
    Calls Tryd.prog 14 #[.func (.func 19) #[] #[.pointer (some ⟨b, 0, none⟩), .pointer (some ⟨b + 2, 0, none⟩), .pointer (some ⟨b + 1, 0, none⟩), .pointer (some ⟨b + 3, 0, none⟩), .pointer (some ⟨b + 4, 0, none⟩)]] w fun e w' =>
      e = .returned (.int .i64 (hearA h mail x).2) ∧ HB w' b h mail x (hearA h mail x).1.1 (hearA h mail x).1.2 ∧ Keep (fun j => b + 3 ≤ j ∧ j ≤ b + 4) w w' := by
  have hl := A.lt
  have A1 := A.below (below1 w (.cells #[.int .i64 0] 30))
  refine (attemptS 19 _ (hearA h mail x).2 (fun w' => HB w' b h mail x (hearA h mail x).1.1 (hearA h mail x).1.2 ∧ Keep (fun j => b + 3 ≤ j ∧ j ≤ b + 4) (w.alloc (.cells #[.int .i64 0] 30)) w') w (fun args w => by kernel_rfl) ((hearC_any b h mail x _ A1).mono ?_)).mono ?_
  · rintro e w' ⟨hg, B, hk⟩
    exact ⟨hg, ⟨B, hk⟩, box_keep (alloc_at w _) hk (by omega)⟩
  · rintro e w' ⟨rfl, w1, ⟨B, hk⟩, rfl⟩
    refine ⟨rfl, B.keep (keepC w1 w.heap.size _) (fun i _ _ => by omega), ?_⟩
    exact (((Keep.refl _ w).alloc _).trans hk).setNew (p := ⟨w.heap.size, 0, none⟩) (Nat.le_refl _) _

def hw5 (w : World) (h : Hf) (mail x : Int) : World := ((((w.alloc (.cells (hfc h) 24)).alloc (.cells #[.int .i64 mail] 3)).alloc (.cells #[.int .u64 x] 22)).alloc (.cells (hfc ⟨0, 0, 0, 0⟩) 24)).alloc (.cells #[.int .i64 0] 3)
theorem hw5_ab (w : World) (h : Hf) (mail x : Int) : HB (hw5 w h mail x) w.heap.size h mail x ⟨0, 0, 0, 0⟩ 0 ∧ Below w.heap.size w (hw5 w h mail x) := by
  unfold hw5
  refine ⟨⟨?_, ?_, ?_, ?_, ?_⟩, ?_⟩
  · exact push_old (push_old (push_old (push_old (push_at _ _ (by simp)))))
  · exact push_old (push_old (push_old (push_at _ _ (by simp))))
  · exact push_old (push_old (push_at _ _ (by simp)))
  · exact push_old (push_at _ _ (by simp))
  · exact push_at _ _ (by simp)
  · exact (((((Below.refl _ _).alloc (Nat.le_refl _) _).alloc (by simp) _).alloc (by simp; omega) _).alloc (by simp; omega) _).alloc (by simp; omega) _

def hearV (r : (Hf × Int) × Nat) : Value := .tuple #[hfv r.1.1, .int .i64 r.1.2, .int .i64 r.2]
set_option maxHeartbeats 1600000 in
theorem Hear_any (h : Hf) (mail x : Int) (w : World) : Calls Tryd.prog 11 #[hfv h, .int .i64 mail, .int .u64 x] w fun e w' => e = .returned (hearV (hearA h mail x)) ∧ Below w.heap.size w w' := by
  obtain ⟨A, hb⟩ := hw5_ab w h mail x
  have hc := attempt_hear w.heap.size h mail x _ A
  generalize hearA h mail x = r at hc ⊢
  obtain ⟨⟨t, tl⟩, en⟩ := r
  have hc' : Calls Tryd.prog 14 _ _ fun e w' => e = .returned (.int .i64 en) ∧ HB w' w.heap.size h mail x t tl ∧ Keep (fun j => w.heap.size + 3 ≤ j ∧ j ≤ w.heap.size + 4) _ w' := hc
  clear hc A
  unfold hearV hfv hfc
  unfold hw5 hfc at hc' hb
  go_enter Tryd.func11, Tryd.ntmps11
  go_upto_region 2 with (first
    | (go_at_call 14; refine hc'.mono ?_; rintro e w7 ⟨rfl, A7, k7⟩; have b7 : Below w.heap.size w w7 := hb.trans (k7.below hb.size (fun q hq => by omega)))
    | fail)
  refine wp_region_lx (fun w' => HB w' w.heap.size h mail x t tl) [] 6 (by kernel_rfl) (by kernel_rfl) ?_
  have HS : HB w7.drew w.heap.size h mail x t tl := A7.below ((Below.refl _ _).drew)
  have b8 := b7.drew
  clear A7 b7 k7 hc' hb
  generalize w7.drew = W at HS b8 ⊢
  refine lx_rd 0 (.agg #[.int .i64 t.o, .int .u64 t.n, .int .i64 t.i, .int .u64 t.m]) (by kernel_rfl) (fun _ _ d _ _ h => by cases d <;> exact h) (by kernel_rfl) HS rfl rfl rfl (fun w' hS => ?hR0) ?_
  case hR0 => have z0 := hS.at'.c0; have z1 := hS.at'.c1; have z2 := hS.at'.c2; have z3 := hS.at'.c3; first | (go_simp; rfl) | go_simp
  simp only [List.setIfInBounds_toArray, List.set_cons_zero, List.set_cons_succ]
  refine lx_rd 1 (.int .i64 tl) (by kernel_rfl) (fun _ _ d _ _ h => by cases d <;> exact h) (by kernel_rfl) HS rfl rfl rfl (fun w' hS => ?hR1) ?_
  case hR1 => have z0 := cell_one hS.am; first | (go_simp; rfl) | go_simp
  simp only [List.setIfInBounds_toArray, List.set_cons_zero, List.set_cons_succ]
  refine lx_rd 2 ?vR2 (by kernel_rfl) (fun _ _ d _ _ h => by cases d <;> exact h) (by kernel_rfl) HS rfl rfl rfl (fun w' hS => ?hR2) ?_
  case hR2 => first | (go_simp; rfl) | go_simp
  simp only [List.setIfInBounds_toArray, List.set_cons_zero, List.set_cons_succ]
  refine lx_one 3 (by kernel_rfl) (stepT_store (w' := W.setRow (w.heap.size + 3) (hfc t)) rfl rfl rfl ?d4 (fun _ => HS.put1 t) ?_)
  case d4 => exact exec_store_half (.tmp 6) (.tmp 11) rfl (w.heap.size + 3) rfl t rfl _ HS.at'
  have A1 := HS.put1 t
  have b9 := HS.at'.setB b8 (by omega) t
  clear HS b8
  generalize W.setRow (w.heap.size + 3) (hfc t) = W1 at A1 b9 ⊢
  refine lx_one 4 (by kernel_rfl) (stepT_store (w' := W1.setCell ⟨w.heap.size + 4, 0, none⟩ (.int .i64 tl)) rfl rfl rfl ?d5 (fun _ => A1.put2 tl) ?_)
  case d5 => (have z0 := cell_one A1.am; have z1 := thaw_one A1.am; go_simp)
  have A3 := A1.put2 tl
  have b11 : Below w.heap.size w (W1.setCell ⟨w.heap.size + 4, 0, none⟩ (.int .i64 tl)) := b9.trans ((keepC _ _ _).below b9.size (fun q hq => by omega))
  clear A1 b9
  generalize W1.setCell ⟨w.heap.size + 4, 0, none⟩ (.int .i64 tl) = W3 at A3 b11 ⊢
  refine lx_one 5 (by kernel_rfl) (stepT_val (w' := W3) (.int .i64 en) rfl rfl rfl ?d7 (fun _ => A3) ?_)
  case d7 => first | (go_simp; done) | (go_simp; rfl)
  simp only [List.setIfInBounds_toArray, List.set_cons_zero, List.set_cons_succ]
  refine lx_nil (by kernel_rfl) ?_
  go_wp2
  simp [bodyPost, results, Tryd.results11, go_sem, A3.at'.c0, A3.at'.c1, A3.at'.c2, A3.at'.c3, cell_one A3.am]
  exact b11
end Go.Proofs.YtgijofcnknehdaaDoor
