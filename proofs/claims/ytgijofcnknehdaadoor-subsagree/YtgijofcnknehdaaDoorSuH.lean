/- subs.State, subs.Sub. -/
import Derived.Test.YtgijofcnknehdaaDoorSuG
namespace Go.Proofs.YtgijofcnknehdaaDoor
open Go.RowKit Go.Joins

/-- The names of the nine states, by Out and by In. -/
def stT : List ByteArray := [⟨#[78, 111, 110, 101]⟩, ⟨#[78, 111, 110, 101, 32, 43, 32, 80, 101, 110, 100, 105, 110, 103, 32, 73, 110]⟩, ⟨#[70, 114, 111, 109]⟩, ⟨#[78, 111, 110, 101, 32, 43, 32, 80, 101, 110, 100, 105, 110, 103, 32, 79, 117, 116]⟩, ⟨#[78, 111, 110, 101, 32, 43, 32, 80, 101, 110, 100, 105, 110, 103, 32, 79, 117, 116, 43, 73, 110]⟩, ⟨#[70, 114, 111, 109, 32, 43, 32, 80, 101, 110, 100, 105, 110, 103, 32, 79, 117, 116]⟩, ⟨#[84, 111]⟩, ⟨#[84, 111, 32, 43, 32, 80, 101, 110, 100, 105, 110, 103, 32, 73, 110]⟩, ⟨#[66, 111, 116, 104]⟩]
/-- What a roster says of them. -/
def sbT : List ByteArray := [⟨#[110, 111, 110, 101]⟩, ⟨#[110, 111, 110, 101]⟩, ⟨#[102, 114, 111, 109]⟩, ⟨#[110, 111, 110, 101, 44, 97, 115, 107]⟩, ⟨#[110, 111, 110, 101, 44, 97, 115, 107]⟩, ⟨#[102, 114, 111, 109, 44, 97, 115, 107]⟩, ⟨#[116, 111]⟩, ⟨#[116, 111]⟩, ⟨#[98, 111, 116, 104]⟩]

theorem in3_nat {s : Int} (h : in3 s = true) : ∃ o : Nat, o < 3 ∧ s = o := by
  obtain ⟨h1, h2⟩ := Bool.and_eq_true_iff.1 h
  have h1 := of_decide_eq_true h1
  have h2 := of_decide_eq_true h2
  exact ⟨s.toNat, by omega, by omega⟩
theorem okH_nat {h : Hf} (hk : okH h = true) : ∃ o i : Nat, o < 3 ∧ i < 3 ∧ h = ⟨o, h.n, i, h.m⟩ := by
  obtain ⟨h1, h2⟩ := Bool.and_eq_true_iff.1 hk
  obtain ⟨o, ho, eo⟩ := in3_nat (Bool.and_eq_true_iff.1 h1).1
  obtain ⟨i, hi, ei⟩ := in3_nat (Bool.and_eq_true_iff.1 h2).1
  refine ⟨o, i, ho, hi, ?_⟩
  rw [← eo, ← ei]

/-- The package's table holds the names. -/
def Ts (w : World) : Prop := 0 < w.heap.size ∧ ∀ k, k < 9 → w.cell? ⟨0, k, none⟩ = some (.string (stT.getD k ⟨#[]⟩))
theorem Ts.below {w w' : World} (h : Ts w) (hb : Below w.heap.size w w') : Ts w' := by
  refine ⟨Nat.lt_of_lt_of_le h.1 hb.size, fun k hk => ?_⟩
  have e := hb.block 0 h.1
  have := h.2 k hk
  unfold World.cell? at this ⊢
  rw [e]
  exact this
def names (h : Hf) : ByteArray := if okH h = true then stT.getD (3 * h.o.toNat + h.i.toNat) ⟨#[]⟩ else ⟨#[]⟩

set_option maxHeartbeats 1600000 in
theorem namesC_ok (b o i : Nat) (ho : o < 3) (hi : i < 3) (n m : Int) (w : World) (A : HfAt w b ⟨o, n, i, m⟩) (B : w.heap[b + 1]? = some (.cells #[.string ⟨#[]⟩] 9 (0, 0))) (hT : Ts w) (hk : okH ⟨o, n, i, m⟩ = true) :
    Calls Tryd.prog 15 #[.pointer (some ⟨b, 0, none⟩), .pointer (some ⟨b + 1, 0, none⟩)] w fun e w' => e = .returned (.tuple #[]) ∧ w'.heap[b + 1]? = some (.cells #[.string (stT.getD (3 * o + i) ⟨#[]⟩)] 9 (0, 0)) ∧ Keep (fun j => j = b + 1) w w' := by
  have hw := fun w => checkH_ok ⟨o, n, i, m⟩ w hk
  unfold hfv hfc at hw
  have c0 := A.c0
  have c1 := A.c1
  have c2 := A.c2
  have c3 := A.c3
  simp only at c0 c1 c2 c3
  clear hk
  generalize hv : stT.getD (3 * o + i) ⟨#[]⟩ = v
  have hf : ∀ w1 : World, Below w.heap.size w w1 → w1.cell? ⟨0, 3 * o + i, none⟩ = some (.string v) := fun w1 hb => by have := (hT.below hb).2 (3 * o + i) (by omega); rw [hv] at this; exact this
  clear hv
  have o1 : (o : Int) < 3 := by omega
  have i1 : (i : Int) < 3 := by omega
  have o0 : ¬ (o : Int) < 0 := by omega
  have i0 : ¬ (i : Int) < 0 := by omega
  go_enter Tryd.func15, Tryd.ntmps15
  go_upto_region 1 with (first
    | (go_at_call 16; refine (hw _).mono ?_; rintro e w1 ⟨rfl, hb1⟩)
    | fail)
  refine wp_region_lx (fun w' => HfAt w' b ⟨o, n, i, m⟩ ∧ w'.cell? ⟨0, 3 * o + i, none⟩ = some (.string v)) [7] 8 (by kernel_rfl) (by kernel_rfl) ?_
  have b1 := hb1.drew
  have hf1 := hf _ b1
  have HS : HfAt w1.drew b ⟨o, n, i, m⟩ ∧ w1.drew.cell? ⟨0, 3 * o + i, none⟩ = some (.string v) := ⟨A.below b1 A.lt, hf1⟩
  have B1 : w1.drew.heap[b + 1]? = some (.cells #[.string ⟨#[]⟩] 9 (0, 0)) := box_below B b1
  clear hf1 A B hT hb1 hf c0 c1 c2 c3 hw
  generalize w1.drew = W at HS B1 b1 ⊢
  refine lx_rd 0 ?vR0 (by kernel_rfl) (fun _ _ d _ _ h => by cases d <;> exact h) (by kernel_rfl) HS rfl rfl rfl (fun w' hS => ?hR0) ?_
  case hR0 => first | (go_simp; rfl) | go_simp
  simp only [List.setIfInBounds_toArray, List.set_cons_zero, List.set_cons_succ]
  refine lx_rd 1 (.int .i64 (o : Int)) (by kernel_rfl) (fun _ _ d _ _ h => by cases d <;> exact h) (by kernel_rfl) HS rfl rfl rfl (fun w' hS => ?hR1) ?_
  case hR1 => have z0 := hS.1.c0; simp only at z0; first | (go_simp; rfl) | go_simp
  simp only [List.setIfInBounds_toArray, List.set_cons_zero, List.set_cons_succ]
  refine lx_rd 2 ?vR2 (by kernel_rfl) (fun _ _ d _ _ h => by cases d <;> exact h) (by kernel_rfl) HS rfl rfl rfl (fun w' hS => ?hR2) ?_
  case hR2 => first | (go_simp; rfl) | go_simp
  simp only [List.setIfInBounds_toArray, List.set_cons_zero, List.set_cons_succ]
  refine lx_rd 3 (.int .i64 (i : Int)) (by kernel_rfl) (fun _ _ d _ _ h => by cases d <;> exact h) (by kernel_rfl) HS rfl rfl rfl (fun w' hS => ?hR3) ?_
  case hR3 => have z0 := hS.1.c2; simp only at z0; first | (go_simp; rfl) | go_simp
  simp only [List.setIfInBounds_toArray, List.set_cons_zero, List.set_cons_succ]
  refine lx_rd 4 (.pointer (some ⟨0, 3 * o, none⟩)) (by kernel_rfl) (fun _ _ d _ _ h => by cases d <;> exact h) (by kernel_rfl) HS rfl rfl rfl (fun w' hS => ?hR4) ?_
  case hR4 => have q0 := 0; first | (go_simp; rfl) | go_simp
  simp only [List.setIfInBounds_toArray, List.set_cons_zero, List.set_cons_succ]
  refine lx_rd 5 (.pointer (some ⟨0, 3 * o + i, none⟩)) (by kernel_rfl) (fun _ _ d _ _ h => by cases d <;> exact h) (by kernel_rfl) HS rfl rfl rfl (fun w' hS => ?hR5) ?_
  case hR5 => have q0 := 0; first | (go_simp; rfl) | go_simp
  simp only [List.setIfInBounds_toArray, List.set_cons_zero, List.set_cons_succ]
  refine lx_rd 6 (.string v) (by kernel_rfl) (fun _ _ d _ _ h => by cases d <;> exact h) (by kernel_rfl) HS rfl rfl rfl (fun w' hS => ?hR6) ?_
  case hR6 => have z0 := hS.2; first | (go_simp; rfl) | go_simp
  simp only [List.setIfInBounds_toArray, List.set_cons_zero, List.set_cons_succ]
  refine lx_one 7 (by kernel_rfl) (stepT_store (w' := W.setCell ⟨b + 1, 0, none⟩ (.string v)) rfl rfl rfl ?d7 (fun h => by cases h) ?_)
  case d7 => (have z0 := cell_one B1; have z1 := thaw_one B1; go_simp)
  refine lx_nil (by kernel_rfl) ?_
  go_wp2
  go_end0
  exact ⟨rfl, heap_setCell_same _ (b + 1) 0 _ _ _ B1, (Keep.ofBelow b1).trans (keepC _ _ _)⟩
theorem namesC_any (b : Nat) (h : Hf) (w : World) (A : HfAt w b h) (B : w.heap[b + 1]? = some (.cells #[.string ⟨#[]⟩] 9 (0, 0))) (hT : Ts w) :
    Calls Tryd.prog 15 #[.pointer (some ⟨b, 0, none⟩), .pointer (some ⟨b + 1, 0, none⟩)] w fun e w' => Gs (if okH h = true then 0 else 1) e ∧ w'.heap[b + 1]? = some (.cells #[.string (names h)] 9 (0, 0)) ∧ Keep (fun j => j = b + 1) w w' := by
  cases hk : okH h with
  | true =>
    unfold names
    obtain ⟨o, i, ho, hi, eh⟩ := okH_nat hk
    generalize h.n = n at eh
    generalize h.m = m at eh
    subst eh
    rw [if_pos hk, if_pos rfl]
    refine (namesC_ok b o i ho hi n m w A B hT hk).mono ?_
    rintro e w' ⟨rfl, h1, h2⟩
    exact ⟨Or.inl ⟨rfl, rfl⟩, h1, h2⟩
  | false =>
    rw [if_neg (by decide)]
    have en : names h = ⟨#[]⟩ := by unfold names; rw [if_neg (by rw [hk]; decide)]
    rw [en]
    have hw := fun w => checkH_no h w hk
    unfold hfv hfc at hw
    have c0 := A.c0
    have c1 := A.c1
    have c2 := A.c2
    have c3 := A.c3
    clear hk en
    go_enter Tryd.func15, Tryd.ntmps15
    go_wp2_with (first
      | (go_at_call 16; refine (hw _).mono ?_; rintro e w1 ⟨rfl, hb1⟩))
    exact ⟨rfl, gs_no (by decide) rfl, box_below B hb1, Keep.ofBelow hb1⟩
theorem attempt_names (b : Nat) (h : Hf) (w : World) (A : HfAt w b h) (B : w.heap[b + 1]? = some (.cells #[.string ⟨#[]⟩] 9 (0, 0))) (hT : Ts w) :
    Calls Tryd.prog 14 #[.func (.func 15) #[] #[.pointer (some ⟨b, 0, none⟩), .pointer (some ⟨b + 1, 0, none⟩)]] w fun e w' =>
      ∃ n : Nat, e = .returned (.int .i64 n) ∧ w'.heap[b + 1]? = some (.cells #[.string (names h)] 9 (0, 0)) ∧ Keep (fun j => j = b + 1) w w' := by
  have hl : b + 1 < w.heap.size := (Array.getElem?_eq_some_iff.1 B).1
  have h1 := below1 w (.cells #[.int .i64 0] 30)
  refine (attemptS 15 _ (if okH h = true then 0 else 1) (fun w' => w'.heap[b + 1]? = some (.cells #[.string (names h)] 9 (0, 0)) ∧ Keep (fun j => j = b + 1) (w.alloc (.cells #[.int .i64 0] 30)) w') w (fun args w => by kernel_rfl) ((namesC_any b h _ (A.below h1 A.lt) (box_below B h1) (hT.below h1)).mono ?_)).mono ?_
  · rintro e w' ⟨hg, B', hk⟩
    exact ⟨hg, ⟨B', hk⟩, box_keep (alloc_at w _) hk (by omega)⟩
  · rintro e w' ⟨rfl, w1, ⟨B', hk⟩, rfl⟩
    refine ⟨_, rfl, box_keep B' (keepC w1 w.heap.size _) (by omega), ?_⟩
    exact (((Keep.refl _ w).alloc _).trans hk).setNew (p := ⟨w.heap.size, 0, none⟩) (Nat.le_refl _) _
set_option maxHeartbeats 800000 in
theorem fState_any (h : Hf) (w : World) (hT : Ts w) : Calls Tryd.prog 7 #[hfv h] w fun e w' => e = .returned (.string (names h)) ∧ Below w.heap.size w w' := by
  have hb := below2 w (.cells (hfc h) 24) (.cells #[.string ⟨#[]⟩] 9)
  have hc := attempt_names w.heap.size h ((w.alloc (.cells (hfc h) 24)).alloc (.cells #[.string ⟨#[]⟩] 9)) (push_old (push_at _ _ rfl)) (push_at _ _ (by simp)) (hT.below hb)
  generalize names h = v at hc ⊢
  unfold hfv
  unfold hfc at hc hb ⊢
  go_enter Tryd.func7, Tryd.ntmps7
  go_wp2_with (first
    | (go_at_call 14; refine hc.mono ?_; rintro e w7 ⟨n, rfl, B7, k7⟩; have b7 : Below w.heap.size w w7 := hb.trans (k7.below hb.size (fun q hq => by omega)); have z0 := cell_one B7; have z1 := thaw_one B7))
  have B8 := heap_setCell_same _ _ 0 _ _ (.string v) B7
  have b8 := b7.trans ((keepC w7 (w.heap.size + 1) (.string v)).below b7.size (fun q hq => by omega))
  have y0 := cell_one B8
  simp [bodyPost, results, Tryd.results7, go_sem, y0]
  exact b8

/-- The package's table holds the names. -/
def Tu (w : World) : Prop := 1 < w.heap.size ∧ ∀ k, k < 9 → w.cell? ⟨1, k, none⟩ = some (.string (sbT.getD k ⟨#[]⟩))
theorem Tu.below {w w' : World} (h : Tu w) (hb : Below w.heap.size w w') : Tu w' := by
  refine ⟨Nat.lt_of_lt_of_le h.1 hb.size, fun k hk => ?_⟩
  have e := hb.block 1 h.1
  have := h.2 k hk
  unfold World.cell? at this ⊢
  rw [e]
  exact this
def nameu (h : Hf) : ByteArray := if okH h = true then sbT.getD (3 * h.o.toNat + h.i.toNat) ⟨#[]⟩ else ⟨#[]⟩

set_option maxHeartbeats 1600000 in
theorem nameuC_ok (b o i : Nat) (ho : o < 3) (hi : i < 3) (n m : Int) (w : World) (A : HfAt w b ⟨o, n, i, m⟩) (B : w.heap[b + 1]? = some (.cells #[.string ⟨#[]⟩] 9 (0, 0))) (hT : Tu w) (hk : okH ⟨o, n, i, m⟩ = true) :
    Calls Tryd.prog 22 #[.pointer (some ⟨b, 0, none⟩), .pointer (some ⟨b + 1, 0, none⟩)] w fun e w' => e = .returned (.tuple #[]) ∧ w'.heap[b + 1]? = some (.cells #[.string (sbT.getD (3 * o + i) ⟨#[]⟩)] 9 (0, 0)) ∧ Keep (fun j => j = b + 1) w w' := by
  have hw := fun w => checkH_ok ⟨o, n, i, m⟩ w hk
  unfold hfv hfc at hw
  have c0 := A.c0
  have c1 := A.c1
  have c2 := A.c2
  have c3 := A.c3
  simp only at c0 c1 c2 c3
  clear hk
  generalize hv : sbT.getD (3 * o + i) ⟨#[]⟩ = v
  have hf : ∀ w1 : World, Below w.heap.size w w1 → w1.cell? ⟨1, 3 * o + i, none⟩ = some (.string v) := fun w1 hb => by have := (hT.below hb).2 (3 * o + i) (by omega); rw [hv] at this; exact this
  clear hv
  have o1 : (o : Int) < 3 := by omega
  have i1 : (i : Int) < 3 := by omega
  have o0 : ¬ (o : Int) < 0 := by omega
  have i0 : ¬ (i : Int) < 0 := by omega
  go_enter Tryd.func22, Tryd.ntmps22
  go_upto_region 1 with (first
    | (go_at_call 16; refine (hw _).mono ?_; rintro e w1 ⟨rfl, hb1⟩)
    | fail)
  refine wp_region_lx (fun w' => HfAt w' b ⟨o, n, i, m⟩ ∧ w'.cell? ⟨1, 3 * o + i, none⟩ = some (.string v)) [7] 8 (by kernel_rfl) (by kernel_rfl) ?_
  have b1 := hb1.drew
  have hf1 := hf _ b1
  have HS : HfAt w1.drew b ⟨o, n, i, m⟩ ∧ w1.drew.cell? ⟨1, 3 * o + i, none⟩ = some (.string v) := ⟨A.below b1 A.lt, hf1⟩
  have B1 : w1.drew.heap[b + 1]? = some (.cells #[.string ⟨#[]⟩] 9 (0, 0)) := box_below B b1
  clear hf1 A B hT hb1 hf c0 c1 c2 c3 hw
  generalize w1.drew = W at HS B1 b1 ⊢
  refine lx_rd 0 ?vR0 (by kernel_rfl) (fun _ _ d _ _ h => by cases d <;> exact h) (by kernel_rfl) HS rfl rfl rfl (fun w' hS => ?hR0) ?_
  case hR0 => first | (go_simp; rfl) | go_simp
  simp only [List.setIfInBounds_toArray, List.set_cons_zero, List.set_cons_succ]
  refine lx_rd 1 (.int .i64 (o : Int)) (by kernel_rfl) (fun _ _ d _ _ h => by cases d <;> exact h) (by kernel_rfl) HS rfl rfl rfl (fun w' hS => ?hR1) ?_
  case hR1 => have z0 := hS.1.c0; simp only at z0; first | (go_simp; rfl) | go_simp
  simp only [List.setIfInBounds_toArray, List.set_cons_zero, List.set_cons_succ]
  refine lx_rd 2 ?vR2 (by kernel_rfl) (fun _ _ d _ _ h => by cases d <;> exact h) (by kernel_rfl) HS rfl rfl rfl (fun w' hS => ?hR2) ?_
  case hR2 => first | (go_simp; rfl) | go_simp
  simp only [List.setIfInBounds_toArray, List.set_cons_zero, List.set_cons_succ]
  refine lx_rd 3 (.int .i64 (i : Int)) (by kernel_rfl) (fun _ _ d _ _ h => by cases d <;> exact h) (by kernel_rfl) HS rfl rfl rfl (fun w' hS => ?hR3) ?_
  case hR3 => have z0 := hS.1.c2; simp only at z0; first | (go_simp; rfl) | go_simp
  simp only [List.setIfInBounds_toArray, List.set_cons_zero, List.set_cons_succ]
  refine lx_rd 4 (.pointer (some ⟨1, 3 * o, none⟩)) (by kernel_rfl) (fun _ _ d _ _ h => by cases d <;> exact h) (by kernel_rfl) HS rfl rfl rfl (fun w' hS => ?hR4) ?_
  case hR4 => have q0 := 0; first | (go_simp; rfl) | go_simp
  simp only [List.setIfInBounds_toArray, List.set_cons_zero, List.set_cons_succ]
  refine lx_rd 5 (.pointer (some ⟨1, 3 * o + i, none⟩)) (by kernel_rfl) (fun _ _ d _ _ h => by cases d <;> exact h) (by kernel_rfl) HS rfl rfl rfl (fun w' hS => ?hR5) ?_
  case hR5 => have q0 := 0; first | (go_simp; rfl) | go_simp
  simp only [List.setIfInBounds_toArray, List.set_cons_zero, List.set_cons_succ]
  refine lx_rd 6 (.string v) (by kernel_rfl) (fun _ _ d _ _ h => by cases d <;> exact h) (by kernel_rfl) HS rfl rfl rfl (fun w' hS => ?hR6) ?_
  case hR6 => have z0 := hS.2; first | (go_simp; rfl) | go_simp
  simp only [List.setIfInBounds_toArray, List.set_cons_zero, List.set_cons_succ]
  refine lx_one 7 (by kernel_rfl) (stepT_store (w' := W.setCell ⟨b + 1, 0, none⟩ (.string v)) rfl rfl rfl ?d7 (fun h => by cases h) ?_)
  case d7 => (have z0 := cell_one B1; have z1 := thaw_one B1; go_simp)
  refine lx_nil (by kernel_rfl) ?_
  go_wp2
  go_end0
  exact ⟨rfl, heap_setCell_same _ (b + 1) 0 _ _ _ B1, (Keep.ofBelow b1).trans (keepC _ _ _)⟩
theorem nameuC_any (b : Nat) (h : Hf) (w : World) (A : HfAt w b h) (B : w.heap[b + 1]? = some (.cells #[.string ⟨#[]⟩] 9 (0, 0))) (hT : Tu w) :
    Calls Tryd.prog 22 #[.pointer (some ⟨b, 0, none⟩), .pointer (some ⟨b + 1, 0, none⟩)] w fun e w' => Gs (if okH h = true then 0 else 1) e ∧ w'.heap[b + 1]? = some (.cells #[.string (nameu h)] 9 (0, 0)) ∧ Keep (fun j => j = b + 1) w w' := by
  cases hk : okH h with
  | true =>
    unfold nameu
    obtain ⟨o, i, ho, hi, eh⟩ := okH_nat hk
    generalize h.n = n at eh
    generalize h.m = m at eh
    subst eh
    rw [if_pos hk, if_pos rfl]
    refine (nameuC_ok b o i ho hi n m w A B hT hk).mono ?_
    rintro e w' ⟨rfl, h1, h2⟩
    exact ⟨Or.inl ⟨rfl, rfl⟩, h1, h2⟩
  | false =>
    rw [if_neg (by decide)]
    have en : nameu h = ⟨#[]⟩ := by unfold nameu; rw [if_neg (by rw [hk]; decide)]
    rw [en]
    have hw := fun w => checkH_no h w hk
    unfold hfv hfc at hw
    have c0 := A.c0
    have c1 := A.c1
    have c2 := A.c2
    have c3 := A.c3
    clear hk en
    go_enter Tryd.func22, Tryd.ntmps22
    go_wp2_with (first
      | (go_at_call 16; refine (hw _).mono ?_; rintro e w1 ⟨rfl, hb1⟩))
    exact ⟨rfl, gs_no (by decide) rfl, box_below B hb1, Keep.ofBelow hb1⟩
theorem attempt_nameu (b : Nat) (h : Hf) (w : World) (A : HfAt w b h) (B : w.heap[b + 1]? = some (.cells #[.string ⟨#[]⟩] 9 (0, 0))) (hT : Tu w) :
    Calls Tryd.prog 14 #[.func (.func 22) #[] #[.pointer (some ⟨b, 0, none⟩), .pointer (some ⟨b + 1, 0, none⟩)]] w fun e w' =>
      ∃ n : Nat, e = .returned (.int .i64 n) ∧ w'.heap[b + 1]? = some (.cells #[.string (nameu h)] 9 (0, 0)) ∧ Keep (fun j => j = b + 1) w w' := by
  have hl : b + 1 < w.heap.size := (Array.getElem?_eq_some_iff.1 B).1
  have h1 := below1 w (.cells #[.int .i64 0] 30)
  refine (attemptS 22 _ (if okH h = true then 0 else 1) (fun w' => w'.heap[b + 1]? = some (.cells #[.string (nameu h)] 9 (0, 0)) ∧ Keep (fun j => j = b + 1) (w.alloc (.cells #[.int .i64 0] 30)) w') w (fun args w => by kernel_rfl) ((nameuC_any b h _ (A.below h1 A.lt) (box_below B h1) (hT.below h1)).mono ?_)).mono ?_
  · rintro e w' ⟨hg, B', hk⟩
    exact ⟨hg, ⟨B', hk⟩, box_keep (alloc_at w _) hk (by omega)⟩
  · rintro e w' ⟨rfl, w1, ⟨B', hk⟩, rfl⟩
    refine ⟨_, rfl, box_keep B' (keepC w1 w.heap.size _) (by omega), ?_⟩
    exact (((Keep.refl _ w).alloc _).trans hk).setNew (p := ⟨w.heap.size, 0, none⟩) (Nat.le_refl _) _
set_option maxHeartbeats 800000 in
theorem fSub_any (h : Hf) (w : World) (hT : Tu w) : Calls Tryd.prog 13 #[hfv h] w fun e w' => e = .returned (.string (nameu h)) ∧ Below w.heap.size w w' := by
  have hb := below2 w (.cells (hfc h) 24) (.cells #[.string ⟨#[]⟩] 9)
  have hc := attempt_nameu w.heap.size h ((w.alloc (.cells (hfc h) 24)).alloc (.cells #[.string ⟨#[]⟩] 9)) (push_old (push_at _ _ rfl)) (push_at _ _ (by simp)) (hT.below hb)
  generalize nameu h = v at hc ⊢
  unfold hfv
  unfold hfc at hc hb ⊢
  go_enter Tryd.func13, Tryd.ntmps13
  go_wp2_with (first
    | (go_at_call 14; refine hc.mono ?_; rintro e w7 ⟨n, rfl, B7, k7⟩; have b7 : Below w.heap.size w w7 := hb.trans (k7.below hb.size (fun q hq => by omega)); have z0 := cell_one B7; have z1 := thaw_one B7))
  have B8 := heap_setCell_same _ _ 0 _ _ (.string v) B7
  have b8 := b7.trans ((keepC w7 (w.heap.size + 1) (.string v)).below b7.size (fun q hq => by omega))
  have y0 := cell_one B8
  simp [bodyPost, results, Tryd.results13, go_sem, y0]
  exact b8
end Go.Proofs.YtgijofcnknehdaaDoor
