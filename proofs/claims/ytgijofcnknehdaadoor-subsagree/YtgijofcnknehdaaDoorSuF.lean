/- subs.Act. -/
import Derived.Test.YtgijofcnknehdaaDoorSuE
namespace Go.Proofs.YtgijofcnknehdaaDoor
open Go.RowKit Go.Joins

section
variable {w w' : World} {b : Nat} {h : Hf} {kind x : Int} {t : Hf} {ml nn : Int}
theorem AB.keep {S : Nat → Prop} (A : AB w b h kind x t ml nn) (hk : Keep S w w') (hs : ∀ i, b ≤ i → i ≤ b + 5 → ¬ S i) : AB w' b h kind x t ml nn :=
  ⟨box_keep A.ah hk (hs _ (by omega) (by omega)), box_keep A.ak hk (hs _ (by omega) (by omega)), box_keep A.ax hk (hs _ (by omega) (by omega)), box_keep A.at' hk (hs _ (by omega) (by omega)), box_keep A.am hk (hs _ (by omega) (by omega)), box_keep A.an hk (hs _ (by omega) (by omega))⟩
theorem AB.lt (A : AB w b h kind x t ml nn) : b + 5 < w.heap.size := (Array.getElem?_eq_some_iff.1 A.an).1
theorem AB.put1 (A : AB w b h kind x t ml nn) : AB (w.setRow (b + 3) (hfc t)) b h kind x t ml nn :=
  ⟨box_keep A.ah (A.at'.keepB t) (by omega), box_keep A.ak (A.at'.keepB t) (by omega), box_keep A.ax (A.at'.keepB t) (by omega), A.at'.set t, box_keep A.am (A.at'.keepB t) (by omega), box_keep A.an (A.at'.keepB t) (by omega)⟩
theorem keepC (w : World) (b : Nat) (v : Value) : Keep (fun j => j = b) w (w.setCell ⟨b, 0, none⟩ v) := (Keep.refl (fun j => j = b) _).setCell (p := ⟨b, 0, none⟩) rfl _
theorem AB.put2 (A : AB w b h kind x t ml nn) : AB (w.setCell ⟨b + 4, 0, none⟩ (.int .i64 ml)) b h kind x t ml nn :=
  ⟨box_keep A.ah (keepC _ _ _) (by omega), box_keep A.ak (keepC _ _ _) (by omega), box_keep A.ax (keepC _ _ _) (by omega), box_keep A.at' (keepC _ _ _) (by omega), heap_setCell_same _ (b + 4) 0 _ _ _ A.am, box_keep A.an (keepC _ _ _) (by omega)⟩
theorem AB.put3 (A : AB w b h kind x t ml nn) : AB (w.setCell ⟨b + 5, 0, none⟩ (.int .u64 nn)) b h kind x t ml nn :=
  ⟨box_keep A.ah (keepC _ _ _) (by omega), box_keep A.ak (keepC _ _ _) (by omega), box_keep A.ax (keepC _ _ _) (by omega), box_keep A.at' (keepC _ _ _) (by omega), box_keep A.am (keepC _ _ _) (by omega), heap_setCell_same _ (b + 5) 0 _ _ _ A.an⟩
end
theorem attempt_act (b : Nat) (h : Hf) (kind x : Int) (w : World) (A : AB w b h kind x ⟨0, 0, 0, 0⟩ 0 0) :
    Calls Tryd.prog 14 #[.func (.func 17) #[] #[.pointer (some ⟨b, 0, none⟩), .pointer (some ⟨b + 1, 0, none⟩), .pointer (some ⟨b + 2, 0, none⟩), .pointer (some ⟨b + 3, 0, none⟩), .pointer (some ⟨b + 4, 0, none⟩), .pointer (some ⟨b + 5, 0, none⟩)]] w fun e w' =>
      e = .returned (.int .i64 (actA h kind x).2) ∧ AB w' b h kind x (actA h kind x).1.1 (actA h kind x).1.2.1 (actA h kind x).1.2.2 ∧ Keep (fun j => b + 3 ≤ j ∧ j ≤ b + 5) w w' := by
  have hl := A.lt
  have A1 := A.below (below1 w (.cells #[.int .i64 0] 30))
  refine (attemptS 17 _ (actA h kind x).2 (fun w' => AB w' b h kind x (actA h kind x).1.1 (actA h kind x).1.2.1 (actA h kind x).1.2.2 ∧ Keep (fun j => b + 3 ≤ j ∧ j ≤ b + 5) (w.alloc (.cells #[.int .i64 0] 30)) w') w (fun args w => by kernel_rfl) ((actC_any b h kind x _ A1).mono ?_)).mono ?_
  · rintro e w' ⟨hg, B, hk⟩
    exact ⟨hg, ⟨B, hk⟩, box_keep (alloc_at w _) hk (by omega)⟩
  · rintro e w' ⟨rfl, w1, ⟨B, hk⟩, rfl⟩
    refine ⟨rfl, B.keep (keepC w1 w.heap.size _) (fun i _ _ => by omega), ?_⟩
    exact (((Keep.refl _ w).alloc _).trans hk).setNew (p := ⟨w.heap.size, 0, none⟩) (Nat.le_refl _) _

/-- The world in which Act's six variables have been made. -/
def aw (w : World) (h : Hf) (kind x : Int) : World := (((((w.alloc (.cells (hfc h) 24)).alloc (.cells #[.int .i64 kind] 3)).alloc (.cells #[.int .u64 x] 22)).alloc (.cells (hfc ⟨0, 0, 0, 0⟩) 24)).alloc (.cells #[.int .i64 0] 3)).alloc (.cells #[.int .u64 0] 22)
theorem push_at (w : World) (o : Obj) {i : Nat} (hi : i = w.heap.size) : (w.alloc o).heap[i]? = some o := by subst hi; exact alloc_at w o
theorem push_old {w : World} {o p : Obj} {i : Nat} (h : w.heap[i]? = some p) : (w.alloc o).heap[i]? = some p := box_below h (below1 w o)
theorem aw_ab (w : World) (h : Hf) (kind x : Int) : AB (aw w h kind x) w.heap.size h kind x ⟨0, 0, 0, 0⟩ 0 0 ∧ Below w.heap.size w (aw w h kind x) := by
  unfold aw
  refine ⟨⟨?_, ?_, ?_, ?_, ?_, ?_⟩, ?_⟩
  · exact push_old (push_old (push_old (push_old (push_old (push_at _ _ (by simp))))))
  · exact push_old (push_old (push_old (push_old (push_at _ _ (by simp)))))
  · exact push_old (push_old (push_old (push_at _ _ (by simp))))
  · exact push_old (push_old (push_at _ _ (by simp)))
  · exact push_old (push_at _ _ (by simp))
  · exact push_at _ _ (by simp)
  · exact ((((((Below.refl _ _).alloc (Nat.le_refl _) _).alloc (by simp) _).alloc (by simp; omega) _).alloc (by simp; omega) _).alloc (by simp; omega) _).alloc (by simp; omega) _

def actV (r : (Hf × Int × Int) × Nat) : Value := .tuple #[hfv r.1.1, .int .i64 r.1.2.1, .int .u64 r.1.2.2, .int .i64 r.2]
set_option maxHeartbeats 1600000 in
theorem Act_any (h : Hf) (kind x : Int) (w : World) : Calls Tryd.prog 8 #[hfv h, .int .i64 kind, .int .u64 x] w fun e w' => e = .returned (actV (actA h kind x)) ∧ Below w.heap.size w w' := by
  obtain ⟨A, hb⟩ := aw_ab w h kind x
  have hc := attempt_act w.heap.size h kind x _ A
  generalize actA h kind x = r at hc ⊢
  obtain ⟨⟨t, ml, nn⟩, en⟩ := r
  have hc' : Calls Tryd.prog 14 _ _ fun e w' => e = .returned (.int .i64 en) ∧ AB w' w.heap.size h kind x t ml nn ∧ Keep (fun j => w.heap.size + 3 ≤ j ∧ j ≤ w.heap.size + 5) _ w' := hc
  clear hc A
  unfold actV hfv hfc
  unfold aw hfc at hc' hb
  go_enter Tryd.func8, Tryd.ntmps8
  go_upto_region 2 with (first
    | (go_at_call 14; refine hc'.mono ?_; rintro e w7 ⟨rfl, A7, k7⟩; have b7 : Below w.heap.size w w7 := hb.trans (k7.below hb.size (fun q hq => by omega)))
    | fail)
  refine wp_region_lx (fun w' => AB w' w.heap.size h kind x t ml nn) [] 8 (by kernel_rfl) (by kernel_rfl) ?_
  have HS : AB w7.drew w.heap.size h kind x t ml nn := A7.below ((Below.refl _ _).drew)
  have b8 := b7.drew
  clear A7 b7 k7 hc' hb
  generalize w7.drew = W at HS b8 ⊢
  refine lx_rd 0 (.agg #[.int .i64 t.o, .int .u64 t.n, .int .i64 t.i, .int .u64 t.m]) (by kernel_rfl) (fun _ _ d _ _ h => by cases d <;> exact h) (by kernel_rfl) HS rfl rfl rfl (fun w' hS => ?hR0) ?_
  case hR0 => have z0 := hS.at'.c0; have z1 := hS.at'.c1; have z2 := hS.at'.c2; have z3 := hS.at'.c3; first | (go_simp; rfl) | go_simp
  simp only [List.setIfInBounds_toArray, List.set_cons_zero, List.set_cons_succ]
  refine lx_rd 1 (.int .i64 ml) (by kernel_rfl) (fun _ _ d _ _ h => by cases d <;> exact h) (by kernel_rfl) HS rfl rfl rfl (fun w' hS => ?hR1) ?_
  case hR1 => have z0 := cell_one hS.am; first | (go_simp; rfl) | go_simp
  simp only [List.setIfInBounds_toArray, List.set_cons_zero, List.set_cons_succ]
  refine lx_rd 2 (.int .u64 nn) (by kernel_rfl) (fun _ _ d _ _ h => by cases d <;> exact h) (by kernel_rfl) HS rfl rfl rfl (fun w' hS => ?hR2) ?_
  case hR2 => have z0 := cell_one hS.an; first | (go_simp; rfl) | go_simp
  simp only [List.setIfInBounds_toArray, List.set_cons_zero, List.set_cons_succ]
  refine lx_rd 3 ?vR3 (by kernel_rfl) (fun _ _ d _ _ h => by cases d <;> exact h) (by kernel_rfl) HS rfl rfl rfl (fun w' hS => ?hR3) ?_
  case hR3 => first | (go_simp; rfl) | go_simp
  simp only [List.setIfInBounds_toArray, List.set_cons_zero, List.set_cons_succ]
  refine lx_one 4 (by kernel_rfl) (stepT_store (w' := W.setRow (w.heap.size + 3) (hfc t)) rfl rfl rfl ?d4 (fun _ => HS.put1) ?_)
  case d4 => exact exec_store_half (.tmp 6) (.tmp 12) rfl (w.heap.size + 3) rfl t rfl _ HS.at'
  have A1 := HS.put1
  have b9 := HS.at'.setB b8 (by omega) t
  clear HS b8
  generalize W.setRow (w.heap.size + 3) (hfc t) = W1 at A1 b9 ⊢
  refine lx_one 5 (by kernel_rfl) (stepT_store (w' := W1.setCell ⟨w.heap.size + 4, 0, none⟩ (.int .i64 ml)) rfl rfl rfl ?d5 (fun _ => A1.put2) ?_)
  case d5 => (have z0 := cell_one A1.am; have z1 := thaw_one A1.am; go_simp)
  have A2 := A1.put2
  have b10 : Below w.heap.size w (W1.setCell ⟨w.heap.size + 4, 0, none⟩ (.int .i64 ml)) := b9.trans ((keepC _ _ _).below b9.size (fun q hq => by omega))
  clear A1 b9
  generalize W1.setCell ⟨w.heap.size + 4, 0, none⟩ (.int .i64 ml) = W2 at A2 b10 ⊢
  refine lx_one 6 (by kernel_rfl) (stepT_store (w' := W2.setCell ⟨w.heap.size + 5, 0, none⟩ (.int .u64 nn)) rfl rfl rfl ?d6 (fun _ => A2.put3) ?_)
  case d6 => (have z0 := cell_one A2.an; have z1 := thaw_one A2.an; go_simp)
  have A3 := A2.put3
  have b11 : Below w.heap.size w (W2.setCell ⟨w.heap.size + 5, 0, none⟩ (.int .u64 nn)) := b10.trans ((keepC _ _ _).below b10.size (fun q hq => by omega))
  clear A2 b10
  generalize W2.setCell ⟨w.heap.size + 5, 0, none⟩ (.int .u64 nn) = W3 at A3 b11 ⊢
  refine lx_one 7 (by kernel_rfl) (stepT_val (w' := W3) (.int .i64 en) rfl rfl rfl ?d7 (fun _ => A3) ?_)
  case d7 => first | (go_simp; done) | (go_simp; rfl)
  simp only [List.setIfInBounds_toArray, List.set_cons_zero, List.set_cons_succ]
  refine lx_nil (by kernel_rfl) ?_
  go_wp2
  simp [bodyPost, results, Tryd.results8, go_sem, A3.at'.c0, A3.at'.c1, A3.at'.c2, A3.at'.c3, cell_one A3.am, cell_one A3.an]
  exact b11
end Go.Proofs.YtgijofcnknehdaaDoor
