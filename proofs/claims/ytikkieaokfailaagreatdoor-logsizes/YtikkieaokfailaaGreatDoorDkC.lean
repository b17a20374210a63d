/- bytes.Clone, and a file's beginning. -/
import Derived.Test.YtikkieaokfailaaGreatDoorDkU
namespace Go.Proofs.YtikkieaokfailaaGreatDoor
open Go.RowKit Go.Joins

set_option maxRecDepth 100000 in
set_option maxHeartbeats 800000 in
/-- bytes.Clone, its row the caller's own. -/
theorem bcloneO (a : Option Addr) (n c : Nat) (xs : List Int) (w : World) (hR : Rd w a n c xs) (hn : n ≤ 1000000000) :
    Calls Tryz.prog 66 #[.slice a n c] w fun e w' => ∃ v, e = .returned v ∧ w'.ownsRow w.heap.size 5 1 v n (bc xs) ∧ Below w.heap.size w w' := by
  cases a with
  | none =>
    obtain ⟨rfl, rfl⟩ := rd_noneK hR rfl
    have hx : xs = [] := List.eq_nil_of_length_eq_zero hR.len
    subst hx
    have he : ∀ w : World, (binOp .eql 29 (.slice none 0 0) (.slice none 0 0)).run Tryz.prog w = .ok (.bool true) w := fun _ => rfl
    go_enter Tryz.func66, Tryz.ntmps66
    go_wp2
    go_ret
    exact ⟨_, rfl, ⟨rfl, Or.inl ⟨rfl, rfl⟩⟩, Below.refl _ _⟩
  | some ad =>
    have he : ∀ w : World, (binOp .eql 29 (.slice (some ad) n c) (.slice none 0 0)).run Tryz.prog w = .ok (.bool false) w := fun _ => rfl
    go_enter Tryz.func66, Tryz.ntmps66
    go_wp2_with (at_builtin; refine wp_app0K rfl _ _ rfl rfl (some ad) n c xs rfl hR hn ?_; rintro v' w1 hown hb ⟨g, cap, rfl⟩)
    go_ret
    exact ⟨_, rfl, hown, hb⟩

theorem min_int (x y : Int) (ty : TypeId) (w : World) : (Builtin.min_ #[3, 3] ty #[.int .i64 x, .int .i64 y]).run Tryz.prog w = .ok (.int .i64 (min x y)) w := by
  rw [run_min_int2]
  congr 2
  split <;> omega

set_option maxRecDepth 100000 in
set_option maxHeartbeats 2000000 in
/-- A file's beginning, in memory of its own. -/
theorem fcut_any (A : Option Addr) (ln cp : Nat) (xs : List Int) (sf k : Nat) (w : World) (hR : Rd w A ln cp xs) (hk : k ≤ ln) (hl : ln ≤ 1000000000) :
    Calls Tryz.prog 70 #[.agg #[.slice A ln cp, .int .i64 sf], .int .i64 k] w fun e w' => ∃ (a5 : Option Nat) (cp5 : Nat), e = .returned (.agg #[.slice (a5.map fun g => ⟨g, 0, none⟩) k cp5, .int .i64 ((min sf k : Nat) : Int)]) ∧ w'.ownsRow w.heap.size 5 1 (.slice (a5.map fun g => ⟨g, 0, none⟩) k cp5) k (bc (xs.take k)) ∧ Below w.heap.size w w' := by
  have hc := hR.cap
  have hcm := hR.most
  go_enter Tryz.func70, Tryz.ntmps70
  go_upto_region 1 with fail
  have hbe : Below w.heap.size w ((w.alloc (.cells #[.slice A ln cp, .int .i64 sf] 106)).alloc (.cells #[.slice none 0 0, .int .i64 0] 106)) := ((Below.refl _ _).alloc (Nat.le_refl _) _).alloc (by simp) _
  have hb0 := alloc2_at w (.cells #[.slice A ln cp, .int .i64 sf] 106) (.cells #[.slice none 0 0, .int .i64 0] 106)
  have hb1 := alloc_at (w.alloc (.cells #[.slice A ln cp, .int .i64 sf] 106)) (.cells #[.slice none 0 0, .int .i64 0] 106)
  have hsz1 : (w.alloc (.cells #[.slice A ln cp, .int .i64 sf] 106)).heap.size = w.heap.size + 1 := by simp
  rw [hsz1] at hb1
  clear hsz1
  generalize (w.alloc (.cells #[.slice A ln cp, .int .i64 sf] 106)).alloc (.cells #[.slice none 0 0, .int .i64 0] 106) = W0 at *
  refine wp_region_lx (fun w' => Below W0.drew.heap.size W0.drew w') [10] 11 (by kernel_rfl) (by kernel_rfl) ?_
  have hbe1 : Below w.heap.size w W0.drew := hbe.drew
  have hb01 : W0.drew.heap[w.heap.size]? = some (.cells #[.slice A ln cp, .int .i64 sf] 106 (0, 0)) := hb0
  have hb11 : W0.drew.heap[w.heap.size + 1]? = some (.cells #[.slice none 0 0, .int .i64 0] 106 (0, 0)) := hb1
  clear hbe hb0 hb1
  generalize W0.drew = W at *
  obtain ⟨b, hb⟩ : ∃ b, w.heap.size = b := ⟨_, rfl⟩
  rw [hb] at hb01 hb11 ⊢
  have hbY : ∀ w', Below W.heap.size W w' → w'.cell? ⟨b, 0, none⟩ = some (.slice A ln cp) ∧ w'.cell? ⟨b, 1, none⟩ = some (.int .i64 sf) := fun w' hb' => by
    have h := box_below hb01 hb'
    exact ⟨by rw [cell_of_block h]; rfl, by rw [cell_of_block h]; rfl⟩
  have HS : Below W.heap.size W W := Below.refl _ _
  have hmin := min_int (sf : Int) (k : Int) 3
  have hk1 : (k : Int) ≤ (cp : Int) := by omega
  have hk0 : (0 : Int) ≤ (k : Int) := by omega
  have hmm : min (sf : Int) (k : Int) = ((min sf k : Nat) : Int) := by omega
  refine lx_rd 0 ?vA0 (by kernel_rfl) (fun _ _ d _ _ h => by cases d <;> exact h) (by kernel_rfl) HS rfl rfl rfl (fun w' hS => ?hA0) ?_
  case hA0 => first | (go_simp; rfl) | go_simp
  simp only [List.setIfInBounds_toArray, List.set_cons_zero, List.set_cons_succ]
  refine lx_rd 1 (.slice A ln cp) (by kernel_rfl) (fun _ _ d _ _ h => by cases d <;> exact h) (by kernel_rfl) HS rfl rfl rfl (fun w' hS => ?hA1) ?_
  case hA1 => have q1 := (hbY _ hS).1; first | (go_simp; rfl) | go_simp
  simp only [List.setIfInBounds_toArray, List.set_cons_zero, List.set_cons_succ]
  refine lx_rd 2 ?vA2 (by kernel_rfl) (fun _ _ d _ _ h => by cases d <;> exact h) (by kernel_rfl) HS rfl rfl rfl (fun w' hS => ?hA2) ?_
  case hA2 => first | (go_simp; rfl) | go_simp
  simp only [List.setIfInBounds_toArray, List.set_cons_zero, List.set_cons_succ]
  refine lx_rd 3 (.slice A k cp) (by kernel_rfl) (fun _ _ d _ _ h => by cases d <;> exact h) (by kernel_rfl) HS rfl rfl rfl (fun w' hS => ?hA3) ?_
  case hA3 => first | (go_simp; rfl) | go_simp
  simp only [List.setIfInBounds_toArray, List.set_cons_zero, List.set_cons_succ]
  refine lx_rd 5 ?vA5 (by kernel_rfl) (fun _ _ d _ _ h => by cases d <;> exact h) (by kernel_rfl) HS rfl rfl rfl (fun w' hS => ?hA5) ?_
  case hA5 => first | (go_simp; rfl) | go_simp
  simp only [List.setIfInBounds_toArray, List.set_cons_zero, List.set_cons_succ]
  refine lx_rd 6 (.int .i64 sf) (by kernel_rfl) (fun _ _ d _ _ h => by cases d <;> exact h) (by kernel_rfl) HS rfl rfl rfl (fun w' hS => ?hA6) ?_
  case hA6 => have q1 := (hbY _ hS).2; first | (go_simp; rfl) | go_simp
  simp only [List.setIfInBounds_toArray, List.set_cons_zero, List.set_cons_succ]
  refine lx_rd 7 ?vA7 (by kernel_rfl) (fun _ _ d _ _ h => by cases d <;> exact h) (by kernel_rfl) HS rfl rfl rfl (fun w' hS => ?hA7) ?_
  case hA7 => first | (go_simp; rfl) | go_simp
  simp only [List.setIfInBounds_toArray, List.set_cons_zero, List.set_cons_succ]
  refine lx_rd 8 (.int .i64 ((min sf k : Nat) : Int)) (by kernel_rfl) (fun _ _ d _ _ h => by cases d <;> exact h) (by kernel_rfl) HS rfl rfl rfl (fun w' hS => ?hA8) ?_
  case hA8 => first | (go_simp; rfl) | go_simp
  simp only [List.setIfInBounds_toArray, List.set_cons_zero, List.set_cons_succ]
  have hRW : Rd W A k cp (xs.take k) := (hR.carry (Nat.le_refl _) hbe1).takeK hk
  refine lx_one 4 (by kernel_rfl) (stepT_call 66 ?aR5 rfl rfl rfl ?rR5 ?_)
  case rR5 => first | (go_simp; rfl) | go_simp
  refine (bcloneO A k cp (xs.take k) W hRW (by omega)).mono ?_
  rintro e w2 ⟨v, rfl, hown, hb2⟩
  refine ⟨_, rfl, fun _ => hb2, ?_⟩
  simp only [List.setIfInBounds_toArray, List.set_cons_zero, List.set_cons_succ]
  obtain ⟨a5, cp5, rfl, hob5⟩ := own_form hown
  obtain ⟨A5, hA5⟩ : ∃ A5 : Option Addr, (a5.map fun g => (⟨g, 0, none⟩ : Addr)) = A5 := ⟨_, rfl⟩
  have hown' := hown
  rw [hA5]
  refine lx_one 9 (by kernel_rfl) (stepT_val (w' := w2) (.agg #[.slice A5 k cp5, .int .i64 ((min sf k : Nat) : Int)]) rfl rfl rfl ?r9 (fun _ => hb2) ?_)
  case r9 => first | (go_simp; rfl) | go_simp
  simp only [List.setIfInBounds_toArray, List.set_cons_zero, List.set_cons_succ]
  have rb := box_below hb11 hb2
  have rb1 := block_setCell (i := 0) rb (.slice A5 k cp5)
  have c0 := cell_of_block rb 0
  have z0 := unfrozen_of_block rb 0
  have c1 := cell_of_block rb1 1
  have z1 := unfrozen_of_block rb1 1
  have rb2 := block_setCell (i := 1) rb1 (.int .i64 ((min sf k : Nat) : Int))
  have d0 := cell_of_block rb2 0
  have d1 := cell_of_block rb2 1
  simp at c0 c1 d0 d1
  refine lx_one 10 (by kernel_rfl) (stepT_store (w' := (w2.setCell ⟨b + 1, 0, none⟩ (.slice A5 k cp5)).setCell ⟨b + 1, 1, none⟩ (.int .i64 ((min sf k : Nat) : Int))) rfl rfl rfl ?r10 (fun h => by cases h) ?_)
  case r10 => first | (go_simp; rfl) | go_simp
  refine lx_nil (by kernel_rfl) ?_
  have hb3 : Below w.heap.size w w2 := hbe1.trans (hb2.mono hbe1.size)
  have hbs : b + 1 < W.heap.size := (Array.getElem?_eq_some_iff.1 hb11).1
  have hk3 : Keep (fun i => i = b + 1) w2 ((w2.setCell ⟨b + 1, 0, none⟩ (.slice A5 k cp5)).setCell ⟨b + 1, 1, none⟩ (.int .i64 ((min sf k : Nat) : Int))) := ((Keep.refl (fun i => i = b + 1) w2).setCell (p := ⟨b + 1, 0, none⟩) rfl _).setCell (p := ⟨b + 1, 1, none⟩) rfl _
  have hown3 := own_keep hown' hk3 (fun g hg e => by
    have := (hown'.lt g hg).1
    omega)
  have hb4 : Below w.heap.size w ((w2.setCell ⟨b + 1, 0, none⟩ (.slice A5 k cp5)).setCell ⟨b + 1, 1, none⟩ (.int .i64 ((min sf k : Nat) : Int))) := (hb3.setCell (p := ⟨b + 1, 0, none⟩) (show w.heap.size ≤ b + 1 by omega) _).setCell (p := ⟨b + 1, 1, none⟩) (show w.heap.size ≤ b + 1 by omega) _
  generalize (w2.setCell ⟨b + 1, 0, none⟩ (.slice A5 k cp5)).setCell ⟨b + 1, 1, none⟩ (.int .i64 ((min sf k : Nat) : Int)) = w4 at *
  clear c0 c1 z0 z1 rb rb1 hb01 hb11 hbY
  go_wp2
  refine bodyPost_ret (v := .agg #[.slice A5 k cp5, .int .i64 ((min sf k : Nat) : Int)]) (by simp [results, Tryz.results70, go_sem, d0, d1]) rfl ⟨a5, cp5, by rw [hA5], own_weak hown3 hbe1.size, hb4⟩

end Go.Proofs.YtikkieaokfailaaGreatDoor
