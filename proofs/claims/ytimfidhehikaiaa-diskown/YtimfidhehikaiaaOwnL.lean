/- A loan: Bytes hands a copy out with marks behind it. -/
import Derived.Test.YtimfidhehikaiaaOwnH
import Derived.Test.YtimfidhehikaiaaFrPlan
import Derived.Test.YtimfidhehikaiaaOwnA
namespace Go.Proofs.Ytimfidhehikaiaa
open Go.RowKit

def marks5 : List Int := [77, 78, 79, 80, 81]
theorem marks5_bd : Bd marks5 := by intro x hx; simp [marks5] at hx; omega
theorem rd_five (w : World) : Rd (w.alloc (.cells #[.int .u8 77, .int .u8 78, .int .u8 79, .int .u8 80, .int .u8 81] 5)) (some ⟨w.heap.size, 0, none⟩) 5 5 marks5 := by
  refine ⟨rfl, Nat.le_refl _, by unfold maxLen; omega, (fun h => by cases h), marks5_bd, fun ad had j hj => ?_⟩
  cases had
  rw [add_flat]
  match j, hj with
  | 0, _ => simp [marks5]
  | 1, _ => simp [marks5]
  | 2, _ => simp [marks5]
  | 3, _ => simp [marks5]
  | 4, _ => simp [marks5]

theorem own_cap {W : World} {lo n m sz g cap : Nat} {e : TypeId} {xs : List Value} (h : W.ownsRow lo e sz (.slice (some ⟨g, 0, none⟩) m cap) n xs) : n ≤ cap := by
  rcases h.2 with ⟨hv, _⟩ | ⟨g, cap', cur, hv, _, _, hc, _⟩
  · cases hv
  · cases hv; exact hc

/-- A loan's cells. -/
def LC (W : World) (p : Nat) (fv wv : Value) : Prop := W.heap[p]? = some (.cells #[fv, wv] 54 (0, 0))
theorem LC.lt {W : World} {p : Nat} {fv wv : Value} (h : LC W p fv wv) : p < W.heap.size := (Array.getElem?_eq_some_iff.1 (show W.heap[p]? = _ from h)).1
theorem LC.c0 {W : World} {p : Nat} {fv wv : Value} (h : LC W p fv wv) : W.cell? ⟨p, 0, none⟩ = some fv := by simp [World.cell?, show W.heap[p]? = _ from h]
theorem LC.c1 {W : World} {p : Nat} {fv wv : Value} (h : LC W p fv wv) : W.cell? ⟨p, 1, none⟩ = some wv := by simp [World.cell?, show W.heap[p]? = _ from h]
theorem LC.fz {W : World} {p : Nat} {fv wv : Value} (h : LC W p fv wv) (j : Nat) : W.frozen? ⟨p, j, none⟩ = false := by simp [World.frozen?, show W.heap[p]? = _ from h]
theorem LC.set0 {W : World} {p : Nat} {fv wv : Value} (h : LC W p fv wv) (u : Value) : LC (W.setCell ⟨p, 0, none⟩ u) p u wv := by
  have h' : W.heap[p]? = _ := h
  show (W.setCell ⟨p, 0, none⟩ u).heap[p]? = _
  simp [World.setCell, Array.getElem?_modify, h']
theorem LC.set1 {W : World} {p : Nat} {fv wv : Value} (h : LC W p fv wv) (u : Value) : LC (W.setCell ⟨p, 1, none⟩ u) p fv u := by
  have h' : W.heap[p]? = _ := h
  show (W.setCell ⟨p, 1, none⟩ u).heap[p]? = _
  simp [World.setCell, Array.getElem?_modify, h']
theorem LC.keep {S : Nat → Prop} {W W' : World} {p : Nat} {fv wv : Value} (h : LC W p fv wv) (hk : Keep S W W') (hs : ¬ S p) : LC W' p fv wv := (hk.block p h.lt hs).trans h

structure LoanAt (w : World) (p : Nat) (fv wv : Value) (fs ws : List Value) (xs : List (List Int)) : Prop where
  cell : LC w p fv wv
  two : Two w fv wv fs ws xs xs
def LF (p : Nat) (fv wv : Value) (fs ws : List Value) (k : Nat) : Prop := k = p ∨ TF fv wv fs ws k
theorem LoanAt.not {w : World} {p : Nat} {fv wv : Value} {fs ws : List Value} {xs ys : List (List Int)} (hc : LC w p fv wv) {fv' wv' : Value} (h : Two w fv' wv' fs ws xs ys) : ¬ TF fv' wv' fs ws p := h.not hc (by decide) (by decide)
theorem LoanAt.keep {S : Nat → Prop} {w w' : World} {p : Nat} {fv wv : Value} {fs ws : List Value} {xs : List (List Int)} (h : LoanAt w p fv wv fs ws xs) (hk : Keep S w w') (hs : ∀ k, LF p fv wv fs ws k → ¬ S k) : LoanAt w' p fv wv fs ws xs :=
  ⟨h.cell.keep hk (hs p (.inl rfl)), h.two.keep hk (fun k e => hs k (.inr e))⟩
theorem LoanAt.lt {w : World} {p : Nat} {fv wv : Value} {fs ws : List Value} {xs : List (List Int)} (h : LoanAt w p fv wv fs ws xs) : ∀ k, LF p fv wv fs ws k → k < w.heap.size := by
  rintro k (rfl | e)
  · exact h.cell.lt
  · exact h.two.lt k e
theorem LoanAt.new (w : World) : LoanAt (w.alloc (.cells #[.slice none 0 0, .slice none 0 0] 54)) w.heap.size (.slice none 0 0) (.slice none 0 0) [] [] [] := ⟨heap_alloc_new w _, Two.nil _⟩

section
variable {P : Program} {ops : Array Oper} {Q : Exit → Act → World → Prop} {S : World → Prop}
theorem px_via {fuel : Nat} {listed : Array Bool} {a : Act} {w : World} (fuel' : Nat) (listed' : Array Bool) (a' : Act) (w' : World) (H : PX P ops Q S fuel' listed' a' w' → PX P ops Q S fuel listed a w) (h : PX P ops Q S fuel' listed' a' w') : PX P ops Q S fuel listed a w := H h
theorem stepP_skip {i : Nat} {K : Act → World → Prop} {a : Act} {w w' : World} {o : Oper} (ho : ops[i]? = some o) (hd : o.dst = none) (hw : Region.wanted o (yielded ops a.tmps) = true)
    (hrun : (execOp a.eval o).run P w = .ok .skip w') (hS : S w') (h : K a w') : stepP P ops Q S i K a w := by
  unfold stepP wpOp
  rw [ho]
  simp only
  rw [if_pos hw]
  refine .inl ?_
  unfold Oper.wp
  rw [hrun, Oper.upon_skip, hd]
  exact ⟨hS, h⟩
end

set_option maxHeartbeats 1600000 in
theorem loanBytes_any (p : Nat) (fv wv : Value) (fs ws : List Value) (xs : List (List Int)) (a : Option Addr) (n c : Nat) (ys : List Int) (w : World) (hL : LoanAt w p fv wv fs ws xs) (hR : Rd w a n c ys) (hn : n ≤ 1000000) (hf : fs.length ≤ 1000000) (hw : ws.length ≤ 1000000) :
    Calls Try.prog 19 #[.pointer (some ⟨p, 0, none⟩), .slice a n c] w fun e w' => ∃ g cap fv' wv' wl, e = .returned (.slice (some ⟨g, 0, none⟩) n cap) ∧ LoanAt w' p fv' wv' (fs ++ [.slice (some ⟨g, 0, none⟩) (n + 5) cap]) (ws ++ [wl]) (xs ++ [ys ++ marks5]) ∧ Rd w' (some ⟨g, 0, none⟩) n cap ys ∧ w.heap.size ≤ g ∧
      (∀ k, LF p fv' wv' (fs ++ [.slice (some ⟨g, 0, none⟩) (n + 5) cap]) (ws ++ [wl]) k → LF p fv wv fs ws k ∨ w.heap.size ≤ k) ∧ Keep (LF p fv wv fs ws) w w' := by
  obtain ⟨hC, hT⟩ := hL
  obtain ⟨af, cf, rfl⟩ := own_sl hT.f.row
  obtain ⟨aw, cw, rfl⟩ := own_sl hT.g.row
  have hyl := hR.len
  have t1 : True := trivial
  have t2 : True := trivial
  go_enter Try.func19, Try.ntmps19
  go_upto_region 3 with (first
    | (at_builtin; clear t1; refine wp_app0K rfl _ _ rfl rfl a n c ys rfl hR (by omega) ?_; intro v1 w1 hown1 hb1 hv1; obtain ⟨g1, cap1, rfl⟩ := hv1)
    | (at_builtin; clear t2; refine wp_appK rfl _ _ rfl w.heap.size _ n ys rfl (hown1.alloc _) _ 5 5 _ rfl (rd_five w1) (by omega) (by have := hb1.size; simp; omega) ?_; intro v2 w2 hown2 hgr2 _; have hb2 : Below w.heap.size w w2 := (hb1.alloc hb1.size _).grown hgr2 (by have := hb1.size; simp; omega) (fun k e => (hown1.lt k e).1); obtain ⟨g2, cap2, rfl⟩ := ownsRow_succ (k := n + 4) hown2; have hC2 : LC w2 p _ _ := (hb2.block p hC.lt).trans hC; have hx0 := hC2.c0; have hT2 := hT.keep (S := fun _ => False) (Keep.ofBelow hb2) (fun _ _ h => h))
    | (at_builtin; refine wp_row rfl _ _ rfl _ _ fs rfl hT2.f.row (.slice (some ⟨g2, 0, none⟩) (n + 5) cap2) rfl rfl (by omega) ?_; intro g3 cap3 w3 hown3 hk3 hp3; have hC3 : LC w3 p _ _ := hC2.keep hk3 (fun e => (LoanAt.not hC2 hT2) (.inl (.inl e))); have hx1 := hC3.c0; have hx2 := hC3.fz 0))
  have hC2' : LC w2 p (.slice af fs.length cf) (.slice aw ws.length cw) := hC2
  have hk3' : Keep (fun k => (Value.slice af fs.length cf).ownBlock = some k) w2 w3 := hk3
  have hp3' : (Value.slice af fs.length cf).ownBlock = some g3 ∨ w2.heap.size ≤ g3 := hp3
  have hu2 : Ow w2 (.slice (some ⟨g2, 0, none⟩) (n + 5) cap2) (ys ++ marks5) := Ow.ofFrom hown2 (hR.bytes.append marks5_bd)
  have hg2 : w.heap.size ≤ g2 := (hown2.lt g2 rfl).1
  clear hk3 hp3 hgr2 hx0 hx1 hx2 hown1 hb1 hC2
  have hs2 := hb2.size
  have hT3 := hT2.addF hu2 (fun k e e2 => absurd (hT.lt k e2) (by have e' : g2 = k := Option.some.inj e; omega)) hown3 hk3' (fun k e => by cases e; exact hp3')
  have hC4 := hC3.set0 (.slice (some ⟨g3, 0, none⟩) (fs.length + 1) cap3)
  have hkp : Keep (fun k => k = p) w3 (w3.setCell ⟨p, 0, none⟩ (.slice (some ⟨g3, 0, none⟩) (fs.length + 1) cap3)) := Keep.setCell (S := fun k => k = p) (Keep.refl _ _) rfl _
  have hT4 := hT3.keep hkp (fun k e h => LoanAt.not hC3 hT3 (by rw [← h]; exact e))
  have hK4 : Keep (LF p (.slice af fs.length cf) (.slice aw ws.length cw) fs ws) w (w3.setCell ⟨p, 0, none⟩ (.slice (some ⟨g3, 0, none⟩) (fs.length + 1) cap3)) := ((Keep.ofBelow hb2).andThen hk3' (fun i _ e => .inr (.inl (.inl e)))).andThen hkp (fun i _ e => .inl e)
  have hu4 := hT4.f.ows
  generalize (w3.setCell ⟨p, 0, none⟩ (.slice (some ⟨g3, 0, none⟩) (fs.length + 1) cap3)) = w4 at hC4 hT4 hK4 hu4 ⊢
  have hCB : LC w4.drew p (.slice (some ⟨g3, 0, none⟩) (fs.length + 1) cap3) (.slice aw ws.length cw) := hC4
  have hTB := hT4.keep (S := fun _ => False) (Keep.refl _ w4).drew (fun _ _ h => h)
  have hKB := hK4.drew
  refine wp_region_px (fun _ => True) 13 (by kernel_rfl) (by kernel_rfl) ?_
  generalize w4.drew = WB at hCB hTB hKB
  have hgl : (fs ++ [.slice (some ⟨g2, 0, none⟩) (n + 5) cap2])[fs.length]? = some (.slice (some ⟨g2, 0, none⟩) (n + 5) cap2) := by simp
  have huB := hTB.f.ows.get hgl
  have hxB : (xs ++ [ys ++ marks5]).getD fs.length [] = ys ++ marks5 := by rw [hT.f.ows.len]; simp [List.getD]
  rw [hxB] at huB
  have hl5 : (ys ++ marks5).length = n + 5 := by rw [List.length_append, hyl]; rfl
  have hoB := huB.own
  rw [hl5] at hoB
  obtain ⟨_, _, hv, hrB⟩ := Rd.ofOwn hoB huB.bd
  cases hv
  have hC5 : LC (WB.alloc (.cells #[] 5)) p _ _ := (Below.heap_alloc _ _ _ hCB.lt).trans hCB
  have hT5 := hTB.keep (S := fun _ => False) ((Keep.refl _ WB).alloc (.cells #[] 5)) (fun _ _ h => h)
  have hr5 := hrB.keep (S := fun _ => False) ((Keep.refl _ WB).alloc (.cells #[] 5)) (fun _ _ h => h)
  have ho5 : (WB.alloc (.cells #[] 5)).ownsRow WB.heap.size 5 1 (.slice (some ⟨WB.heap.size, 0, none⟩) 0 0) 0 (bc []) := World.ownsRow_made WB #[] 0 (Nat.le_refl _) (by unfold maxLen; omega) rfl
  obtain ⟨W5, HW5⟩ : ∃ W5, Hid (W5 = WB.alloc (.cells #[] 5)) := ⟨_, rfl⟩
  have hK5 := hKB.alloc (.cells #[] 5)
  have hs5 : W5.heap.size = WB.heap.size + 1 := by rw [HW5.out]; simp
  rw [← HW5.out] at hC5 hT5 hr5 ho5 hK5
  obtain ⟨v7, W7, hrun7, ho7, hg7, hw7⟩ := run_bytes 31 ho5 hr5 (by omega) (by omega)
  rw [List.nil_append, Nat.zero_add] at ho7
  have hk7 := Keep.ofGrown hg7
  have hnew7 : ∀ k, (Value.slice (some ⟨WB.heap.size, 0, none⟩) 0 0).ownBlock = some k → k = WB.heap.size := fun k e => by cases e; rfl
  have hC7 := hC5.keep hk7 (fun e => by have := hnew7 p e; have := hCB.lt; omega)
  have hT7 := hT5.keep hk7 (fun k e e2 => by have := hnew7 k e2; have := hTB.lt k e; omega)
  have hu7 : Ow W7 v7 (ys ++ marks5) := Ow.ofFrom ho7 (hR.bytes.append marks5_bd)
  have hlo7 : ∀ k, v7.ownBlock = some k → WB.heap.size ≤ k := fun k e => (ho7.lt k e).1
  obtain ⟨a7, c7, hv7⟩ := own_sl ho7
  subst hv7
  have hK7 : Keep (LF p (.slice af fs.length cf) (.slice aw ws.length cw) fs ws) w W7 := hK5.andThen hk7 (fun i hi e => by have := hnew7 i e; have := hKB.size; omega)
  have hs7 := hk7.size
  obtain ⟨W8, HW8⟩ : ∃ W8, Hid (W8 = W7.alloc (.cells #[.slice a7 (n + 5) c7] 31)) := ⟨_, rfl⟩
  have hC8 : LC W8 p (.slice (some ⟨g3, 0, none⟩) (fs.length + 1) cap3) (.slice aw ws.length cw) := by rw [HW8.out]; exact (Below.heap_alloc _ _ _ hC7.lt).trans hC7
  have hT8 := hT7.keep (S := fun _ => False) ((Keep.refl _ W7).alloc (.cells #[.slice a7 (n + 5) c7] 31)) (fun _ _ h => h)
  have hu8 := hu7.keep (S := fun _ => False) ((Keep.refl _ W7).alloc (.cells #[.slice a7 (n + 5) c7] 31)) (fun _ _ h => h)
  have hK8 := hK7.alloc (.cells #[.slice a7 (n + 5) c7] 31)
  have hb8 : W8.heap[W7.heap.size]? = some (.cells #[.slice a7 (n + 5) c7] 31 (0, 0)) := by rw [HW8.out]; exact heap_alloc_new _ _
  have hs8 : W8.heap.size = W7.heap.size + 1 := by rw [HW8.out]; simp
  rw [← HW8.out] at hT8 hu8 hK8
  obtain ⟨g9, cap9, W9, hrun9, ho9, hk9, hp9⟩ := run_row (w := W8) 40 hT8.g.row hb8 rfl (by omega)
  have hC9 := hC8.keep hk9 (fun e => LoanAt.not hC8 hT8 (.inr (.inl e)))
  have hT9 := hT8.addG hu8 (fun k e e2 => by have := hlo7 k e; have := hTB.f.lt k e2; omega) ho9 hk9 (fun k e => by cases e; exact hp9)
  have hx1 := hC9.c1
  have hx2 := hC9.fz 1
  have hkE : Keep (fun k => k = p) W9 (W9.setCell ⟨p, 1, none⟩ (.slice (some ⟨g9, 0, none⟩) (ws.length + 1) cap9)) := Keep.setCell (S := fun k => k = p) (Keep.refl _ _) rfl _
  have hCE := hC9.set1 (.slice (some ⟨g9, 0, none⟩) (ws.length + 1) cap9)
  have hTE := hT9.keep hkE (fun k e h => LoanAt.not hC9 hT9 (by rw [← h]; exact e))
  have hKE : Keep (LF p (.slice af fs.length cf) (.slice aw ws.length cw) fs ws) w (W9.setCell ⟨p, 1, none⟩ (.slice (some ⟨g9, 0, none⟩) (ws.length + 1) cap9)) := (hK8.andThen hk9 (fun i hi e => .inr (.inr (.inl e)))).andThen hkE (fun i _ e => .inl e)
  refine px_rd 0 ?v0 (by kernel_rfl) (fun _ _ d _ _ h => by cases d <;> exact h) (by kernel_rfl) trivial rfl rfl rfl (fun w' _ => ?h0) ?_
  case h0 => first | (go_simp; rfl) | go_simp
  simp only [List.setIfInBounds_toArray, List.set_cons_zero, List.set_cons_succ]
  refine px_rd 1 ?v1 (by kernel_rfl) (fun _ _ d _ _ h => by cases d <;> exact h) (by kernel_rfl) trivial rfl rfl rfl (fun w' _ => ?h1) ?_
  case h1 => first | (go_simp; rfl) | go_simp
  simp only [List.setIfInBounds_toArray, List.set_cons_zero, List.set_cons_succ]
  refine px_rd 2 ?v2 (by kernel_rfl) (fun _ _ d _ _ h => by cases d <;> exact h) (by kernel_rfl) trivial rfl rfl rfl (fun w' _ => ?h2) ?_
  case h2 => first | (go_simp; rfl) | go_simp
  simp only [List.setIfInBounds_toArray, List.set_cons_zero, List.set_cons_succ]
  refine px_rd 3 ?v3 (by kernel_rfl) (fun _ _ d _ _ h => by cases d <;> exact h) (by kernel_rfl) trivial rfl rfl rfl (fun w' _ => ?h3) ?_
  case h3 => first | (go_simp; rfl) | go_simp
  simp only [List.setIfInBounds_toArray, List.set_cons_zero, List.set_cons_succ]
  refine px_rd 6 ?v6 (by kernel_rfl) (fun _ _ d _ _ h => by cases d <;> exact h) (by kernel_rfl) trivial rfl rfl rfl (fun w' _ => ?h6) ?_
  case h6 => first | (go_simp; rfl) | go_simp
  simp only [List.setIfInBounds_toArray, List.set_cons_zero, List.set_cons_succ]
  refine px_via 4 ?ll ?aa W8 (fun tail => ?br) ?tl
  case br =>
    refine px_two 4 5 (by kernel_rfl) ?pA ?pB
    case pA =>
      refine stepP_val (w' := WB) (.slice aw ws.length cw) rfl rfl rfl ?eA4 trivial ?_
      case eA4 => have hq := hCB.c1; first | (go_simp; rfl) | go_simp
      simp only [List.setIfInBounds_toArray, List.set_cons_zero, List.set_cons_succ]
      refine px_one 5 (by kernel_rfl) ?_
      refine stepP_val (w' := W5) (.slice (some ⟨WB.heap.size, 0, none⟩) 0 0) rfl rfl rfl ?eA5 trivial ?_
      case eA5 => first | (rw [HW5.out]; go_simp; rfl) | (rw [HW5.out]; go_simp)
      simp only [List.setIfInBounds_toArray, List.set_cons_zero, List.set_cons_succ]
      refine px_one 7 (by kernel_rfl) ?_
      refine stepP_val (w' := W7) (.slice a7 (n + 5) c7) rfl rfl rfl ?eA7 trivial ?_
      case eA7 => exact run_app_op' rfl rfl rfl hrun7
      simp only [List.setIfInBounds_toArray, List.set_cons_zero, List.set_cons_succ]
      refine px_one 8 (by kernel_rfl) ?_
      refine stepP_val (w' := W8) (.slice (some ⟨W7.heap.size, 0, none⟩) 1 1) rfl rfl rfl ?eA8 trivial ?_
      case eA8 => first | (rw [HW8.out]; go_simp; rfl) | (rw [HW8.out]; go_simp)
      simp only [List.setIfInBounds_toArray, List.set_cons_zero, List.set_cons_succ]
      exact tail
    case pB =>
      refine stepP_val (w' := W5) (.slice (some ⟨WB.heap.size, 0, none⟩) 0 0) rfl rfl rfl ?eB5 trivial ?_
      case eB5 => first | (rw [HW5.out]; go_simp; rfl) | (rw [HW5.out]; go_simp)
      simp only [List.setIfInBounds_toArray, List.set_cons_zero, List.set_cons_succ]
      refine px_two 4 7 (by kernel_rfl) ?pC ?pD
      case pC =>
        refine stepP_val (w' := W5) (.slice aw ws.length cw) rfl rfl rfl ?eC4 trivial ?_
        case eC4 => have hq := hC5.c1; first | (go_simp; rfl) | go_simp
        simp only [List.setIfInBounds_toArray, List.set_cons_zero, List.set_cons_succ]
        refine px_one 7 (by kernel_rfl) ?_
        refine stepP_val (w' := W7) (.slice a7 (n + 5) c7) rfl rfl rfl ?eC7 trivial ?_
        case eC7 => exact run_app_op' rfl rfl rfl hrun7
        simp only [List.setIfInBounds_toArray, List.set_cons_zero, List.set_cons_succ]
        refine px_one 8 (by kernel_rfl) ?_
        refine stepP_val (w' := W8) (.slice (some ⟨W7.heap.size, 0, none⟩) 1 1) rfl rfl rfl ?eC8 trivial ?_
        case eC8 => first | (rw [HW8.out]; go_simp; rfl) | (rw [HW8.out]; go_simp)
        simp only [List.setIfInBounds_toArray, List.set_cons_zero, List.set_cons_succ]
        exact tail
      case pD =>
        refine stepP_val (w' := W7) (.slice a7 (n + 5) c7) rfl rfl rfl ?eD7 trivial ?_
        case eD7 => exact run_app_op' rfl rfl rfl hrun7
        simp only [List.setIfInBounds_toArray, List.set_cons_zero, List.set_cons_succ]
        refine px_two 4 8 (by kernel_rfl) ?pE ?pF
        case pE =>
          refine stepP_val (w' := W7) (.slice aw ws.length cw) rfl rfl rfl ?eE4 trivial ?_
          case eE4 => have hq := hC7.c1; first | (go_simp; rfl) | go_simp
          simp only [List.setIfInBounds_toArray, List.set_cons_zero, List.set_cons_succ]
          refine px_one 8 (by kernel_rfl) ?_
          refine stepP_val (w' := W8) (.slice (some ⟨W7.heap.size, 0, none⟩) 1 1) rfl rfl rfl ?eE8 trivial ?_
          case eE8 => first | (rw [HW8.out]; go_simp; rfl) | (rw [HW8.out]; go_simp)
          simp only [List.setIfInBounds_toArray, List.set_cons_zero, List.set_cons_succ]
          exact tail
        case pF =>
          refine stepP_val (w' := W8) (.slice (some ⟨W7.heap.size, 0, none⟩) 1 1) rfl rfl rfl ?eF8 trivial ?_
          case eF8 => first | (rw [HW8.out]; go_simp; rfl) | (rw [HW8.out]; go_simp)
          simp only [List.setIfInBounds_toArray, List.set_cons_zero, List.set_cons_succ]
          refine px_one 4 (by kernel_rfl) ?_
          refine stepP_val (w' := W8) (.slice aw ws.length cw) rfl rfl rfl ?eF4 trivial ?_
          case eF4 => have hq := hC8.c1; first | (go_simp; rfl) | go_simp
          simp only [List.setIfInBounds_toArray, List.set_cons_zero, List.set_cons_succ]
          exact tail
  case tl =>
    refine px_one 9 (by kernel_rfl) ?_
    refine stepP_val (w' := W9) (.slice (some ⟨g9, 0, none⟩) (ws.length + 1) cap9) rfl rfl rfl ?eT9 trivial ?_
    case eT9 => exact run_app_op' rfl rfl rfl hrun9
    simp only [List.setIfInBounds_toArray, List.set_cons_zero, List.set_cons_succ]
    refine px_rd 10 ?v10 (by kernel_rfl) (fun _ _ d _ _ h => by cases d <;> exact h) (by kernel_rfl) trivial rfl rfl rfl (fun w' _ => ?h10) ?_
    case h10 => first | (go_simp; rfl) | go_simp
    simp only [List.setIfInBounds_toArray, List.set_cons_zero, List.set_cons_succ]
    refine px_rd 11 ?v11 (by kernel_rfl) (fun _ _ d _ _ h => by cases d <;> exact h) (by kernel_rfl) trivial rfl rfl rfl (fun w' _ => ?h11) ?_
    case h11 => first | (go_simp; rfl) | go_simp
    simp only [List.setIfInBounds_toArray, List.set_cons_zero, List.set_cons_succ]
    refine px_one 12 (by kernel_rfl) ?_
    refine stepP_skip (w' := W9.setCell ⟨p, 1, none⟩ (.slice (some ⟨g9, 0, none⟩) (ws.length + 1) cap9)) rfl rfl rfl ?e12 trivial ?_
    case e12 => first | (go_simp; rfl) | go_simp
    refine px_nil (by kernel_rfl) ?_
    have hcap2 := own_cap hown2
    have hcz : (n : Int) ≤ (cap2 : Int) := by omega
    have hcz5 : (n : Int) ≤ (n : Int) + 4 + 1 := by omega
    go_wp2
    go_ret
    have hoE := (hTE.f.ows.get hgl)
    rw [hxB] at hoE
    have hoE' := hoE.own
    rw [hl5] at hoE'
    obtain ⟨_, _, hvE, hrE⟩ := Rd.ofOwn hoE' hoE.bd
    cases hvE
    have hrE' := hrE.takeK (k := n) (by omega)
    rw [List.take_left' hyl] at hrE'
    have hsB := hKB.size
    refine ⟨g2, cap2, _, _, _, rfl, ⟨hCE, hTE⟩, hrE', hg2, ?_, hKE⟩
    rintro k (rfl | e | e)
    · exact .inl (.inl rfl)
    · rcases HF.snoc (B := w.heap.size) (fv := .slice af fs.length cf) (fun k e => by have e' : g3 = k := Option.some.inj e; subst e'; exact hp3'.imp id (fun h => by omega)) k e with e | e | e
      · exact .inl (.inr (.inl e))
      · exact .inr (by have e' : g2 = k := Option.some.inj e; omega)
      · exact .inr e
    · rcases HF.snoc (B := w.heap.size) (fv := .slice aw ws.length cw) (fun k e => by have e' : g9 = k := Option.some.inj e; subst e'; exact hp9.imp id (fun h => by omega)) k e with e | e | e
      · exact .inl (.inr (.inr e))
      · exact .inr (by have := hlo7 k e; omega)
      · exact .inr e

end Go.Proofs.Ytimfidhehikaiaa
