/- A book: Bytes takes a list in, beside a copy of it. -/
import Derived.Test.YtimfidhehikaiaaOwnM
namespace Go.Proofs.Ytimfidhehikaiaa
open Go.RowKit

/-- A book's cells. -/
def BC (W : World) (p : Nat) (fv wv ov mv : Value) (N : Nat) : Prop := W.heap[p]? = some (.cells #[fv, wv, ov, mv, .int .i64 N] 57 (0, 0))
theorem BC.lt {W : World} {p N : Nat} {fv wv ov mv : Value} (h : BC W p fv wv ov mv N) : p < W.heap.size := (Array.getElem?_eq_some_iff.1 (show W.heap[p]? = _ from h)).1
theorem BC.c0 {W : World} {p N : Nat} {fv wv ov mv : Value} (h : BC W p fv wv ov mv N) : W.cell? ⟨p, 0, none⟩ = some fv := by simp [World.cell?, show W.heap[p]? = _ from h]
theorem BC.c1 {W : World} {p N : Nat} {fv wv ov mv : Value} (h : BC W p fv wv ov mv N) : W.cell? ⟨p, 1, none⟩ = some wv := by simp [World.cell?, show W.heap[p]? = _ from h]
theorem BC.c2 {W : World} {p N : Nat} {fv wv ov mv : Value} (h : BC W p fv wv ov mv N) : W.cell? ⟨p, 2, none⟩ = some ov := by simp [World.cell?, show W.heap[p]? = _ from h]
theorem BC.c3 {W : World} {p N : Nat} {fv wv ov mv : Value} (h : BC W p fv wv ov mv N) : W.cell? ⟨p, 3, none⟩ = some mv := by simp [World.cell?, show W.heap[p]? = _ from h]
theorem BC.c4 {W : World} {p N : Nat} {fv wv ov mv : Value} (h : BC W p fv wv ov mv N) : W.cell? ⟨p, 4, none⟩ = some (.int .i64 N) := by simp [World.cell?, show W.heap[p]? = _ from h]
theorem BC.fz {W : World} {p N : Nat} {fv wv ov mv : Value} (h : BC W p fv wv ov mv N) (j : Nat) : W.frozen? ⟨p, j, none⟩ = false := by simp [World.frozen?, show W.heap[p]? = _ from h]
theorem BC.set0 {W : World} {p N : Nat} {fv wv ov mv : Value} (h : BC W p fv wv ov mv N) (u : Value) : BC (W.setCell ⟨p, 0, none⟩ u) p u wv ov mv N := by
  have h' : W.heap[p]? = _ := h
  show (W.setCell ⟨p, 0, none⟩ u).heap[p]? = _
  simp [World.setCell, Array.getElem?_modify, h']
theorem BC.set1 {W : World} {p N : Nat} {fv wv ov mv : Value} (h : BC W p fv wv ov mv N) (u : Value) : BC (W.setCell ⟨p, 1, none⟩ u) p fv u ov mv N := by
  have h' : W.heap[p]? = _ := h
  show (W.setCell ⟨p, 1, none⟩ u).heap[p]? = _
  simp [World.setCell, Array.getElem?_modify, h']
theorem BC.set2 {W : World} {p N : Nat} {fv wv ov mv : Value} (h : BC W p fv wv ov mv N) (u : Value) : BC (W.setCell ⟨p, 2, none⟩ u) p fv wv u mv N := by
  have h' : W.heap[p]? = _ := h
  show (W.setCell ⟨p, 2, none⟩ u).heap[p]? = _
  simp [World.setCell, Array.getElem?_modify, h']
theorem BC.set3 {W : World} {p N : Nat} {fv wv ov mv : Value} (h : BC W p fv wv ov mv N) (u : Value) : BC (W.setCell ⟨p, 3, none⟩ u) p fv wv ov u N := by
  have h' : W.heap[p]? = _ := h
  show (W.setCell ⟨p, 3, none⟩ u).heap[p]? = _
  simp [World.setCell, Array.getElem?_modify, h']
theorem BC.set4 {W : World} {p N : Nat} {fv wv ov mv : Value} (h : BC W p fv wv ov mv N) (M : Nat) : BC (W.setCell ⟨p, 4, none⟩ (.int .i64 M)) p fv wv ov mv M := by
  have h' : W.heap[p]? = _ := h
  show (W.setCell ⟨p, 4, none⟩ (.int .i64 M)).heap[p]? = _
  simp [World.setCell, Array.getElem?_modify, h']
theorem BC.keep {S : Nat → Prop} {W W' : World} {p N : Nat} {fv wv ov mv : Value} (h : BC W p fv wv ov mv N) (hk : Keep S W W') (hs : ¬ S p) : BC W' p fv wv ov mv N := (hk.block p h.lt hs).trans h

structure BookAt (w : World) (p : Nat) (fv wv : Value) (fs ws : List Value) (ys : List (List Int)) (N : Nat) : Prop where
  cell : BC w p fv wv (.slice none 0 0) (.slice none 0 0) N
  two : Two w fv wv fs ws ys ys
  len : fs.length ≤ N
  most : N ≤ 2000000
  each : ∀ x ∈ ys, x.length ≤ 1000000
def BF (p : Nat) (fv wv : Value) (fs ws : List Value) (k : Nat) : Prop := k = p ∨ TF fv wv fs ws k
theorem BookAt.not {w : World} {p N : Nat} {fv wv ov mv : Value} {fs ws : List Value} {xs ys : List (List Int)} (hc : BC w p fv wv ov mv N) {fv' wv' : Value} (h : Two w fv' wv' fs ws xs ys) : ¬ TF fv' wv' fs ws p := h.not hc (by decide) (by decide)
theorem BookAt.keep {S : Nat → Prop} {w w' : World} {p N : Nat} {fv wv : Value} {fs ws : List Value} {ys : List (List Int)} (h : BookAt w p fv wv fs ws ys N) (hk : Keep S w w') (hs : ∀ k, BF p fv wv fs ws k → ¬ S k) : BookAt w' p fv wv fs ws ys N :=
  ⟨h.cell.keep hk (hs p (.inl rfl)), h.two.keep hk (fun k e => hs k (.inr e)), h.len, h.most, h.each⟩
theorem BookAt.lt {w : World} {p N : Nat} {fv wv : Value} {fs ws : List Value} {ys : List (List Int)} (h : BookAt w p fv wv fs ws ys N) : ∀ k, BF p fv wv fs ws k → k < w.heap.size := by
  rintro k (rfl | e)
  · exact h.cell.lt
  · exact h.two.lt k e
theorem BookAt.new (w : World) : BookAt (w.alloc (.cells #[.slice none 0 0, .slice none 0 0, .slice none 0 0, .slice none 0 0, .int .i64 0] 57)) w.heap.size (.slice none 0 0) (.slice none 0 0) [] [] [] 0 := ⟨heap_alloc_new w _, Two.nil _, Nat.le_refl _, by omega, (fun x hx => by cases hx)⟩

theorem wp_row' {w : World} {ops : Array Oper} {rest : List Oper} {o : Oper} {a : Act} {Q : Exit → Act → World → Prop} (hgd : o.guard = none) (s x : Operand)
    (ho : o.op = .call { callee := .builtin .append, args := #[s, x], argTypes := #[40, 40] })
    (v : Value) (n : Nat) (vs : List Value) (hs : a.eval s = v) (hown : w.ownsRow 0 31 1 v n vs) (u : Value) (b : Nat) (hx : a.eval x = .slice (some ⟨b, 0, none⟩) 1 1) (hb0 : b = w.heap.size) (h1 : u.oneCell' = true) (hb : n + 1 ≤ 1000000000)
    (h : ∀ g cap w', w'.ownsRow 0 31 1 (.slice (some ⟨g, 0, none⟩) (n + 1) cap) (n + 1) (vs ++ [u]) → Keep (fun k => v.ownBlock = some k) w w' → (v.ownBlock = some g ∨ w.heap.size ≤ g) → wpList Try.prog ops Q rest (a.put o.dst (.slice (some ⟨g, 0, none⟩) (n + 1) cap)) w') : wpList Try.prog ops Q (o :: rest) a (w.alloc (.cells #[u] 31)) := by
  subst hb0
  exact wp_row hgd s x ho v n vs hs hown u hx h1 hb h

theorem full_any (p N : Nat) (fv wv ov mv : Value) (w : World) (hC : BC w p fv wv ov mv N) : Calls Try.prog 57 #[.pointer (some ⟨p, 0, none⟩)] w fun e w' => e = .returned (.bool (decide (200000 < N))) ∧ w' = w := by
  have hc := hC.c4
  by_cases h : (200000 : Int) < (N : Int)
  · go_enter Try.func57, Try.ntmps57
    go_wp2
    go_ret
    exact ⟨by rw [decide_eq_true (by omega : 200000 < N)]; rfl, rfl⟩
  · go_enter Try.func57, Try.ntmps57
    go_wp2
    go_ret
    exact ⟨by rw [decide_eq_false (by omega : ¬ 200000 < N)]; rfl, rfl⟩

set_option maxHeartbeats 1600000 in
theorem bookBytes_any (p N : Nat) (fv wv : Value) (fs ws : List Value) (xs : List (List Int)) (u : Value) (x : List Int) (w : World) (hB : BookAt w p fv wv fs ws xs N) (hu : Ow w u x) (hun : ∀ k, u.ownBlock = some k → ¬ BF p fv wv fs ws k) (hx : x.length ≤ 1000000) :
    Calls Try.prog 21 #[.pointer (some ⟨p, 0, none⟩), u] w fun e w' => ∃ r fv' wv' fs' ws' xs' N', e = .returned r ∧ BookAt w' p fv' wv' fs' ws' xs' N' ∧
      (∀ k, BF p fv' wv' fs' ws' k → BF p fv wv fs ws k ∨ u.ownBlock = some k ∨ w.heap.size ≤ k) ∧ Keep (BF p fv wv fs ws) w w' := by
  obtain ⟨hC, hT, hlen, hmost, heach⟩ := hB
  obtain ⟨af, cf, rfl⟩ := own_sl hT.f.row
  obtain ⟨aw, cw, rfl⟩ := own_sl hT.g.row
  have hwl : ws.length = fs.length := hT.g.ows.len.trans hT.f.ows.len.symm
  have hf : fs.length ≤ 2000000 := by omega
  have hw : ws.length ≤ 2000000 := by omega
  have HWL : Hid (ws.length = fs.length) := hwl
  clear hwl
  obtain ⟨n, hxl⟩ : ∃ n, x.length = n := ⟨_, rfl⟩
  obtain ⟨au, cu, rfl, hR⟩ := hu.rd
  rw [hxl] at hu hun hR hx ⊢
  have HXL : Hid (x.length = n) := hxl
  clear hxl
  by_cases hN : 200000 < N
  · go_enter Try.func21, Try.ntmps21
    go_wp2_with (go_at_call 57; refine (full_any p N _ _ _ _ _ hC).mono ?_; rintro e w1 ⟨rfl, hw1⟩; rw [decide_eq_true hN, hw1]; clear hw1)
    (try simp only [Exit.inBlock, Exit.then])
    first | refine bodyPost_ret (results_none rfl _ _ _) rfl ?_ | refine bodyPost_end (results_none rfl _ _ _) rfl ?_
    exact ⟨_, _, _, _, _, _, _, rfl, ⟨hC, hT, hlen, hmost, heach⟩, fun k e => .inl e, Keep.refl _ _⟩
  · have hN1 : N + n + 1 ≤ 2000000 := by omega
    obtain ⟨N1, HN1⟩ : ∃ N1, Hid (N1 = N + n + 1) := ⟨_, rfl⟩
    have hx4 := hC.c4
    have hf4 := hC.fz 4
    have hz1 : ((N : Int) + n + 1) = ((N1 : Nat) : Int) := by have := HN1.out; omega
    have hC1 := hC.set4 N1
    have hkq : Keep (fun k => k = p) w (w.setCell ⟨p, 4, none⟩ (.int .i64 (N1 : Int))) := Keep.setCell (S := fun k => k = p) (Keep.refl _ _) rfl _
    have hT1 := hT.keep hkq (fun k e h => BookAt.not hC hT (by rw [← h]; exact e))
    have hu1 := hu.keep hkq (fun k e h => hun k e (.inl h))
    have hy0 := hC1.c0
    go_enter Try.func21, Try.ntmps21
    go_upto_region 3 with (first
      | (go_at_call 57; refine (full_any p N _ _ _ _ _ hC).mono ?_; rintro e w1 ⟨rfl, hw1⟩; rw [decide_eq_false hN, hw1]; clear hw1)
      | (at_builtin; refine wp_row' rfl _ _ rfl _ _ fs rfl hT1.f.row (.slice au n cu) _ rfl (by simp [World.setCell]) rfl (by omega) ?_; intro g3 cap3 w3 hown3 hk3 hp3; have hC3 := hC1.keep hk3 (fun e => (BookAt.not hC1 hT1) (.inl (.inl e))); have hx1 := hC3.c0; have hx2 := hC3.fz 0))
    have hk3' : Keep (fun k => (Value.slice af fs.length cf).ownBlock = some k) (w.setCell ⟨p, 4, none⟩ (.int .i64 (N1 : Int))) w3 := hk3
    have hp3' : (Value.slice af fs.length cf).ownBlock = some g3 ∨ w.heap.size ≤ g3 := hp3.imp id (fun h => by simpa [World.setCell] using h)
    have hsz1 : (w.setCell ⟨p, 4, none⟩ (.int .i64 (N1 : Int))).heap.size = w.heap.size := by simp [World.setCell]
    clear hk3 hp3 hx1 hx2 hx4 hf4 hz1 hy0
    have hT3 := hT1.addF hu1 (fun k e e2 => hun k e (.inr e2)) hown3 hk3' (fun k e => by have e' : g3 = k := Option.some.inj e; subst e'; rw [hsz1]; exact hp3')
    have hC4 := hC3.set0 (.slice (some ⟨g3, 0, none⟩) (fs.length + 1) cap3)
    have hkp : Keep (fun k => k = p) w3 (w3.setCell ⟨p, 0, none⟩ (.slice (some ⟨g3, 0, none⟩) (fs.length + 1) cap3)) := Keep.setCell (S := fun k => k = p) (Keep.refl _ _) rfl _
    have hT4 := hT3.keep hkp (fun k e h => BookAt.not hC3 hT3 (by rw [← h]; exact e))
    have hK4 : Keep (BF p (.slice af fs.length cf) (.slice aw ws.length cw) fs ws) w (w3.setCell ⟨p, 0, none⟩ (.slice (some ⟨g3, 0, none⟩) (fs.length + 1) cap3)) := ((hkq.mono (fun i e => .inl e)).andThen hk3' (fun i _ e => .inr (.inl (.inl e)))).andThen hkp (fun i _ e => .inl e)
    generalize (w3.setCell ⟨p, 0, none⟩ (.slice (some ⟨g3, 0, none⟩) (fs.length + 1) cap3)) = w4 at hC4 hT4 hK4 ⊢
    clear hC3 hT3 hkp hk3' hT1 hu1 hC1 hkq
    have hCB : BC w4.drew p (.slice (some ⟨g3, 0, none⟩) (fs.length + 1) cap3) (.slice aw ws.length cw) (.slice none 0 0) (.slice none 0 0) N1 := hC4
    have hTB := hT4.keep (S := fun _ => False) (Keep.refl _ w4).drew (fun _ _ h => h)
    have hKB := hK4.drew
    refine wp_region_px (fun _ => True) 13 (by kernel_rfl) (by kernel_rfl) ?_
    generalize w4.drew = WB at hCB hTB hKB
    have hgl : (fs ++ [.slice au n cu])[fs.length]? = some (.slice au n cu) := by simp
    have huB := hTB.f.ows.get hgl
    have hxB : (xs ++ [x]).getD fs.length [] = x := by rw [hT.f.ows.len]; simp [List.getD]
    rw [hxB] at huB
    have hoB := huB.own
    rw [HXL.out] at hoB
    obtain ⟨_, _, hv, hrB⟩ := Rd.ofOwn hoB huB.bd
    cases hv
    have hC5 : BC (WB.alloc (.cells #[] 5)) p (.slice (some ⟨g3, 0, none⟩) (fs.length + 1) cap3) (.slice aw ws.length cw) (.slice none 0 0) (.slice none 0 0) N1 := (Below.heap_alloc _ _ _ hCB.lt).trans hCB
    have hT5 := hTB.keep (S := fun _ => False) ((Keep.refl _ WB).alloc (.cells #[] 5)) (fun _ _ h => h)
    have hr5 := hrB.keep (S := fun _ => False) ((Keep.refl _ WB).alloc (.cells #[] 5)) (fun _ _ h => h)
    have ho5 : (WB.alloc (.cells #[] 5)).ownsRow WB.heap.size 5 1 (.slice (some ⟨WB.heap.size, 0, none⟩) 0 0) 0 (bc []) := World.ownsRow_made WB #[] 0 (Nat.le_refl _) (by unfold maxLen; omega) rfl
    obtain ⟨W5, HW5⟩ : ∃ W5, Hid (W5 = WB.alloc (.cells #[] 5)) := ⟨_, rfl⟩
    have hK5 := hKB.alloc (.cells #[] 5)
    have hs5 : W5.heap.size = WB.heap.size + 1 := by rw [HW5.out]; simp
    rw [← HW5.out] at hC5 hT5 hr5 ho5 hK5
    obtain ⟨v7, W7, hrun7, ho7, hg7, hw7⟩ := run_bytes 31 ho5 hr5 (by omega) (by omega)
    rw [List.nil_append, Nat.zero_add] at ho7
    have hk7 := Keep.ofGrown hg7
    have hnew7 : ∀ k, (Value.slice (some ⟨WB.heap.size, 0, none⟩) 0 0).ownBlock = some k → k = WB.heap.size := fun k e => by cases e; rfl
    have hC7 := hC5.keep hk7 (fun e => by have := hnew7 p e; have := hCB.lt; omega)
    have hT7 := hT5.keep hk7 (fun k e e2 => by have := hnew7 k e2; have := hTB.lt k e; omega)
    have hu7 : Ow W7 v7 x := Ow.ofFrom ho7 hu.bd
    have hlo7 : ∀ k, v7.ownBlock = some k → WB.heap.size ≤ k := fun k e => (ho7.lt k e).1
    obtain ⟨a7, c7, hv7⟩ := own_sl ho7
    subst hv7
    have hK7 : Keep (BF p (.slice af fs.length cf) (.slice aw ws.length cw) fs ws) w W7 := hK5.andThen hk7 (fun i hi e => by have := hnew7 i e; have := hKB.size; omega)
    have hs7 := hk7.size
    obtain ⟨W8, HW8⟩ : ∃ W8, Hid (W8 = W7.alloc (.cells #[.slice a7 n c7] 31)) := ⟨_, rfl⟩
    have hC8 : BC W8 p (.slice (some ⟨g3, 0, none⟩) (fs.length + 1) cap3) (.slice aw ws.length cw) (.slice none 0 0) (.slice none 0 0) N1 := by rw [HW8.out]; exact (Below.heap_alloc _ _ _ hC7.lt).trans hC7
    have hT8 := hT7.keep (S := fun _ => False) ((Keep.refl _ W7).alloc (.cells #[.slice a7 n c7] 31)) (fun _ _ h => h)
    have hu8 := hu7.keep (S := fun _ => False) ((Keep.refl _ W7).alloc (.cells #[.slice a7 n c7] 31)) (fun _ _ h => h)
    have hK8 := hK7.alloc (.cells #[.slice a7 n c7] 31)
    have hb8 : W8.heap[W7.heap.size]? = some (.cells #[.slice a7 n c7] 31 (0, 0)) := by rw [HW8.out]; exact heap_alloc_new _ _
    have hs8 : W8.heap.size = W7.heap.size + 1 := by rw [HW8.out]; simp
    rw [← HW8.out] at hT8 hu8 hK8
    obtain ⟨g9, cap9, W9, hrun9, ho9, hk9, hp9⟩ := run_row (w := W8) 40 hT8.g.row hb8 rfl (by omega)
    have hC9 := hC8.keep hk9 (fun e => BookAt.not hC8 hT8 (.inr (.inl e)))
    have hT9 := hT8.addG hu8 (fun k e e2 => by have := hlo7 k e; have := hTB.f.lt k e2; omega) ho9 hk9 (fun k e => by cases e; exact hp9)
    have hx1 := hC9.c1
    have hx2 := hC9.fz 1
    have hkE : Keep (fun k => k = p) W9 (W9.setCell ⟨p, 1, none⟩ (.slice (some ⟨g9, 0, none⟩) (ws.length + 1) cap9)) := Keep.setCell (S := fun k => k = p) (Keep.refl _ _) rfl _
    have hCE := hC9.set1 (.slice (some ⟨g9, 0, none⟩) (ws.length + 1) cap9)
    have hTE := hT9.keep hkE (fun k e h => BookAt.not hC9 hT9 (by rw [← h]; exact e))
    have hKE : Keep (BF p (.slice af fs.length cf) (.slice aw ws.length cw) fs ws) w (W9.setCell ⟨p, 1, none⟩ (.slice (some ⟨g9, 0, none⟩) (ws.length + 1) cap9)) := (hK8.andThen hk9 (fun i hi e => .inr (.inr (.inl e)))).andThen hkE (fun i _ e => .inl e)
    refine px_rd 0 ?v0 (by kernel_rfl) (fun _ _ d _ _ h => by cases d <;> exact h) (by kernel_rfl) trivial rfl rfl rfl (fun w' _ => ?h0) ?_
    case h0 => first | (go_simp; rfl) | go_simp
    simp only [List.setIfInBounds_toArray, List.set_cons_zero, List.set_cons_succ]
    refine px_rd 1 ?v1 (by kernel_rfl) (fun _ _ d _ _ h => by cases d <;> exact h) (by kernel_rfl) trivial rfl rfl rfl (fun w' _ => ?h1) ?_
    case h1 => first | (go_simp; rfl) | go_simp
    simp only [List.setIfInBounds_toArray, List.set_cons_zero, List.set_cons_succ]
    refine px_rd 2 ?v2 (by kernel_rfl) (fun _ _ d _ _ h => by cases d <;> exact h) (by kernel_rfl) trivial rfl rfl rfl (fun w' _ => ?h2) ?_
    case h2 => first | (go_simp; rfl) | go_simp
    simp only [List.setIfInBounds_toArray, List.set_cons_zero, List.set_cons_succ]
    refine px_rd 3 ?v3 (by kernel_rfl) (fun _ _ d _ _ h => by cases d <;> exact h) (by kernel_rfl) trivial rfl rfl rfl (fun w' _ => ?h3) ?_
    case h3 => first | (go_simp; rfl) | go_simp
    simp only [List.setIfInBounds_toArray, List.set_cons_zero, List.set_cons_succ]
    refine px_rd 6 ?v6 (by kernel_rfl) (fun _ _ d _ _ h => by cases d <;> exact h) (by kernel_rfl) trivial rfl rfl rfl (fun w' _ => ?h6) ?_
    case h6 => first | (go_simp; rfl) | go_simp
    simp only [List.setIfInBounds_toArray, List.set_cons_zero, List.set_cons_succ]
    refine px_via 4 ?ll ?aa W8 (fun tail => ?br) ?tl
    case br =>
      refine px_two 4 5 (by kernel_rfl) ?pA ?pB
      case pA =>
        refine stepP_val (w' := WB) (.slice aw ws.length cw) rfl rfl rfl ?eA4 trivial ?_
        case eA4 => have hq := hCB.c1; first | (go_simp; rfl) | go_simp
        simp only [List.setIfInBounds_toArray, List.set_cons_zero, List.set_cons_succ]
        refine px_one 5 (by kernel_rfl) ?_
        refine stepP_val (w' := W5) (.slice (some ⟨WB.heap.size, 0, none⟩) 0 0) rfl rfl rfl ?eA5 trivial ?_
        case eA5 => first | (rw [HW5.out]; go_simp; rfl) | (rw [HW5.out]; go_simp)
        simp only [List.setIfInBounds_toArray, List.set_cons_zero, List.set_cons_succ]
        refine px_one 7 (by kernel_rfl) ?_
        refine stepP_val (w' := W7) (.slice a7 n c7) rfl rfl rfl ?eA7 trivial ?_
        case eA7 => exact run_app_op' rfl rfl rfl hrun7
        simp only [List.setIfInBounds_toArray, List.set_cons_zero, List.set_cons_succ]
        refine px_one 8 (by kernel_rfl) ?_
        refine stepP_val (w' := W8) (.slice (some ⟨W7.heap.size, 0, none⟩) 1 1) rfl rfl rfl ?eA8 trivial ?_
        case eA8 => first | (rw [HW8.out]; go_simp; rfl) | (rw [HW8.out]; go_simp)
        simp only [List.setIfInBounds_toArray, List.set_cons_zero, List.set_cons_succ]
        exact tail
      case pB =>
        refine stepP_val (w' := W5) (.slice (some ⟨WB.heap.size, 0, none⟩) 0 0) rfl rfl rfl ?eB5 trivial ?_
        case eB5 => first | (rw [HW5.out]; go_simp; rfl) | (rw [HW5.out]; go_simp)
        simp only [List.setIfInBounds_toArray, List.set_cons_zero, List.set_cons_succ]
        refine px_two 4 7 (by kernel_rfl) ?pC ?pD
        case pC =>
          refine stepP_val (w' := W5) (.slice aw ws.length cw) rfl rfl rfl ?eC4 trivial ?_
          case eC4 => have hq := hC5.c1; first | (go_simp; rfl) | go_simp
          simp only [List.setIfInBounds_toArray, List.set_cons_zero, List.set_cons_succ]
          refine px_one 7 (by kernel_rfl) ?_
          refine stepP_val (w' := W7) (.slice a7 n c7) rfl rfl rfl ?eC7 trivial ?_
          case eC7 => exact run_app_op' rfl rfl rfl hrun7
          simp only [List.setIfInBounds_toArray, List.set_cons_zero, List.set_cons_succ]
          refine px_one 8 (by kernel_rfl) ?_
          refine stepP_val (w' := W8) (.slice (some ⟨W7.heap.size, 0, none⟩) 1 1) rfl rfl rfl ?eC8 trivial ?_
          case eC8 => first | (rw [HW8.out]; go_simp; rfl) | (rw [HW8.out]; go_simp)
          simp only [List.setIfInBounds_toArray, List.set_cons_zero, List.set_cons_succ]
          exact tail
        case pD =>
          refine stepP_val (w' := W7) (.slice a7 n c7) rfl rfl rfl ?eD7 trivial ?_
          case eD7 => exact run_app_op' rfl rfl rfl hrun7
          simp only [List.setIfInBounds_toArray, List.set_cons_zero, List.set_cons_succ]
          refine px_two 4 8 (by kernel_rfl) ?pE ?pF
          case pE =>
            refine stepP_val (w' := W7) (.slice aw ws.length cw) rfl rfl rfl ?eE4 trivial ?_
            case eE4 => have hq := hC7.c1; first | (go_simp; rfl) | go_simp
            simp only [List.setIfInBounds_toArray, List.set_cons_zero, List.set_cons_succ]
            refine px_one 8 (by kernel_rfl) ?_
            refine stepP_val (w' := W8) (.slice (some ⟨W7.heap.size, 0, none⟩) 1 1) rfl rfl rfl ?eE8 trivial ?_
            case eE8 => first | (rw [HW8.out]; go_simp; rfl) | (rw [HW8.out]; go_simp)
            simp only [List.setIfInBounds_toArray, List.set_cons_zero, List.set_cons_succ]
            exact tail
          case pF =>
            refine stepP_val (w' := W8) (.slice (some ⟨W7.heap.size, 0, none⟩) 1 1) rfl rfl rfl ?eF8 trivial ?_
            case eF8 => first | (rw [HW8.out]; go_simp; rfl) | (rw [HW8.out]; go_simp)
            simp only [List.setIfInBounds_toArray, List.set_cons_zero, List.set_cons_succ]
            refine px_one 4 (by kernel_rfl) ?_
            refine stepP_val (w' := W8) (.slice aw ws.length cw) rfl rfl rfl ?eF4 trivial ?_
            case eF4 => have hq := hC8.c1; first | (go_simp; rfl) | go_simp
            simp only [List.setIfInBounds_toArray, List.set_cons_zero, List.set_cons_succ]
            exact tail
    case tl =>
      refine px_one 9 (by kernel_rfl) ?_
      refine stepP_val (w' := W9) (.slice (some ⟨g9, 0, none⟩) (ws.length + 1) cap9) rfl rfl rfl ?eT9 trivial ?_
      case eT9 => exact run_app_op' rfl rfl rfl hrun9
      simp only [List.setIfInBounds_toArray, List.set_cons_zero, List.set_cons_succ]
      refine px_rd 10 ?v10 (by kernel_rfl) (fun _ _ d _ _ h => by cases d <;> exact h) (by kernel_rfl) trivial rfl rfl rfl (fun w' _ => ?h10) ?_
      case h10 => first | (go_simp; rfl) | go_simp
      simp only [List.setIfInBounds_toArray, List.set_cons_zero, List.set_cons_succ]
      refine px_rd 11 ?v11 (by kernel_rfl) (fun _ _ d _ _ h => by cases d <;> exact h) (by kernel_rfl) trivial rfl rfl rfl (fun w' _ => ?h11) ?_
      case h11 => first | (go_simp; rfl) | go_simp
      simp only [List.setIfInBounds_toArray, List.set_cons_zero, List.set_cons_succ]
      refine px_one 12 (by kernel_rfl) ?_
      refine stepP_skip (w' := W9.setCell ⟨p, 1, none⟩ (.slice (some ⟨g9, 0, none⟩) (ws.length + 1) cap9)) rfl rfl rfl ?e12 trivial ?_
      case e12 => first | (go_simp; rfl) | go_simp
      refine px_nil (by kernel_rfl) ?_
      go_wp2
      (try simp only [Exit.inBlock, Exit.then])
      first | refine bodyPost_ret (results_none rfl _ _ _) rfl ?_ | refine bodyPost_end (results_none rfl _ _ _) rfl ?_
      have hsB := hKB.size
      have hs5' := hs5
      refine ⟨_, _, _, _, _, _, N1, rfl, ⟨hCE, hTE, by rw [List.length_append]; have := HN1.out; simp; omega, by have := HN1.out; omega, fun z hz => ?_⟩, ?_, hKE⟩
      · rcases List.mem_append.1 hz with hz | hz
        · exact heach z hz
        · simp at hz; rw [hz, HXL.out]; exact hx
      rintro k (rfl | e | e)
      · exact .inl (.inl rfl)
      · rcases HF.snoc (B := w.heap.size) (fv := .slice af fs.length cf) (fun k e => by have e' : g3 = k := Option.some.inj e; subst e'; exact hp3') k e with e | e | e
        · exact .inl (.inr (.inl e))
        · exact .inr (.inl e)
        · exact .inr (.inr e)
      · rcases HF.snoc (B := w.heap.size) (fv := .slice aw ws.length cw) (fun k e => by have e' : g9 = k := Option.some.inj e; subst e'; exact hp9.imp id (fun h => by omega)) k e with e | e | e
        · exact .inl (.inr (.inr e))
        · exact .inr (.inr (by have := hlo7 k e; omega))
        · exact .inr (.inr e)

end Go.Proofs.Ytimfidhehikaiaa
