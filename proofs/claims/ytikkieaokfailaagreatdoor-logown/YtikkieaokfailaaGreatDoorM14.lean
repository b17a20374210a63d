/- Texts of one seat, one behind the other: OwnB, OwnS, OwnG, OwnC, OwnLQ. -/
import Derived.Test.YtikkieaokfailaaGreatDoorM13
namespace Go.Proofs.YtikkieaokfailaaGreatDoor
open Go.RowKit
def BC (W : World) (p : Nat) (fv wv ov mv : Value) (N : Nat) : Prop := W.heap[p]? = some (.cells #[fv, wv, ov, mv, .int .i64 N] 76 (0, 0))
theorem BC.lt {W : World} {p N : Nat} {fv wv ov mv : Value} (h : BC W p fv wv ov mv N) : p < W.heap.size := (Array.getElem?_eq_some_iff.1 (show W.heap[p]? = _ from h)).1
theorem BC.c0 {W : World} {p N : Nat} {fv wv ov mv : Value} (h : BC W p fv wv ov mv N) : W.cell? ⟨p, 0, none⟩ = some fv := by simp [World.cell?, show W.heap[p]? = _ from h]
theorem BC.c1 {W : World} {p N : Nat} {fv wv ov mv : Value} (h : BC W p fv wv ov mv N) : W.cell? ⟨p, 1, none⟩ = some wv := by simp [World.cell?, show W.heap[p]? = _ from h]
theorem BC.c2 {W : World} {p N : Nat} {fv wv ov mv : Value} (h : BC W p fv wv ov mv N) : W.cell? ⟨p, 2, none⟩ = some ov := by simp [World.cell?, show W.heap[p]? = _ from h]
theorem BC.c3 {W : World} {p N : Nat} {fv wv ov mv : Value} (h : BC W p fv wv ov mv N) : W.cell? ⟨p, 3, none⟩ = some mv := by simp [World.cell?, show W.heap[p]? = _ from h]
theorem BC.c4 {W : World} {p N : Nat} {fv wv ov mv : Value} (h : BC W p fv wv ov mv N) : W.cell? ⟨p, 4, none⟩ = some (.int .i64 N) := by simp [World.cell?, show W.heap[p]? = _ from h]
theorem BC.fz {W : World} {p N : Nat} {fv wv ov mv : Value} (h : BC W p fv wv ov mv N) (j : Nat) : W.frozen? ⟨p, j, none⟩ = false := by simp [World.frozen?, show W.heap[p]? = _ from h]
theorem BC.set0 {W : World} {p N : Nat} {fv wv ov mv : Value} (h : BC W p fv wv ov mv N) (u : Value) : BC (W.setCell ⟨p, 0, none⟩ u) p u wv ov mv N := by
 have h' : W.heap[p]? = _ := h
 show (W.setCell ⟨p, 0, none⟩ u).heap[p]? = _
 simp [World.setCell, Array.getElem?_modify, h']
theorem BC.set1 {W : World} {p N : Nat} {fv wv ov mv : Value} (h : BC W p fv wv ov mv N) (u : Value) : BC (W.setCell ⟨p, 1, none⟩ u) p fv u ov mv N := by
 have h' : W.heap[p]? = _ := h
 show (W.setCell ⟨p, 1, none⟩ u).heap[p]? = _
 simp [World.setCell, Array.getElem?_modify, h']
theorem BC.set2 {W : World} {p N : Nat} {fv wv ov mv : Value} (h : BC W p fv wv ov mv N) (u : Value) : BC (W.setCell ⟨p, 2, none⟩ u) p fv wv u mv N := by
 have h' : W.heap[p]? = _ := h
 show (W.setCell ⟨p, 2, none⟩ u).heap[p]? = _
 simp [World.setCell, Array.getElem?_modify, h']
theorem BC.set3 {W : World} {p N : Nat} {fv wv ov mv : Value} (h : BC W p fv wv ov mv N) (u : Value) : BC (W.setCell ⟨p, 3, none⟩ u) p fv wv ov u N := by
 have h' : W.heap[p]? = _ := h
 show (W.setCell ⟨p, 3, none⟩ u).heap[p]? = _
 simp [World.setCell, Array.getElem?_modify, h']
theorem BC.set4 {W : World} {p N : Nat} {fv wv ov mv : Value} (h : BC W p fv wv ov mv N) (M : Nat) : BC (W.setCell ⟨p, 4, none⟩ (.int .i64 M)) p fv wv ov mv M := by
 have h' : W.heap[p]? = _ := h
 show (W.setCell ⟨p, 4, none⟩ (.int .i64 M)).heap[p]? = _
 simp [World.setCell, Array.getElem?_modify, h']
theorem BC.keep {S : Nat → Prop} {W W' : World} {p N : Nat} {fv wv ov mv : Value} (h : BC W p fv wv ov mv N) (hk : Keep S W W') (hs : ¬ S p) : BC W' p fv wv ov mv N := (hk.block p h.lt hs).trans h
structure BookAt (w : World) (p : Nat) (fv wv : Value) (fs ws : List Value) (ys : List (List Int)) (N : Nat) : Prop where
 cell : BC w p fv wv (.slice none 0 0) (.slice none 0 0) N
 two : Two w fv wv fs ws ys ys
 len : fs.length ≤ N
 most : N ≤ 2000000
 each : ∀ x ∈ ys, x.length ≤ 1000000
def BF (p : Nat) (fv wv : Value) (fs ws : List Value) (k : Nat) : Prop := k = p ∨ TF fv wv fs ws k
theorem BookAt.not {w : World} {p N : Nat} {fv wv ov mv : Value} {fs ws : List Value} {xs ys : List (List Int)} (hc : BC w p fv wv ov mv N) {fv' wv' : Value} (h : Two w fv' wv' fs ws xs ys) : ¬ TF fv' wv' fs ws p := h.not hc (by decide) (by decide)
theorem BookAt.keep {S : Nat → Prop} {w w' : World} {p N : Nat} {fv wv : Value} {fs ws : List Value} {ys : List (List Int)} (h : BookAt w p fv wv fs ws ys N) (hk : Keep S w w') (hs : ∀ k, BF p fv wv fs ws k → ¬ S k) : BookAt w' p fv wv fs ws ys N :=
 ⟨h.cell.keep hk (hs p (.inl rfl)), h.two.keep hk (fun k e => hs k (.inr e)), h.len, h.most, h.each⟩
theorem BookAt.lt {w : World} {p N : Nat} {fv wv : Value} {fs ws : List Value} {ys : List (List Int)} (h : BookAt w p fv wv fs ws ys N) : ∀ k, BF p fv wv fs ws k → k < w.heap.size := by
 rintro k (rfl | e)
 ·exact h.cell.lt
 ·exact h.two.lt k e
theorem BookAt.new (w : World) : BookAt (w.alloc (.cells #[.slice none 0 0, .slice none 0 0, .slice none 0 0, .slice none 0 0, .int .i64 0] 76)) w.heap.size (.slice none 0 0) (.slice none 0 0) [] [] [] 0 := ⟨heap_alloc_new w _, Two.nil _, Nat.le_refl _, by omega, (fun x hx => by cases hx)⟩
theorem wp_row' {w : World} {ops : Array Oper} {rest : List Oper} {o : Oper} {a : Act} {Q : Exit → Act → World → Prop} (hgd : o.guard = none) (s x : Operand)
  (ho : o.op = .call { callee := .builtin .append, args := #[s, x], argTypes := #[30, 30] })
  (v : Value) (n : Nat) (vs : List Value) (hs : a.eval s = v) (hown : w.ownsRow 0 29 1 v n vs) (u : Value) (b : Nat) (hx : a.eval x = .slice (some ⟨b, 0, none⟩) 1 1) (hb0 : b = w.heap.size) (h1 : u.oneCell' = true) (hb : n + 1 ≤ 1000000000)
  (h : ∀ g cap w', w'.ownsRow 0 29 1 (.slice (some ⟨g, 0, none⟩) (n + 1) cap) (n + 1) (vs ++ [u]) → Keep (fun k => v.ownBlock = some k) w w' → (v.ownBlock = some g ∨ w.heap.size ≤ g) → wpList Tryz.prog ops Q rest (a.put o.dst (.slice (some ⟨g, 0, none⟩) (n + 1) cap)) w') : wpList Tryz.prog ops Q (o :: rest) a (w.alloc (.cells #[u] 29)) := by
 subst hb0
 exact wp_row hgd s x ho v n vs hs hown u hx h1 hb h
theorem full_any (p N : Nat) (fv wv ov mv : Value) (w : World) (hC : BC w p fv wv ov mv N) : Calls Tryz.prog 83 #[.pointer (some ⟨p, 0, none⟩)] w fun e w' => e = .returned (.bool (decide (200000 < N))) ∧ w' = w := by
 have hc := hC.c4
 by_cases h : (200000 : Int) < (N : Int)
 ·go_enter Tryz.func83, Tryz.ntmps83
  go_wp2
  go_ret
  exact ⟨by rw [decide_eq_true (by omega : 200000 < N)]; rfl, rfl⟩
 ·go_enter Tryz.func83, Tryz.ntmps83
  go_wp2
  go_ret
  exact ⟨by rw [decide_eq_false (by omega : ¬ 200000 < N)]; rfl, rfl⟩
set_option maxHeartbeats 1600000 in
theorem bookBytes_any (p N : Nat) (fv wv : Value) (fs ws : List Value) (xs : List (List Int)) (u : Value) (x : List Int) (w : World) (hB : BookAt w p fv wv fs ws xs N) (hu : Ow w u x) (hun : ∀ k, u.ownBlock = some k → ¬ BF p fv wv fs ws k) (hx : x.length ≤ 1000000) :
  Calls Tryz.prog 34 #[.pointer (some ⟨p, 0, none⟩), u] w fun e w' => ∃ r fv' wv' fs' ws' xs' N', e = .returned r ∧ BookAt w' p fv' wv' fs' ws' xs' N' ∧
   (∀ k, BF p fv' wv' fs' ws' k → BF p fv wv fs ws k ∨ u.ownBlock = some k ∨ w.heap.size ≤ k) ∧ Keep (BF p fv wv fs ws) w w' := by
 obtain ⟨hC, hT, hlen, hmost, heach⟩ := hB
 obtain ⟨af, cf, rfl⟩ := own_slO hT.f.row
 obtain ⟨aw, cw, rfl⟩ := own_slO hT.g.row
 have hwl : ws.length = fs.length := hT.g.ows.len.trans hT.f.ows.len.symm
 have hf : fs.length ≤ 2000000 := by omega
 have hw : ws.length ≤ 2000000 := by omega
 have HWL : Hid (ws.length = fs.length) := hwl
 clear hwl
 obtain ⟨n, hxl⟩ : ∃ n, x.length = n := ⟨_, rfl⟩
 obtain ⟨au, cu, rfl, hR⟩ := hu.rd
 rw [hxl] at hu hun hR hx ⊢
 have HXL : Hid (x.length = n) := hxl
 clear hxl
 by_cases hN : 200000 < N
 ·go_enter Tryz.func34, Tryz.ntmps34
  go_wp2_with (go_at_call 83; refine (full_any p N _ _ _ _ _ hC).mono ?_; rintro e w1 ⟨rfl, hw1⟩; rw [decide_eq_true hN, hw1]; clear hw1)
  (try simp only [Exit.inBlock, Exit.then])
  first | refine bodyPost_ret (results_none rfl _ _ _) rfl ?_ | refine bodyPost_end (results_none rfl _ _ _) rfl ?_
  exact ⟨_, _, _, _, _, _, _, rfl, ⟨hC, hT, hlen, hmost, heach⟩, fun k e => .inl e, Keep.refl _ _⟩
 ·have hN1 : N + n + 1 ≤ 2000000 := by omega
  obtain ⟨N1, HN1⟩ : ∃ N1, Hid (N1 = N + n + 1) := ⟨_, rfl⟩
  have hx4 := hC.c4
  have hf4 := hC.fz 4
  have hz1 : ((N : Int) + n + 1) = ((N1 : Nat) : Int) := by have := HN1.out; omega
  have hC1 := hC.set4 N1
  have hkq : Keep (fun k => k = p) w (w.setCell ⟨p, 4, none⟩ (.int .i64 (N1 : Int))) := Keep.setCell (S := fun k => k = p) (Keep.refl _ _) rfl _
  have hT1 := hT.keep hkq (fun k e h => BookAt.not hC hT (by rw [← h]; exact e))
  have hu1 := hu.keep hkq (fun k e h => hun k e (.inl h))
  have hy0 := hC1.c0
  go_enter Tryz.func34, Tryz.ntmps34
  go_upto_region 3 with (first
   | (go_at_call 83; refine (full_any p N _ _ _ _ _ hC).mono ?_; rintro e w1 ⟨rfl, hw1⟩; rw [decide_eq_false hN, hw1]; clear hw1)
   | (at_builtin; refine wp_row' rfl _ _ rfl _ _ fs rfl hT1.f.row (.slice au n cu) _ rfl (by simp [World.setCell]) rfl (by omega) ?_; intro g3 cap3 w3 hown3 hk3 hp3; have hC3 := hC1.keep hk3 (fun e => (BookAt.not hC1 hT1) (.inl (.inl e))); have hx1 := hC3.c0; have hx2 := hC3.fz 0))
  have hk3' : Keep (fun k => (Value.slice af fs.length cf).ownBlock = some k) (w.setCell ⟨p, 4, none⟩ (.int .i64 (N1 : Int))) w3 := hk3
  have hp3' : (Value.slice af fs.length cf).ownBlock = some g3 ∨ w.heap.size ≤ g3 := hp3.imp id (fun h => by simpa [World.setCell] using h)
  have hsz1 : (w.setCell ⟨p, 4, none⟩ (.int .i64 (N1 : Int))).heap.size = w.heap.size := by simp [World.setCell]
  clear hk3 hp3 hx1 hx2 hx4 hf4 hz1 hy0
  have hT3 := hT1.addF hu1 (fun k e e2 => hun k e (.inr e2)) hown3 hk3' (fun k e => by have e' : g3 = k := Option.some.inj e; subst e'; rw [hsz1]; exact hp3')
  have hC4 := hC3.set0 (.slice (some ⟨g3, 0, none⟩) (fs.length + 1) cap3)
  have hkp : Keep (fun k => k = p) w3 (w3.setCell ⟨p, 0, none⟩ (.slice (some ⟨g3, 0, none⟩) (fs.length + 1) cap3)) := Keep.setCell (S := fun k => k = p) (Keep.refl _ _) rfl _
  have hT4 := hT3.keep hkp (fun k e h => BookAt.not hC3 hT3 (by rw [← h]; exact e))
  have hK4 : Keep (BF p (.slice af fs.length cf) (.slice aw ws.length cw) fs ws) w (w3.setCell ⟨p, 0, none⟩ (.slice (some ⟨g3, 0, none⟩) (fs.length + 1) cap3)) := ((hkq.mono (fun i e => .inl e)).andThen hk3' (fun i _ e => .inr (.inl (.inl e)))).andThen hkp (fun i _ e => .inl e)
  generalize (w3.setCell ⟨p, 0, none⟩ (.slice (some ⟨g3, 0, none⟩) (fs.length + 1) cap3)) = w4 at hC4 hT4 hK4 ⊢
  clear hC3 hT3 hkp hk3' hT1 hu1 hC1 hkq
  have hCB : BC w4.drew p (.slice (some ⟨g3, 0, none⟩) (fs.length + 1) cap3) (.slice aw ws.length cw) (.slice none 0 0) (.slice none 0 0) N1 := hC4
  have hTB := hT4.keep (S := fun _ => False) (Keep.refl _ w4).drew (fun _ _ h => h)
  have hKB := hK4.drew
  refine wp_region_px (fun _ => True) 13 (by kernel_rfl) (by kernel_rfl) ?_
  generalize w4.drew = WB at hCB hTB hKB
  have hgl : (fs ++ [.slice au n cu])[fs.length]? = some (.slice au n cu) := by simp
  have huB := hTB.f.ows.get hgl
  have hxB : (xs ++ [x]).getD fs.length [] = x := by rw [hT.f.ows.len]; simp [List.getD]
  rw [hxB] at huB
  have hoB := huB.own
  rw [HXL.out] at hoB
  obtain ⟨_, _, hv, hrB⟩ := Rd.ofOwn hoB huB.bd
  cases hv
  have hC5 : BC (WB.alloc (.cells #[] 5)) p (.slice (some ⟨g3, 0, none⟩) (fs.length + 1) cap3) (.slice aw ws.length cw) (.slice none 0 0) (.slice none 0 0) N1 := (Below.heap_alloc _ _ _ hCB.lt).trans hCB
  have hT5 := hTB.keep (S := fun _ => False) ((Keep.refl _ WB).alloc (.cells #[] 5)) (fun _ _ h => h)
  have hr5 := hrB.keep (S := fun _ => False) ((Keep.refl _ WB).alloc (.cells #[] 5)) (fun _ _ h => h)
  have ho5 : (WB.alloc (.cells #[] 5)).ownsRow WB.heap.size 5 1 (.slice (some ⟨WB.heap.size, 0, none⟩) 0 0) 0 (bc []) := World.ownsRow_made WB #[] 0 (Nat.le_refl _) (by unfold maxLen; omega) rfl
  obtain ⟨W5, HW5⟩ : ∃ W5, Hid (W5 = WB.alloc (.cells #[] 5)) := ⟨_, rfl⟩
  have hK5 := hKB.alloc (.cells #[] 5)
  have hs5 : W5.heap.size = WB.heap.size + 1 := by rw [HW5.out]; simp
  rw [← HW5.out] at hC5 hT5 hr5 ho5 hK5
  obtain ⟨v7, W7, hrun7, ho7, hg7, hw7⟩ := run_bytes 29 ho5 hr5 (by omega) (by omega)
  rw [List.nil_append, Nat.zero_add] at ho7
  have hk7 := Keep.ofGrown hg7
  have hnew7 : ∀ k, (Value.slice (some ⟨WB.heap.size, 0, none⟩) 0 0).ownBlock = some k → k = WB.heap.size := fun k e => by cases e; rfl
  have hC7 := hC5.keep hk7 (fun e => by have := hnew7 p e; have := hCB.lt; omega)
  have hT7 := hT5.keep hk7 (fun k e e2 => by have := hnew7 k e2; have := hTB.lt k e; omega)
  have hu7 : Ow W7 v7 x := Ow.ofFrom ho7 hu.bd
  have hlo7 : ∀ k, v7.ownBlock = some k → WB.heap.size ≤ k := fun k e => (ho7.lt k e).1
  obtain ⟨a7, c7, hv7⟩ := own_slO ho7
  subst hv7
  have hK7 : Keep (BF p (.slice af fs.length cf) (.slice aw ws.length cw) fs ws) w W7 := hK5.andThen hk7 (fun i hi e => by have := hnew7 i e; have := hKB.size; omega)
  have hs7 := hk7.size
  obtain ⟨W8, HW8⟩ : ∃ W8, Hid (W8 = W7.alloc (.cells #[.slice a7 n c7] 29)) := ⟨_, rfl⟩
  have hC8 : BC W8 p (.slice (some ⟨g3, 0, none⟩) (fs.length + 1) cap3) (.slice aw ws.length cw) (.slice none 0 0) (.slice none 0 0) N1 := by rw [HW8.out]; exact (Below.heap_alloc _ _ _ hC7.lt).trans hC7
  have hT8 := hT7.keep (S := fun _ => False) ((Keep.refl _ W7).alloc (.cells #[.slice a7 n c7] 29)) (fun _ _ h => h)
  have hu8 := hu7.keep (S := fun _ => False) ((Keep.refl _ W7).alloc (.cells #[.slice a7 n c7] 29)) (fun _ _ h => h)
  have hK8 := hK7.alloc (.cells #[.slice a7 n c7] 29)
  have hb8 : W8.heap[W7.heap.size]? = some (.cells #[.slice a7 n c7] 29 (0, 0)) := by rw [HW8.out]; exact heap_alloc_new _ _
  have hs8 : W8.heap.size = W7.heap.size + 1 := by rw [HW8.out]; simp
  rw [← HW8.out] at hT8 hu8 hK8
  obtain ⟨g9, cap9, W9, hrun9, ho9, hk9, hp9⟩ := run_row (w := W8) 30 hT8.g.row hb8 rfl (by omega)
  have hC9 := hC8.keep hk9 (fun e => BookAt.not hC8 hT8 (.inr (.inl e)))
  have hT9 := hT8.addG hu8 (fun k e e2 => by have := hlo7 k e; have := hTB.f.lt k e2; omega) ho9 hk9 (fun k e => by cases e; exact hp9)
  have hx1 := hC9.c1
  have hx2 := hC9.fz 1
  have hkE : Keep (fun k => k = p) W9 (W9.setCell ⟨p, 1, none⟩ (.slice (some ⟨g9, 0, none⟩) (ws.length + 1) cap9)) := Keep.setCell (S := fun k => k = p) (Keep.refl _ _) rfl _
  have hCE := hC9.set1 (.slice (some ⟨g9, 0, none⟩) (ws.length + 1) cap9)
  have hTE := hT9.keep hkE (fun k e h => BookAt.not hC9 hT9 (by rw [← h]; exact e))
  have hKE : Keep (BF p (.slice af fs.length cf) (.slice aw ws.length cw) fs ws) w (W9.setCell ⟨p, 1, none⟩ (.slice (some ⟨g9, 0, none⟩) (ws.length + 1) cap9)) := (hK8.andThen hk9 (fun i hi e => .inr (.inr (.inl e)))).andThen hkE (fun i _ e => .inl e)
  refine px_rd 0 ?v0 (by kernel_rfl) (fun _ _ d _ _ h => by cases d <;> exact h) (by kernel_rfl) trivial rfl rfl rfl (fun w' _ => ?h0) ?_
  case h0 => first | (go_simp; rfl) | go_simp
  simp only [lxa, lxb, lxc]
  refine px_rd 1 ?v1 (by kernel_rfl) (fun _ _ d _ _ h => by cases d <;> exact h) (by kernel_rfl) trivial rfl rfl rfl (fun w' _ => ?h1) ?_
  case h1 => first | (go_simp; rfl) | go_simp
  simp only [lxa, lxb, lxc]
  refine px_rd 2 ?v2 (by kernel_rfl) (fun _ _ d _ _ h => by cases d <;> exact h) (by kernel_rfl) trivial rfl rfl rfl (fun w' _ => ?h2) ?_
  case h2 => first | (go_simp; rfl) | go_simp
  simp only [lxa, lxb, lxc]
  refine px_rd 3 ?v3 (by kernel_rfl) (fun _ _ d _ _ h => by cases d <;> exact h) (by kernel_rfl) trivial rfl rfl rfl (fun w' _ => ?h3) ?_
  case h3 => first | (go_simp; rfl) | go_simp
  simp only [lxa, lxb, lxc]
  refine px_rd 6 ?v6 (by kernel_rfl) (fun _ _ d _ _ h => by cases d <;> exact h) (by kernel_rfl) trivial rfl rfl rfl (fun w' _ => ?h6) ?_
  case h6 => first | (go_simp; rfl) | go_simp
  simp only [lxa, lxb, lxc]
  refine px_via 4 ?ll ?aa W8 (fun tail => ?br) ?tl
  case br =>
   refine px_two 4 5 (by kernel_rfl) ?pA ?pB
   case pA =>
    refine stepP_val (w' := WB) (.slice aw ws.length cw) rfl rfl rfl ?eA4 trivial ?_
    case eA4 => have hq := hCB.c1; first | (go_simp; rfl) | go_simp
    simp only [lxa, lxb, lxc]
    refine px_one 5 (by kernel_rfl) ?_
    refine stepP_val (w' := W5) (.slice (some ⟨WB.heap.size, 0, none⟩) 0 0) rfl rfl rfl ?eA5 trivial ?_
    case eA5 => first | (rw [HW5.out]; go_simp; rfl) | (rw [HW5.out]; go_simp)
    simp only [lxa, lxb, lxc]
    refine px_one 7 (by kernel_rfl) ?_
    refine stepP_val (w' := W7) (.slice a7 n c7) rfl rfl rfl ?eA7 trivial ?_
    case eA7 => exact run_app_op' rfl rfl rfl hrun7
    simp only [lxa, lxb, lxc]
    refine px_one 8 (by kernel_rfl) ?_
    refine stepP_val (w' := W8) (.slice (some ⟨W7.heap.size, 0, none⟩) 1 1) rfl rfl rfl ?eA8 trivial ?_
    case eA8 => first | (rw [HW8.out]; go_simp; rfl) | (rw [HW8.out]; go_simp)
    simp only [lxa, lxb, lxc]
    exact tail
   case pB =>
    refine stepP_val (w' := W5) (.slice (some ⟨WB.heap.size, 0, none⟩) 0 0) rfl rfl rfl ?eB5 trivial ?_
    case eB5 => first | (rw [HW5.out]; go_simp; rfl) | (rw [HW5.out]; go_simp)
    simp only [lxa, lxb, lxc]
    refine px_two 4 7 (by kernel_rfl) ?pC ?pD
    case pC =>
     refine stepP_val (w' := W5) (.slice aw ws.length cw) rfl rfl rfl ?eC4 trivial ?_
     case eC4 => have hq := hC5.c1; first | (go_simp; rfl) | go_simp
     simp only [lxa, lxb, lxc]
     refine px_one 7 (by kernel_rfl) ?_
     refine stepP_val (w' := W7) (.slice a7 n c7) rfl rfl rfl ?eC7 trivial ?_
     case eC7 => exact run_app_op' rfl rfl rfl hrun7
     simp only [lxa, lxb, lxc]
     refine px_one 8 (by kernel_rfl) ?_
     refine stepP_val (w' := W8) (.slice (some ⟨W7.heap.size, 0, none⟩) 1 1) rfl rfl rfl ?eC8 trivial ?_
     case eC8 => first | (rw [HW8.out]; go_simp; rfl) | (rw [HW8.out]; go_simp)
     simp only [lxa, lxb, lxc]
     exact tail
    case pD =>
     refine stepP_val (w' := W7) (.slice a7 n c7) rfl rfl rfl ?eD7 trivial ?_
     case eD7 => exact run_app_op' rfl rfl rfl hrun7
     simp only [lxa, lxb, lxc]
     refine px_two 4 8 (by kernel_rfl) ?pE ?pF
     case pE =>
      refine stepP_val (w' := W7) (.slice aw ws.length cw) rfl rfl rfl ?eE4 trivial ?_
      case eE4 => have hq := hC7.c1; first | (go_simp; rfl) | go_simp
      simp only [lxa, lxb, lxc]
      refine px_one 8 (by kernel_rfl) ?_
      refine stepP_val (w' := W8) (.slice (some ⟨W7.heap.size, 0, none⟩) 1 1) rfl rfl rfl ?eE8 trivial ?_
      case eE8 => first | (rw [HW8.out]; go_simp; rfl) | (rw [HW8.out]; go_simp)
      simp only [lxa, lxb, lxc]
      exact tail
     case pF =>
      refine stepP_val (w' := W8) (.slice (some ⟨W7.heap.size, 0, none⟩) 1 1) rfl rfl rfl ?eF8 trivial ?_
      case eF8 => first | (rw [HW8.out]; go_simp; rfl) | (rw [HW8.out]; go_simp)
      simp only [lxa, lxb, lxc]
      refine px_one 4 (by kernel_rfl) ?_
      refine stepP_val (w' := W8) (.slice aw ws.length cw) rfl rfl rfl ?eF4 trivial ?_
      case eF4 => have hq := hC8.c1; first | (go_simp; rfl) | go_simp
      simp only [lxa, lxb, lxc]
      exact tail
  case tl =>
   refine px_one 9 (by kernel_rfl) ?_
   refine stepP_val (w' := W9) (.slice (some ⟨g9, 0, none⟩) (ws.length + 1) cap9) rfl rfl rfl ?eT9 trivial ?_
   case eT9 => exact run_app_op' rfl rfl rfl hrun9
   simp only [lxa, lxb, lxc]
   refine px_rd 10 ?v10 (by kernel_rfl) (fun _ _ d _ _ h => by cases d <;> exact h) (by kernel_rfl) trivial rfl rfl rfl (fun w' _ => ?h10) ?_
   case h10 => first | (go_simp; rfl) | go_simp
   simp only [lxa, lxb, lxc]
   refine px_rd 11 ?v11 (by kernel_rfl) (fun _ _ d _ _ h => by cases d <;> exact h) (by kernel_rfl) trivial rfl rfl rfl (fun w' _ => ?h11) ?_
   case h11 => first | (go_simp; rfl) | go_simp
   simp only [lxa, lxb, lxc]
   refine px_one 12 (by kernel_rfl) ?_
   refine stepP_skip (w' := W9.setCell ⟨p, 1, none⟩ (.slice (some ⟨g9, 0, none⟩) (ws.length + 1) cap9)) rfl rfl rfl ?e12 trivial ?_
   case e12 => first | (go_simp; rfl) | go_simp
   refine px_nil (by kernel_rfl) ?_
   go_wp2
   (try simp only [Exit.inBlock, Exit.then])
   first | refine bodyPost_ret (results_none rfl _ _ _) rfl ?_ | refine bodyPost_end (results_none rfl _ _ _) rfl ?_
   have hsB := hKB.size
   have hs5' := hs5
   refine ⟨_, _, _, _, _, _, N1, rfl, ⟨hCE, hTE, by rw [List.length_append]; have := HN1.out; simp; omega, by have := HN1.out; omega, fun z hz => ?_⟩, ?_, hKE⟩
   ·rcases List.mem_append.1 hz with hz | hz
    ·exact heach z hz
    ·simp at hz; rw [hz, HXL.out]; exact hx
   rintro k (rfl | e | e)
   ·exact .inl (.inl rfl)
   ·rcases HF.snoc (B := w.heap.size) (fv := .slice af fs.length cf) (fun k e => by have e' : g3 = k := Option.some.inj e; subst e'; exact hp3') k e with e | e | e
    ·exact .inl (.inr (.inl e))
    ·exact .inr (.inl e)
    ·exact .inr (.inr e)
   ·rcases HF.snoc (B := w.heap.size) (fv := .slice aw ws.length cw) (fun k e => by have e' : g9 = k := Option.some.inj e; subst e'; exact hp9.imp id (fun h => by omega)) k e with e | e | e
    ·exact .inl (.inr (.inr e))
    ·exact .inr (.inr (by have := hlo7 k e; omega))
    ·exact .inr (.inr e)
end Go.Proofs.YtikkieaokfailaaGreatDoor

namespace Go.Proofs.YtikkieaokfailaaGreatDoor
open Go.RowKit
set_option maxHeartbeats 1600000 in
theorem stands_any (p N : Nat) (fv wv ov mv : Value) (fs ws : List Value) (xs : List (List Int)) (w : World) (hC : BC w p fv wv ov mv N) (hT : Two w fv wv fs ws xs xs) (hf : fs.length ≤ 2000000) :
  Calls Tryz.prog 84 #[.pointer (some ⟨p, 0, none⟩)] w fun e w' => e = .returned (.bool true) ∧ ∃ d, w' = w.drewN d := by
 obtain ⟨af, cf, rfl⟩ := own_slO hT.f.row
 obtain ⟨aw, cw, rfl⟩ := own_slO hT.g.row
 have HX : Hid (fs.length = xs.length) := hT.f.ows.len
 have HW : Hid (ws.length = xs.length) := hT.g.ows.len
 have hws : ws.length ≤ 2000000 := by have := HX.out; have := HW.out; omega
 have hc0 := hC.c0
 have hc1 := hC.c1
 go_enter Tryz.func84, Tryz.ntmps84
 go_wp2
 go_loopw [3] (fun i wr => ∃ k d : Nat, k ≤ fs.length ∧ i = .int .i64 k ∧ wr = w.drewN d) (fun i _ => fs.length - (intOf i).toNat)
 case atStart => exact ⟨0, 0, Nat.zero_le _, rfl, rfl⟩
 case round =>
  obtain ⟨k, d, hk, rfl, rfl⟩ := hrel
  by_cases hlt : k < fs.length
  ·have hlz : (k : Int) < (fs.length : Int) := by omega
   have hlz2 : (k : Int) < (ws.length : Int) := by have := HX.out; have := HW.out; omega
   obtain ⟨gf, capf, ak, nk, ck, hv, hcell, hvk, hok, hnk, hrk⟩ := hT.f.cell hlt
   cases hv
   obtain ⟨gw, capw, aj, nj, cj, hv, hcellw, hvj, hoj, hnj, hrj⟩ := hT.g.cell (j := k) (by have := HX.out; have := HW.out; omega)
   cases hv
   have hs := hrk.strNO
   have hs' := hrj.strNO
   generalize strOfNums (xs.getD k []) = str at hs hs'
   clear hnk hnj hrk hrj hok hoj
   go_wp2
   go_quiet (fail)
   go_wp2
   go_roundw
   case rel => exact ⟨k + 1, _, by omega, by go_num, rfl⟩
   case measure => simp [intOf]; omega
  ·have hlz : ¬ (k : Int) < (fs.length : Int) := by omega
   go_wp2
   go_ret
   exact ⟨rfl, _, rfl⟩
def mk (i : Nat) : Int := ((i % 125 : Nat) : Int)
def mk2 (i : Nat) : Int := ((125 + i % 125 : Nat) : Int)
set_option maxHeartbeats 3200000 in
set_option maxRecDepth 4000000 in
theorem look_any (p N : Nat) (fv wv ov mv : Value) (fs vs : List Value) (zs os : List (List Int)) (lv : Value) (q : Nat) (w : World) (hC : BC w p fv wv ov mv N) (hF : Half w fv fs zs) (hL : Half w lv vs os) (hf : fs.length ≤ 2000000) (hvl : vs.length = fs.length)
  (hz : ∀ i, i < fs.length → zs.getD i [] = List.replicate (zs.getD i []).length (mk i) ∧ (zs.getD i []).length ≤ 1000000) (ho : ∀ i, i < fs.length → os.getD i [] = zs.getD i [] ++ List.replicate q (mk2 i)) (hq : q ≤ 1000) :
  Calls Tryz.prog 125 #[.pointer (some ⟨p, 0, none⟩), lv] w fun e w' => e = .returned (.bool true) ∧ w' = w := by
 obtain ⟨af, cf, rfl⟩ := own_slO hF.row
 obtain ⟨al, cl, rfl⟩ := own_slO hL.row
 rw [hvl]
 have HV : Hid (vs.length = fs.length) := hvl
 have HZ : Hid (∀ i, i < fs.length → zs.getD i [] = List.replicate (zs.getD i []).length (mk i) ∧ (zs.getD i []).length ≤ 1000000) := hz
 have HO : Hid (∀ i, i < fs.length → os.getD i [] = zs.getD i [] ++ List.replicate q (mk2 i)) := ho
 clear hvl hz ho
 have hc0 := hC.c0
 go_enter Tryz.func125, Tryz.ntmps125
 go_wp2
 go_loopw [5, 6, 7] (fun i _ _ wr => ∃ k : Nat, k ≤ fs.length ∧ i = .int .i64 k ∧ wr = w) (fun i _ _ _ => fs.length - (intOf i).toNat)
 case atStart => exact ⟨0, Nat.zero_le _, rfl, rfl⟩
 case round =>
  obtain ⟨k, hk, rfl, hwr⟩ := hrel
  rw [hwr]
  clear hwr
  by_cases hlt : k < fs.length
  ·have hlz : (k : Int) < (fs.length : Int) := by omega
   obtain ⟨gf, capf, ak, nk, ck, hv, hcell, hvk, hok, hnk, hrk⟩ := hF.cell hlt
   cases hv
   obtain ⟨gw, capw, aj, nj, cj, hv, hcellw, hvj, hoj, hnj, hrj⟩ := hL.cell (j := k) (by have := HV.out; omega)
   cases hv
   obtain ⟨hz1, hz2⟩ := HZ.out k hlt
   have ho1 := HO.out k hlt
   rw [ho1] at hnj hoj
   rw [← hnk] at hz1 hz2
   rw [List.length_append, ← hnk, List.length_replicate] at hnj
   rw [hz1] at hok hoj
   have HNJ : Hid (nj = nk + q) := hnj
   have hnjb : nj ≤ 2000000 := by omega
   have hnkj : nk ≤ nj := by omega
   clear hnk hnj hrk hrj hz1 ho1
   go_wp2
   go_loopw [7] (fun i wr => ∃ m : Nat, m ≤ nj ∧ i = .int .i64 m ∧ wr = w) (fun i _ => nj - (intOf i).toNat)
   case atStart => exact ⟨0, Nat.zero_le _, rfl, rfl⟩
   case round =>
    obtain ⟨m, hm, rfl, hwr⟩ := hrel
    rw [hwr]
    clear hwr
    by_cases hmn : m < nj
    ·have hmz : (m : Int) < (nj : Int) := by omega
     obtain ⟨gj, haj, hx1, hx2, hwj⟩ := hoj.some (by omega)
     clear hx1 hx2
     subst haj
     have hcj := (hwj m).2 hmn
     clear hwj
     by_cases hmk : m < nk
     ·have hmkz : (m : Int) < (nk : Int) := by omega
      have hmkz' : ¬ (nk : Int) ≤ (m : Int) := by omega
      obtain ⟨gk, hak, hx1, hx2, hwk⟩ := hok.some (by omega)
      clear hx1 hx2
      subst hak
      have hck := (hwk m).2 hmk
      clear hwk
      have e1 : (List.replicate nk (mk k) ++ List.replicate q (mk2 k)).getD m 0 = mk k := by simp [List.getD, List.getElem?_append, hmk]
      have e2 : (List.replicate nk (mk k)).getD m 0 = mk k := by simp [List.getD, hmk]
      rw [e1] at hcj
      rw [e2] at hck
      clear e1 e2 hok hoj
      have hmke : (k : Int) % 125 = mk k := by unfold mk; omega
      go_wp2
      go_roundw
      case rel => exact ⟨m + 1, by omega, by go_num, by first | rfl | trivial⟩
      case measure => simp [intOf]; omega
     ·have hmkz : ¬ (m : Int) < (nk : Int) := by omega
      have hmkz' : (nk : Int) ≤ (m : Int) := by omega
      have e1 : (List.replicate nk (mk k) ++ List.replicate q (mk2 k)).getD m 0 = mk2 k := by
       have h1 : ¬ m < nk := hmk
       have h2 : m - nk < q := by have := HNJ.out; omega
       simp [List.getD, List.getElem?_append, h1, h2]
      rw [e1] at hcj
      clear e1 hok hoj
      have hmke : (125 : Int) + (k : Int) % 125 = mk2 k := by unfold mk2; omega
      go_wp2
      go_roundw
      case rel => exact ⟨m + 1, by omega, by go_num, by first | rfl | trivial⟩
      case measure => simp [intOf]; omega
    ·have hmz : ¬ (m : Int) < (nj : Int) := by omega
     go_wp2
     go_roundw
     case rel => exact ⟨k + 1, by omega, by go_num, by first | rfl | trivial⟩
     case measure => simp [intOf]; omega
  ·have hlz : ¬ (k : Int) < (fs.length : Int) := by omega
   go_wp2
   go_ret
   exact ⟨rfl, rfl⟩
end Go.Proofs.YtikkieaokfailaaGreatDoor

namespace Go.Proofs.YtikkieaokfailaaGreatDoor
open Go.RowKit
theorem blks_inj : ∀ {fs : List Value}, (blks fs).Nodup → ∀ {i j : Nat} {u v : Value} {b : Nat}, fs[i]? = some u → fs[j]? = some v → u.ownBlock = some b → v.ownBlock = some b → i = j
 | [], _, _, _, _, _, _, h, _, _, _ => by simp at h
 | f :: fs, hn, i, j, u, v, b, hi, hj, hu, hv => by
  have hn' : (blks fs).Nodup := by
   unfold blks at hn ⊢
   cases e : f.ownBlock with
   | none => rw [List.filterMap_cons_none e] at hn; exact hn
   | some k => rw [List.filterMap_cons_some e] at hn; exact (List.nodup_cons.1 hn).2
  have hx : ∀ {m : Nat} {x : Value}, fs[m]? = some x → x.ownBlock = some b → f.ownBlock ≠ some b := by
   intro m x hm hb e
   unfold blks at hn
   rw [List.filterMap_cons_some e] at hn
   exact (List.nodup_cons.1 hn).1 (mem_blks.2 ⟨x, List.mem_of_getElem? hm, hb⟩)
  match i, j, hi, hj with
  | 0, 0, _, _ => rfl
  | 0, j + 1, hi, hj => simp at hi hj; subst hi; exact absurd hu (hx hj hv)
  | i + 1, 0, hi, hj => simp at hi hj; subst hj; exact absurd hv (hx hi hu)
  | i + 1, j + 1, hi, hj => simp at hi hj; rw [blks_inj hn' hi hj hu hv]
theorem own_pre {w : World} {lo g n N cap : Nat} {x y : List Int} (h : w.ownsRow lo 5 1 (.slice (some ⟨g, 0, none⟩) N cap) N (bc (x ++ y))) (hn : n = x.length) (hb : Bd x) : Ow w (.slice (some ⟨g, 0, none⟩) n cap) x := by
 subst hn
 have hl : N = (x ++ y).length := by have := h.1; rw [bc_len] at this; omega
 refine ⟨⟨by rw [bc_len]; omega, ?_⟩, hb⟩
 rcases h.2 with ⟨hv, _⟩ | ⟨g', cap', cur, hv, _, hh, hc, hm, hs, ht⟩
 ·cases hv
 ·cases hv
  rw [List.length_append] at hl
  refine .inr ⟨g, cap, cur, rfl, Nat.zero_le _, hh, by omega, hm, hs, ?_⟩
  have : (cur.toList.take (N * 1)).take (x.length * 1) = (bc (x ++ y)).take (x.length * 1) := by rw [ht]
  rw [List.take_take, bc_append, Nat.min_eq_left (by omega)] at this
  rw [this, List.take_left' (by rw [bc_len]; omega)]
def Wg (w w' : World) (v v' : Value) (n m : Nat) : Prop :=
 (∃ g cap, v = .slice (some ⟨g, 0, none⟩) n cap ∧ v' = .slice (some ⟨g, 0, none⟩) (n + m) cap ∧ Keep (fun b => b = g) w w') ∨ (v' = v ∧ m = 0 ∧ w' = w) ∨ (v'.ownBlock = some w.heap.size ∧ Keep (fun _ => False) w w')
theorem keep_grown (w : World) (o : Obj) : Keep (fun _ => False) w (w.drew.alloc o) := (Keep.refl _ w).drew.alloc o
theorem bytes_grow {w : World} {base : Nat} {v : Value} {n : Nat} {xs : List Int} (hown : w.ownsRow base 5 1 v n (bc xs)) {ad : Addr} {m c : Nat} {ys : List Int} (hr : Rd w (some ad) m c ys) (hb : n + m ≤ 1000000000) {ty : TypeId} {v' : Value} {w' : World}
  (hgr : w.grownBy w' v.ownBlock) (hrun : (Builtin.append_ #[29, 29] ty #[v, .slice (some ad) m c]).run Tryz.prog w = .ok v' w') : Wg w w' v v' n m := by
 obtain ⟨i0, hi, hz0, hz1, hz2⟩ := info_parts Tryz.info5
 have hl : (bc ys).length = m * i0.size := by rw [bc_len, hr.len, hz1]; omega
 rcases hown.2 with ⟨rfl, rfl⟩ | ⟨g, cap, cur, rfl, hbg, hg, hnc, hcm, hcs, htake⟩
 ·by_cases hm : m = 0
  ·subst hm
   right; left
   simp [Builtin.append_, run_underlying Tryz.underlying29, sizeOf, typeInfo, hi, Builtin.lenOf, Builtin.firstCells, loadCells, loadCellsFrom] at hrun
   exact ⟨hrun.1.symm, rfl, hrun.2.symm⟩
  ·right; right
   have hr2 := run_append_nil (P := Tryz.prog) w 29 ty 5 i0 (.int .u8 0) Tryz.underlying29 hi hz0 ad m c (bc ys) hl (hr.news rfl) (by omega) (by omega) (by rw [hz2]; omega)
   rw [hr2] at hrun
   injection hrun with e e2
   rw [← e, ← e2]; exact ⟨rfl, keep_grown _ _⟩
 ·by_cases hroom : n + m ≤ cap
  ·left
   have hr2 := run_append_room (P := Tryz.prog) w 29 ty 5 i0 Tryz.underlying29 hi g n cap cur hg ad m c (bc ys) hl (hr.news rfl) (bc_one ys) hroom (by rw [hl, hcs, hz1]; omega)
   rw [hr2] at hrun
   injection hrun with e _
   exact ⟨g, cap, rfl, e.symm, (Keep.ofGrown hgr).mono (fun i e => by cases e; rfl)⟩
  ·right; right
   have hr2 := run_append_grow (P := Tryz.prog) w 29 ty 5 i0 (.int .u8 0) Tryz.underlying29 hi hz0 ⟨g, 0, none⟩ n cap (bc xs) (by rw [hown.1, hz1]) (hown.cells (g := g) rfl) ad m c (bc ys) hl (hr.news rfl) (by omega) (by omega) (growslice_fits (by omega) (by rw [hz2]; omega))
   rw [hr2] at hrun
   injection hrun with e e2
   rw [← e, ← e2]; exact ⟨rfl, keep_grown _ _⟩
theorem run_grow {w : World} {v : Value} {xs : List Int} (ty : TypeId) (hown : Ow w v xs) {ao : Option Addr} {m c : Nat} {ys : List Int} (hr : Rd w ao m c ys) (hb : xs.length + m ≤ 1000000000) :
  ∃ v' w', (Builtin.append_ #[29, 29] ty #[v, .slice ao m c]).run Tryz.prog w = .ok v' w' ∧ Ow w' v' (xs ++ ys) ∧ Wg w w' v v' xs.length m := by
 obtain ⟨v', w', hrun, h2, h3, _⟩ := run_bytes (w := w) ty hown.own hr hb (Nat.zero_le _)
 have ho := Ow.ofFrom h2 (hown.bd.append hr.bytes)
 cases ao with
 | none =>
  obtain ⟨rfl, rfl⟩ := rd_noneK hr rfl
  obtain ⟨i0, hi, hz0, hz1, hz2⟩ := info_parts Tryz.info5
  have hq := run_append_owned_none w 0 29 ty 5 i0 1 Tryz.underlying29 hi _ xs.length (bc xs) hown.own
  rw [hq] at hrun
  injection hrun with e e2
  exact ⟨v', w', by rw [hq, e, e2], ho, .inr (.inl ⟨e.symm, rfl, e2.symm⟩)⟩
 | some ad => exact ⟨v', w', hrun, ho, bytes_grow hown.own hr hb h3 hrun⟩
theorem wp_grow {w : World} {ops : Array Oper} {rest : List Oper} {o : Oper} {a : Act} {Q : Exit → Act → World → Prop} (hgd : o.guard = none) (s x : Operand)
  (ho : o.op = .call { callee := .builtin .append, args := #[s, x], argTypes := #[29, 29] })
  (v : Value) (xs : List Int) (hs : a.eval s = v) (hown : Ow w v xs)
  (ao : Option Addr) (m c : Nat) (ys : List Int) (hx : a.eval x = .slice ao m c) (hr : Rd w ao m c ys) (hb : xs.length + m ≤ 1000000000)
  (h : ∀ v' w', Ow w' v' (xs ++ ys) → Wg w w' v v' xs.length m → wpList Tryz.prog ops Q rest (a.put o.dst v') w') : wpList Tryz.prog ops Q (o :: rest) a w := by
 refine wpList_plain hgd fun K hK => ?_
 obtain ⟨v', w', hrun, h2, h3⟩ := run_grow (w := w) o.type hown hr hb
 unfold Oper.wp
 rw [run_app_op' ho hs hx hrun]
 exact hK _ _ (h v' w' h2 h3)
structure Grow (w0 w : World) (v l : Value) (x y : List Int) : Prop where
 own : Ow w l (x ++ y)
 old : Ow w v x
 lt : ∀ b, v.ownBlock = some b → b < w0.heap.size
 keep : Keep (fun b => v.ownBlock = some b) w0 w
 place : (∃ g cap, v = .slice (some ⟨g, 0, none⟩) x.length cap ∧ l = .slice (some ⟨g, 0, none⟩) (x.length + y.length) cap) ∨ (l = v ∧ y = []) ∨ (∀ b, l.ownBlock = some b → w0.heap.size ≤ b)
theorem Grow.refl {w : World} {v : Value} {x : List Int} (h : Ow w v x) : Grow w w v v x [] := ⟨by rw [List.append_nil]; exact h, h, fun b e => (h.own.lt b e).2, Keep.refl _ _, .inr (.inl ⟨rfl, rfl⟩)⟩
theorem Grow.blk {w0 w : World} {v l : Value} {x y : List Int} (h : Grow w0 w v l x y) : ∀ b, l.ownBlock = some b → v.ownBlock = some b ∨ w0.heap.size ≤ b := by
 rcases h.place with ⟨g, cap, rfl, rfl⟩ | ⟨rfl, _⟩ | h
 ·exact fun b e => .inl e
 ·exact fun b e => .inl e
 ·exact fun b e => .inr (h b e)
theorem Grow.after {w0 w w' : World} {v l : Value} {x y : List Int} (h : Grow w0 w v l x y) (hk : Keep (fun _ => False) w w') : Grow w0 w' v l x y :=
 ⟨h.own.keep hk (fun _ _ h => h), h.old.keep hk (fun _ _ h => h), h.lt, h.keep.andThen hk (fun _ _ h => h.elim), h.place⟩
theorem Grow.step {w0 w w' : World} {v l l' : Value} {x y z : List Int} {m : Nat} (h : Grow w0 w v l x y) (ho : Ow w' l' ((x ++ y) ++ z)) (hm : z.length = m) (hw : Wg w w' l l' (x ++ y).length m) : Grow w0 w' v l' x (y ++ z) := by
 have hs := h.keep.size
 rw [List.append_assoc] at ho
 rcases hw with ⟨g, cap, hl, hl', hk⟩ | ⟨rfl, hm0, rfl⟩ | ⟨hb, hk⟩
 ·have hon := ho.own
  rcases h.place with ⟨g1, cap1, hv, hl1⟩ | ⟨hlv, hy⟩ | hp
  ·rw [hl1] at hl
   injection hl with e1 e2 e3
   injection e1 with e1
   injection e1 with e1
   subst e1 e3
   subst hl'
   refine ⟨ho, ?_, h.lt, h.keep.andThen hk (fun i _ e => by rw [hv, e]; rfl), .inl ⟨g1, cap1, hv, ?_⟩⟩
   ·rw [hv]
    have e : (x ++ (y ++ z)).length = (x ++ y).length + m := by simp; omega
    rw [e] at hon
    exact own_pre hon rfl h.old.bd
   ·congr 1; simp; omega
  ·subst hlv hy
   rw [List.append_nil] at hl hl'
   subst hl'
   refine ⟨ho, ?_, h.lt, h.keep.andThen hk (fun i _ e => by rw [hl, e]; rfl), .inl ⟨g, cap, hl, ?_⟩⟩
   ·rw [hl]
    have e : (x ++ ([] ++ z)).length = x.length + m := by simp; omega
    rw [e] at hon
    exact own_pre hon rfl h.old.bd
   ·congr 1; simp; omega
  ·have hg : w0.heap.size ≤ g := hp g (by rw [hl]; rfl)
   refine ⟨ho, h.old.keep hk (fun b e e2 => by have := h.lt b e; omega), h.lt, h.keep.andThen hk (fun i hi e => by omega), .inr (.inr (fun b e => ?_))⟩
   rw [hl'] at e; cases e; exact hg
 ·have hz : z = [] := List.eq_nil_of_length_eq_zero (by omega)
  subst hz
  rw [List.append_nil] at ho ⊢
  exact ⟨ho, h.old, h.lt, h.keep, h.place⟩
 ·refine ⟨ho, h.old.keep hk (fun _ _ h => h), h.lt, h.keep.andThen hk (fun _ _ h => h.elim), .inr (.inr (fun b e => ?_))⟩
  rw [hb] at e; cases e; exact hs
theorem set_getD {zs : List (List Int)} {i : Nat} : zs.set i (zs.getD i []) = zs := by
 apply List.ext_getElem?
 intro j
 by_cases h : i = j
 ·subst h
  by_cases hl : i < zs.length
  ·simp [List.getD, hl]
  ·simp [List.getElem?_eq_none (Nat.le_of_not_lt hl)]; omega
 ·rw [List.getElem?_set_ne h]
theorem Half.turn {S : Nat → Prop} {w w' : World} {fv : Value} {fs : List Value} {zs : List (List Int)} (h : Half w fv fs zs) (hn : (blks fs).Nodup) {i : Nat} {v : Value} (hi : fs[i]? = some v) (hk : Keep S w w') (hS : ∀ b, b < w.heap.size → S b → v.ownBlock = some b) (ho : Ow w' v (zs.getD i [])) : Half w' fv fs zs := by
 have hk' : Keep (fun b => v.ownBlock = some b) w w' := ⟨hk.os, hk.tape, hk.output, hk.size, fun k hl hs => hk.block k hl (fun s => hs (hS k hl s))⟩
 refine ⟨own_keep h.row hk' (fun k e e2 => row_apart h.row h.ows k (mem_of hi e2) e), ?_⟩
 have := Ows.set hk' h.ows hn hi (fun k _ e => e) ho
 rwa [set_getD] at this
def Ofs (fs us : List Value) : Prop := ∀ (j : Nat) (u : Value), us[j]? = some u → ∀ b, u.ownBlock = some b → (∃ v, fs[j]? = some v ∧ v.ownBlock = some b) ∨ b ∉ blks fs
theorem Ofs.nil (fs : List Value) : Ofs fs [] := fun j u h => by simp at h
theorem Ofs.snoc {fs us : List Value} (h : Ofs fs us) {v l : Value} (hv : fs[us.length]? = some v) (hl : ∀ b, l.ownBlock = some b → v.ownBlock = some b ∨ b ∉ blks fs) : Ofs fs (us ++ [l]) := by
 intro j u hj b hb
 by_cases hlt : j < us.length
 ·rw [List.getElem?_append_left hlt] at hj
  exact h j u hj b hb
 ·have hje : j = us.length := by
   by_cases e : j = us.length
   ·exact e
   ·rw [List.getElem?_eq_none (by rw [List.length_append]; simp; omega)] at hj; cases hj
  subst hje
  simp at hj
  subst hj
  exact (hl b hb).imp (fun e => ⟨v, hv, e⟩) id
theorem Ofs.apart {fs us : List Value} (h : Ofs fs us) (hn : (blks fs).Nodup) {i : Nat} {v : Value} (hv : fs[i]? = some v) {j : Nat} {u : Value} (hj : us[j]? = some u) {b : Nat} (hu : u.ownBlock = some b) (hb : v.ownBlock = some b) : j = i := by
 rcases h j u hj b hu with ⟨v', hv', hb'⟩ | hx
 ·exact blks_inj hn hv' hv hb' hb
 ·exact absurd (mem_of hv hb) hx
theorem Ows.cap {w : World} {g n n' c c' : Nat} {x y : List Int} (h : Ow w (.slice (some ⟨g, 0, none⟩) n c) x) (h' : Ow w (.slice (some ⟨g, 0, none⟩) n' c') y) : c = c' := by
 rcases h.own.2 with ⟨hv, _⟩ | ⟨g1, cap1, cur1, hv, _, hh1, _, _, hs1, _⟩
 ·cases hv
 rcases h'.own.2 with ⟨hv', _⟩ | ⟨g2, cap2, cur2, hv', _, hh2, _, _, hs2, _⟩
 ·cases hv'
 cases hv; cases hv'
 rw [hh1] at hh2
 cases hh2
 omega
theorem Ows.of {w : World} : ∀ {vs : List Value} {xs : List (List Int)}, vs.length = xs.length → (∀ j v, vs[j]? = some v → Ow w v (xs.getD j [])) → Ows w vs xs
 | [], [], _, _ => trivial
 | [], _ :: _, h, _ => by simp at h
 | _ :: _, [], h, _ => by simp at h
 | v :: vs, x :: xs, h, k => ⟨k 0 v rfl, Ows.of (by simpa using h) (fun j u hj => by have := k (j + 1) u (by simpa using hj); simpa using this)⟩
theorem Half.beside {w w' : World} {ov : Value} {os fs : List Value} {xs : List (List Int)} {i m : Nat} {v v' : Value} {x y1 y2 : List Int} (hO : Half w ov os xs) (hF : Ofs fs os) (hn : (blks fs).Nodup) (hv : fs[i]? = some v) (hov : Ow w v x) (hx : i < os.length → xs.getD i [] = x ++ y1) (hw : Wg w w' v v' x.length m) (hm : m ≠ 0) (ho : Ow w' v' (x ++ (y1 ++ y2))) : Half w' ov os xs := by
 rcases hw with ⟨g, cap, rfl, rfl, hk⟩ | ⟨_, h0, _⟩ | ⟨_, hk⟩
 ·have hg := own_ty hov.own (k := g) rfl
  refine ⟨own_keep hO.row hk (fun k e e2 => ?_), Ows.of hO.ows.len (fun j u hj => ?_)⟩
  ·obtain ⟨_, h1⟩ := hg
   obtain ⟨_, h2⟩ := own_ty hO.row e
   rw [e2] at h2
   exact absurd (cells_ty h1 h2) (by decide)
  ·have hu := hO.ows.get hj
   by_cases e : u.ownBlock = some g
   ·have hji := hF.apart hn hv hj e rfl
    subst hji
    rw [hx (List.getElem?_eq_some_iff.1 hj).1] at hu ⊢
    rcases hu.own.2 with ⟨hv', _⟩ | ⟨g1, cap1, cur1, hv', _⟩
    ·rw [hv'] at e; cases e
    ·rw [hv'] at e hu ⊢
     have e' : g1 = g := Option.some.inj e
     subst e'
     have hc := Ows.cap hu hov
     subst hc
     have hon := ho.own
     rw [← List.append_assoc] at hon
     have hl : ((x ++ y1) ++ y2).length = x.length + m := by
      have := hon.1
      rcases hon.2 with ⟨hq, _⟩ | ⟨g2, cap2, cur2, hq, _⟩
      ·cases hq
      ·injection hq with _ h2 _; omega
     rw [hl] at hon
     exact own_pre hon rfl hu.bd
   ·exact hu.keep hk (fun k e1 e2 => e (by rw [e1, e2]))
 ·exact absurd h0 hm
 ·exact hO.keep hk (fun _ _ h => h)
theorem Half.grown {w w' : World} {fv : Value} {fs : List Value} {zs : List (List Int)} {i m : Nat} {v v' : Value} {y : List Int} (hF : Half w fv fs zs) (hn : (blks fs).Nodup) (hv : fs[i]? = some v) (hw : Wg w w' v v' (zs.getD i []).length m) (ho : Ow w' v' (zs.getD i [] ++ y)) : Half w' fv fs zs := by
 have hov := hF.ows.get hv
 rcases hw with ⟨g, cap, rfl, rfl, hk⟩ | ⟨_, _, rfl⟩ | ⟨_, hk⟩
 ·refine hF.turn hn hv hk (fun b _ e => by rw [e]; rfl) ?_
  have hon := ho.own
  have hl : (zs.getD i [] ++ y).length = (zs.getD i []).length + m := by
   rcases hon.2 with ⟨hq, _⟩ | ⟨g2, cap2, cur2, hq, _⟩
   ·cases hq
   ·injection hq with _ h2 _; omega
  rw [hl] at hon
  exact own_pre hon rfl hov.bd
 ·exact hF
 ·exact hF.keep hk (fun _ _ h => h)
theorem Wg.keep {w w' : World} {v v' : Value} {n m : Nat} (h : Wg w w' v v' n m) : Keep (fun b => v.ownBlock = some b) w w' := by
 rcases h with ⟨g, cap, rfl, rfl, hk⟩ | ⟨_, _, rfl⟩ | ⟨_, hk⟩
 ·exact hk.mono (fun b e => by rw [e]; rfl)
 ·exact Keep.refl _ _
 ·exact hk.mono (fun _ h => h.elim)
theorem Wg.blk {w w' : World} {v v' : Value} {n m : Nat} (h : Wg w w' v v' n m) : ∀ b, v'.ownBlock = some b → v.ownBlock = some b ∨ w.heap.size ≤ b := by
 rcases h with ⟨g, cap, rfl, rfl, hk⟩ | ⟨rfl, _, _⟩ | ⟨h, _⟩
 ·exact fun b e => .inl e
 ·exact fun b e => .inl e
 ·intro b e; rw [h] at e; cases e; exact .inr (Nat.le_refl _)
theorem rep_of {z : List Int} {n : Nat} {c : Int} (hl : z.length = n) (h : ∀ t, t < n → z.getD t 0 = c) : z = List.replicate n c := by
 apply List.ext_getElem
 ·simpa using hl
 ·intro i h1 h2
  have := h i (by omega)
  rw [List.getElem_replicate]
  simpa [List.getD, List.getElem?_eq_getElem h1] using this
def outs (zs : List (List Int)) (q k : Nat) : List (List Int) := (List.range k).map (fun i => zs.getD i [] ++ List.replicate q (mk2 i))
theorem outs_succ (zs : List (List Int)) (q k : Nat) : outs zs q (k + 1) = outs zs q k ++ [zs.getD k [] ++ List.replicate q (mk2 k)] := by unfold outs; rw [List.range_succ, List.map_append]; rfl
theorem outs_get {zs : List (List Int)} {q k i : Nat} (h : i < k) : (outs zs q k).getD i [] = zs.getD i [] ++ List.replicate q (mk2 i) := by unfold outs; simp [List.getD, h]
theorem mk_bd (i : Nat) : 0 ≤ mk i ∧ mk i ≤ 255 := by unfold mk; omega
theorem mk2_bd (i : Nat) : 0 ≤ mk2 i ∧ mk2 i ≤ 255 := by unfold mk2; omega
theorem rd_1 (w : World) (x : Int) (h : 0 ≤ x ∧ x ≤ 255) : Rd (w.alloc (.cells #[.int .u8 x] 5)) (some ⟨w.heap.size, 0, none⟩) 1 1 [x] := by
 refine ⟨rfl, Nat.le_refl _, by unfold maxLen; omega, (fun h => by cases h), (fun y hy => by simp at hy; omega), fun ad had j hj => ?_⟩
 cases had
 rw [add_flat]
 match j, hj with
 | 0, _ => simp
end Go.Proofs.YtikkieaokfailaaGreatDoor

namespace Go.Proofs.YtikkieaokfailaaGreatDoor
open Go.RowKit
theorem Ow.sl {w : World} {v : Value} {x : List Int} (h : Ow w v x) : ∃ a n c, v = .slice a n c := by
 obtain ⟨a, c, hv⟩ := own_slO h.own
 exact ⟨a, _, c, hv⟩
theorem getI_set_eq {z : List Int} {m : Nat} {y : Int} (h : m < z.length) : (z.set m y).getD m 0 = y := by simp [List.getD, h]
theorem getI_set_ne {z : List Int} {m t : Nat} {y : Int} (h : m ≠ t) : (z.set m y).getD t 0 = z.getD t 0 := by simp [List.getD, List.getElem?_set_ne h]
set_option maxHeartbeats 6400000 in
set_option maxRecDepth 4000000 in
theorem close_any (p N : Nat) (fv wv : Value) (fs ws : List Value) (ys : List (List Int)) (w : World) (hB : BookAt w p fv wv fs ws ys N) :
  Calls Tryz.prog 85 #[.pointer (some ⟨p, 0, none⟩)] w fun e w' => e = .returned (.bool true) ∧ Keep (BF p fv wv fs ws) w w' := by
 obtain ⟨hC, hT, hlen, hmost, heach⟩ := hB
 obtain ⟨af, cf, rfl⟩ := own_slO hT.f.row
 have hF := hT.f
 have hnd := hT.nodup
 have hf : fs.length ≤ 2000000 := by omega
 have HX : Hid (fs.length = ys.length) := hF.ows.len
 have hp := hC.lt
 obtain ⟨BFx, hBp, hBf⟩ : ∃ S : Nat → Prop, S p ∧ (∀ k, k ∈ blks fs → S k) ∧ (∀ k, S k → BF p (.slice af fs.length cf) wv fs ws k) := ⟨_, .inl rfl, fun k e => .inr (.inl (.inr e)), fun _ h => h⟩
 have HE : Hid (∀ j, (ys.getD j []).length ≤ 1000000) := by
  intro j
  by_cases hj : j < ys.length
  ·have e : ys.getD j [] = ys[j] := by simp [List.getD, List.getElem?_eq_getElem hj]
   rw [e]; exact heach _ (List.getElem_mem hj)
  ·have e : ys.getD j [] = [] := by simp [List.getD, List.getElem?_eq_none (Nat.le_of_not_lt hj)]
   rw [e]; simp
 have hlf : ∀ k, k ∈ blks fs → k < w.heap.size := fun k e => hF.ows.lt k e
 have hFl := hF.lt
 clear heach hlen hmost hT
 go_enter Tryz.func85, Tryz.ntmps85
 go_wp2
 go_loopw [3, 4] (fun i _ wr => ∃ (k : Nat) (zs : List (List Int)), i = .int .i64 k ∧ k ≤ fs.length ∧ BC wr p (.slice af fs.length cf) wv (.slice none 0 0) (.slice none 0 0) N ∧ Half wr (.slice af fs.length cf) fs zs ∧ Hid (∀ j, j < k → zs.getD j [] = List.replicate (ys.getD j []).length (mk j)) ∧ Hid (∀ j, (zs.getD j []).length = (ys.getD j []).length) ∧ Keep BFx w wr) (fun i _ _ => fs.length - (intOf i).toNat)
 case atStart => exact ⟨0, ys, rfl, Nat.zero_le _, hC, hF, (fun j hj => by omega : ∀ j, j < 0 → _), (fun _ => rfl : ∀ j, _), Keep.refl _ _⟩
 case round =>
  clear hC hF
  obtain ⟨k, zs, rfl, hk, hCr, hFr, HZ, HL, hK⟩ := hrel
  have hc0 := hCr.c0
  by_cases hlt : k < fs.length
  ·have hlz : (k : Int) < (fs.length : Int) := by omega
   obtain ⟨gf, capf, ak, nk, ck, hv, hcell, hvk, hok, hnk, hrk⟩ := hFr.cell hlt
   cases hv
   have HN : Hid (nk = (ys.getD k []).length) := by show nk = _; rw [hnk]; exact HL.out k
   have hnb : nk ≤ 1000000 := by have := HN.out; have := HE.out k; omega
   clear hnk hok hrk
   go_wp2
   go_loopw [4] (fun i wr => ∃ (m : Nat) (zs : List (List Int)), i = .int .i64 m ∧ m ≤ nk ∧ BC wr p (.slice (some ⟨gf, 0, none⟩) fs.length cf) wv (.slice none 0 0) (.slice none 0 0) N ∧ Half wr (.slice (some ⟨gf, 0, none⟩) fs.length cf) fs zs ∧ Hid (∀ j, j < k → zs.getD j [] = List.replicate (ys.getD j []).length (mk j)) ∧ Hid (∀ j, (zs.getD j []).length = (ys.getD j []).length) ∧ Hid (∀ t, t < m → (zs.getD k []).getD t 0 = mk k) ∧ Keep BFx w wr) (fun i _ => nk - (intOf i).toNat)
   case atStart => exact ⟨0, zs, rfl, Nat.zero_le _, hCr, hFr, HZ, HL, (fun j hj => by omega : ∀ t, t < 0 → _), hK⟩
   case round =>
    clear hCr hFr HZ HL hK hc0 hcell
    obtain ⟨m, zs, rfl, hm, hCr, hFr, HZ, HL, HM, hK⟩ := hrel
    have hc0 := hCr.c0
    have hcell := hFr.cellAt hvk
    by_cases hmn : m < nk
    ·have hmz : (m : Int) < (nk : Int) := by omega
     obtain ⟨g, hak, hnl, hnc, hwr⟩ := (hFr.ows.get hvk).some (by omega)
     subst hak
     have HNL : Hid (nk = (zs.getD k []).length) := hnl
     clear hnl hnc
     obtain ⟨hfz, hcm⟩ := hwr m
     have hcm' := hcm hmn
     clear hwr hcm
     have hmke : (k : Int) % 125 = mk k := by unfold mk; omega
     go_wp2
     obtain ⟨hF', hK'⟩ := hFr.stored hnd hvk m (mk k) (mk_bd k).1 (mk_bd k).2
     have hC' := hCr.keep hK' (fun e => hFr.not hCr (by decide) (by decide) (.inr e))
     have hky : k < zs.length := by rw [← hFr.ows.len]; exact hlt
     go_roundw
     case rel => exact ⟨m + 1, _, by go_num, by omega, hC', hF', (fun j hj => by rw [getD_set_ne (by omega)]; exact HZ.out j hj : ∀ j, j < k → _), (fun j => by
      by_cases hj : k = j
      ·subst hj; rw [getD_set_eq hky, List.length_set]; exact HL.out k
      ·rw [getD_set_ne hj]; exact HL.out j : ∀ j, _), (fun t ht => by
      rw [getD_set_eq hky]
      by_cases hj : m = t
      ·subst hj; exact getI_set_eq (by have := HNL.out; omega)
      ·rw [getI_set_ne hj]; exact HM.out t (by omega) : ∀ t, t < m + 1 → _), hK.andThen hK' (fun i _ e => hBf.1 i e)⟩
     case measure => simp [intOf]; omega
    ·have hmz : ¬ (m : Int) < (nk : Int) := by omega
     go_wp2
     go_roundw
     case rel => exact ⟨k + 1, zs, by go_num, by omega, hCr, hFr, (fun j hj => by
      by_cases e : j = k
      ·subst e
       have hnn := HN.out
       rw [← hnn]
       exact rep_of (by rw [HL.out j, hnn]) (fun t ht => HM.out t (by omega))
      ·exact HZ.out j (by omega) : ∀ j, j < k + 1 → _), HL, hK⟩
     case measure => simp [intOf]; omega
  ·have hlz : ¬ (k : Int) < (fs.length : Int) := by omega
   have hkf : k = fs.length := by omega
   have HZ2 : Hid (∀ i, i < fs.length → zs.getD i [] = List.replicate (zs.getD i []).length (mk i) ∧ (zs.getD i []).length ≤ 1000000) := by
    intro i hi
    have h1 := HZ.out i (by omega)
    have h2 := HL.out i
    have h3 := HE.out i
    rw [h2]
    exact ⟨h1, h3⟩
   clear HZ HL HE HX hkf
   have hGe : ∀ b, (Value.slice none 0 0).ownBlock = some b → w.heap.size ≤ b := fun b e => by cases e
   go_wp2
   clear hc0 hlz hk hlt
   go_loopw [5, 6, 7] (fun i _ _ wr => ∃ (k : Nat) (a2 : Option Addr) (c2 : Nat) (os : List Value), i = .int .i64 k ∧ k ≤ fs.length ∧ BC wr p (.slice af fs.length cf) wv (.slice a2 k c2) (.slice none 0 0) N ∧ Half wr (.slice af fs.length cf) fs zs ∧ Half wr (.slice a2 k c2) os (outs zs 16 k) ∧ Hid (os.length = k) ∧ Hid (Ofs fs os) ∧ (∀ b, (Value.slice a2 k c2).ownBlock = some b → w.heap.size ≤ b) ∧ Keep BFx w wr) (fun i _ _ _ => fs.length - (intOf i).toNat)
   case atStart => exact ⟨0, none, 0, [], rfl, Nat.zero_le _, hCr, hFr, Half.nil _, rfl, Ofs.nil _, hGe, hK⟩
   case round =>
    clear hCr hFr hK hGe
    obtain ⟨k, a2, c2, os, rfl, hk, hCr, hFr, hOr, HOL, HOF, hGe, hK⟩ := hrel
    have hc0 := hCr.c0
    by_cases hlt : k < fs.length
    ·have hlz : (k : Int) < (fs.length : Int) := by omega
     obtain ⟨gf, capf, ak, nk, ck, hv, hcell, hvk, hok, hnk, hrk⟩ := hFr.cell hlt
     cases hv
     have hzb := (HZ2.out k hlt).2
     have HN : Hid (nk = (zs.getD k []).length) := hnk
     have hG0 := Grow.refl hok
     clear hnk hrk
     go_wp2
     go_loopw [6, 7] (fun l t wx => ∃ (m : Nat) (al : Option Addr) (nl cl : Nat), t = .int .i64 m ∧ m ≤ 16 ∧ l = .slice al nl cl ∧ Grow wr wx (.slice ak nk ck) (.slice al nl cl) (zs.getD k []) (List.replicate m (mk2 k))) (fun _ t _ => 16 - (intOf t).toNat)
     case atStart => exact ⟨0, _, _, _, rfl, Nat.zero_le _, rfl, hG0⟩
     case round =>
      obtain ⟨m, al, nl, cl, rfl, hm, rfl, hG⟩ := hrel
      by_cases hm16 : m < 16
      ·have hmz : (m : Int) < 16 := by omega
       have hmke : (125 : Int) + (k : Int) % 125 = mk2 k := by unfold mk2; omega
       have hbl : (zs.getD k [] ++ List.replicate m (mk2 k)).length + 1 ≤ 1000000000 := by rw [List.length_append, List.length_replicate]; omega
       go_wp2_with (at_builtin; refine wp_grow rfl _ _ rfl _ _ rfl (hG.after ((Keep.refl _ _).alloc _)).own _ 1 1 [mk2 k] rfl (rd_1 _ _ (mk2_bd k)) hbl ?_; intro l' wy ho' hw'; obtain ⟨al', nl', cl', rfl⟩ := ho'.sl)
       have hG' := (hG.after ((Keep.refl _ _).alloc (.cells #[.int .u8 (mk2 k)] 5))).step ho' rfl hw'
       have er : List.replicate m (mk2 k) ++ [mk2 k] = List.replicate (m + 1) (mk2 k) := by rw [List.replicate_succ']
       rw [er] at hG'
       go_roundw
       case rel => exact ⟨m + 1, _, _, _, by go_num, by omega, rfl, hG'⟩
       case measure => simp [intOf]; omega
      ·have hmz : ¬ (m : Int) < 16 := by omega
       have hme : m = 16 := by omega
       subst hme
       have hpn : ¬ (Value.slice ak nk ck).ownBlock = some p := fun e => hFr.not hCr (by decide) (by decide) (.inr (mem_of hvk e))
       have hC1 := hCr.keep hG.keep hpn
       have hF1 := hFr.turn hnd hvk hG.keep (fun b _ e => e) hG.old
       have hO1 := hOr.keep hG.keep (fun b e e2 => by
        rcases e with e | e
        ·exact row_apart hOr.row hFr.ows b (mem_of hvk e2) e
        ·obtain ⟨u, hu, hb⟩ := mem_blks.1 e
         obtain ⟨j, hj⟩ := List.mem_iff_getElem?.1 hu
         have h1 := HOF.out.apart hnd hvk hj hb e2
         have h2 := (List.getElem?_eq_some_iff.1 hj).1
         have h3 := HOL.out
         omega)
       have hx2 := hC1.c2
       have hK1 := hK.andThen hG.keep (fun i _ e => hBf.1 i (mem_of hvk e))
       have hor : _ := hO1.row
       rw [HOL.out] at hor
       go_wp2_with (at_builtin; refine wp_row rfl _ _ rfl _ _ os rfl hor _ rfl hG.own.one (by omega) ?_; intro g3 cap3 w3 hown3 hk3 hp3; have hC3 := hC1.keep hk3 (fun e => hO1.not hC1 (by decide) (by decide) (.inl e)); have hx3 := hC3.c2; have hf3 := hC3.fz 2)
       have hk3' : Keep (fun b => (Value.slice a2 k c2).ownBlock = some b) wr w3 := hk3
       have hp3' : (Value.slice a2 k c2).ownBlock = some g3 ∨ wr.heap.size ≤ g3 := hp3
       have hF3 := hF1.keep hk3' (fun b e e2 => absurd (hGe b e2) (by have := hFl b e; omega))
       have hO3 := hO1.snoc hG.own (by rw [HOL.out]; exact hown3) hk3'
       rw [← outs_succ] at hO3
       have hkp : Keep (fun b => b = p) w3 (w3.setCell ⟨p, 2, none⟩ (.slice (some ⟨g3, 0, none⟩) (k + 1) cap3)) := Keep.setCell (S := fun b => b = p) (Keep.refl _ _) rfl _
       have hC4 := hC3.set2 (.slice (some ⟨g3, 0, none⟩) (k + 1) cap3)
       have hF4 := hF3.keep hkp (fun b e h => hF3.not hC3 (by decide) (by decide) (by rw [← h]; exact e))
       have hO4 := hO3.keep hkp (fun b e h => hO3.not hC3 (by decide) (by decide) (by rw [← h]; exact e))
       have hK4 := (hK1.andThen hk3' (fun i hi e => absurd (hGe i e) (by omega))).andThen hkp (fun i _ e => by rw [e]; exact hBp)
       have hOF4 : Ofs fs (os ++ [.slice al nl cl]) := HOF.out.snoc (by rw [HOL.out]; exact hvk) (fun b e => (hG.blk b e).imp id (fun h hm => absurd (hlf b hm) (by have := hK.size; omega)))
       have hs1 := hK1.size
       go_roundw
       case rel => exact ⟨k + 1, _, _, _, by go_num, by omega, hC4, hF4, hO4, (by show (os ++ [_]).length = k + 1; rw [List.length_append, HOL.out]; rfl), hOF4, (fun b e => by have e' : g3 = b := Option.some.inj e; subst e'; rcases hp3' with h | h; exact hGe _ h; omega), hK4⟩
       case measure => simp [intOf]; omega
    ·have hlz : ¬ (k : Int) < (fs.length : Int) := by omega
     have hkf : k = fs.length := by omega
     subst hkf
     have hN0 : ∀ b, (Value.slice none 0 0).ownBlock = some b → w.heap.size ≤ b := fun b e => by cases e
     have hN1 : ∀ b, (Value.slice none 0 0).ownBlock = some b → ¬ (Value.slice a2 fs.length c2).ownBlock = some b := fun b e => by cases e
     have hc2 := hCr.c2
     go_wp2_with (go_at_call 125; refine (look_any p N _ _ _ _ fs os zs (outs zs 16 fs.length) _ 16 _ hCr hFr hOr hf HOL.out HZ2.out (fun i hi => outs_get hi) (by omega)).mono ?_; rintro e wz ⟨rfl, hwz⟩; rw [hwz]; clear hwz)
     clear hc0 hlz hk hlt hc2
     go_loopw [8, 9, 10] (fun i _ _ wr => ∃ (k : Nat) (a3 : Option Addr) (c3 : Nat) (ms : List Value), i = .int .i64 k ∧ k ≤ fs.length ∧ BC wr p (.slice af fs.length cf) wv (.slice a2 fs.length c2) (.slice a3 k c3) N ∧ Half wr (.slice af fs.length cf) fs zs ∧ Half wr (.slice a2 fs.length c2) os (outs zs 16 fs.length) ∧ Half wr (.slice a3 k c3) ms (outs zs 700 k) ∧ Hid (ms.length = k) ∧ Hid (Ofs fs ms) ∧ (∀ b, (Value.slice a3 k c3).ownBlock = some b → w.heap.size ≤ b) ∧ (∀ b, (Value.slice a3 k c3).ownBlock = some b → ¬ (Value.slice a2 fs.length c2).ownBlock = some b) ∧ Keep BFx w wr) (fun i _ _ _ => fs.length - (intOf i).toNat)
     case atStart => exact ⟨0, none, 0, [], rfl, Nat.zero_le _, hCr, hFr, hOr, Half.nil _, rfl, Ofs.nil _, hN0, hN1, hK⟩
     case round =>
      clear hCr hFr hOr hK hN0 hN1
      obtain ⟨k, a3, c3, ms, rfl, hk, hCr, hFr, hOr, hMr, HML, HMF, hGm, hGo, hK⟩ := hrel
      have hc0 := hCr.c0
      by_cases hlt : k < fs.length
      ·have hlz : (k : Int) < (fs.length : Int) := by omega
       obtain ⟨gf, capf, ak, nk, ck, hv, hcell, hvk, hok, hnk, hrk⟩ := hFr.cell hlt
       cases hv
       have hzb := (HZ2.out k hlt).2
       clear hnk hrk
       have hM0 : wr.ownsRow wr.heap.size 5 1 (.slice none 0 0) 0 (bc (List.replicate 0 (mk2 k))) := World.ownsRow_nil _ _ _ _
       go_wp2
       go_loopw [9, 10] (fun m t wx => ∃ (c : Nat) (am : Option Addr) (cm : Nat), t = .int .i64 c ∧ c ≤ 700 ∧ m = .slice am c cm ∧ wx.ownsRow wr.heap.size 5 1 (.slice am c cm) c (bc (List.replicate c (mk2 k))) ∧ Below wr.heap.size wr wx) (fun _ t _ => 700 - (intOf t).toNat)
       case atStart => exact ⟨0, none, 0, rfl, Nat.zero_le _, rfl, hM0, Below.refl _ _⟩
       case round =>
        obtain ⟨c, am, cm, rfl, hc, rfl, hMo, hb⟩ := hrel
        by_cases hc7 : c < 700
        ·have hcz : (c : Int) < 700 := by omega
         have hmke : (125 : Int) + (k : Int) % 125 = mk2 k := by unfold mk2; omega
         go_wp2_with (at_builtin; refine wp_appK rfl _ _ rfl _ _ c _ rfl (hMo.alloc _) _ 1 1 [mk2 k] rfl (rd_1 _ _ (mk2_bd k)) (by omega) (by have := hb.size; simp; omega) ?_; intro v' wy ho' hgr' _; obtain ⟨am', cm', rfl⟩ := own_slO ho')
         have er : List.replicate c (mk2 k) ++ [mk2 k] = List.replicate (c + 1) (mk2 k) := by rw [List.replicate_succ']
         rw [er] at ho'
         have hb' : Below _ _ wy := (hb.alloc hb.size _).grown hgr' (by have := hb.size; simp; omega) (fun j e => (hMo.lt j e).1)
         go_roundw
         case rel => exact ⟨c + 1, _, _, by go_num, by omega, rfl, ho', hb'⟩
         case measure => simp [intOf]; omega
        ·have hcz : ¬ (c : Int) < 700 := by omega
         have hce : c = 700 := by omega
         subst hce
         go_upto_region 27 with fail
         have kX := (Keep.ofBelow (S := fun _ => False) hb).drew
         have hCB := hCr.keep kX (fun h => h)
         have hFB := hFr.keep kX (fun _ _ h => h)
         have hOB := hOr.keep kX (fun _ _ h => h)
         have hMB := hMr.keep kX (fun _ _ h => h)
         have hKB := hK.andThen kX (fun _ _ h => h.elim)
         have hKs := hK.size
         have hoB := hFB.ows.get hvk
         obtain ⟨_, _, hvm, hRm⟩ := Rd.ofOwn (own_drew hMo) (xs := List.replicate 700 (mk2 k)) (fun x hx => by rw [List.eq_of_mem_replicate hx]; exact mk2_bd k)
         cases hvm
         clear kX hcell hc0 hM0 hMo hCr hFr hOr hMr hc hc7 hcz hok
         refine wp_region_px (fun w' => w'.cell? ⟨p, 0, none⟩ = some (.slice (some ⟨gf, 0, none⟩) fs.length cf) ∧ w'.cell? ⟨gf, k, none⟩ = some (.slice ak nk ck)) 19 (by kernel_rfl) (by kernel_rfl) ?_
         generalize World.drew _ = WB at hCB hFB hOB hMB hKB hoB hRm ⊢
         have hSB : WB.cell? ⟨p, 0, none⟩ = some (.slice (some ⟨gf, 0, none⟩) fs.length cf) ∧ WB.cell? ⟨gf, k, none⟩ = some (.slice ak nk ck) := ⟨hCB.c0, hFB.cellAt hvk⟩
         obtain ⟨v13, W13, hrun13, ho13, hw13⟩ := run_grow (w := WB) 29 hoB hRm (by omega)
         obtain ⟨a13, n13, c13, rfl⟩ := ho13.sl
         have hk13 := hw13.keep
         have hpn : ¬ (Value.slice ak nk ck).ownBlock = some p := fun e => hFB.not hCB (by decide) (by decide) (.inr (mem_of hvk e))
         have hC13 := hCB.keep hk13 hpn
         have hF13 := hFB.grown hnd hvk hw13 ho13
         have e7 : List.replicate 700 (mk2 k) = List.replicate 16 (mk2 k) ++ List.replicate 684 (mk2 k) := by rw [List.replicate_append_replicate]
         have ho13' := ho13
         rw [e7] at ho13'
         have hO13 := hOB.beside HOF.out hnd hvk hoB (fun _ => outs_get hlt) hw13 (by omega) ho13'
         have hM13 := hMB.keep hk13 (fun b e e2 => by
          rcases e with e | e
          ·exact row_apart hMB.row hFB.ows b (mem_of hvk e2) e
          ·obtain ⟨u, hu, hb⟩ := mem_blks.1 e
           obtain ⟨j, hj⟩ := List.mem_iff_getElem?.1 hu
           have h1 := HMF.out.apart hnd hvk hj hb e2
           have h2 := (List.getElem?_eq_some_iff.1 hj).1
           have h3 := HML.out
           omega)
         have hK13 := hKB.andThen hk13 (fun i _ e => hBf.1 i (mem_of hvk e))
         have hbl13 : ∀ b, (Value.slice a13 n13 c13).ownBlock = some b → (Value.slice ak nk ck).ownBlock = some b ∨ b ∉ blks fs := fun b e => (hw13.blk b e).imp id (fun h hm => absurd (hlf b hm) (by have := hKB.size; omega))
         have hS13 : W13.cell? ⟨p, 0, none⟩ = some (.slice (some ⟨gf, 0, none⟩) fs.length cf) ∧ W13.cell? ⟨gf, k, none⟩ = some (.slice ak nk ck) := ⟨hC13.c0, hF13.cellAt hvk⟩
         have kA : Keep (fun _ => False) W13 (W13.alloc (.cells #[.slice a13 n13 c13] 29)) := (Keep.refl _ W13).alloc _
         have hC14 := hC13.keep kA (fun h => h)
         have hF14 := hF13.keep kA (fun _ _ h => h)
         have hO14 := hO13.keep kA (fun _ _ h => h)
         have hM14 := hM13.keep kA (fun _ _ h => h)
         have ho14 := ho13.keep kA (fun _ _ h => h)
         have hK14 := hK13.andThen kA (fun _ _ h => h.elim)
         have hb14 : (W13.alloc (.cells #[.slice a13 n13 c13] 29)).heap[W13.heap.size]? = some (.cells #[.slice a13 n13 c13] 29 (0, 0)) := heap_alloc_new _ _
         obtain ⟨W14, HW14⟩ : ∃ W14, Hid (W14 = W13.alloc (.cells #[.slice a13 n13 c13] 29)) := ⟨_, rfl⟩
         rw [← HW14.out] at hC14 hF14 hO14 hM14 ho14 hK14 hb14
         clear kA
         have hS14 : W14.cell? ⟨p, 0, none⟩ = some (.slice (some ⟨gf, 0, none⟩) fs.length cf) ∧ W14.cell? ⟨gf, k, none⟩ = some (.slice ak nk ck) := ⟨hC14.c0, hF14.cellAt hvk⟩
         have hmr := hM14.row
         rw [HML.out] at hmr
         obtain ⟨g15, cap15, W15, hrun15, ho15, hk15, hp15⟩ := run_row (w := W14) 30 hmr hb14 rfl (by omega)
         have hC15 := hC14.keep hk15 (fun e => hM14.not hC14 (by decide) (by decide) (.inl e))
         have hF15 := hF14.keep hk15 (fun b e e2 => absurd (hGm b e2) (by have := hFl b e; omega))
         have hO15 := hO14.keep hk15 (fun b e e2 => by
          rcases e with e | e
          ·exact hGo b e2 e
          ·exact row_apart hM14.row hO14.ows b e e2)
         have hM15 := hM14.snoc ho14 (by rw [HML.out]; exact ho15) hk15
         rw [← outs_succ] at hM15
         have hS15 : W15.cell? ⟨p, 0, none⟩ = some (.slice (some ⟨gf, 0, none⟩) fs.length cf) ∧ W15.cell? ⟨gf, k, none⟩ = some (.slice ak nk ck) := ⟨hC15.c0, hF15.cellAt hvk⟩
         have hx3 := hC15.c3
         have hx4 := hC15.fz 3
         have hkE : Keep (fun b => b = p) W15 (W15.setCell ⟨p, 3, none⟩ (.slice (some ⟨g15, 0, none⟩) (k + 1) cap15)) := Keep.setCell (S := fun b => b = p) (Keep.refl _ _) rfl _
         have hCE := hC15.set3 (.slice (some ⟨g15, 0, none⟩) (k + 1) cap15)
         have hFE := hF15.keep hkE (fun b e h => hF15.not hC15 (by decide) (by decide) (by rw [← h]; exact e))
         have hOE := hO15.keep hkE (fun b e h => hO15.not hC15 (by decide) (by decide) (by rw [← h]; exact e))
         have hME := hM15.keep hkE (fun b e h => hM15.not hC15 (by decide) (by decide) (by rw [← h]; exact e))
         have hKE := (hK14.andThen hk15 (fun i hi e => absurd (hGm i e) (by omega))).andThen hkE (fun i _ e => by rw [e]; exact hBp)
         have hSE : (W15.setCell ⟨p, 3, none⟩ (.slice (some ⟨g15, 0, none⟩) (k + 1) cap15)).cell? ⟨p, 0, none⟩ = some (.slice (some ⟨gf, 0, none⟩) fs.length cf) ∧ (W15.setCell ⟨p, 3, none⟩ (.slice (some ⟨g15, 0, none⟩) (k + 1) cap15)).cell? ⟨gf, k, none⟩ = some (.slice ak nk ck) := ⟨hCE.c0, hFE.cellAt hvk⟩
         have hMF : Ofs fs (ms ++ [.slice a13 n13 c13]) := HMF.out.snoc (by rw [HML.out]; exact hvk) hbl13
         have hO14l := hO14.lt
         have hs14 := hK14.size
         clear hw13 ho13 ho13' e7 hbl13 hF13 hO13 hM13 hK13 hk13 hFB hOB hMB hKB hoB hRm hF14 hM14 ho14 hK14 hmr hF15 hO15 hM15 hkE
         refine px_rd 0 ?v0 (by kernel_rfl) (fun _ _ d _ _ h => by cases d <;> exact h) (by kernel_rfl) hSB rfl rfl rfl (fun w' hS => ?h0) ?_
         case h0 => first | (go_simp; rfl) | go_simp
         simp only [lxa, lxb, lxc]
         refine px_rd 1 ?v1 (by kernel_rfl) (fun _ _ d _ _ h => by cases d <;> exact h) (by kernel_rfl) hSB rfl rfl rfl (fun w' hS => ?h1) ?_
         case h1 => first | (go_simp; rfl) | go_simp
         simp only [lxa, lxb, lxc]
         refine px_rd 2 ?v2 (by kernel_rfl) (fun _ _ d _ _ h => by cases d <;> exact h) (by kernel_rfl) hSB rfl rfl rfl (fun w' hS => ?h2) ?_
         case h2 => first | (go_simp; rfl) | go_simp
         simp only [lxa, lxb, lxc]
         refine px_rd 3 ?v3 (by kernel_rfl) (fun _ _ d _ _ h => by cases d <;> exact h) (by kernel_rfl) hSB rfl rfl rfl (fun w' hS => ?h3) ?_
         case h3 => first | (go_simp; rfl) | go_simp
         simp only [lxa, lxb, lxc]
         refine px_rd 5 ?v5 (by kernel_rfl) (fun _ _ d _ _ h => by cases d <;> exact h) (by kernel_rfl) hSB rfl rfl rfl (fun w' hS => ?h5) ?_
         case h5 => first | (go_simp; rfl) | go_simp
         simp only [lxa, lxb, lxc]
         refine px_rd 6 ?v6 (by kernel_rfl) (fun _ _ d _ _ h => by cases d <;> exact h) (by kernel_rfl) hSB rfl rfl rfl (fun w' hS => ?h6) ?_
         case h6 => first | (go_simp; rfl) | go_simp
         simp only [lxa, lxb, lxc]
         refine px_rd 7 ?v7 (by kernel_rfl) (fun _ _ d _ _ h => by cases d <;> exact h) (by kernel_rfl) hSB rfl rfl rfl (fun w' hS => ?h7) ?_
         case h7 => first | (go_simp; rfl) | go_simp
         simp only [lxa, lxb, lxc]
         refine px_rd 8 (.slice (some ⟨gf, 0, none⟩) fs.length cf) (by kernel_rfl) (fun _ _ d _ _ h => by cases d <;> exact h) (by kernel_rfl) hSB rfl rfl rfl (fun w' hS => ?h8) ?_
         case h8 => have hq := hS.1; first | (go_simp; rfl) | go_simp
         simp only [lxa, lxb, lxc]
         refine px_rd 9 ?v9 (by kernel_rfl) (fun _ _ d _ _ h => by cases d <;> exact h) (by kernel_rfl) hSB rfl rfl rfl (fun w' hS => ?h9) ?_
         case h9 => first | (go_simp; rfl) | go_simp
         simp only [lxa, lxb, lxc]
         refine px_rd 10 (.pointer (some ⟨gf, k, none⟩)) (by kernel_rfl) (fun _ _ d _ _ h => by cases d <;> exact h) (by kernel_rfl) hSB rfl rfl rfl (fun w' hS => ?h10) ?_
         case h10 => first | (go_simp; rfl) | go_simp
         simp only [lxa, lxb, lxc]
         refine px_rd 11 (.slice ak nk ck) (by kernel_rfl) (fun _ _ d _ _ h => by cases d <;> exact h) (by kernel_rfl) hSB rfl rfl rfl (fun w' hS => ?h11) ?_
         case h11 => have hq := hS.2; first | (go_simp; rfl) | go_simp
         simp only [lxa, lxb, lxc]
         refine px_rd 12 ?v12 (by kernel_rfl) (fun _ _ d _ _ h => by cases d <;> exact h) (by kernel_rfl) hSB rfl rfl rfl (fun w' hS => ?h12) ?_
         case h12 => first | (go_simp; rfl) | go_simp
         simp only [lxa, lxb, lxc]
         refine px_via 4 ?ll ?aa W14 (fun tail => ?br) ?tl
         case br =>
          refine px_two 4 13 (by kernel_rfl) ?pA ?pB
          case pA =>
           refine stepP_val (w' := WB) (.slice a3 k c3) rfl rfl rfl ?eA4 hSB ?_
           case eA4 => have hq := hCB.c3; first | (go_simp; rfl) | go_simp
           simp only [lxa, lxb, lxc]
           refine px_one 13 (by kernel_rfl) ?_
           refine stepP_val (w' := W13) (.slice a13 n13 c13) rfl rfl rfl ?eA13 hS13 ?_
           case eA13 => exact run_app_op' rfl rfl rfl hrun13
           simp only [lxa, lxb, lxc]
           refine px_one 14 (by kernel_rfl) ?_
           refine stepP_val (w' := W14) (.slice (some ⟨W13.heap.size, 0, none⟩) 1 1) rfl rfl rfl ?eA14 hS14 ?_
           case eA14 => first | (rw [HW14.out]; go_simp; rfl) | (rw [HW14.out]; go_simp)
           simp only [lxa, lxb, lxc]
           exact tail
          case pB =>
           refine stepP_val (w' := W13) (.slice a13 n13 c13) rfl rfl rfl ?eB13 hS13 ?_
           case eB13 => exact run_app_op' rfl rfl rfl hrun13
           simp only [lxa, lxb, lxc]
           refine px_two 4 14 (by kernel_rfl) ?pC ?pD
           case pC =>
            refine stepP_val (w' := W13) (.slice a3 k c3) rfl rfl rfl ?eC4 hS13 ?_
            case eC4 => have hq := hC13.c3; first | (go_simp; rfl) | go_simp
            simp only [lxa, lxb, lxc]
            refine px_one 14 (by kernel_rfl) ?_
            refine stepP_val (w' := W14) (.slice (some ⟨W13.heap.size, 0, none⟩) 1 1) rfl rfl rfl ?eC14 hS14 ?_
            case eC14 => first | (rw [HW14.out]; go_simp; rfl) | (rw [HW14.out]; go_simp)
            simp only [lxa, lxb, lxc]
            exact tail
           case pD =>
            refine stepP_val (w' := W14) (.slice (some ⟨W13.heap.size, 0, none⟩) 1 1) rfl rfl rfl ?eD14 hS14 ?_
            case eD14 => first | (rw [HW14.out]; go_simp; rfl) | (rw [HW14.out]; go_simp)
            simp only [lxa, lxb, lxc]
            refine px_one 4 (by kernel_rfl) ?_
            refine stepP_val (w' := W14) (.slice a3 k c3) rfl rfl rfl ?eD4 hS14 ?_
            case eD4 => have hq := hC14.c3; first | (go_simp; rfl) | go_simp
            simp only [lxa, lxb, lxc]
            exact tail
         case tl =>
          refine px_one 15 (by kernel_rfl) ?_
          refine stepP_val (w' := W15) (.slice (some ⟨g15, 0, none⟩) (k + 1) cap15) rfl rfl rfl ?eT15 hS15 ?_
          case eT15 => exact run_app_op' rfl rfl rfl hrun15
          simp only [lxa, lxb, lxc]
          refine px_rd 16 ?v16 (by kernel_rfl) (fun _ _ d _ _ h => by cases d <;> exact h) (by kernel_rfl) hS15 rfl rfl rfl (fun w' hS => ?h16) ?_
          case h16 => first | (go_simp; rfl) | go_simp
          simp only [lxa, lxb, lxc]
          refine px_rd 17 ?v17 (by kernel_rfl) (fun _ _ d _ _ h => by cases d <;> exact h) (by kernel_rfl) hS15 rfl rfl rfl (fun w' hS => ?h17) ?_
          case h17 => first | (go_simp; rfl) | go_simp
          simp only [lxa, lxb, lxc]
          refine px_one 18 (by kernel_rfl) ?_
          refine stepP_skip (w' := W15.setCell ⟨p, 3, none⟩ (.slice (some ⟨g15, 0, none⟩) (k + 1) cap15)) rfl rfl rfl ?e18 hSE ?_
          case e18 => first | (go_simp; rfl) | go_simp
          refine px_nil (by kernel_rfl) ?_
          go_wp2
          go_roundw
          case rel => exact ⟨k + 1, _, _, _, by go_num, by omega, hCE, hFE, hOE, hME, (by show (ms ++ [_]).length = k + 1; rw [List.length_append, HML.out]; rfl), hMF, (fun b e => by have e' : g15 = b := Option.some.inj e; subst e'; rcases hp15 with h | h; exact hGm _ h; omega), (fun b e e2 => by have e' : g15 = b := Option.some.inj e; subst e'; rcases hp15 with h | h; exact hGo _ h e2; exact absurd (hO14l _ (.inl e2)) (by omega)), hKE⟩
          case measure => simp [intOf]; omega
      ·have hlz : ¬ (k : Int) < (fs.length : Int) := by omega
       have hkf : k = fs.length := by omega
       subst hkf
       have hc2 := hCr.c2
       have hc3 := hCr.c3
       have t1 : True := trivial
       go_wp2_with (first
        | (go_at_call 125; clear t1; refine (look_any p N _ _ _ _ fs ms zs (outs zs 700 fs.length) _ 700 _ hCr hFr hMr hf HML.out HZ2.out (fun i hi => outs_get hi) (by omega)).mono ?_; rintro e wz ⟨rfl, hwz⟩; rw [hwz]; clear hwz)
        | (go_at_call 125; refine (look_any p N _ _ _ _ fs os zs (outs zs 16 fs.length) _ 16 _ hCr hFr hOr hf HOL.out HZ2.out (fun i hi => outs_get hi) (by omega)).mono ?_; rintro e wz ⟨rfl, hwz⟩; rw [hwz]; clear hwz))
       go_ret
       exact ⟨rfl, hK.mono hBf.2⟩
theorem bookClose_any (p N : Nat) (fv wv : Value) (fs ws : List Value) (ys : List (List Int)) (w : World) (hB : BookAt w p fv wv fs ws ys N) :
  Calls Tryz.prog 36 #[.pointer (some ⟨p, 0, none⟩)] w fun e w' => e = .returned (.bool true) ∧ Keep (BF p fv wv fs ws) w w' := by
 have hf : fs.length ≤ 2000000 := by have := hB.len; have := hB.most; omega
 go_enter Tryz.func36, Tryz.ntmps36
 go_wp2_with (first
  | (go_at_call 84; refine (stands_any p N fv wv _ _ fs ws ys _ hB.cell hB.two hf).mono ?_; rintro e w1 ⟨rfl, d, hw1⟩; have hk1 : Keep (fun _ => False) w w1 := (by rw [hw1]; exact keep_drewN (Keep.refl _ _) d); clear hw1)
  | (go_at_call 85; refine (close_any p N fv wv fs ws ys _ (hB.keep hk1 (fun _ _ h => h))).mono ?_; rintro e w2 ⟨rfl, hk2⟩))
 go_ret
 exact ⟨rfl, (hk1.mono (fun _ h => h.elim)).trans hk2⟩
end Go.Proofs.YtikkieaokfailaaGreatDoor

namespace Go.Proofs.YtikkieaokfailaaGreatDoor
open Go.RowKit
def LBq (Fp : Nat → Prop) (pn pk m : Nat) (W : World) : Prop :=
 ∃ (lv mv : Value) (ls ms : List Value) (xs : List (List Int)) (fv wv : Value) (fs ws : List Value) (ys : List (List Int)) (N : Nat),
  LoanAt W pn lv mv ls ms xs ∧ BookAt W pk fv wv fs ws ys N ∧ (∀ j, LF pn lv mv ls ms j → ¬ BF pk fv wv fs ws j) ∧ (∀ j, LF pn lv mv ls ms j → Fp j) ∧ (∀ j, BF pk fv wv fs ws j → Fp j) ∧ ls.length ≤ m ∧ (∀ x ∈ xs, x.length ≤ 3000)
theorem LBq.keep {Fp S : Nat → Prop} {pn pk m : Nat} {W W' : World} (h : LBq Fp pn pk m W) (k : Keep S W W') (hS : ∀ j, Fp j → ¬ S j) : LBq Fp pn pk m W' := by
 obtain ⟨lv, mv, ls, ms, xs, fv, wv, fs, ws, ys, N, h1, h2, h3, h4, h5, h6, h7⟩ := h
 exact ⟨lv, mv, ls, ms, xs, fv, wv, fs, ws, ys, N, h1.keep k (fun j q => hS j (h4 j q)), h2.keep k (fun j q => hS j (h5 j q)), h3, h4, h5, h6, h7⟩
theorem LBq.ext {Fp : Nat → Prop} {pn pk m : Nat} {W W' : World} (h : LBq Fp pn pk m W) (hx : Below W.heap.size W W') : LBq Fp pn pk m W' :=
 h.keep (Keep.ofBelow (S := fun _ => False) hx) (fun _ _ q => q)
theorem LBq.mono {Fp Fq : Nat → Prop} {pn pk m : Nat} {W : World} (h : LBq Fp pn pk m W) (hm : ∀ j, j < W.heap.size → Fp j → Fq j) : LBq Fq pn pk m W := by
 obtain ⟨lv, mv, ls, ms, xs, fv, wv, fs, ws, ys, N, h1, h2, h3, h4, h5, h6, h7⟩ := h
 exact ⟨lv, mv, ls, ms, xs, fv, wv, fs, ws, ys, N, h1, h2, h3, fun j q => hm j (h1.lt j q) (h4 j q), fun j q => hm j (h2.lt j q) (h5 j q), h6, h7⟩
theorem takeQ {Fp : Nat → Prop} {pn pk m : Nat} {W : World} (h : LBq Fp pn pk m W) (u : Value) (x : List Int) (hu : Ow W u x) (hn : ∀ k, u.ownBlock = some k → ¬ Fp k) (hl : x.length ≤ 100000) :
  Calls Tryz.prog 34 #[.pointer (some ⟨pk, 0, none⟩), u] W fun e W' => ∃ r, e = .returned r ∧ LBq (fun j => Fp j ∨ u.ownBlock = some j ∨ (W.heap.size ≤ j ∧ j < W'.heap.size)) pn pk m W' ∧ Keep Fp W W' := by
 obtain ⟨lv, mv, ls, ms, xs, fv, wv, fs, ws, zs, N, h1, h2, h3, h4, h5, h6, h7⟩ := h
 refine (bookBytes_any pk N fv wv fs ws zs u x W h2 hu (fun j e s => hn j e (h5 j s)) (by omega)).mono ?_
 rintro e W' ⟨r, fv', wv', fs', ws', ys', N', rfl, hb', hf', hk'⟩
 refine ⟨r, rfl, ⟨_, _, _, _, _, _, _, _, _, _, _, h1.keep hk' (fun j q s => h3 j q s), hb', fun j e s => ?_, fun j e => .inl (h4 j e), fun j e => ?_, h6, h7⟩, hk'.mono h5⟩
 ·rcases hf' j s with s | s | s
  ·exact h3 j e s
  ·exact hn j s (h4 j e)
  ·have := h1.lt j e; omega
 ·rcases hf' j e with e' | e' | e'
  ·exact .inl (h5 j e')
  ·exact .inr (.inl e')
  ·exact .inr (.inr ⟨e', hb'.lt j e⟩)
theorem backQ {Fp : Nat → Prop} {pn pk m : Nat} {W : World} (h : LBq Fp pn pk m W) (hm : m ≤ 1000) :
  Calls Tryz.prog 35 #[.pointer (some ⟨pn, 0, none⟩)] W fun e W' => e = .returned (.bool true) ∧ Keep Fp W W' ∧ ∃ fv wv fs ws ys N, BookAt W' pk fv wv fs ws ys N ∧ ∀ j, BF pk fv wv fs ws j → Fp j := by
 obtain ⟨lv, mv, ls, ms, xs, fv, wv, fs, ws, zs, N, h1, h2, h3, h4, h5, h6, h7⟩ := h
 refine (loanBack_any pn lv mv ls ms xs W h1 (by omega) (fun x hx => by have := h7 x hx; omega)).mono ?_
 rintro e W' ⟨rfl, hk⟩
 exact ⟨rfl, hk.mono h4, _, _, _, _, _, _, h2.keep hk (fun j e s => h3 j s e), h5⟩
theorem LBq.start (w : World) : LBq (fun j => j = w.heap.size ∨ j = w.heap.size + 1) w.heap.size (w.heap.size + 1) 0 ((w.alloc (.cells #[.slice none 0 0, .slice none 0 0] 73)).alloc (.cells #[.slice none 0 0, .slice none 0 0, .slice none 0 0, .slice none 0 0, .int .i64 0] 76)) := by
 have hL := (LoanAt.new w).keep (S := fun _ => False) ((Keep.refl _ _).alloc (.cells #[.slice none 0 0, .slice none 0 0, .slice none 0 0, .slice none 0 0, .int .i64 0] 76)) (fun _ _ h => h)
 have hK := BookAt.new (w.alloc (.cells #[.slice none 0 0, .slice none 0 0] 73))
 have e1 : (w.alloc (.cells #[.slice none 0 0, .slice none 0 0] 73)).heap.size = w.heap.size + 1 := by simp
 rw [e1] at hK
 refine ⟨_, _, _, _, _, _, _, _, _, _, _, hL, hK, ?_, ?_, ?_, by simp, fun x hx => by cases hx⟩
 ·rintro j (rfl | (e | e) | (e | e)) f
  ·rcases f with f | (f | f) | (f | f) <;> first | (cases f; done) | omega
  all_goals cases e
 ·rintro j (rfl | (e | e) | (e | e)) <;> first | (cases e; done) | omega
 ·rintro j (rfl | (e | e) | (e | e)) <;> first | (cases e; done) | omega
end Go.Proofs.YtikkieaokfailaaGreatDoor
