/- The document's door: where a user stands (a user that is new is laid behind). -/
import Derived.Test.YtiidjdedeenijaaDrR
namespace Go.Proofs.Ytiidjdedeenijaa
open Go.RowKit

theorem ret_int {k : IntKind} {a b : Int} (h : a = b) : Ending.returned (.int k a) = .returned (.int k b) := by rw [h]

theorem str_eq_of {x s : ByteArray} : (x.toList == s.toList) = decide (x = s) := by
  rw [Lib.toList_data, Lib.toList_data]
  by_cases h : x = s
  · subst h; simp
  · rw [decide_eq_false h, beq_eq_false_iff_ne]
    intro e
    exact h (by apply ByteArray.ext; exact Array.toList_inj.1 e)

theorem inStr : (Try.prog.info? 9).map (fun i => (i.zero, i.size, i.bytes)) = some (some (.string ⟨#[]⟩), 1, 16) := by kernel_rfl
theorem inInt : (Try.prog.info? 3).map (fun i => (i.zero, i.size, i.bytes)) = some (some (.int .i64 0), 1, 8) := by kernel_rfl
theorem inF64 : (Try.prog.info? 24).map (fun i => (i.zero, i.size, i.bytes)) = some (some (.float .f64 0), 1, 8) := by kernel_rfl

/-! ### A row of the door's grown by one -/
/-- The door's block and its rows, whatever they hold. -/
structure RG (w : World) (B d : Nat) (v2 v3 v4 : Value) (most : Int) (sec : Nat) (n2 n3 n4 : Nat) (l2 l3 l4 : List Value) : Prop where
  blk : w.heap[d]? = some (.cells #[.int .i64 most, .float .f64 sec, v2, v3, v4] 54 (0, 0))
  o2 : w.ownsRow B 9 1 v2 n2 l2
  o3 : w.ownsRow B 3 1 v3 n3 l3
  o4 : w.ownsRow B 24 1 v4 n4 l4
  hd : B ≤ d

section
variable {w w1 : World} {B d : Nat} {v2 v3 v4 v' x : Value} {most : Int} {sec n2 n3 n4 k0 : Nat} {l2 l3 l4 : List Value}

theorem own_ne {e e' : TypeId} {n n' : Nat} {v u : Value} {xs ys : List Value} (h : w.ownsRow B e 1 v n xs) (h' : w.ownsRow B e' 1 u n' ys) (he : e ≠ e') {k : Nat} (hk : v.ownBlock = some k) : ¬ u.ownBlock = some k := fun hu => by
  obtain ⟨c, hc⟩ := own_type h hk
  obtain ⟨c', hc'⟩ := own_type h' hu
  rw [hc] at hc'
  injection hc' with hc'
  injection hc' with _ h2 _
  exact he h2
theorem own_nd {e t : TypeId} {n : Nat} {v : Value} {xs : List Value} (h : w.ownsRow B e 1 v n xs) {cs : Array Value} {fz : Nat × Nat} (hb : w.heap[d]? = some (.cells cs t fz)) (he : t ≠ e) : ¬ v.ownBlock = some d := fun hv => by
  obtain ⟨c, hc⟩ := own_type h hv
  rw [hc] at hb
  injection hb with hb
  injection hb with _ h2 _
  exact he h2.symm
theorem RG.lt (h : RG w B d v2 v3 v4 most sec n2 n3 n4 l2 l3 l4) : d < w.heap.size := (Array.getElem?_eq_some_iff.1 h.blk).1
theorem RG.cell (h : RG w B d v2 v3 v4 most sec n2 n3 n4 l2 l3 l4) (i : Nat) : w.cell? ⟨d, i, none⟩ = #[Value.int .i64 most, .float .f64 sec, v2, v3, v4][i]? := cell_of_row w d i _ _ (0, 0) h.blk
theorem RG.fz (h : RG w B d v2 v3 v4 most sec n2 n3 n4 l2 l3 l4) (i : Nat) : w.frozen? ⟨d, i, none⟩ = false := frozen_of_row w d i _ _ h.blk
theorem keep_set (w : World) (d i : Nat) (u : Value) : Keep (fun k => k = d) w (w.setCell ⟨d, i, none⟩ u) := (Keep.refl (fun k => k = d) w).setCell (p := ⟨d, i, none⟩) rfl u

theorem RG.app2 (h : RG w B d v2 v3 v4 most sec n2 n3 n4 l2 l3 l4) (hk : Keep (fun k => v2.ownBlock = some k) w w1) (ho : w1.ownsRow B 9 1 v' (n2 + 1) (l2 ++ [x])) (hl : v'.ownBlock = v2.ownBlock ∨ v'.ownBlock = some k0) (hk0 : w.heap.size ≤ k0) :
    w1.heap[d]? = some (.cells #[.int .i64 most, .float .f64 sec, v2, v3, v4] 54 (0, 0)) ∧ RG (w1.setCell ⟨d, 2, none⟩ v') B d v' v3 v4 most sec (n2 + 1) n3 n4 (l2 ++ [x]) l3 l4 ∧ Keep (RF d v2 v3 v4) w (w1.setCell ⟨d, 2, none⟩ v') ∧ (∀ k, RF d v' v3 v4 k → RF d v2 v3 v4 k ∨ w.heap.size ≤ k) := by
  have hb1 := (hk.block d h.lt (own_nd h.o2 h.blk (by decide))).trans h.blk
  have p3 := own_keep h.o3 hk (fun k e => own_ne h.o3 h.o2 (by decide) e)
  have p4 := own_keep h.o4 hk (fun k e => own_ne h.o4 h.o2 (by decide) e)
  refine ⟨hb1, ⟨heap_setCell_same w1 d 2 _ _ _ hb1, own_keep ho (keep_set _ _ _ _) (fun k e hd => by subst hd; exact own_nd ho hb1 (by decide) e), own_keep p3 (keep_set _ _ _ _) (fun k e hd => by subst hd; exact own_nd p3 hb1 (by decide) e), own_keep p4 (keep_set _ _ _ _) (fun k e hd => by subst hd; exact own_nd p4 hb1 (by decide) e), h.hd⟩, ?_, ?_⟩
  · exact (hk.mono (fun k e => Or.inr (Or.inl e))).trans ((keep_set w1 d 2 v').mono (fun k e => Or.inl e))
  · rintro k (rfl | e | e | e)
    · exact Or.inl (Or.inl rfl)
    · rcases hl with hl | hl
      · exact Or.inl (Or.inr (Or.inl (by rw [← hl]; exact e)))
      · rw [hl] at e; cases e; exact Or.inr hk0
    · exact Or.inl (Or.inr (Or.inr (Or.inl e)))
    · exact Or.inl (Or.inr (Or.inr (Or.inr e)))
theorem RG.app3 (h : RG w B d v2 v3 v4 most sec n2 n3 n4 l2 l3 l4) (hk : Keep (fun k => v3.ownBlock = some k) w w1) (ho : w1.ownsRow B 3 1 v' (n3 + 1) (l3 ++ [x])) (hl : v'.ownBlock = v3.ownBlock ∨ v'.ownBlock = some k0) (hk0 : w.heap.size ≤ k0) :
    w1.heap[d]? = some (.cells #[.int .i64 most, .float .f64 sec, v2, v3, v4] 54 (0, 0)) ∧ RG (w1.setCell ⟨d, 3, none⟩ v') B d v2 v' v4 most sec n2 (n3 + 1) n4 l2 (l3 ++ [x]) l4 ∧ Keep (RF d v2 v3 v4) w (w1.setCell ⟨d, 3, none⟩ v') ∧ (∀ k, RF d v2 v' v4 k → RF d v2 v3 v4 k ∨ w.heap.size ≤ k) := by
  have hb1 := (hk.block d h.lt (own_nd h.o3 h.blk (by decide))).trans h.blk
  have p2 := own_keep h.o2 hk (fun k e => own_ne h.o2 h.o3 (by decide) e)
  have p4 := own_keep h.o4 hk (fun k e => own_ne h.o4 h.o3 (by decide) e)
  refine ⟨hb1, ⟨heap_setCell_same w1 d 3 _ _ _ hb1, own_keep p2 (keep_set _ _ _ _) (fun k e hd => by subst hd; exact own_nd p2 hb1 (by decide) e), own_keep ho (keep_set _ _ _ _) (fun k e hd => by subst hd; exact own_nd ho hb1 (by decide) e), own_keep p4 (keep_set _ _ _ _) (fun k e hd => by subst hd; exact own_nd p4 hb1 (by decide) e), h.hd⟩, ?_, ?_⟩
  · exact (hk.mono (fun k e => Or.inr (Or.inr (Or.inl e)))).trans ((keep_set w1 d 3 v').mono (fun k e => Or.inl e))
  · rintro k (rfl | e | e | e)
    · exact Or.inl (Or.inl rfl)
    · exact Or.inl (Or.inr (Or.inl e))
    · rcases hl with hl | hl
      · exact Or.inl (Or.inr (Or.inr (Or.inl (by rw [← hl]; exact e))))
      · rw [hl] at e; cases e; exact Or.inr hk0
    · exact Or.inl (Or.inr (Or.inr (Or.inr e)))
theorem RG.app4 (h : RG w B d v2 v3 v4 most sec n2 n3 n4 l2 l3 l4) (hk : Keep (fun k => v4.ownBlock = some k) w w1) (ho : w1.ownsRow B 24 1 v' (n4 + 1) (l4 ++ [x])) (hl : v'.ownBlock = v4.ownBlock ∨ v'.ownBlock = some k0) (hk0 : w.heap.size ≤ k0) :
    w1.heap[d]? = some (.cells #[.int .i64 most, .float .f64 sec, v2, v3, v4] 54 (0, 0)) ∧ RG (w1.setCell ⟨d, 4, none⟩ v') B d v2 v3 v' most sec n2 n3 (n4 + 1) l2 l3 (l4 ++ [x]) ∧ Keep (RF d v2 v3 v4) w (w1.setCell ⟨d, 4, none⟩ v') ∧ (∀ k, RF d v2 v3 v' k → RF d v2 v3 v4 k ∨ w.heap.size ≤ k) := by
  have hb1 := (hk.block d h.lt (own_nd h.o4 h.blk (by decide))).trans h.blk
  have p2 := own_keep h.o2 hk (fun k e => own_ne h.o2 h.o4 (by decide) e)
  have p3 := own_keep h.o3 hk (fun k e => own_ne h.o3 h.o4 (by decide) e)
  refine ⟨hb1, ⟨heap_setCell_same w1 d 4 _ _ _ hb1, own_keep p2 (keep_set _ _ _ _) (fun k e hd => by subst hd; exact own_nd p2 hb1 (by decide) e), own_keep p3 (keep_set _ _ _ _) (fun k e hd => by subst hd; exact own_nd p3 hb1 (by decide) e), own_keep ho (keep_set _ _ _ _) (fun k e hd => by subst hd; exact own_nd ho hb1 (by decide) e), h.hd⟩, ?_, ?_⟩
  · exact (hk.mono (fun k e => Or.inr (Or.inr (Or.inr e)))).trans ((keep_set w1 d 4 v').mono (fun k e => Or.inl e))
  · rintro k (rfl | e | e | e)
    · exact Or.inl (Or.inl rfl)
    · exact Or.inl (Or.inr (Or.inl e))
    · exact Or.inl (Or.inr (Or.inr (Or.inl e)))
    · rcases hl with hl | hl
      · exact Or.inl (Or.inr (Or.inr (Or.inr (by rw [← hl]; exact e))))
      · rw [hl] at e; cases e; exact Or.inr hk0
end

theorem exec_append {P : Program} {w w' : World} {o : Oper} {ρ : Operand → Value} (s x : Operand) (t : TypeId) (ho : o.op = .call { callee := .builtin .append, args := #[s, x], argTypes := #[t, t] }) (v u v' : Value) (hs : ρ s = v) (hx : ρ x = u)
    (hr : (Builtin.append_ #[t, t] o.type #[v, u]).run P w = .ok v' w') : (execOp ρ o).run P w = .ok (.value v') w' := by
  unfold execOp
  simp only [ho, resolve, invoke, builtin, Sem.run_bind, Sem.run_pure, Result.andThen_ok, List.map_toArray, List.map_cons, List.map_nil, hs, hx, hr]

set_option maxRecDepth 100000 in
set_option maxHeartbeats 800000 in
theorem at_any (B d : Nat) (v2 v3 v4 : Value) (most : Int) (sec : Nat) (us : List ByteArray) (cs : List Int) (ts : List Nat) (s : ByteArray) (w : World) (hL : us.length ≤ 1000) (hBw : B ≤ w.heap.size) (hD : RD w B d v2 v3 v4 most sec us cs ts) :
    Calls Try.prog 21 #[.pointer (some ⟨d, 0, none⟩), .string s] w fun e w' => e = .returned (.int .i64 (ix us s : Nat)) ∧ ∃ v2' v3' v4', RD w' B d v2' v3' v4' most sec (uApp us s) (cApp us cs s) (tApp us ts s) ∧ Keep (RF d v2 v3 v4) w w' ∧ (∀ k, RF d v2' v3' v4' k → RF d v2 v3 v4 k ∨ w.heap.size ≤ k) := by
  obtain ⟨a2, c2, rfl, hr2⟩ := own_slice hD.o2
  obtain ⟨a3, c3, hv3, _⟩ := own_slice hD.o3
  obtain ⟨a4, c4, hv4, _⟩ := own_slice hD.o4
  have q2 : w.cell? ⟨d, 2, none⟩ = some (.slice a2 us.length c2) := hD.cell 2
  obtain ⟨L, HL⟩ : ∃ L, Hid (us.length = L) := ⟨_, rfl⟩
  obtain ⟨i, HI⟩ : ∃ i, Hid (ix us s = i) := ⟨_, rfl⟩
  have hil := ix_le s us
  rw [HI.out, HL.out] at hil
  rw [HL.out] at q2 hL hv3 hv4
  subst hv3 hv4
  rw [HI.out]
  have HD : Hid (RD w B d (.slice a2 L c2) (.slice a3 L c3) (.slice a4 L c4) most sec us cs ts) := by
    have h := hD
    rw [show us.length = L from HL.out] at h
    exact h
  rw [HL.out]
  clear hD
  go_enter Try.func21, Try.ntmps21
  go_wp2
  go_loopw [5] (fun x wr => ∃ j : Nat, x = .int .i64 j ∧ j ≤ i ∧ wr = w) (fun x _ => 1001 - natV x)
  case atStart => exact ⟨0, rfl, Nat.zero_le _, rfl⟩
  case round =>
    obtain ⟨j, rfl, hj, rfl⟩ := hrel
    by_cases hjl : j < L
    · have hjz : (j : Int) < (L : Int) := by omega
      have hjl2 : j < us.length := by rw [HL.out]; exact hjl
      obtain ⟨g, rfl, hcell, _⟩ := hr2 j (.string (us.getD j ⟨#[]⟩)) (by simp [List.getD, List.getElem?_eq_getElem hjl2])
      have hse := @str_eq_of (us.getD j ⟨#[]⟩) s
      clear hr2 hjl2
      by_cases hij : j = i
      · subst hij
        have e1 : us.getD j ⟨#[]⟩ = s := by rw [← HI.out]; exact ix_get s us (by rw [HI.out, HL.out]; exact hjl)
        rw [decide_eq_true e1] at hse
        generalize us.getD j ⟨#[]⟩ = x at hse hcell
        clear e1
        go_wp2
        go_ret
        refine ⟨rfl, _, _, _, ?_, Keep.refl _ _, fun k hk => Or.inl hk⟩
        have hlt : ix us s < us.length := by rw [HI.out, HL.out]; exact hjl
        unfold uApp cApp tApp
        rw [if_pos hlt, if_pos hlt, if_pos hlt]
        exact HD.out
      · have e1 : us.getD j ⟨#[]⟩ ≠ s := ix_before s us j (by rw [HI.out]; omega)
        rw [decide_eq_false e1] at hse
        generalize us.getD j ⟨#[]⟩ = x at hse hcell
        clear e1
        go_wp2
        go_roundw
        case rel => exact ⟨j + 1, by go_num, by omega, trivial⟩
        case measure => simp [natV]; omega
    · obtain rfl : j = L := by omega
      obtain rfl : i = j := by omega
      have hjz : ¬ (i : Int) < (i : Int) := by omega
      obtain ⟨i0, hi0, hz0, hz1, hz2⟩ := info_parts inStr
      obtain ⟨i1, hi1, hy0, hy1, hy2⟩ := info_parts inInt
      obtain ⟨i3, hi3, hx0, hx1, hx2⟩ := info_parts inF64
      have hG0 : RG wr B d (.slice a2 i c2) (.slice a3 i c3) (.slice a4 i c4) most sec i i i (us.map Value.string) (cs.map (Value.int .i64)) (ts.map (Value.float .f64)) := ⟨HD.out.blk, by rw [← HL.out]; exact HL.out ▸ HD.out.o2, HL.out ▸ HD.out.o3, HL.out ▸ HD.out.o4, HD.out.hd⟩
      clear hr2 HD
      go_upto_region 7 with (first
        | (at_builtin; refine wpList_append_own_at _ rfl _ _ 41 rfl B 9 i0 (.string ⟨#[]⟩) 1 16 Try.underlying41 hi0 hz0 hz1 hz2 rfl (by decide) _ i (us.map Value.string) rfl (hG0.o2.alloc _) ⟨wr.heap.size, 0, none⟩ 1 1 [.string s] rfl rfl (cell_one_new _ _ _) (by simp [Value.oneCell']) (by unfold maxLen; omega) (by omega) (by simp; omega) ?_; intro v2' w1 ho2 hg2 _ hl2; obtain ⟨g2, cap2, rfl⟩ := ownsRow_succ ho2; have hk2 : Keep (fun k => (Value.slice a2 i c2).ownBlock = some k) wr w1 := ((Keep.refl _ wr).alloc _).andThen (Keep.ofGrown hg2) (fun i _ e => e); obtain ⟨hb1, hG1, hK1, hF1⟩ := hG0.app2 hk2 ho2 hl2 (by simp); have z1 := frozen_of_row w1 d 2 _ _ hb1; have y1 : w1.cell? ⟨d, 2, none⟩ = some (.slice a2 i c2) := cell_of_row w1 d 2 _ _ (0, 0) hb1; clear hg2 hl2 ho2))
      clear hk2 hb1 z1 y1 q2 hG0 hi0 hz0 hz1 hz2 hj hil hjl hjz
      generalize w1.setCell ⟨d, 2, none⟩ (.slice (some ⟨g2, 0, none⟩) (i + 1) cap2) = W1 at hG1 hK1 ⊢
      have q3 : W1.cell? ⟨d, 3, none⟩ = some (.slice a3 i c3) := hG1.cell 3
      have hs1 := hK1.size
      go_upto_region 8 with (first
        | (at_builtin; refine wpList_append_own_at _ rfl _ _ 51 rfl B 3 i1 (.int .i64 0) 1 8 Try.underlying51 hi1 hy0 hy1 hy2 rfl (by decide) _ i (cs.map (Value.int .i64)) rfl (hG1.o3.alloc _) ⟨W1.heap.size, 0, none⟩ 1 1 [.int .i64 0] rfl rfl (cell_one_new _ _ _) (by simp [Value.oneCell']) (by unfold maxLen; omega) (by omega) (by simp; omega) ?_; intro v3' w2 ho3 hg3 _ hl3; obtain ⟨g3, cap3, rfl⟩ := ownsRow_succ ho3; have hk3 : Keep (fun k => (Value.slice a3 i c3).ownBlock = some k) W1 w2 := ((Keep.refl _ W1).alloc _).andThen (Keep.ofGrown hg3) (fun i _ e => e); obtain ⟨hb2, hG2, hK2, hF2⟩ := hG1.app3 hk3 ho3 hl3 (by simp); have z2 := frozen_of_row w2 d 3 _ _ hb2; have y2 : w2.cell? ⟨d, 3, none⟩ = some (.slice a3 i c3) := cell_of_row w2 d 3 _ _ (0, 0) hb2; clear hg3 hl3 ho3))
      clear hk3 hb2 z2 y2 q3 hG1 hi1 hy0 hy1 hy2
      generalize w2.setCell ⟨d, 3, none⟩ (.slice (some ⟨g3, 0, none⟩) (i + 1) cap3) = W2 at hG2 hK2 ⊢
      have hs2 := hK2.size
      refine wp_region_lx (fun w' => w'.cell? ⟨d, 4, none⟩ = some (.slice a4 i c4)) [10] 11 (by kernel_rfl) (by kernel_rfl) ?_
      have HS : W2.drew.cell? ⟨d, 4, none⟩ = some (.slice a4 i c4) := hG2.cell 4
      have hG2d : RG W2.drew B d (.slice (some ⟨g2, 0, none⟩) (i + 1) cap2) (.slice (some ⟨g3, 0, none⟩) (i + 1) cap3) (.slice a4 i c4) most sec (i + 1) (i + 1) i (us.map Value.string ++ [.string s]) (cs.map (Value.int .i64) ++ [.int .i64 0]) (ts.map (Value.float .f64)) := ⟨hG2.blk, hG2.o2, hG2.o3, hG2.o4, hG2.hd⟩
      have hKd := hK2.drew
      clear hG2 hK2
      generalize W2.drew = W at HS hG2d hKd ⊢
      refine lx_rd 0 ?vR0 (by kernel_rfl) (fun _ _ d _ _ h => by cases d <;> exact h) (by kernel_rfl) HS rfl rfl rfl (fun w' hS => ?hR0) ?_
      case hR0 => first | (go_simp; rfl) | go_simp
      simp only [List.setIfInBounds_toArray, List.set_cons_zero, List.set_cons_succ]
      refine lx_rd 1 ?vR1 (by kernel_rfl) (fun _ _ d _ _ h => by cases d <;> exact h) (by kernel_rfl) HS rfl rfl rfl (fun w' hS => ?hR1) ?_
      case hR1 => first | (go_simp; rfl) | go_simp
      simp only [List.setIfInBounds_toArray, List.set_cons_zero, List.set_cons_succ]
      refine lx_rd 2 ?vR2 (by kernel_rfl) (fun _ _ d _ _ h => by cases d <;> exact h) (by kernel_rfl) HS rfl rfl rfl (fun w' hS => ?hR2) ?_
      case hR2 => first | (go_simp; rfl) | go_simp
      simp only [List.setIfInBounds_toArray, List.set_cons_zero, List.set_cons_succ]
      refine lx_rd 3 ?vR3 (by kernel_rfl) (fun _ _ d _ _ h => by cases d <;> exact h) (by kernel_rfl) HS rfl rfl rfl (fun w' hS => ?hR3) ?_
      case hR3 => first | (go_simp; rfl) | go_simp
      simp only [List.setIfInBounds_toArray, List.set_cons_zero, List.set_cons_succ]
      refine lx_rd 4 (.slice a4 i c4) (by kernel_rfl) (fun _ _ d _ _ h => by cases d <;> exact h) (by kernel_rfl) HS rfl rfl rfl (fun w' hS => ?hR4) ?_
      case hR4 => have q := hS; first | (go_simp; rfl) | go_simp
      simp only [List.setIfInBounds_toArray, List.set_cons_zero, List.set_cons_succ]
      refine lx_one 5 (by kernel_rfl) (stepT_call 23 ?aR5 rfl rfl rfl ?rR5 ?_)
      case rR5 => first | (go_simp; rfl) | go_simp
      refine (inf_any _).mono ?_
      rintro e w3 ⟨rfl, rfl⟩
      refine ⟨_, rfl, fun _ => HS, ?_⟩
      simp only [List.setIfInBounds_toArray, List.set_cons_zero, List.set_cons_succ]
      have HS6 : (w3.alloc (Obj.cells #[.float .f64 NI] 24)).cell? ⟨d, 4, none⟩ = some (.slice a4 i c4) := ((Keep.refl (fun _ => False) w3).alloc _).cell HS (fun h => h)
      refine lx_one 6 (by kernel_rfl) (stepT_val (w' := w3.alloc (Obj.cells #[.float .f64 NI] 24)) (.slice (some ⟨w3.heap.size, 0, none⟩) 1 1) rfl rfl rfl ?rR6 (fun _ => HS6) ?_)
      case rR6 => first | (go_simp; done) | (go_simp; rfl)
      simp only [List.setIfInBounds_toArray, List.set_cons_zero, List.set_cons_succ]
      have hs3 : wr.heap.size ≤ w3.heap.size := Nat.le_trans hs1 hKd.size
      obtain ⟨v4', w4, hr4, ho4, hg4, _, hl4⟩ := run_append_own_at (P := Try.prog) (w3.alloc (Obj.cells #[.float .f64 NI] 24)) B 52 52 24 i3 (.float .f64 0) 1 8 Try.underlying52 hi3 hx0 hx1 hx2 rfl (by decide) (.slice a4 i c4) i (ts.map (Value.float .f64)) (hG2d.o4.alloc _) ⟨w3.heap.size, 0, none⟩ 1 1 [.float .f64 NI] rfl (cell_one_new _ _ _) (by simp [Value.oneCell']) (by unfold maxLen; omega) (by omega) (by simp; omega)
      obtain ⟨g4, cap4, rfl⟩ := ownsRow_succ ho4
      have hk4 : Keep (fun k => (Value.slice a4 i c4).ownBlock = some k) w3 w4 := ((Keep.refl _ w3).alloc _).andThen (Keep.ofGrown hg4) (fun i _ e => e)
      obtain ⟨hb4, hG4, hK4, hF4⟩ := hG2d.app4 hk4 ho4 hl4 (by simp)
      have HS7 : w4.cell? ⟨d, 4, none⟩ = some (.slice a4 i c4) := cell_of_row w4 d 4 _ _ (0, 0) hb4
      refine lx_one 7 (by kernel_rfl) (stepT_val (w' := w4) (.slice (some ⟨g4, 0, none⟩) (i + 1) cap4) rfl rfl rfl ?rR7 (fun _ => HS7) ?_)
      case rR7 => exact exec_append (.tmp 48) (.tmp 50) 52 rfl _ _ _ rfl rfl hr4
      simp only [List.setIfInBounds_toArray, List.set_cons_zero, List.set_cons_succ]
      refine lx_one 8 (by kernel_rfl) (stepT_val (w' := w4) (.pointer (some ⟨d, 0, none⟩)) rfl rfl rfl ?rR8 (fun _ => HS7) ?_)
      case rR8 => first | (go_simp; done) | (go_simp; rfl)
      simp only [List.setIfInBounds_toArray, List.set_cons_zero, List.set_cons_succ]
      refine lx_one 9 (by kernel_rfl) (stepT_val (w' := w4) (.pointer (some ⟨d, 4, none⟩)) rfl rfl rfl ?rR9 (fun _ => HS7) ?_)
      case rR9 => first | (go_simp; done) | (go_simp; rfl)
      simp only [List.setIfInBounds_toArray, List.set_cons_zero, List.set_cons_succ]
      have z4 := frozen_of_row w4 d 4 _ _ hb4
      refine lx_one 10 (by kernel_rfl) (stepT_store (w' := w4.setCell ⟨d, 4, none⟩ (.slice (some ⟨g4, 0, none⟩) (i + 1) cap4)) rfl rfl rfl ?rR10 (fun h => by simp at h) ?_)
      case rR10 => first | (go_simp; done) | (go_simp; rfl)
      refine lx_nil (by kernel_rfl) ?_
      clear hk4 hb4 z4 HS7 HS6 HS hr4 ho4 hg4 hl4 hG2d hi3 hx0 hx1 hx2
      generalize w4.setCell ⟨d, 4, none⟩ (.slice (some ⟨g4, 0, none⟩) (i + 1) cap4) = W4 at hG4 hK4 ⊢
      have q5 : W4.cell? ⟨d, 2, none⟩ = some (.slice (some ⟨g2, 0, none⟩) (i + 1) cap2) := hG4.cell 2
      go_wp2
      go_ret
      have hlt : ¬ ix us s < us.length := by rw [HI.out, HL.out]; omega
      have hul : (us ++ [s]).length = i + 1 := by rw [List.length_append, HL.out]; rfl
      refine ⟨?_, .slice (some ⟨g2, 0, none⟩) (i + 1) cap2, .slice (some ⟨g3, 0, none⟩) (i + 1) cap3, .slice (some ⟨g4, 0, none⟩) (i + 1) cap4, ?_, ?_, ?_⟩
      · exact ret_int (by go_num)
      · unfold uApp cApp tApp
        rw [if_neg hlt, if_neg hlt, if_neg hlt]
        refine ⟨hG4.blk, ?_, ?_, ?_, hG4.hd⟩
        · rw [hul, List.map_append]; exact hG4.o2
        · rw [hul, List.map_append]; exact hG4.o3
        · rw [hul, List.map_append]; exact hG4.o4
      · refine hK1.andThen (hKd.andThen hK4 ?_) ?_
        · intro k hk h
          rcases hF2 k h with h | h
          · exact h
          · omega
        · intro k hk h
          rcases hF1 k h with h | h
          · exact h
          · omega
      · intro k h
        rcases hF4 k h with h | h
        · rcases hF2 k h with h | h
          · exact hF1 k h
          · exact Or.inr (by omega)
        · exact Or.inr (by omega)

end Go.Proofs.Ytiidjdedeenijaa
