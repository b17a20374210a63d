/- Texts of one seat, one behind the other: PvZn, PvPc, PvPd. -/
import Derived.Test.YtiplalbicibahaaGreatDoorM6
import Derived.Deep.Slices
/- privacy: calls as an argument; a law's call of both. -/
set_option maxRecDepth 100000
namespace Go.Proofs.YtiplalbicibahaaGreatDoor
open Go.RowKit Go.Joins Go.Shelf

/-! ### calls as an argument -/
structure ORd (w : World) (a : Option Addr) (n c : Nat) : Prop where
  cap : n ≤ c
  most : c ≤ maxLen
  flat : 0 < n → ∃ b off, a = some ⟨b, off, none⟩ ∧ ∀ j, j < n → ∃ o ts gs, w.rangeAt b (off + j * 7) (oc o).toList ∧ OpR w o ts gs
section
open Go.ChangeShapes Go.WideShapes Go.ChangeAt
theorem list7 {α : Type} {l : List α} (h : l.length = 7) : ∃ c0 c1 c2 c3 c4 c5 c6, l = [c0, c1, c2, c3, c4, c5, c6] := by
  match l, h with
  | [c0, c1, c2, c3, c4, c5, c6], _ => exact ⟨c0, c1, c2, c3, c4, c5, c6, rfl⟩
theorem open_pops {H : Type} {enc : TypeId × Value → H} {W : World} {b0 : Nat} {v : Value} {d : DataW H} {p : List MemPlace}
    (hv : Value.okWide Tryz.prog W .any b0 22 v) (h : DataW.Trod enc Tryz.prog W 0 (fun _ => true) true 22 v d p) : ∃ a n c, v = .slice a n c ∧ ORd W a n c := by
  obtain ⟨a, n, c, rfl⟩ := okWide_slice Tryz.underlying22 hv
  obtain ⟨fuel, hf⟩ := h
  rcases Go.Deep.open_slice Tryz.underlying22 hf with ⟨hcs, _⟩ | ⟨x, l, cc, m, k, D, Pl, hcs, hb, hl, hm, hmm, _, hx⟩
  · simp [Value.cells] at hcs
    obtain ⟨rfl, rfl, rfl⟩ := hcs
    exact ⟨none, 0, 0, rfl, Nat.le_refl _, Nat.zero_le _, fun h => by omega⟩
  · simp [Value.cells] at hcs
    obtain ⟨rfl, rfl, rfl⟩ := hcs
    simp only [if_true] at hmm
    subst hmm
    have each : ∀ j, j < n → ∃ o ts gs, (∀ i u, (oc o)[i]? = some u → W.cell? (x.add (j * 7 + i)) = some u) ∧ OpR W o ts gs := by
      intro j hj
      obtain ⟨cs', h1, h2⟩ := hx j (by omega)
      rw [cellsOp] at h1
      obtain ⟨_, hlen, hcell⟩ := World.cells?_some h1
      obtain ⟨c0, c1, c2, c3, c4, c5, c6, rfl⟩ := list7 hlen
      obtain ⟨o, ts, gs, e, hR⟩ := op_cells h2
      refine ⟨o, ts, gs, fun i u hu => ?_, hR⟩
      rw [← e] at hu
      have hi : i < 7 := by
        have := (Array.getElem?_eq_some_iff.1 hu).1
        simpa using this
      have := hcell i (by omega)
      rw [Go.Deep.add_add] at this
      rw [this]
      simpa using hu
    refine ⟨some x, n, _, rfl, hl, hm, fun h0 => ?_⟩
    obtain ⟨b, off, spot⟩ := x
    obtain ⟨o0, ts0, gs0, h0c, _⟩ := each 0 h0
    have hspot : spot = none := by simpa [Addr.add] using World.cell?_spot (h0c 0 _ rfl)
    subst hspot
    refine ⟨b, off, rfl, fun j hj => ?_⟩
    obtain ⟨o, ts, gs, hc, hR⟩ := each j hj
    refine ⟨o, ts, gs, fun i u hu => ?_, hR⟩
    have := hc i u (by rw [← Array.getElem?_toList]; exact hu)
    rw [add_flat] at this
    rw [Nat.add_assoc]
    exact this
end
theorem OpR.below {w w' : World} {o : Op7} {ts gs : List By} (h : OpR w o ts gs) (hb : Below w.heap.size w w') : OpR w' o ts gs := ⟨h.t.below hb, h.g.below hb, h.s⟩

/-! ### a call of both -/
theorem op0 {w : World} {b : Nat} {o : Op7} (h : w.heap[b]? = some (.cells (oc o) 34 (0, 0))) : w.cell? ⟨b, 0, none⟩ = some (.int .i64 o.d) := by rw [cell_of_block h]; rfl
theorem op1 {w : World} {b : Nat} {o : Op7} (h : w.heap[b]? = some (.cells (oc o) 34 (0, 0))) : w.cell? ⟨b, 1, none⟩ = some (.string (ba o.nm)) := by rw [cell_of_block h]; rfl
theorem op2 {w : World} {b : Nat} {o : Op7} (h : w.heap[b]? = some (.cells (oc o) 34 (0, 0))) : w.cell? ⟨b, 2, none⟩ = some (.slice o.ta o.tn o.tc) := by rw [cell_of_block h]; rfl
theorem op3 {w : World} {b : Nat} {o : Op7} (h : w.heap[b]? = some (.cells (oc o) 34 (0, 0))) : w.cell? ⟨b, 3, none⟩ = some (.bool o.i) := by rw [cell_of_block h]; rfl
theorem op4 {w : World} {b : Nat} {o : Op7} (h : w.heap[b]? = some (.cells (oc o) 34 (0, 0))) : w.cell? ⟨b, 4, none⟩ = some (.string (ba o.c)) := by rw [cell_of_block h]; rfl
theorem op5 {w : World} {b : Nat} {o : Op7} (h : w.heap[b]? = some (.cells (oc o) 34 (0, 0))) : w.cell? ⟨b, 5, none⟩ = some (.slice o.ga o.gn o.gc) := by rw [cell_of_block h]; rfl
theorem op6 {w : World} {b : Nat} {o : Op7} (h : w.heap[b]? = some (.cells (oc o) 34 (0, 0))) : w.cell? ⟨b, 6, none⟩ = some (.string (ba o.s)) := by rw [cell_of_block h]; rfl
/-- What a call of both is to leave. -/
def Played (B : Nat) (w0 w w' : World) (p q n : Nat) (P : Pl) (Z : Nat → Prop) : Prop := ∃ P', Tw B w0 w' p q P' P' Z ∧ Nice P' (n + 1) ∧ Keep (Oth B Z) w w' ∧ (Kept P → Kept P')
set_option maxHeartbeats 3200000 in
theorem plays_any (o : Op7) (ts gs : List By) (B : Nat) (w0 w : World) (p q : Nat) (P : Pl) (n : Nat) (Z : Nat → Prop) (hB : w0.heap.size = B) (hO : OpR w0 o ts gs) (hT : Lib.Utf8Tabs 0 1 w0) (h : Tw B w0 w p q P P Z) (hn : Nice P n) (hn2 : n ≤ 900) :
    Calls Tryz.prog 9 #[.pointer (some ⟨p, 0, none⟩), .pointer (some ⟨q, 0, none⟩), .agg (oc o)] w fun e w' => e = .returned (.bool true) ∧ Played B w0 w w' p q n P Z := by
  have HA : Hid (OpR w0 o ts gs ∧ Lib.Utf8Tabs 0 1 w0 ∧ w0.heap.size = B) := ⟨hO, hT, hB⟩
  obtain ⟨b0, Hb0⟩ : ∃ b0, Hid (w.heap.size = b0) := ⟨_, rfl⟩
  obtain ⟨Z1, HZ1⟩ : ∃ Z1 : Nat → Prop, Hid ((fun i => Z i ∨ i = b0) = Z1) := ⟨_, rfl⟩
  have HX0 : Hid ((w.alloc (.cells (oc o) 34)).heap[b0]? = some (.cells (oc o) 34 (0, 0)) ∧ Tw B w0 (w.alloc (.cells (oc o) 34)) p q P P Z1 ∧ Keep (Oth B Z) w (w.alloc (.cells (oc o) 34))) := by
    refine ⟨by rw [← Hb0.out]; exact push_at _ _ rfl, (h.grow (below1 w (.cells (oc o) 34))).weak (fun i hi => ?_), (Keep.refl _ _).alloc _⟩
    rw [← HZ1.out] at hi
    rcases hi with e | e
    · exact Or.inl e
    · rw [← Hb0.out] at e
      exact Or.inr ⟨by omega, by rw [e]; simp⟩
  have HN : Hid (Nice P n ∧ n ≤ 900) := ⟨hn, hn2⟩
  have hZb : Hid (Z1 b0 ∧ ∀ i, Z i → Z1 i) := ⟨by rw [← HZ1.out]; exact Or.inr rfl, fun i hi => by rw [← HZ1.out]; exact Or.inl hi⟩
  obtain ⟨A, HAl⟩ : ∃ A, Hid (cutT ts 20 120 = A) := ⟨_, rfl⟩
  obtain ⟨N, HNl⟩ : ∃ N, Hid (A.length = N) := ⟨_, rfl⟩
  have HA20 : Hid (N ≤ 20 ∧ ∀ t ∈ A, t.length ≤ 120) := by
    have h1 := cutT_len ts 20 120
    have h2 := cutT_size ts 20 120
    rw [HAl.out] at h1 h2
    rw [HNl.out] at h1
    exact ⟨h1, h2⟩
  obtain ⟨G, HGl⟩ : ∃ G, Hid (cutT gs 10 80 = G) := ⟨_, rfl⟩
  obtain ⟨M, HMl⟩ : ∃ M, Hid (G.length = M) := ⟨_, rfl⟩
  have cT : Hid (∀ W, Below B w0 W → Calls Tryz.prog 17 #[.slice o.ta o.tn o.tc, .int .i64 20, .int .i64 120] W fun e W' => ∃ a c, e = .returned (.slice a N c) ∧ TRd W' a N c A ∧ Below W.heap.size W W') := fun W hb =>
    (texts_any o.ta o.tn o.tc ts 20 120 W (HA.out.1.t.below (by rw [HA.out.2.2]; exact hb)) (by omega) (by omega)).mono (fun e W' hh => by
      rw [HAl.out, HNl.out] at hh
      obtain ⟨v, rfl, ho, hb⟩ := hh
      obtain ⟨a, c, rfl, hr⟩ := TRd.ofOwn ho
      exact ⟨a, c, rfl, hr, hb⟩)
  have cG : Hid (∀ W, Below B w0 W → Calls Tryz.prog 17 #[.slice o.ga o.gn o.gc, .int .i64 10, .int .i64 80] W fun e W' => ∃ a c, e = .returned (.slice a M c) ∧ TRd W' a M c G ∧ Below W.heap.size W W') := fun W hb =>
    (texts_any o.ga o.gn o.gc gs 10 80 W (HA.out.1.g.below (by rw [HA.out.2.2]; exact hb)) (by omega) (by omega)).mono (fun e W' hh => by
      rw [HGl.out, HMl.out] at hh
      obtain ⟨v, rfl, ho, hb⟩ := hh
      obtain ⟨a, c, rfl, hr⟩ := TRd.ofOwn ho
      exact ⟨a, c, rfl, hr, hb⟩)
  have cG2 : Hid (∀ W a c, TRd W a M c G → Calls Tryz.prog 17 #[.slice a M c, .int .i64 10, .int .i64 80] W fun e W' => ∃ a c, e = .returned (.slice a M c) ∧ TRd W' a M c G ∧ Below W.heap.size W W') := fun W a c hr =>
    (texts_any a M c G 10 80 W hr (by omega) (by omega)).mono (fun e W' hh => by
      rw [show cutT G 10 80 = G by rw [← HGl.out]; exact cutT_cut gs 10 80, HMl.out] at hh
      obtain ⟨v, rfl, ho, hb⟩ := hh
      obtain ⟨a, c, rfl, hr⟩ := TRd.ofOwn ho
      exact ⟨a, c, rfl, hr, hb⟩)
  have cN := fun w => text_any o.nm 80 w (by omega)
  obtain ⟨nm, HNm⟩ : ∃ nm, Hid (o.nm.take 80 = nm) := ⟨_, rfl⟩
  rw [HNm.out] at cN
  have Hnl : Hid (nm.length ≤ 80) := by show _ ≤ _; rw [← HNm.out, List.length_take]; omega
  have HTw : Hid (∀ W, Below B w0 W → Lib.Utf8Tabs 0 1 W) := fun W hb => tabs_bel HA.out.2.1 (by rw [HA.out.2.2]; exact hb)
  have HNl' := HNl
  clear hO hT hB h hn hn2 HAl HNl HGl HMl HNm
  unfold oc at HX0
  unfold oc
  go_enter Tryz.func9, Tryz.ntmps9
  go_upto_region 1 with fail
  rw [Hb0.out]
  generalize w.alloc _ = X0 at HX0 ⊢
  have u0 := op0 (o := o) HX0.out.1
  have u1 := op1 (o := o) HX0.out.1
  go_upto_region 3 with (go_at_call 24; refine (cN _).mono ?_; clear cN; rintro e w2 ⟨rfl, hw2⟩; replace hw2 := hw2.symm; subst hw2)
  have hE : ∀ n : Nat, ((n : Int) == (n : Int)) = true := fun n => beq_self_eq_true _
  by_cases d1 : o.d = 1
  · have e1 : (o.d == 1) = true := by rw [d1]; rfl
    clear d1 cG cG2
    go_upto_region 4 with fail
    have hD := (Below.refl X0.heap.size X0).drew
    have HX1 : Hid ((X0.drew).heap[b0]? = some (.cells (oc o) 34 (0, 0)) ∧ Tw B w0 X0.drew p q P P Z1 ∧ Keep (Oth B Z) w X0.drew) := ⟨box_below HX0.out.1 hD, HX0.out.2.1.below hD, HX0.out.2.2.drew⟩
    clear HX0 hD u0 u1 e1
    refine wp_region_lx (fun w' => w'.heap[b0]? = some (.cells (oc o) 34 (0, 0))) [] 14 (by kernel_rfl) (by kernel_rfl) ?_
    generalize World.drew _ = X at HX1 ⊢
    have HS0 := HX1.out.1
    refine lx_rd 0 (.pointer (some ⟨p, 0, none⟩)) (by kernel_rfl) (fun _ _ d _ _ h => by cases d <;> exact h) (by kernel_rfl) HS0 rfl rfl rfl (fun w' hS => ?hA0) ?_
    case hA0 => first | (go_simp; rfl) | go_simp
    simp only [List.setIfInBounds_toArray, List.set_cons_zero, List.set_cons_succ]
    refine lx_rd 1 (.string (ba nm)) (by kernel_rfl) (fun _ _ d _ _ h => by cases d <;> exact h) (by kernel_rfl) HS0 rfl rfl rfl (fun w' hS => ?hA1) ?_
    case hA1 => first | (go_simp; rfl) | go_simp
    simp only [List.setIfInBounds_toArray, List.set_cons_zero, List.set_cons_succ]
    refine lx_rd 2 (.pointer (some ⟨b0, 2, none⟩)) (by kernel_rfl) (fun _ _ d _ _ h => by cases d <;> exact h) (by kernel_rfl) HS0 rfl rfl rfl (fun w' hS => ?hA2) ?_
    case hA2 => first | (go_simp; rfl) | go_simp
    simp only [List.setIfInBounds_toArray, List.set_cons_zero, List.set_cons_succ]
    refine lx_rd 3 (.slice o.ta o.tn o.tc) (by kernel_rfl) (fun _ _ d _ _ h => by cases d <;> exact h) (by kernel_rfl) HS0 rfl rfl rfl (fun w' hS => ?hA3) ?_
    case hA3 => have q0 := op2 hS; first | (go_simp; rfl) | go_simp
    simp only [List.setIfInBounds_toArray, List.set_cons_zero, List.set_cons_succ]
    refine lx_rd 6 (.pointer (some ⟨q, 0, none⟩)) (by kernel_rfl) (fun _ _ d _ _ h => by cases d <;> exact h) (by kernel_rfl) HS0 rfl rfl rfl (fun w' hS => ?hA6) ?_
    case hA6 => first | (go_simp; rfl) | go_simp
    simp only [List.setIfInBounds_toArray, List.set_cons_zero, List.set_cons_succ]
    refine lx_rd 7 (.string (ba nm)) (by kernel_rfl) (fun _ _ d _ _ h => by cases d <;> exact h) (by kernel_rfl) HS0 rfl rfl rfl (fun w' hS => ?hA7) ?_
    case hA7 => first | (go_simp; rfl) | go_simp
    simp only [List.setIfInBounds_toArray, List.set_cons_zero, List.set_cons_succ]
    refine lx_rd 8 (.pointer (some ⟨b0, 2, none⟩)) (by kernel_rfl) (fun _ _ d _ _ h => by cases d <;> exact h) (by kernel_rfl) HS0 rfl rfl rfl (fun w' hS => ?hA8) ?_
    case hA8 => first | (go_simp; rfl) | go_simp
    simp only [List.setIfInBounds_toArray, List.set_cons_zero, List.set_cons_succ]
    refine lx_rd 9 (.slice o.ta o.tn o.tc) (by kernel_rfl) (fun _ _ d _ _ h => by cases d <;> exact h) (by kernel_rfl) HS0 rfl rfl rfl (fun w' hS => ?hA9) ?_
    case hA9 => have q0 := op2 hS; first | (go_simp; rfl) | go_simp
    simp only [List.setIfInBounds_toArray, List.set_cons_zero, List.set_cons_succ]
    refine lx_one 4 (by kernel_rfl) (stepT_call 17 ?ac rfl rfl rfl ?rc ?_)
    case rc => first | (go_simp; rfl) | go_simp
    refine (cT.out X HX1.out.2.1.bl).mono ?_
    rintro e X1 ⟨a1, c1, rfl, t1, hb1⟩
    have HS1 := box_below HS0 hb1
    refine ⟨_, rfl, fun _ => HS1, ?_⟩
    simp only [lxa, lxb, lxc]
    have T1 := HX1.out.2.1.below hb1
    refine lx_one 5 (by kernel_rfl) (stepT_call 18 ?ad rfl rfl rfl ?rd ?_)
    case rd => first | (go_simp; rfl) | go_simp
    refine (tw_set T1 nm a1 N c1 A Hnl.out t1 HA20.out.1 HA20.out.2 (by have := HN.out.1.kn; have := HN.out.2; omega) (HTw.out X1 T1.bl)).mono ?_
    rintro e X2 ⟨rfl, T2⟩
    have HS2 : X2.heap[b0]? = some (.cells (oc o) 34 (0, 0)) := box_keep HS1 T2.out.2 (fun e => e.2 hZb.out.1)
    refine ⟨_, rfl, fun _ => HS2, ?_⟩
    simp only [lxa, lxb, lxc]
    refine lx_one 10 (by kernel_rfl) (stepT_call 17 ?ae rfl rfl rfl ?re ?_)
    case re => first | (go_simp; rfl) | go_simp
    refine (cT.out X2 T2.out.1.bl).mono ?_
    rintro e X3 ⟨a3, c3, rfl, t3, hb3⟩
    have HS3 := box_below HS2 hb3
    refine ⟨_, rfl, fun _ => HS3, ?_⟩
    simp only [lxa, lxb, lxc]
    have T3 := T2.out.1.below hb3
    refine lx_one 11 (by kernel_rfl) (stepT_call 19 ?af rfl rfl rfl ?rf ?_)
    case rf => first | (go_simp; rfl) | go_simp
    refine (tw_qset T3 nm a3 N c3 A Hnl.out t3 HA20.out.1 HA20.out.2 (by have := HN.out.1.kn; have := HN.out.2; omega)).mono ?_
    rintro e X4 ⟨rfl, T4⟩
    have HS4 : X4.heap[b0]? = some (.cells (oc o) 34 (0, 0)) := box_keep HS3 T4.out.2 (fun e => e.2 hZb.out.1)
    refine ⟨_, rfl, fun _ => HS4, ?_⟩
    simp only [lxa, lxb, lxc]
    have HF : Hid (Played B w0 w X4 p q n P Z) := by
      refine ⟨_, T4.out.1.weak hZb.out.2, HN.out.1.set nm A Hnl.out (by rw [HNl'.out]; exact HA20.out.1), ?_, fun h => h.set nm A⟩
      have hO : ∀ {W W'}, Keep (Oth B Z1) W W' → Keep (Oth B Z) W W' := fun h => h.mono (fun i hi => ⟨hi.1, fun z => hi.2 (hZb.out.2 i z)⟩)
      exact (((HX1.out.2.2.trans (Keep.ofBelow hb1)).trans (hO T2.out.2)).trans (Keep.ofBelow hb3)).trans (hO T4.out.2)
    have hEq := hE (setR P nm A).1
    clear HS0 HS1 HS2 HS3 T1 T2 T3 T4 HX1 t1 t3 hb1 hb3
    generalize (setR P nm A).1 = en at hEq ⊢
    refine lx_rd 12 (.bool true) (by kernel_rfl) (fun _ _ d _ _ h => by cases d <;> exact h) (by kernel_rfl) HS4 rfl rfl rfl (fun w' hS => ?hC12) ?_
    case hC12 => first | (go_simp; rfl) | go_simp
    simp only [List.setIfInBounds_toArray, List.set_cons_zero, List.set_cons_succ]
    refine lx_rd 13 (.bool true) (by kernel_rfl) (fun _ _ d _ _ h => by cases d <;> exact h) (by kernel_rfl) HS4 rfl rfl rfl (fun w' hS => ?hC13) ?_
    case hC13 => first | (go_simp; rfl) | go_simp
    simp only [List.setIfInBounds_toArray, List.set_cons_zero, List.set_cons_succ]
    refine lx_nil (by kernel_rfl) ?_
    clear HS4 hEq
    go_wp2
    go_ret
    exact ⟨rfl, HF.out⟩
  · have e1 : (o.d == 1) = false := by rw [beq_eq_false_iff_ne]; exact d1
    clear d1 cT
    by_cases d2 : o.d = 2
    · have e2 : (o.d == 2) = true := by rw [d2]; rfl
      clear d2 cG cG2
      have c1 := tw_drop HX0.out.2.1 nm Hnl.out
      have HF : Hid (∀ W, Tw B w0 W p q (dropR P nm).2 (dropR P nm).2 Z1 → Keep (Oth B Z1) X0 W → Played B w0 w W p q n P Z) := fun W h hk => ⟨_, h.weak hZb.out.2, (HN.out.1.drop nm).mono (by omega), HX0.out.2.2.trans (hk.mono (fun i hi => ⟨hi.1, fun z => hi.2 (hZb.out.2 i z)⟩)), fun h => h.drop nm⟩
      have c2 : Hid (∀ W, Tw B w0 W p q (dropR P nm).2 P Z1 → Calls Tryz.prog 25 #[.pointer (some ⟨q, 0, none⟩), .string (ba nm)] W fun e w' => e = .returned (.int .i64 ((dropR P nm).1 : Nat)) ∧ Hid (Tw B w0 w' p q (dropR P nm).2 (dropR P nm).2 Z1 ∧ Keep (Oth B Z1) W w')) := fun W h => tw_qdrop h nm (by have := HN.out.1.kn; have := HN.out.2; omega)
      have hEq := hE (dropR P nm).1
      generalize dropR P nm = D at *
      obtain ⟨en, P2⟩ := D
      dsimp only at *
      go_wp2_with (first
        | (go_at_call 23; refine c1.mono ?_; clear c1; rintro e w3 ⟨rfl, T3⟩; have c3 := c2.out w3 T3.out.1; clear c2)
        | (go_at_call 25; refine c3.mono ?_; clear c3; rintro e w4 ⟨rfl, T4⟩))
      go_ret
      exact ⟨rfl, HF.out _ T4.out.1 (T3.out.2.trans T4.out.2)⟩
    · have e2 : (o.d == 2) = false := by rw [beq_eq_false_iff_ne]; exact d2
      clear d2
      by_cases d3 : o.d = 3
      · have e3 : (o.d == 3) = true := by rw [d3]; rfl
        clear d3 cG cG2
        have c1 := tw_default HX0.out.2.1 nm Hnl.out
        have HF : Hid (∀ W, Tw B w0 W p q (defaultR P nm).2 (defaultR P nm).2 Z1 → Keep (Oth B Z1) X0 W → Played B w0 w W p q n P Z) := fun W h hk => ⟨_, h.weak hZb.out.2, (HN.out.1.usual nm Hnl.out).mono (by omega), HX0.out.2.2.trans (hk.mono (fun i hi => ⟨hi.1, fun z => hi.2 (hZb.out.2 i z)⟩)), fun h => h.usual nm⟩
        have c2 : Hid (∀ W, Tw B w0 W p q (defaultR P nm).2 P Z1 → Calls Tryz.prog 27 #[.pointer (some ⟨q, 0, none⟩), .string (ba nm)] W fun e w' => e = .returned (.int .i64 ((defaultR P nm).1 : Nat)) ∧ Hid (Tw B w0 w' p q (defaultR P nm).2 (defaultR P nm).2 Z1 ∧ Keep (Oth B Z1) W w')) := fun W h => tw_qdefault h nm
        have hEq := hE (defaultR P nm).1
        generalize defaultR P nm = D at *
        obtain ⟨en, P2⟩ := D
        dsimp only at *
        go_wp2_with (first
          | (go_at_call 26; refine c1.mono ?_; clear c1; rintro e w3 ⟨rfl, T3⟩; have c3 := c2.out w3 T3.out.1; clear c2)
          | (go_at_call 27; refine c3.mono ?_; clear c3; rintro e w4 ⟨rfl, T4⟩))
        go_ret
        exact ⟨rfl, HF.out _ T4.out.1 (T3.out.2.trans T4.out.2)⟩
      · have e3 : (o.d == 3) = false := by rw [beq_eq_false_iff_ne]; exact d3
        clear d3
        have u5 := op5 (o := o) HX0.out.1
        have cGa := cG.out X0 HX0.out.2.1.bl
        go_upto_region 10 with (go_at_call 17; refine cGa.mono ?_; clear cGa; rintro e w3 ⟨a3, c3, rfl, t3, hb3⟩)
        have hD := hb3.drew
        have HX1 : Hid ((w3.drew).heap[b0]? = some (.cells (oc o) 34 (0, 0)) ∧ Tw B w0 w3.drew p q P P Z1 ∧ Keep (Oth B Z) w w3.drew ∧ TRd w3.drew a3 M c3 G) := ⟨box_below HX0.out.1 hD, HX0.out.2.1.below hD, HX0.out.2.2.trans (Keep.ofBelow hD), t3.below (Below.refl _ _).drew⟩
        clear HX0 hD u0 u1 u5 e1 e2 e3 hb3 t3
        refine wp_region_lx (fun w' => w'.heap[b0]? = some (.cells (oc o) 34 (0, 0))) [] 32 (by kernel_rfl) (by kernel_rfl) ?_
        generalize World.drew _ = X at HX1 ⊢
        have HS0 := HX1.out.1
        refine lx_rd 0 (.pointer (some ⟨p, 0, none⟩)) (by kernel_rfl) (fun _ _ d _ _ h => by cases d <;> exact h) (by kernel_rfl) HS0 rfl rfl rfl (fun w' hS => ?hD0) ?_
        case hD0 => first | (go_simp; rfl) | go_simp
        simp only [List.setIfInBounds_toArray, List.set_cons_zero, List.set_cons_succ]
        refine lx_rd 1 (.string (ba nm)) (by kernel_rfl) (fun _ _ d _ _ h => by cases d <;> exact h) (by kernel_rfl) HS0 rfl rfl rfl (fun w' hS => ?hD1) ?_
        case hD1 => first | (go_simp; rfl) | go_simp
        simp only [List.setIfInBounds_toArray, List.set_cons_zero, List.set_cons_succ]
        refine lx_rd 2 (.pointer (some ⟨b0, 3, none⟩)) (by kernel_rfl) (fun _ _ d _ _ h => by cases d <;> exact h) (by kernel_rfl) HS0 rfl rfl rfl (fun w' hS => ?hD2) ?_
        case hD2 => first | (go_simp; rfl) | go_simp
        simp only [List.setIfInBounds_toArray, List.set_cons_zero, List.set_cons_succ]
        refine lx_rd 3 (.bool o.i) (by kernel_rfl) (fun _ _ d _ _ h => by cases d <;> exact h) (by kernel_rfl) HS0 rfl rfl rfl (fun w' hS => ?hD3) ?_
        case hD3 => have q0 := op3 hS; first | (go_simp; rfl) | go_simp
        simp only [List.setIfInBounds_toArray, List.set_cons_zero, List.set_cons_succ]
        refine lx_rd 4 (.pointer (some ⟨b0, 4, none⟩)) (by kernel_rfl) (fun _ _ d _ _ h => by cases d <;> exact h) (by kernel_rfl) HS0 rfl rfl rfl (fun w' hS => ?hD4) ?_
        case hD4 => first | (go_simp; rfl) | go_simp
        simp only [List.setIfInBounds_toArray, List.set_cons_zero, List.set_cons_succ]
        refine lx_rd 5 (.string (ba o.c)) (by kernel_rfl) (fun _ _ d _ _ h => by cases d <;> exact h) (by kernel_rfl) HS0 rfl rfl rfl (fun w' hS => ?hD5) ?_
        case hD5 => have q0 := op4 hS; first | (go_simp; rfl) | go_simp
        simp only [List.setIfInBounds_toArray, List.set_cons_zero, List.set_cons_succ]
        refine lx_rd 6 (.slice a3 M c3) (by kernel_rfl) (fun _ _ d _ _ h => by cases d <;> exact h) (by kernel_rfl) HS0 rfl rfl rfl (fun w' hS => ?hD6) ?_
        case hD6 => first | (go_simp; rfl) | go_simp
        simp only [List.setIfInBounds_toArray, List.set_cons_zero, List.set_cons_succ]
        refine lx_rd 8 (.pointer (some ⟨b0, 6, none⟩)) (by kernel_rfl) (fun _ _ d _ _ h => by cases d <;> exact h) (by kernel_rfl) HS0 rfl rfl rfl (fun w' hS => ?hD8) ?_
        case hD8 => first | (go_simp; rfl) | go_simp
        simp only [List.setIfInBounds_toArray, List.set_cons_zero, List.set_cons_succ]
        refine lx_rd 9 (.string (ba o.s)) (by kernel_rfl) (fun _ _ d _ _ h => by cases d <;> exact h) (by kernel_rfl) HS0 rfl rfl rfl (fun w' hS => ?hD9) ?_
        case hD9 => have q0 := op6 hS; first | (go_simp; rfl) | go_simp
        simp only [List.setIfInBounds_toArray, List.set_cons_zero, List.set_cons_succ]
        refine lx_rd 11 (.pointer (some ⟨q, 0, none⟩)) (by kernel_rfl) (fun _ _ d _ _ h => by cases d <;> exact h) (by kernel_rfl) HS0 rfl rfl rfl (fun w' hS => ?hD11) ?_
        case hD11 => first | (go_simp; rfl) | go_simp
        simp only [List.setIfInBounds_toArray, List.set_cons_zero, List.set_cons_succ]
        refine lx_rd 12 (.string (ba nm)) (by kernel_rfl) (fun _ _ d _ _ h => by cases d <;> exact h) (by kernel_rfl) HS0 rfl rfl rfl (fun w' hS => ?hD12) ?_
        case hD12 => first | (go_simp; rfl) | go_simp
        simp only [List.setIfInBounds_toArray, List.set_cons_zero, List.set_cons_succ]
        refine lx_rd 13 (.pointer (some ⟨b0, 3, none⟩)) (by kernel_rfl) (fun _ _ d _ _ h => by cases d <;> exact h) (by kernel_rfl) HS0 rfl rfl rfl (fun w' hS => ?hD13) ?_
        case hD13 => first | (go_simp; rfl) | go_simp
        simp only [List.setIfInBounds_toArray, List.set_cons_zero, List.set_cons_succ]
        refine lx_rd 14 (.bool o.i) (by kernel_rfl) (fun _ _ d _ _ h => by cases d <;> exact h) (by kernel_rfl) HS0 rfl rfl rfl (fun w' hS => ?hD14) ?_
        case hD14 => have q0 := op3 hS; first | (go_simp; rfl) | go_simp
        simp only [List.setIfInBounds_toArray, List.set_cons_zero, List.set_cons_succ]
        refine lx_rd 15 (.pointer (some ⟨b0, 4, none⟩)) (by kernel_rfl) (fun _ _ d _ _ h => by cases d <;> exact h) (by kernel_rfl) HS0 rfl rfl rfl (fun w' hS => ?hD15) ?_
        case hD15 => first | (go_simp; rfl) | go_simp
        simp only [List.setIfInBounds_toArray, List.set_cons_zero, List.set_cons_succ]
        refine lx_rd 16 (.string (ba o.c)) (by kernel_rfl) (fun _ _ d _ _ h => by cases d <;> exact h) (by kernel_rfl) HS0 rfl rfl rfl (fun w' hS => ?hD16) ?_
        case hD16 => have q0 := op4 hS; first | (go_simp; rfl) | go_simp
        simp only [List.setIfInBounds_toArray, List.set_cons_zero, List.set_cons_succ]
        refine lx_rd 17 (.slice a3 M c3) (by kernel_rfl) (fun _ _ d _ _ h => by cases d <;> exact h) (by kernel_rfl) HS0 rfl rfl rfl (fun w' hS => ?hD17) ?_
        case hD17 => first | (go_simp; rfl) | go_simp
        simp only [List.setIfInBounds_toArray, List.set_cons_zero, List.set_cons_succ]
        refine lx_rd 18 (.pointer (some ⟨b0, 6, none⟩)) (by kernel_rfl) (fun _ _ d _ _ h => by cases d <;> exact h) (by kernel_rfl) HS0 rfl rfl rfl (fun w' hS => ?hD18) ?_
        case hD18 => first | (go_simp; rfl) | go_simp
        simp only [List.setIfInBounds_toArray, List.set_cons_zero, List.set_cons_succ]
        refine lx_rd 19 (.string (ba o.s)) (by kernel_rfl) (fun _ _ d _ _ h => by cases d <;> exact h) (by kernel_rfl) HS0 rfl rfl rfl (fun w' hS => ?hD19) ?_
        case hD19 => have q0 := op6 hS; first | (go_simp; rfl) | go_simp
        simp only [List.setIfInBounds_toArray, List.set_cons_zero, List.set_cons_succ]
        refine lx_one 7 (by kernel_rfl) (stepT_call 17 ?kc rfl rfl rfl ?mc ?_)
        case mc => first | (go_simp; rfl) | go_simp
        refine (cG2.out X a3 c3 HX1.out.2.2.2).mono ?_
        rintro e X1 ⟨a4, c4, rfl, t4, hb1⟩
        have HS1 := box_below HS0 hb1
        refine ⟨_, rfl, fun _ => HS1, ?_⟩
        simp only [lxa, lxb, lxc]
        have T1 := HX1.out.2.1.below hb1
        have hh := HN.out.1.held nm
        refine lx_one 10 (by kernel_rfl) (stepT_call 22 ?kd rfl rfl rfl ?md ?_)
        case md => first | (go_simp; rfl) | go_simp
        refine (tw_allows T1 nm ⟨o.i, o.c, G, o.s⟩ a4 M c4 Hnl.out HN.out.1.us t4 HA.out.1.s hh.1).mono ?_
        rintro e X2 ⟨rfl, hb2⟩
        have HS2 := box_below HS1 hb2
        refine ⟨_, rfl, fun _ => HS2, ?_⟩
        simp only [lxa, lxb, lxc]
        have T2 := T1.below hb2
        refine lx_one 20 (by kernel_rfl) (stepT_call 28 ?ke rfl rfl rfl ?me ?_)
        case me => first | (go_simp; rfl) | go_simp
        refine (tw_qallows T2 nm ⟨o.i, o.c, G, o.s⟩ a3 M c3 ((HX1.out.2.2.2.below hb1).below hb2) hh.1 hh.2).mono ?_
        rintro e X3 ⟨rfl, hb3⟩
        have HS3 := box_below HS2 hb3
        refine ⟨_, rfl, fun _ => HS3, ?_⟩
        simp only [lxa, lxb, lxc]
        have T3 := T2.below hb3
        have hEq : (allowsR ⟨o.i, o.c, G, o.s⟩ (heldR P nm) == allowsR ⟨o.i, o.c, G, o.s⟩ (heldR P nm)) = true := beq_self_eq_true _
        generalize allowsR ⟨o.i, o.c, G, o.s⟩ (heldR P nm) = R at hEq ⊢
        refine lx_rd 21 (.bool true) (by kernel_rfl) (fun _ _ d _ _ h => by cases d <;> exact h) (by kernel_rfl) HS3 rfl rfl rfl (fun w' hS => ?hE21) ?_
        case hE21 => first | (go_simp; rfl) | go_simp
        simp only [List.setIfInBounds_toArray, List.set_cons_zero, List.set_cons_succ]
        refine lx_rd 22 (.bool true) (by kernel_rfl) (fun _ _ d _ _ h => by cases d <;> exact h) (by kernel_rfl) HS3 rfl rfl rfl (fun w' hS => ?hE22) ?_
        case hE22 => first | (go_simp; rfl) | go_simp
        simp only [List.setIfInBounds_toArray, List.set_cons_zero, List.set_cons_succ]
        refine lx_rd 23 (.pointer (some ⟨p, 0, none⟩)) (by kernel_rfl) (fun _ _ d _ _ h => by cases d <;> exact h) (by kernel_rfl) HS3 rfl rfl rfl (fun w' hS => ?hE23) ?_
        case hE23 => first | (go_simp; rfl) | go_simp
        simp only [List.setIfInBounds_toArray, List.set_cons_zero, List.set_cons_succ]
        refine lx_rd 24 (.string (ba nm)) (by kernel_rfl) (fun _ _ d _ _ h => by cases d <;> exact h) (by kernel_rfl) HS3 rfl rfl rfl (fun w' hS => ?hE24) ?_
        case hE24 => first | (go_simp; rfl) | go_simp
        simp only [List.setIfInBounds_toArray, List.set_cons_zero, List.set_cons_succ]
        refine lx_rd 26 (.pointer (some ⟨q, 0, none⟩)) (by kernel_rfl) (fun _ _ d _ _ h => by cases d <;> exact h) (by kernel_rfl) HS3 rfl rfl rfl (fun w' hS => ?hE26) ?_
        case hE26 => first | (go_simp; rfl) | go_simp
        simp only [List.setIfInBounds_toArray, List.set_cons_zero, List.set_cons_succ]
        refine lx_rd 27 (.string (ba nm)) (by kernel_rfl) (fun _ _ d _ _ h => by cases d <;> exact h) (by kernel_rfl) HS3 rfl rfl rfl (fun w' hS => ?hE27) ?_
        case hE27 => first | (go_simp; rfl) | go_simp
        simp only [List.setIfInBounds_toArray, List.set_cons_zero, List.set_cons_succ]
        clear hEq
        refine lx_one 25 (by kernel_rfl) (stepT_call 29 ?kf rfl rfl rfl ?mf ?_)
        case mf => first | (go_simp; rfl) | go_simp
        refine (tw_has T3 nm Hnl.out).mono ?_
        rintro e X4 ⟨rfl, hX4⟩
        replace hX4 := hX4.symm
        subst hX4
        refine ⟨_, rfl, fun _ => HS3, ?_⟩
        simp only [lxa, lxb, lxc]
        refine lx_one 28 (by kernel_rfl) (stepT_call 30 ?kg rfl rfl rfl ?mg ?_)
        case mg => first | (go_simp; rfl) | go_simp
        refine (tw_qhas T3 nm).mono ?_
        rintro e X5 ⟨rfl, hb5⟩
        have HS5 := box_below HS3 hb5
        refine ⟨_, rfl, fun _ => HS5, ?_⟩
        simp only [lxa, lxb, lxc]
        have HF : Hid (Played B w0 w X5 p q n P Z) := ⟨_, (T3.below hb5).weak hZb.out.2, HN.out.1.mono (by omega), (((HX1.out.2.2.1.trans (Keep.ofBelow hb1)).trans (Keep.ofBelow hb2)).trans (Keep.ofBelow hb3)).trans (Keep.ofBelow hb5), fun h => h⟩
        have hEq : ((P.m nm).isSome == (P.m nm).isSome) = true := beq_self_eq_true _
        generalize (P.m nm).isSome = R2 at hEq ⊢
        clear HS0 HS1 HS2 HS3 T1 T2 T3 HX1 t4 hb1 hb2 hb3 hb5
        refine lx_rd 29 (.bool true) (by kernel_rfl) (fun _ _ d _ _ h => by cases d <;> exact h) (by kernel_rfl) HS5 rfl rfl rfl (fun w' hS => ?hF29) ?_
        case hF29 => first | (go_simp; rfl) | go_simp
        simp only [List.setIfInBounds_toArray, List.set_cons_zero, List.set_cons_succ]
        refine lx_rd 30 (.bool true) (by kernel_rfl) (fun _ _ d _ _ h => by cases d <;> exact h) (by kernel_rfl) HS5 rfl rfl rfl (fun w' hS => ?hF30) ?_
        case hF30 => first | (go_simp; rfl) | go_simp
        simp only [List.setIfInBounds_toArray, List.set_cons_zero, List.set_cons_succ]
        refine lx_rd 31 (.bool true) (by kernel_rfl) (fun _ _ d _ _ h => by cases d <;> exact h) (by kernel_rfl) HS5 rfl rfl rfl (fun w' hS => ?hF31) ?_
        case hF31 => first | (go_simp; rfl) | go_simp
        simp only [List.setIfInBounds_toArray, List.set_cons_zero, List.set_cons_succ]
        refine lx_nil (by kernel_rfl) ?_
        clear HS5 hEq
        go_wp2
        go_ret
        exact ⟨rfl, HF.out⟩
end Go.Proofs.YtiplalbicibahaaGreatDoor

/- privacy: Default of whatever name; a shelf, twinned and cut. -/
set_option maxRecDepth 100000
namespace Go.Proofs.YtiplalbicibahaaGreatDoor
open Go.RowKit Go.Joins Go.Shelf

theorem has_long (s : By) (w : World) (F : Nat → Prop) (q mb : Nat) (m : By → Option Rw) (P : Pl) (h : LsM w F q mb m P) (hs : s.length ≤ 9223372036854775807) :
    Calls Tryz.prog 29 #[.pointer (some ⟨q, 0, none⟩), .string (ba s)] w fun e w' => e = .returned (.bool (P.m s).isSome) ∧ w' = w := by
  have c3 := h.c3
  have hl := h.map.look2 s (by unfold maxLen; omega)
  rw [(h.tie s).isSome] at hl
  generalize (P.m s).isSome = B at hl ⊢
  generalize rsl ((m s).getD (none, 0, 0)) = V at hl
  clear h
  go_enter Tryz.func29, Tryz.ntmps29
  go_wp2
  go_ret
  exact ⟨rfl, rfl⟩
theorem default_wide (s : By) (w : World) (F : Nat → Prop) (q : Nat) (P : Pl) (h : LsAt w F q P) (hs : s.length ≤ 9223372036854775807) (hn : ∀ k ∈ P.ks, k.length ≤ 1000000) :
    Calls Tryz.prog 26 #[.pointer (some ⟨q, 0, none⟩), .string (ba s)] w fun e w' => e = .returned (.int .i64 ((defaultR P s).1 : Nat)) ∧ LsAt w' F q (defaultR P s).2 ∧ Keep F w w' := by
  by_cases hl : s.length ≤ 1000000
  · exact default_any s w F q P h hl
  · obtain ⟨mb, m, h⟩ := h
    have hno : (P.m s).isSome = false := by
      cases hx : (P.m s).isSome with
      | false => rfl
      | true => exact absurd (hn s ((h.mem s).1 hx)) hl
    have hne : s.isEmpty = false := by
      cases s with
      | nil => exact absurd (Nat.zero_le _) hl
      | cons => rfl
    have cH := has_long s w F q mb m P h hs
    have HH : Hid (LsM w F q mb m P) := h
    have e1 : (ba s).toList.isEmpty = false := by rw [Lib.toList_data, ba_list]; exact hne
    have e2 : ((ba s).toList == []) = false := by
      rw [Lib.toList_data, ba_list, beq_eq_false_iff_ne]
      intro e; rw [e] at hne; cases hne
    unfold defaultR
    rw [hne, hno, if_pos (by decide)]
    rw [hno] at cH
    clear hs h hl hno hne
    go_enter Tryz.func26, Tryz.ntmps26
    go_wp2_with (go_at_call 29; refine cH.mono ?_; clear cH; rintro e w0 ⟨rfl, hw0⟩; replace hw0 := hw0.symm; subst hw0)
    go_ret
    exact ⟨rfl, ⟨mb, m, HH.out⟩, Keep.refl _ _⟩

/-! ### a shelf, twinned -/
def cutTT (tss : List (List By)) : List (List By) := (tss.take 20).map fun ts => cutT ts 20 120
/-- A twin, half made. -/
structure ShT (B : Nat) (w wr : World) (li ru : Int) (us : By) (xN xT vN : Value) (ns : List By) (vT : Value) (vs : List Value) (tss : List (List By)) : Prop where
  blk : ShAt wr (B + 2) (shc li ru us vN vT)
  res : ShAt wr (B + 1) shZ
  box : ShAt wr B (shc li ru us xN xT)
  oN : wr.ownsRow (B + 3) 9 1 vN ns.length (tc ns)
  oT : wr.ownsRow (B + 3) 32 1 vT tss.length vs
  rows : Vr wr vs tss (fun i => B + 3 ≤ i ∧ i < wr.heap.size ∧ vN.ownBlock ≠ some i ∧ vT.ownBlock ≠ some i)
  bel : Below B w wr
section
variable {B : Nat} {w wr w5 : World} {li ru : Int} {us : By} {xN xT vN : Value} {ns : List By} {vT : Value} {vs : List Value} {tss : List (List By)}
theorem ShT.gl (h : ShT B w wr li ru us xN xT vN ns vT vs tss) : B + 3 ≤ wr.heap.size := box_lt h.blk
theorem ShT.below (h : ShT B w wr li ru us xN xT vN ns vT vs tss) (hb : Below wr.heap.size wr w5) : ShT B w w5 li ru us xN xT vN ns vT vs tss := by
  have hk : Keep (fun _ => False) wr w5 := Keep.ofBelow hb
  have hs := hb.size
  have hgl := h.gl
  exact ⟨box_below h.blk hb, box_below h.res hb, box_below h.box hb, own_keep h.oN hk (fun _ _ e => e), own_keep h.oT hk (fun _ _ e => e), h.rows.keep hk (fun _ _ e => e) (fun i hi => ⟨hi.1, by omega, hi.2.2⟩), h.bel.trans (hb.mono (by omega))⟩
/-- One row of texts more. -/
theorem ShT.text (h : ShT B w wr li ru us xN xT vN ns vT vs tss) {v5 : Value} {a : Option Addr} {n c : Nat} {ts : List By} (o5 : w5.ownsRow (B + 3) 32 1 v5 (tss.length + 1) (vs ++ [.slice a n c])) (k5 : Keep (fun k => vT.ownBlock = some k) wr w5) (h4 : v5.ownBlock = vT.ownBlock ∨ ∃ g', v5.ownBlock = some g' ∧ wr.heap.size ≤ g')
    (ht : TRd wr a n c ts) (hF : ∀ ad, a = some ad → B + 3 ≤ ad.block ∧ ad.block < wr.heap.size ∧ vN.ownBlock ≠ some ad.block ∧ vT.ownBlock ≠ some ad.block) (hY : ∀ ad, a = some ad → Ty wr ad.block) :
    ShT B w (w5.setCell ⟨B + 2, 4, none⟩ v5) li ru us xN xT vN ns v5 (vs ++ [.slice a n c]) (tss ++ [ts]) := by
  have hgl := h.gl
  have hs := k5.size
  have hkS : Keep (fun i => i = B + 2) w5 (w5.setCell ⟨B + 2, 4, none⟩ v5) := setK w5 (B + 2) 4 v5
  have hsS := hkS.size
  have hlT : ∀ k, vT.ownBlock = some k → B + 3 ≤ k := fun k e => (h.oT.lt k e).1
  have hlN : ∀ k, vN.ownBlock = some k → B + 3 ≤ k := fun k e => (h.oN.lt k e).1
  have hl5 : ∀ k, v5.ownBlock = some k → B + 3 ≤ k := fun k e => (o5.lt k e).1
  have hnew : ∀ i, i < wr.heap.size → vT.ownBlock ≠ some i → v5.ownBlock ≠ some i := fun i hi hne e => by
    rcases h4 with h4 | ⟨g', h4, hge⟩
    · rw [h4] at e; exact hne e
    · rw [h4] at e; injection e with e; omega
  have hb5 : ShAt w5 (B + 2) (shc li ru us vN vT) := box_keep h.blk k5 (fun e => by have := hlT _ e; omega)
  refine ⟨block_setCell (i := 4) hb5 v5, box_keep (box_keep h.res k5 (fun e => by have := hlT _ e; omega)) hkS (by omega), box_keep (box_keep h.box k5 (fun e => by have := hlT _ e; omega)) hkS (by omega), own_keep (own_keep h.oN k5 (fun k e e2 => own_apart h.oN h.oT (by decide) k e e2)) hkS (fun k e e2 => by have := hlN k e; omega), ?_, ?_, ?_⟩
  · rw [List.length_append, List.length_singleton]
    exact own_keep o5 hkS (fun k e e2 => by have := hl5 k e; omega)
  · exact (((h.rows.snoc ht (fun ad e => ⟨hF ad e, hY ad e⟩)).keep k5 (fun i hi => hi.2.2.2) (fun i hi => hi)).keep hkS (fun i hi e => by have := hi.1; omega) (fun i hi => ⟨hi.1, by have := hi.2.1; omega, hi.2.2.1, hnew i hi.2.1 hi.2.2.2⟩))
  · exact (h.bel.trans (k5.below (by omega) (fun j e => by have := hlT j e; omega))).trans (hkS.below (by omega) (fun j e => by omega))
end
set_option maxHeartbeats 3200000 in
theorem twin_any (S : Value) (w : World) (li ru : Int) (us : By) (ns : List By) (tss : List (List By)) (h : ShR w S li ru us ns tss) :
    Calls Tryz.prog 14 #[S] w fun e w' => ∃ S', e = .returned S' ∧ ShA w' w.heap.size li ru us (cutT ns 20 80) (cutTT tss) S' ∧ Below w.heap.size w w' := by
  obtain ⟨a, n, c, a2, n2, c2, rfl, hN, hT⟩ := h
  obtain ⟨B, HB⟩ : ∃ B, Hid (w.heap.size = B) := ⟨_, rfl⟩
  have HR : Hid (TRd w a n c ns ∧ TTd w a2 n2 c2 tss) := ⟨hN, hT⟩
  have hcap := hT.cap
  have hmost := hT.most
  unfold maxLen at hmost
  clear hN hT
  have HW : Hid (ShAt ((w.alloc (.cells (shc li ru us (.slice a n c) (.slice a2 n2 c2)) 38)).alloc (.cells shZ 38)) B (shc li ru us (.slice a n c) (.slice a2 n2 c2)) ∧ ShAt ((w.alloc (.cells (shc li ru us (.slice a n c) (.slice a2 n2 c2)) 38)).alloc (.cells shZ 38)) (B + 1) shZ ∧ Below B w ((w.alloc (.cells (shc li ru us (.slice a n c) (.slice a2 n2 c2)) 38)).alloc (.cells shZ 38)) ∧ ((w.alloc (.cells (shc li ru us (.slice a n c) (.slice a2 n2 c2)) 38)).alloc (.cells shZ 38)).heap.size = B + 2) := by
    rw [← HB.out]
    exact ⟨push_old (push_at _ _ rfl), push_at _ _ (by simp), below2 w _ _, by simp⟩
  go_enter Tryz.func14, Tryz.ntmps14
  go_upto_region 1 with fail
  rw [HB.out]
  unfold shZ at HW
  generalize World.alloc (w.alloc _) _ = X at HW ⊢
  obtain ⟨D, HD⟩ : ∃ D, Hid (shc li ru us (.slice a n c) (.slice a2 n2 c2) = D) := ⟨_, rfl⟩
  have hXz := HW.out.2.2.2
  have HY : Hid (ShAt ((X.alloc (.cells shZ 38)).setRow (B + 2) (shc li ru us (.slice a n c) (.slice a2 n2 c2))) (B + 2) (shc li ru us (.slice a n c) (.slice a2 n2 c2)) ∧ ShAt ((X.alloc (.cells shZ 38)).setRow (B + 2) (shc li ru us (.slice a n c) (.slice a2 n2 c2))) (B + 1) shZ ∧ ShAt ((X.alloc (.cells shZ 38)).setRow (B + 2) (shc li ru us (.slice a n c) (.slice a2 n2 c2))) B (shc li ru us (.slice a n c) (.slice a2 n2 c2)) ∧ Below B w ((X.alloc (.cells shZ 38)).setRow (B + 2) (shc li ru us (.slice a n c) (.slice a2 n2 c2))) ∧ B + 3 ≤ ((X.alloc (.cells shZ 38)).setRow (B + 2) (shc li ru us (.slice a n c) (.slice a2 n2 c2))).heap.size) := by
    have hk := rowK (X.alloc (.cells shZ 38)) (B + 2) (shc li ru us (.slice a n c) (.slice a2 n2 c2))
    have h1 : ShAt ((X.alloc (.cells shZ 38)).setRow (B + 2) (shc li ru us (.slice a n c) (.slice a2 n2 c2))) (B + 2) (shc li ru us (.slice a n c) (.slice a2 n2 c2)) := setRow_heap _ (B + 2) _ _ 38 (0, 0) (push_at _ _ hXz.symm)
    have hbX : Below X.heap.size X ((X.alloc (.cells shZ 38)).setRow (B + 2) (shc li ru us (.slice a n c) (.slice a2 n2 c2))) := (below1 X (.cells shZ 38)).trans (hk.below (by simp) (fun j e => by omega))
    exact ⟨h1, box_below HW.out.2.1 hbX, box_below HW.out.1 hbX, HW.out.2.2.1.trans (hbX.mono (by omega)), box_lt h1⟩
  unfold shZ at HY
  go_upto_region 2 with (first
    | (refine wp_load_sh rfl (.tmp 1) rfl B rfl (shc li ru us (.slice a n c) (.slice a2 n2 c2)) rfl HW.out.1 ?_)
    | (refine wp_store_sh rfl (.tmp 3) (.tmp 5) rfl (B + 2) (by rw [← hXz]; rfl) (shc li ru us (.slice a n c) (.slice a2 n2 c2)) rfl (by simp [shc, Value.oneCell']) rfl shZ rfl (push_at _ _ hXz.symm) ?_))
  generalize World.setRow _ _ _ = Y at HY ⊢
  have u3 := sh3 HY.out.2.2.1
  have cT := texts_any a n c ns 20 80 Y (HR.out.1.below (by rw [HB.out]; exact HY.out.2.2.2.1)) (by omega) (by omega)
  obtain ⟨NS, HNS⟩ : ∃ NS, Hid (cutT ns 20 80 = NS) := ⟨_, rfl⟩
  obtain ⟨N, HN⟩ : ∃ N, Hid (NS.length = N) := ⟨_, rfl⟩
  rw [HNS.out, HN.out] at cT
  clear HW hXz
  go_upto_region 4 with (go_at_call 17; refine cT.mono ?_; clear cT; rintro e w5 ⟨v5, rfl, o5, hb5⟩; obtain ⟨a5, c5, hv5⟩ := ownR_sl o5; subst hv5; have hg5 := box_below HY.out.1 hb5; have p3 := sh3 hg5; have p4 := sh4 hg5; have z3 := unfrozen_of_block hg5 3; have z4 := unfrozen_of_block hg5 4)
  have M0 : Hid (ShT B w ((w5.setCell ⟨B + 2, 3, none⟩ (.slice a5 N c5)).setCell ⟨B + 2, 4, none⟩ (.slice none 0 0)) li ru us (.slice a n c) (.slice a2 n2 c2) (.slice a5 N c5) NS (.slice none 0 0) [] []) := by
    have hYs := HY.out.2.2.2.2
    have hs5 := hb5.size
    have k3 := setK w5 (B + 2) 3 (.slice a5 N c5)
    have k4 := setK (w5.setCell ⟨B + 2, 3, none⟩ (.slice a5 N c5)) (B + 2) 4 (.slice none 0 0)
    have k34 := k3.trans k4
    have hlt5 := fun k e => (o5.lt k e).1
    refine ⟨block_setCell (i := 4) (block_setCell (i := 3) hg5 (.slice a5 N c5)) (.slice none 0 0), box_keep (box_below HY.out.2.1 hb5) k34 (by omega), box_keep (box_below HY.out.2.2.1 hb5) k34 (by omega), ?_, World.ownsRow_nil .., Vr.nil _ _, ?_⟩
    · rw [HN.out]
      exact own_weak (own_keep o5 k34 (fun k e e2 => by have := hlt5 k e; omega)) hYs
    · exact (HY.out.2.2.2.1.trans (hb5.mono (by omega))).trans (k34.below (by omega) (fun j e => by omega))
  clear o5 hb5 hg5 p3 p4 z3 z4 u3 HY
  generalize (w5.setCell _ _).setCell _ _ = W0 at M0 ⊢
  go_upto_region 5 with fail
  go_loopw [4] (fun s4 wr => ∃ (j : Nat) (vT : Value) (vz : List Value), s4 = .int .i64 (j : Int) ∧ j ≤ n2 ∧ j ≤ 20 ∧ Hid (ShT B w wr li ru us (.slice a n c) (.slice a2 n2 c2) (.slice a5 N c5) NS vT vz ((tss.take j).map fun ts => cutT ts 20 120))) (fun s4 _ => n2 - (intOf s4).toNat)
  case atStart => exact ⟨0, _, _, rfl, by omega, by omega, M0⟩
  case round =>
    obtain ⟨j, vT, vz, rfl, hj, hj2, M⟩ := hrel
    clear M0
    have u4 := sh4 M.out.box
    have HTl : Hid (tss.length = n2) := HR.out.2.len
    have hbw : Hid (Below w.heap.size w wr) := by show Below _ _ _; rw [HB.out]; exact M.out.bel
    by_cases hlt : j < n2
    · have hcl : (j : Int) < (n2 : Int) := by omega
      by_cases hlt2 : j < 20
      · have hcl2 : (j : Int) < 20 := by omega
        have hj0 : (0 : Int) ≤ (j : Int) := by omega
        obtain ⟨b, off, rfl, hce⟩ := (HR.out.2.below hbw.out).flat (by omega)
        obtain ⟨y1, k1, l1, y2, y3⟩ := hce j hlt
        obtain ⟨y, hy⟩ : ∃ y, tss[j]? = some y := ⟨_, List.getElem?_eq_getElem (by rw [HTl.out]; exact hlt)⟩
        have HTk : Hid ((tss.take (j + 1)).map (fun ts => cutT ts 20 120) = (tss.take j).map (fun ts => cutT ts 20 120) ++ [cutT y 20 120]) := by
          show _ = _
          rw [List.take_add_one, hy, List.map_append]; rfl
        rw [show tss.getD j [] = y by rw [List.getD_eq_getElem?_getD, hy]; rfl] at y3
        have hlj : ((tss.take j).map (fun ts => cutT ts 20 120)).length = j := by rw [List.length_map, List.length_take, HTl.out]; omega
        generalize (tss.take j).map (fun ts => cutT ts 20 120) = tj at M HTk hlj
        clear hce hy
        have oT0 := M.out.oT
        rw [hlj] at oT0
        obtain ⟨at1, ct, hv⟩ := ownR_sl oT0
        subst hv
        replace hlj : Hid _ := hlj
        go_upto_region 7 with fail
        refine wp_region_lx (fun w' => ShAt w' (B + 2) (shc li ru us (.slice a5 N c5) (.slice at1 j ct)) ∧ ShAt w' B (shc li ru us (.slice a n c) (.slice (some ⟨b, off, none⟩) n2 c2)) ∧ w'.cell? ⟨b, off + j, none⟩ = some (.slice y1 k1 l1)) [11] 12 (by kernel_rfl) (by kernel_rfl) ?_
        have D0 := M.out.below (Below.refl _ _).drew
        have y4 := y3.below (Below.refl _ wr).drew
        have oT1 : wr.drew.ownsRow (B + 3) 32 1 (.slice at1 j ct) j vz := oT0
        have HS0 : ShAt wr.drew (B + 2) (shc li ru us (.slice a5 N c5) (.slice at1 j ct)) ∧ ShAt wr.drew B (shc li ru us (.slice a n c) (.slice (some ⟨b, off, none⟩) n2 c2)) ∧ wr.drew.cell? ⟨b, off + j, none⟩ = some (.slice y1 k1 l1) := ⟨D0.blk, D0.box, y2⟩
        clear u4 y2 y3 M oT0
        generalize World.drew _ = Y at D0 y4 HS0 oT1 ⊢
        refine lx_rd 0 (.pointer (some ⟨B + 2, 4, none⟩)) (by kernel_rfl) (fun _ _ d _ _ h => by cases d <;> exact h) (by kernel_rfl) HS0 rfl rfl rfl (fun w' hS => ?hA0) ?_
        case hA0 => first | (go_simp; rfl) | go_simp
        simp only [List.setIfInBounds_toArray, List.set_cons_zero, List.set_cons_succ]
        refine lx_rd 1 (.slice at1 j ct) (by kernel_rfl) (fun _ _ d _ _ h => by cases d <;> exact h) (by kernel_rfl) HS0 rfl rfl rfl (fun w' hS => ?hA1) ?_
        case hA1 => have q0 := sh4 hS.1; first | (go_simp; rfl) | go_simp
        simp only [List.setIfInBounds_toArray, List.set_cons_zero, List.set_cons_succ]
        refine lx_rd 2 (.pointer (some ⟨B, 4, none⟩)) (by kernel_rfl) (fun _ _ d _ _ h => by cases d <;> exact h) (by kernel_rfl) HS0 rfl rfl rfl (fun w' hS => ?hA2) ?_
        case hA2 => first | (go_simp; rfl) | go_simp
        simp only [List.setIfInBounds_toArray, List.set_cons_zero, List.set_cons_succ]
        refine lx_rd 3 (.slice (some ⟨b, off, none⟩) n2 c2) (by kernel_rfl) (fun _ _ d _ _ h => by cases d <;> exact h) (by kernel_rfl) HS0 rfl rfl rfl (fun w' hS => ?hA3) ?_
        case hA3 => have q0 := sh4 hS.2.1; first | (go_simp; rfl) | go_simp
        simp only [List.setIfInBounds_toArray, List.set_cons_zero, List.set_cons_succ]
        refine lx_rd 4 (.int .i64 (j : Int)) (by kernel_rfl) (fun _ _ d _ _ h => by cases d <;> exact h) (by kernel_rfl) HS0 rfl rfl rfl (fun w' hS => ?hA4) ?_
        case hA4 => first | (go_simp; rfl) | go_simp
        simp only [List.setIfInBounds_toArray, List.set_cons_zero, List.set_cons_succ]
        refine lx_rd 5 (.pointer (some ⟨b, off + j, none⟩)) (by kernel_rfl) (fun _ _ d _ _ h => by cases d <;> exact h) (by kernel_rfl) HS0 rfl rfl rfl (fun w' hS => ?hA5) ?_
        case hA5 => first | (go_simp; rfl) | go_simp
        simp only [List.setIfInBounds_toArray, List.set_cons_zero, List.set_cons_succ]
        refine lx_rd 6 (.slice y1 k1 l1) (by kernel_rfl) (fun _ _ d _ _ h => by cases d <;> exact h) (by kernel_rfl) HS0 rfl rfl rfl (fun w' hS => ?hA6) ?_
        case hA6 => have q0 := hS.2.2; first | (go_simp; rfl) | go_simp
        simp only [List.setIfInBounds_toArray, List.set_cons_zero, List.set_cons_succ]
        have hcc : ∀ {W : World}, Below Y.heap.size Y W → ∀ {p : Addr} {u : Value}, Y.cell? p = some u → W.cell? p = some u := fun {W} hb {p u} h => (hb.cell (World.block_lt_of_cell? Y _ h)).trans h
        refine lx_one 7 (by kernel_rfl) (stepT_call 17 ?ac rfl rfl rfl ?rc ?_)
        case rc => first | (go_simp; rfl) | go_simp
        refine (texts_any y1 k1 l1 y 20 120 Y y4 (by omega) (by omega)).mono ?_
        rintro e w6 ⟨v6, rfl, o6, hb6⟩
        have D2 := D0.below hb6
        refine ⟨_, rfl, fun _ => ⟨D2.blk, D2.box, hcc hb6 HS0.2.2⟩, ?_⟩
        simp only [lxa, lxb, lxc]
        obtain ⟨m6, hm6⟩ : ∃ m6, (cutT y 20 120).length = m6 := ⟨_, rfl⟩
        rw [hm6] at o6
        obtain ⟨a6, c6, hv6⟩ := ownR_sl o6
        subst hv6
        obtain ⟨a6', c6', he, t6⟩ := TRd.ofOwn o6
        injection he with he1 he2 he3
        subst he1 he3
        clear he2
        have oT6 := own_keep (S := fun _ => False) oT1 (Keep.ofBelow hb6) (fun _ _ e => e)
        have hF6 : ∀ ad, a6 = some ad → B + 3 ≤ ad.block ∧ ad.block < w6.heap.size ∧ (Value.slice a5 N c5).ownBlock ≠ some ad.block ∧ (Value.slice at1 j ct).ownBlock ≠ some ad.block := fun ad e => by
          subst e
          have h1 := o6.lt ad.block rfl
          have h2 := D0.gl
          exact ⟨by omega, h1.2, fun e => by have := (D0.oN.lt _ e).2; omega, fun e => by have := (oT1.lt _ e).2; omega⟩
        have hY6 : ∀ ad, a6 = some ad → Ty w6 ad.block := fun ad e => by subst e; exact own_ty o6
        have hb7 : Below Y.heap.size Y (w6.alloc (.cells #[.slice a6 m6 c6] 32)) := hb6.trans ((below1 w6 (.cells #[.slice a6 m6 c6] 32)).mono hb6.size)
        have D3 := D0.below hb7
        refine lx_one 8 (by kernel_rfl) (stepT_val (w' := w6.alloc (.cells #[.slice a6 m6 c6] 32)) (.slice (some ⟨w6.heap.size, 0, none⟩) 1 1) rfl rfl rfl ?rb (fun _ => ⟨D3.blk, D3.box, hcc hb7 HS0.2.2⟩) ?_)
        case rb => first | (go_simp; rfl) | go_simp
        simp only [lxa, lxb, lxc]
        obtain ⟨v9, w9, hrun9, o9, k9, h9, _⟩ := run_appG 36 32 _ 24 Tryz.underlying36 infoStrsG (by decide) rfl (w := w6) 36 oT6 (.slice a6 m6 c6) (by simp [Value.oneCell']) (by omega) (by have := D2.gl; omega)
        have hlT : ∀ k, (Value.slice at1 j ct).ownBlock = some k → B + 3 ≤ k := fun k e => (oT6.lt k e).1
        have hb9 : ShAt w9 (B + 2) (shc li ru us (.slice a5 N c5) (.slice at1 j ct)) := box_keep D2.blk k9 (fun e => by have := hlT _ e; omega)
        have hx9 : ShAt w9 B (shc li ru us (.slice a n c) (.slice (some ⟨b, off, none⟩) n2 c2)) := box_keep D2.box k9 (fun e => by have := hlT _ e; omega)
        have hbB : b < B := by
          obtain ⟨b', off', e', hce'⟩ := HR.out.2.flat (by omega)
          injection e' with e'
          injection e' with e1 e2
          subst e1 e2
          obtain ⟨_, _, _, z1, _⟩ := hce' j hlt
          have := World.block_lt_of_cell? w _ z1
          rw [← HB.out]; exact this
        have hy9 : w9.cell? ⟨b, off + j, none⟩ = some (.slice y1 k1 l1) := k9.cell (hcc hb6 HS0.2.2) (fun e => by have := hlT _ e; simp at this; omega)
        refine lx_one 9 (by kernel_rfl) (stepT_val (w' := w9) v9 rfl rfl rfl (exec_appG rfl rfl rfl hrun9) (fun _ => ⟨hb9, hx9, hy9⟩) ?_)
        simp only [lxa, lxb, lxc]
        have D10 := D2.text (by rw [hlj.out]; exact o9) k9 h9 t6 hF6 hY6
        rw [← HTk.out] at D10
        obtain ⟨av9, cv9, hv⟩ := ownR_sl o9
        subst hv
        have HS9 : ShAt w9 (B + 2) (shc li ru us (.slice a5 N c5) (.slice at1 j ct)) ∧ ShAt w9 B (shc li ru us (.slice a n c) (.slice (some ⟨b, off, none⟩) n2 c2)) ∧ w9.cell? ⟨b, off + j, none⟩ = some (.slice y1 k1 l1) := ⟨hb9, hx9, hy9⟩
        clear hrun9 o9 k9 h9 D3 D2 D0 HS0 hb6 hb7 hcc o6 t6 hF6 hY6 y4 oT1 oT6 hlT hx9 hy9 hm6
        have z9 := unfrozen_of_block hb9 4
        have q9 := sh4 hb9
        refine lx_rd 10 (.pointer (some ⟨B + 2, 4, none⟩)) (by kernel_rfl) (fun _ _ d _ _ h => by cases d <;> exact h) (by kernel_rfl) HS9 rfl rfl rfl (fun w' hS => ?hK10) ?_
        case hK10 => first | (go_simp; rfl) | go_simp
        simp only [List.setIfInBounds_toArray, List.set_cons_zero, List.set_cons_succ]
        refine lx_one 11 (by kernel_rfl) (stepT_store (w' := w9.setCell ⟨B + 2, 4, none⟩ (.slice av9 (j + 1) cv9)) rfl rfl rfl ?rl (fun h => by cases h) ?_)
        case rl => first | (go_simp; rfl) | go_simp
        refine lx_nil (by kernel_rfl) ?_
        clear hb9 z9 q9 HS9
        generalize w9.setCell ⟨B + 2, 4, none⟩ _ = W9 at D10 ⊢
        replace D10 : Hid _ := D10
        go_wp2
        exact ⟨⟨j + 1, _, _, by go_num, by omega, by omega, D10⟩, by simp [intOf]; omega⟩
      · have hcl2 : ¬ (j : Int) < 20 := by omega
        have hM := M.out
        rw [show (tss.take j).map (fun ts => cutT ts 20 120) = cutTT tss by unfold cutTT; rw [show j = 20 by omega]] at hM
        obtain ⟨at1, ct, hv⟩ := ownR_sl hM.oT
        subst hv
        obtain ⟨L, HL⟩ : ∃ L, Hid ((cutTT tss).length = L) := ⟨_, rfl⟩
        have HM : Hid (ShT B w wr li ru us (.slice a n c) (.slice a2 n2 c2) (.slice a5 N c5) NS (.slice at1 L ct) vz (cutTT tss)) := by rw [← HL.out]; exact hM
        have oTL := hM.oT
        rw [HL.out] at oTL
        have hA9 : Hid (ShA (wr.setRow (B + 1) (shc li ru us (.slice a5 N c5) (.slice at1 L ct))) B li ru us NS (cutTT tss) (.agg (shc li ru us (.slice a5 N c5) (.slice at1 L ct)))) := by
          have hk := rowK wr (B + 1) (shc li ru us (.slice a5 N c5) (.slice at1 L ct))
          have o1 := own_keep HM.out.oN hk (fun k e e2 => by have := (HM.out.oN.lt k e).1; omega)
          have o2 := own_keep HM.out.oT hk (fun k e e2 => by have := (HM.out.oT.lt k e).1; omega)
          exact ⟨_, _, vz, rfl, own_weak o1 (by omega), own_weak o2 (by omega), HM.out.rows.keep hk (fun i hi e => by have := hi.1; omega) (fun i hi => ⟨by have := hi.1; omega, hi.2.2.1, hi.2.2.2⟩)⟩
        have hB9 : Hid (Below B w (wr.setRow (B + 1) (shc li ru us (.slice a5 N c5) (.slice at1 L ct)))) := HM.out.bel.trans ((rowK wr (B + 1) _).below (by have := HM.out.gl; omega) (fun k e => by omega))
        rw [HL.out] at hM
        clear hM oTL
        go_wp2_with (first
          | (refine wp_load_sh rfl (.tmp 3) rfl (B + 2) rfl _ rfl HM.out.blk ?_)
          | (refine wp_store_sh rfl (.tmp 2) (.tmp 33) rfl (B + 1) rfl (shc li ru us (.slice a5 N c5) (.slice at1 L ct)) rfl (by simp [shc, Value.oneCell']) rfl shZ rfl HM.out.res ?_))
        refine bodyPost_ret (v := .agg (shc li ru us (.slice a5 N c5) (.slice at1 L ct))) ?_ rfl ⟨_, rfl, ?_, ?_⟩
        · exact res_sh rfl _ _ (B + 1) _ rfl rfl (setRow_heap _ (B + 1) _ _ 38 (0, 0) HM.out.res)
        · rw [HNS.out, HB.out]; exact hA9.out
        · rw [HB.out]; exact hB9.out
    · have hcl : ¬ (j : Int) < (n2 : Int) := by omega
      have hM := M.out
      rw [show (tss.take j).map (fun ts => cutT ts 20 120) = cutTT tss by unfold cutTT; rw [List.take_of_length_le (by rw [HTl.out]; omega), List.take_of_length_le (by rw [HTl.out]; omega)]] at hM
      obtain ⟨at1, ct, hv⟩ := ownR_sl hM.oT
      subst hv
      obtain ⟨L, HL⟩ : ∃ L, Hid ((cutTT tss).length = L) := ⟨_, rfl⟩
      have HM : Hid (ShT B w wr li ru us (.slice a n c) (.slice a2 n2 c2) (.slice a5 N c5) NS (.slice at1 L ct) vz (cutTT tss)) := by rw [← HL.out]; exact hM
      have oTL := hM.oT
      rw [HL.out] at oTL
      have hA9 : Hid (ShA (wr.setRow (B + 1) (shc li ru us (.slice a5 N c5) (.slice at1 L ct))) B li ru us NS (cutTT tss) (.agg (shc li ru us (.slice a5 N c5) (.slice at1 L ct)))) := by
        have hk := rowK wr (B + 1) (shc li ru us (.slice a5 N c5) (.slice at1 L ct))
        have o1 := own_keep HM.out.oN hk (fun k e e2 => by have := (HM.out.oN.lt k e).1; omega)
        have o2 := own_keep HM.out.oT hk (fun k e e2 => by have := (HM.out.oT.lt k e).1; omega)
        exact ⟨_, _, vz, rfl, own_weak o1 (by omega), own_weak o2 (by omega), HM.out.rows.keep hk (fun i hi e => by have := hi.1; omega) (fun i hi => ⟨by have := hi.1; omega, hi.2.2.1, hi.2.2.2⟩)⟩
      have hB9 : Hid (Below B w (wr.setRow (B + 1) (shc li ru us (.slice a5 N c5) (.slice at1 L ct)))) := HM.out.bel.trans ((rowK wr (B + 1) _).below (by have := HM.out.gl; omega) (fun k e => by omega))
      rw [HL.out] at hM
      clear hM oTL
      go_wp2_with (first
        | (refine wp_load_sh rfl (.tmp 3) rfl (B + 2) rfl _ rfl HM.out.blk ?_)
        | (refine wp_store_sh rfl (.tmp 2) (.tmp 33) rfl (B + 1) rfl (shc li ru us (.slice a5 N c5) (.slice at1 L ct)) rfl (by simp [shc, Value.oneCell']) rfl shZ rfl HM.out.res ?_))
      refine bodyPost_ret (v := .agg (shc li ru us (.slice a5 N c5) (.slice at1 L ct))) ?_ rfl ⟨_, rfl, ?_, ?_⟩
      · exact res_sh rfl _ _ (B + 1) _ rfl rfl (setRow_heap _ (B + 1) _ _ 38 (0, 0) HM.out.res)
      · rw [HNS.out, HB.out]; exact hA9.out
      · rw [HB.out]; exact hB9.out
end Go.Proofs.YtiplalbicibahaaGreatDoor

/- privacy: the program's Load. -/
set_option maxRecDepth 100000
namespace Go.Proofs.YtiplalbicibahaaGreatDoor
open Go.RowKit Go.Joins Go.Shelf

theorem sh0 {w : World} {g : Nat} {a b : Int} {c : By} {vN vT : Value} (h : ShAt w g (shc a b c vN vT)) : w.cell? ⟨g, 0, none⟩ = some (.int .i64 a) := by rw [cell_of_block h]; rfl
theorem sh1 {w : World} {g : Nat} {a b : Int} {c : By} {vN vT : Value} (h : ShAt w g (shc a b c vN vT)) : w.cell? ⟨g, 1, none⟩ = some (.int .i64 b) := by rw [cell_of_block h]; rfl
theorem sh2 {w : World} {g : Nat} {a b : Int} {c : By} {vN vT : Value} (h : ShAt w g (shc a b c vN vT)) : w.cell? ⟨g, 2, none⟩ = some (.string (ba c)) := by rw [cell_of_block h]; rfl
/-- A shelf whose names and texts are short. -/
structure Small (us : By) (ns : List By) (tss : List (List By)) : Prop where
  n : ns.length ≤ 200
  nl : ∀ s ∈ ns, s.length ≤ 80
  t : ∀ ts ∈ tss, ts.length ≤ 20 ∧ ∀ t ∈ ts, t.length ≤ 2000
  u : us.length ≤ 9223372036854775807
/-- What Load tells. -/
def Loaded (w : World) (o : Option Pl) (e : Ending) (w' : World) : Prop :=
  match o with
  | none => e = .returned (.tuple #[.pointer none, .int .i64 1])
  | some P => ∃ p F, e = .returned (.tuple #[.pointer (some ⟨p, 0, none⟩), .int .i64 0]) ∧ LsAt w' F p P ∧ ∀ i, F i → w.heap.size ≤ i
theorem st_texts {B : Nat} {w0 w : World} {q : Nat} {P : Pl} {Z : Nat → Prop} (h : St B w0 w q P Z) (s : By) (hs : s.length ≤ 80) {n : Nat} (hn : Nice P n) :
    Calls Tryz.prog 34 #[.pointer (some ⟨q, 0, none⟩), .string (ba s)] w fun e w' => ∃ a c, e = .returned (.slice a (textsK P s).length c) ∧ TRd w' a (textsK P s).length c (textsK P s) ∧ Below w.heap.size w w' := by
  obtain ⟨F, ⟨mb, m, hL⟩, hF⟩ := h.ex
  refine (ltexts_any s w F q mb m P hL (by omega) _ rfl (by have := hn.rl s; omega) (fun r hr => by have := (hn.rz s r hr).2.2; omega)).mono fun e w' hh => ?_
  obtain ⟨v, rfl, ho, hb⟩ := hh
  have hl : ((P.m s).getD []).length = (textsK P s).length := by unfold textsK; rw [List.length_map]
  rw [hl] at ho
  obtain ⟨a, c, rfl, ht⟩ := TRd.ofOwn (show w'.ownsRow w.heap.size 9 1 v (textsK P s).length (tc (textsK P s)) from ho)
  exact ⟨a, c, rfl, ht, hb⟩
theorem st_default {B : Nat} {w0 w : World} {q : Nat} {P : Pl} {Z : Nat → Prop} (h : St B w0 w q P Z) (s : By) (hs : s.length ≤ 9223372036854775807) {n : Nat} (hn : Nice P n) :
    Calls Tryz.prog 26 #[.pointer (some ⟨q, 0, none⟩), .string (ba s)] w fun e w' => e = .returned (.int .i64 ((defaultR P s).1 : Nat)) ∧ Hid (St B w0 w' q (defaultR P s).2 Z ∧ Keep (Oth B Z) w w') := by
  obtain ⟨F, hL, hF⟩ := h.ex
  exact (default_wide s w F q P hL hs (fun k hk => by have := hn.nm k hk; omega)).mono (fun e w' hh => ⟨hh.1, h.lq hF ⟨F, hh.2.1, hh.2.2, fun i hi => Or.inl hi⟩⟩)
theorem load_no {li ru : Int} {us : By} {ns : List By} {tss : List (List By)} (h : ¬ ((bnd li && bnd ru) = true ∧ tss.length = ns.length ∧ riseR ns = true)) : loadR li ru us ns tss = none := by
  unfold loadR; rw [if_neg h]
theorem load_yes {li ru : Int} {us : By} {ns : List By} {tss : List (List By)} (h : (bnd li && bnd ru) = true ∧ tss.length = ns.length ∧ riseR ns = true) : loadR li ru us ns tss = lastR us (fillR (pl0 li ru) ns tss) := by
  unfold loadR; rw [if_pos h]
theorem fill_step {P : Pl} {ns : List By} {tss : List (List By)} {j : Nat} {s : By} {ts : List By} (hs : ns[j]? = some s) (ht : tss[j]? = some ts) : fillR P (ns.drop j) (tss.drop j) = if stepB P s ts = true then fillR (setR P s ts).2 (ns.drop (j + 1)) (tss.drop (j + 1)) else none := by
  have e1 := List.getElem?_eq_some_iff.1 hs
  have e2 := List.getElem?_eq_some_iff.1 ht
  rw [List.drop_eq_getElem_cons e1.1, List.drop_eq_getElem_cons e2.1, e1.2, e2.2]
  rfl
set_option maxHeartbeats 1600000 in
theorem pvLoad_bad (a : Option Addr) (n c : Nat) (a2 : Option Addr) (n2 c2 : Nat) (w : World) (li ru : Int) (us : By) (hb : (bnd li && bnd ru) = false) :
    Calls Tryz.prog 13 #[.agg (shc li ru us (.slice a n c) (.slice a2 n2 c2))] w fun e w' => e = .returned (.tuple #[.pointer none, .int .i64 1]) ∧ Below w.heap.size w w' := by
  have HX : Hid (ShAt (w.alloc (.cells (shc li ru us (.slice a n c) (.slice a2 n2 c2)) 38)) w.heap.size (shc li ru us (.slice a n c) (.slice a2 n2 c2)) ∧ Below w.heap.size w (w.alloc (.cells (shc li ru us (.slice a n c) (.slice a2 n2 c2)) 38))) := ⟨push_at _ _ rfl, below1 _ _⟩
  have cN := fun w => new_bad li ru w hb
  clear hb
  go_enter Tryz.func13, Tryz.ntmps13
  go_upto_region 1 with fail
  generalize w.alloc _ = X at HX ⊢
  have u0 := sh0 HX.out.1
  have u1 := sh1 HX.out.1
  go_wp2_with (go_at_call 6; refine (cN _).mono ?_; clear cN; rintro e w1 ⟨rfl, hw1⟩; replace hw1 := hw1.symm; subst hw1)
  go_ret2
  exact ⟨rfl, HX.out.2⟩
set_option maxHeartbeats 3200000 in
theorem pvLoad_ok (a : Option Addr) (n c : Nat) (a2 : Option Addr) (n2 c2 : Nat) (w : World) (li ru : Int) (us : By) (ns : List By) (tss : List (List By)) (hN : TRd w a n c ns) (hT : TTd w a2 n2 c2 tss) (hS : Small us ns tss) (hU : Lib.Utf8Tabs 0 1 w) (hl : bnd li = true) (hr : bnd ru = true) :
    Calls Tryz.prog 13 #[.agg (shc li ru us (.slice a n c) (.slice a2 n2 c2))] w fun e w' => Loaded w (loadR li ru us ns tss) e w' ∧ Below w.heap.size w w' := by
  obtain ⟨B, HB⟩ : ∃ B, Hid (w.heap.size = B) := ⟨_, rfl⟩
  have HA : Hid (TRd w a n c ns ∧ TTd w a2 n2 c2 tss ∧ Small us ns tss ∧ Lib.Utf8Tabs 0 1 w) := ⟨hN, hT, hS, hU⟩
  have HX : Hid (ShAt (w.alloc (.cells (shc li ru us (.slice a n c) (.slice a2 n2 c2)) 38)) B (shc li ru us (.slice a n c) (.slice a2 n2 c2)) ∧ Below B w (w.alloc (.cells (shc li ru us (.slice a n c) (.slice a2 n2 c2)) 38)) ∧ (w.alloc (.cells (shc li ru us (.slice a n c) (.slice a2 n2 c2)) 38)).heap.size = B + 1) := by
    rw [← HB.out]
    exact ⟨push_at _ _ rfl, below1 _ _, by simp⟩
  have cN : Hid (∀ w, Calls Tryz.prog 6 #[.int .i64 li, .int .i64 ru] w fun e w' => e = .returned (.tuple #[.pointer (some ⟨w.heap.size + 1, 0, none⟩), .int .i64 0]) ∧ LsAt w' (fun i => i = w.heap.size ∨ i = w.heap.size + 1) (w.heap.size + 1) (pl0 li ru) ∧ Below w.heap.size w w') := fun w => new_ok li ru w hl hr
  have hcap := hN.cap
  have hmost := hN.most
  have hcap2 := hT.cap
  have hmost2 := hT.most
  unfold maxLen at hmost hmost2
  have Hn : Hid (ns.length = n ∧ tss.length = n2) := ⟨hN.len, hT.len⟩
  have hbb : Hid ((bnd li && bnd ru) = true) := by show (bnd li && bnd ru) = true; rw [hl, hr]; rfl
  have hZ : Hid (Nice (pl0 li ru) 0) := Nice.zero li ru
  obtain ⟨LR, HLR⟩ : ∃ LR, Hid (loadR li ru us ns tss = LR) := ⟨_, rfl⟩
  rw [HLR.out]
  clear hN hT hS hU hl hr
  go_enter Tryz.func13, Tryz.ntmps13
  go_upto_region 1 with fail
  rw [HB.out]
  generalize w.alloc _ = X at HX ⊢
  have u0 := sh0 HX.out.1
  have u1 := sh1 HX.out.1
  have cN1 := cN.out X
  rw [HX.out.2.2] at cN1
  go_upto_region 2 with (go_at_call 6; refine cN1.mono ?_; clear cN1; rintro e w1 ⟨rfl, h1, hb1⟩)
  have H1 : Hid (St B w w1 (B + 1 + 1) (pl0 li ru) (fun i => i = B) ∧ ShAt w1 B (shc li ru us (.slice a n c) (.slice a2 n2 c2))) := by
    rw [← HX.out.2.2] at hb1
    have hz := HX.out.2.2
    exact ⟨St.new HX.out.2.1 (by omega) (fun i hi => by omega) h1 (fun i hi => by omega) hb1, box_below HX.out.1 hb1⟩
  clear h1 hb1 HX cN u0 u1
  have u3 := sh3 H1.out.2
  have u4 := sh4 H1.out.2
  by_cases hnn : n2 = n
  · subst hnn
    have cR := rise_any a n2 c ns w1 (HA.out.1.below (by rw [HB.out]; exact H1.out.1.bl))
    have f1 : ((n2 : Int) != (n2 : Int)) = false := by simp
    cases hri : riseR ns with
    | false =>
      have hno : loadR li ru us ns tss = none := load_no (fun h => by rw [hri] at h; cases h.2.2)
      have hLR : none = LR := hno.symm.trans HLR.out
      rw [hri] at cR
      clear hno hri
      go_wp2_with (go_at_call 35; refine cR.mono ?_; clear cR; rintro e w2 ⟨rfl, hb2⟩)
      go_ret2
      refine ⟨by rw [← hLR]; rfl, by rw [HB.out]; exact H1.out.1.bl.trans (hb2.mono H1.out.1.sz)⟩
    | true =>
      have hyes : loadR li ru us ns tss = lastR us (fillR (pl0 li ru) ns tss) := load_yes ⟨hbb.out, by rw [Hn.out.1, Hn.out.2], hri⟩
      rw [hri] at cR
      clear hri
      go_upto_region 4 with (go_at_call 35; refine cR.mono ?_; clear cR; rintro e w2 ⟨rfl, hb2⟩)
      have H2 : Hid (St B w w2 (B + 1 + 1) (pl0 li ru) (fun i => i = B) ∧ ShAt w2 B (shc li ru us (.slice a n2 c) (.slice a2 n2 c2))) := ⟨H1.out.1.below hb2, box_below H1.out.2 hb2⟩
      have v3 := sh3 H2.out.2
      clear u3 u4 H1 hb2 f1
      obtain ⟨R, HR⟩ : ∃ R, Hid (fillR (pl0 li ru) ns tss = R) := ⟨_, rfl⟩
      have hLR : Hid (LR = lastR us R) := by show LR = _; rw [← HLR.out, hyes, HR.out]
      clear hyes
      go_upto_region 5 with fail
      go_loopw [6, 7, 36] (fun _ _ s36 wr => ∃ (j : Nat) (P : Pl), s36 = .int .i64 (j : Int) ∧ j ≤ n2 ∧ Hid (fillR P (ns.drop j) (tss.drop j) = R) ∧ Hid (Nice P j) ∧ Hid (St B w wr (B + 1 + 1) P (fun i => i = B) ∧ ShAt wr B (shc li ru us (.slice a n2 c) (.slice a2 n2 c2)))) (fun _ _ s36 _ => n2 - (intOf s36).toNat)
      case atStart => exact ⟨0, pl0 li ru, rfl, by omega, HR, hZ, H2⟩
      case round =>
        clear H2 v3 hZ
        obtain ⟨j, P, rfl, hj, HF, HN, HS⟩ := hrel
        by_cases hlt : j < n2
        · have hcl : (j : Int) < (n2 : Int) := by omega
          have hj0 : (0 : Int) ≤ (j : Int) := by omega
          obtain ⟨b, off, rfl, hce⟩ := (HA.out.1.below (by rw [HB.out]; exact HS.out.1.bl)).flat (by omega)
          have hcj := hce j hlt
          obtain ⟨tb, toff, rfl, hct⟩ := (HA.out.2.1.below (by rw [HB.out]; exact HS.out.1.bl)).flat (by omega)
          obtain ⟨y1, k1, l1, y2, y3⟩ := hct j hlt
          obtain ⟨s, hs⟩ : ∃ s, ns[j]? = some s := ⟨_, List.getElem?_eq_getElem (by rw [Hn.out.1]; exact hlt)⟩
          obtain ⟨ts, hts⟩ : ∃ ts, tss[j]? = some ts := ⟨_, List.getElem?_eq_getElem (by rw [Hn.out.2]; exact hlt)⟩
          rw [show ns.getD j [] = s by rw [List.getD_eq_getElem?_getD, hs]; rfl] at hcj
          rw [show tss.getD j [] = ts by rw [List.getD_eq_getElem?_getD, hts]; rfl] at y3
          have htsD : Hid (tss.getD j [] = ts) := by show _ = _; rw [List.getD_eq_getElem?_getD, hts]; rfl
          have HF2 := HF.out
          rw [fill_step hs hts] at HF2
          replace HF2 : Hid _ := HF2
          have hsl : Hid (s.length ≤ 80) := HA.out.2.2.1.nl s (List.mem_of_getElem? hs)
          have htl : Hid (ts.length ≤ 20 ∧ ∀ t ∈ ts, t.length ≤ 2000) := HA.out.2.2.1.t ts (List.mem_of_getElem? hts)
          have hj2 : Hid (j ≤ 200) := by have := HA.out.2.2.1.n; have := Hn.out.1; show j ≤ 200; omega
          clear hce hct hs hts HF
          go_upto_region 7 with fail
          have D0 : St B w wr.drew (B + 1 + 1) P (fun i => i = B) := HS.out.1.below (Below.refl _ _).drew
          have hb0 : ShAt wr.drew B (shc li ru us (.slice (some ⟨b, off, none⟩) n2 c) (.slice (some ⟨tb, toff, none⟩) n2 c2)) := HS.out.2
          have y4 := y3.below (Below.refl _ wr).drew
          have hy0 : wr.drew.cell? ⟨tb, toff + j, none⟩ = some (.slice y1 k1 l1) := y2
          have htB : Hid (tb < B) := by
            obtain ⟨b', off', e', hce'⟩ := HA.out.2.1.flat (by omega)
            injection e' with e'
            injection e' with e1 e2
            subst e1 e2
            obtain ⟨_, _, _, z1, _⟩ := hce' j hlt
            have := World.block_lt_of_cell? w _ z1
            show tb < B
            rw [← HB.out]; exact this
          have HSS : ShAt wr.drew B (shc li ru us (.slice (some ⟨b, off, none⟩) n2 c) (.slice (some ⟨tb, toff, none⟩) n2 c2)) ∧ wr.drew.cell? ⟨tb, toff + j, none⟩ = some (.slice y1 k1 l1) := ⟨hb0, hy0⟩
          clear y2 y3 HS hcj hb0 hy0
          refine wp_region_lx (fun w' => ShAt w' B (shc li ru us (.slice (some ⟨b, off, none⟩) n2 c) (.slice (some ⟨tb, toff, none⟩) n2 c2)) ∧ w'.cell? ⟨tb, toff + j, none⟩ = some (.slice y1 k1 l1)) [] 21 (by kernel_rfl) (by kernel_rfl) ?_
          generalize World.drew _ = Y at D0 y4 HSS ⊢
          refine lx_rd 0 (.pointer (some ⟨B + 1 + 1, 0, none⟩)) (by kernel_rfl) (fun _ _ d _ _ h => by cases d <;> exact h) (by kernel_rfl) HSS rfl rfl rfl (fun w' hS => ?hA0) ?_
          case hA0 => first | (go_simp; rfl) | go_simp
          simp only [List.setIfInBounds_toArray, List.set_cons_zero, List.set_cons_succ]
          refine lx_rd 1 (.string (ba s)) (by kernel_rfl) (fun _ _ d _ _ h => by cases d <;> exact h) (by kernel_rfl) HSS rfl rfl rfl (fun w' hS => ?hA1) ?_
          case hA1 => first | (go_simp; rfl) | go_simp
          simp only [List.setIfInBounds_toArray, List.set_cons_zero, List.set_cons_succ]
          refine lx_rd 2 (.pointer (some ⟨B, 4, none⟩)) (by kernel_rfl) (fun _ _ d _ _ h => by cases d <;> exact h) (by kernel_rfl) HSS rfl rfl rfl (fun w' hS => ?hA2) ?_
          case hA2 => first | (go_simp; rfl) | go_simp
          simp only [List.setIfInBounds_toArray, List.set_cons_zero, List.set_cons_succ]
          refine lx_rd 3 (.slice (some ⟨tb, toff, none⟩) n2 c2) (by kernel_rfl) (fun _ _ d _ _ h => by cases d <;> exact h) (by kernel_rfl) HSS rfl rfl rfl (fun w' hS => ?hA3) ?_
          case hA3 => have q0 := sh4 hS.1; first | (go_simp; rfl) | go_simp
          simp only [List.setIfInBounds_toArray, List.set_cons_zero, List.set_cons_succ]
          refine lx_rd 4 (.int .i64 (j : Int)) (by kernel_rfl) (fun _ _ d _ _ h => by cases d <;> exact h) (by kernel_rfl) HSS rfl rfl rfl (fun w' hS => ?hA4) ?_
          case hA4 => first | (go_simp; rfl) | go_simp
          simp only [List.setIfInBounds_toArray, List.set_cons_zero, List.set_cons_succ]
          refine lx_rd 5 (.pointer (some ⟨tb, toff + j, none⟩)) (by kernel_rfl) (fun _ _ d _ _ h => by cases d <;> exact h) (by kernel_rfl) HSS rfl rfl rfl (fun w' hS => ?hA5) ?_
          case hA5 => first | (go_simp; rfl) | go_simp
          simp only [List.setIfInBounds_toArray, List.set_cons_zero, List.set_cons_succ]
          refine lx_rd 6 (.slice y1 k1 l1) (by kernel_rfl) (fun _ _ d _ _ h => by cases d <;> exact h) (by kernel_rfl) HSS rfl rfl rfl (fun w' hS => ?hA6) ?_
          case hA6 => have q0 := hS.2; first | (go_simp; rfl) | go_simp
          simp only [List.setIfInBounds_toArray, List.set_cons_zero, List.set_cons_succ]
          refine lx_one 7 (by kernel_rfl) (stepT_call 18 ?ac rfl rfl rfl ?rc ?_)
          case rc => first | (go_simp; rfl) | go_simp
          have hkl : k1 ≤ 20 := by have := y4.len; have := htl.out.1; omega
          refine (st_set D0 s y1 k1 l1 ts (by have := hsl.out; omega) y4 (by omega) (fun t ht => by have := htl.out.2 t ht; omega) (by have := HN.out.kn; have := hj2.out; omega) (tabs_bel HA.out.2.2.2 (by rw [HB.out]; exact D0.bl))).mono ?_
          rintro e Y1 ⟨rfl, D1⟩
          have HS1 : ShAt Y1 B (shc li ru us (.slice (some ⟨b, off, none⟩) n2 c) (.slice (some ⟨tb, toff, none⟩) n2 c2)) ∧ Y1.cell? ⟨tb, toff + j, none⟩ = some (.slice y1 k1 l1) := ⟨box_keep HSS.1 D1.out.2 (fun e => e.2 rfl), D1.out.2.cell HSS.2 (fun e => by have h1 : B ≤ tb := e.1; have := htB.out; omega)⟩
          have t1 : Hid (TRd Y1 y1 k1 l1 ts) := by
            have hA := (HA.out.2.1.below (w' := Y1) (by rw [HB.out]; exact D1.out.1.bl)).flat (by omega)
            obtain ⟨b', off', e', hce'⟩ := hA
            injection e' with e'
            injection e' with e1 e2
            subst e1 e2
            obtain ⟨y1', k1', l1', z1, z2⟩ := hce' j hlt
            rw [HS1.2] at z1
            injection z1 with z1
            injection z1 with e1 e2 e3
            subst e1 e2 e3
            rw [htsD.out] at z2
            exact z2
          refine ⟨_, rfl, fun _ => HS1, ?_⟩
          simp only [lxa, lxb, lxc]
          have HN1 : Hid (Nice (setR P s ts).2 (j + 1)) := HN.out.set s ts hsl.out htl.out.1
          have hstB : Hid (stepB P s ts = (((setR P s ts).1 == 0) && (textsK (setR P s ts).2 s == ts))) := rfl
          generalize setR P s ts = D at D1 HN1 hstB HF2 ⊢
          obtain ⟨en, P1⟩ := D
          dsimp only at D1 HN1 hstB HF2 ⊢
          by_cases hen : en = 0
          · subst hen
            refine lx_rd 8 (.bool false) (by kernel_rfl) (fun _ _ d _ _ h => by cases d <;> exact h) (by kernel_rfl) HS1 rfl rfl rfl (fun w' hS => ?hB8) ?_
            case hB8 => first | (go_simp; rfl) | go_simp
            simp only [List.setIfInBounds_toArray, List.set_cons_zero, List.set_cons_succ]
            refine lx_rd 9 (.bool false) (by kernel_rfl) (fun _ _ d _ _ h => by cases d <;> exact h) (by kernel_rfl) HS1 rfl rfl rfl (fun w' hS => ?hB9) ?_
            case hB9 => first | (go_simp; rfl) | go_simp
            simp only [List.setIfInBounds_toArray, List.set_cons_zero, List.set_cons_succ]
            refine lx_rd 10 (.pointer (some ⟨B + 1 + 1, 0, none⟩)) (by kernel_rfl) (fun _ _ d _ _ h => by cases d <;> exact h) (by kernel_rfl) HS1 rfl rfl rfl (fun w' hS => ?hB10) ?_
            case hB10 => first | (go_simp; rfl) | go_simp
            simp only [List.setIfInBounds_toArray, List.set_cons_zero, List.set_cons_succ]
            refine lx_rd 11 (.string (ba s)) (by kernel_rfl) (fun _ _ d _ _ h => by cases d <;> exact h) (by kernel_rfl) HS1 rfl rfl rfl (fun w' hS => ?hB11) ?_
            case hB11 => first | (go_simp; rfl) | go_simp
            simp only [List.setIfInBounds_toArray, List.set_cons_zero, List.set_cons_succ]
            refine lx_rd 13 (.pointer (some ⟨B, 4, none⟩)) (by kernel_rfl) (fun _ _ d _ _ h => by cases d <;> exact h) (by kernel_rfl) HS1 rfl rfl rfl (fun w' hS => ?hB13) ?_
            case hB13 => first | (go_simp; rfl) | go_simp
            simp only [List.setIfInBounds_toArray, List.set_cons_zero, List.set_cons_succ]
            refine lx_rd 14 (.slice (some ⟨tb, toff, none⟩) n2 c2) (by kernel_rfl) (fun _ _ d _ _ h => by cases d <;> exact h) (by kernel_rfl) HS1 rfl rfl rfl (fun w' hS => ?hB14) ?_
            case hB14 => have q0 := sh4 hS.1; first | (go_simp; rfl) | go_simp
            simp only [List.setIfInBounds_toArray, List.set_cons_zero, List.set_cons_succ]
            refine lx_rd 15 (.int .i64 (j : Int)) (by kernel_rfl) (fun _ _ d _ _ h => by cases d <;> exact h) (by kernel_rfl) HS1 rfl rfl rfl (fun w' hS => ?hB15) ?_
            case hB15 => first | (go_simp; rfl) | go_simp
            simp only [List.setIfInBounds_toArray, List.set_cons_zero, List.set_cons_succ]
            refine lx_rd 16 (.pointer (some ⟨tb, toff + j, none⟩)) (by kernel_rfl) (fun _ _ d _ _ h => by cases d <;> exact h) (by kernel_rfl) HS1 rfl rfl rfl (fun w' hS => ?hB16) ?_
            case hB16 => first | (go_simp; rfl) | go_simp
            simp only [List.setIfInBounds_toArray, List.set_cons_zero, List.set_cons_succ]
            refine lx_rd 17 (.slice y1 k1 l1) (by kernel_rfl) (fun _ _ d _ _ h => by cases d <;> exact h) (by kernel_rfl) HS1 rfl rfl rfl (fun w' hS => ?hB17) ?_
            case hB17 => have q0 := hS.2; first | (go_simp; rfl) | go_simp
            simp only [List.setIfInBounds_toArray, List.set_cons_zero, List.set_cons_succ]
            refine lx_one 12 (by kernel_rfl) (stepT_call 34 ?ad rfl rfl rfl ?rd ?_)
            case rd => first | (go_simp; rfl) | go_simp
            refine (st_texts D1.out.1 s hsl.out HN1.out).mono ?_
            rintro e Y2 ⟨a9, c9, rfl, t9, hb9⟩
            have HS2 : ShAt Y2 B (shc li ru us (.slice (some ⟨b, off, none⟩) n2 c) (.slice (some ⟨tb, toff, none⟩) n2 c2)) ∧ Y2.cell? ⟨tb, toff + j, none⟩ = some (.slice y1 k1 l1) := ⟨box_below HS1.1 hb9, (hb9.cell (World.block_lt_of_cell? _ _ HS1.2)).trans HS1.2⟩
            refine ⟨_, rfl, fun _ => HS2, ?_⟩
            simp only [lxa, lxb, lxc]
            refine lx_one 18 (by kernel_rfl) (stepT_call 36 ?ae rfl rfl rfl ?re ?_)
            case re => first | (go_simp; rfl) | go_simp
            refine (equal_any a9 _ c9 (textsK P1 s) y1 k1 l1 ts Y2 t9 (t1.out.below hb9)).mono ?_
            rintro e Y3 ⟨rfl, hb3⟩
            have HS3 : ShAt Y3 B (shc li ru us (.slice (some ⟨b, off, none⟩) n2 c) (.slice (some ⟨tb, toff, none⟩) n2 c2)) ∧ Y3.cell? ⟨tb, toff + j, none⟩ = some (.slice y1 k1 l1) := ⟨box_below HS2.1 hb3, (hb3.cell (World.block_lt_of_cell? _ _ HS2.2)).trans HS2.2⟩
            refine ⟨_, rfl, fun _ => HS3, ?_⟩
            simp only [lxa, lxb, lxc]
            have D3 : Hid (St B w Y3 (B + 1 + 1) P1 (fun i => i = B)) := (D1.out.1.below hb9).below hb3
            have HS3' : Hid (ShAt Y3 B (shc li ru us (.slice (some ⟨b, off, none⟩) n2 c) (.slice (some ⟨tb, toff, none⟩) n2 c2))) := HS3.1
            clear HSS HS1 HS2 y4 hb9 hb3 t1 t9 D0
            generalize (textsK P1 s == ts) = eq at hstB ⊢
            cases eq with
            | true =>
              refine lx_rd 19 (.bool false) (by kernel_rfl) (fun _ _ d _ _ h => by cases d <;> exact h) (by kernel_rfl) HS3 rfl rfl rfl (fun w' hS => ?hD19) ?_
              case hD19 => first | (go_simp; rfl) | go_simp
              simp only [List.setIfInBounds_toArray, List.set_cons_zero, List.set_cons_succ]
              refine lx_rd 20 (.bool false) (by kernel_rfl) (fun _ _ d _ _ h => by cases d <;> exact h) (by kernel_rfl) HS3 rfl rfl rfl (fun w' hS => ?hD20) ?_
              case hD20 => first | (go_simp; rfl) | go_simp
              simp only [List.setIfInBounds_toArray, List.set_cons_zero, List.set_cons_succ]
              refine lx_nil (by kernel_rfl) ?_
              have hst : stepB P s ts = true := hstB.out
              have HF3 : Hid (fillR P1 (ns.drop (j + 1)) (tss.drop (j + 1)) = R) := by
                have := HF2.out
                rw [hst, if_pos rfl] at this
                exact this
              clear HS3 hst
              go_wp2
              exact ⟨⟨j + 1, P1, by go_num, by omega, HF3, HN1, D3.out, HS3'.out⟩, by simp [intOf]; omega⟩
            | false =>
              refine lx_rd 19 (.bool true) (by kernel_rfl) (fun _ _ d _ _ h => by cases d <;> exact h) (by kernel_rfl) HS3 rfl rfl rfl (fun w' hS => ?hE19) ?_
              case hE19 => first | (go_simp; rfl) | go_simp
              simp only [List.setIfInBounds_toArray, List.set_cons_zero, List.set_cons_succ]
              refine lx_rd 20 (.bool true) (by kernel_rfl) (fun _ _ d _ _ h => by cases d <;> exact h) (by kernel_rfl) HS3 rfl rfl rfl (fun w' hS => ?hE20) ?_
              case hE20 => first | (go_simp; rfl) | go_simp
              simp only [List.setIfInBounds_toArray, List.set_cons_zero, List.set_cons_succ]
              refine lx_nil (by kernel_rfl) ?_
              have hst : stepB P s ts = false := hstB.out
              have HF3 : Hid (LR = none) := by
                have := HF2.out
                rw [hst, if_neg (by decide)] at this
                show LR = none
                rw [hLR.out, ← this]; rfl
              clear HS3 hst
              go_wp2
              go_ret2
              exact ⟨by rw [HF3.out]; rfl, by rw [HB.out]; exact D3.out.bl⟩
          · have hE : ((en : Int) != 0) = true := by simp; omega
            have hst : stepB P s ts = false := by
              rw [hstB.out]
              have : (en == 0) = false := by rw [beq_eq_false_iff_ne]; exact hen
              rw [this]; rfl
            have HF3 : Hid (LR = none) := by
              have := HF2.out
              rw [hst, if_neg (by decide)] at this
              show LR = none
              rw [hLR.out, ← this]; rfl
            clear hst hstB HF2 hen t1
            refine lx_rd 8 (.bool true) (by kernel_rfl) (fun _ _ d _ _ h => by cases d <;> exact h) (by kernel_rfl) HS1 rfl rfl rfl (fun w' hS => ?hF8) ?_
            case hF8 => first | (go_simp; rfl) | go_simp
            simp only [List.setIfInBounds_toArray, List.set_cons_zero, List.set_cons_succ]
            refine lx_rd 9 (.bool true) (by kernel_rfl) (fun _ _ d _ _ h => by cases d <;> exact h) (by kernel_rfl) HS1 rfl rfl rfl (fun w' hS => ?hF9) ?_
            case hF9 => first | (go_simp; rfl) | go_simp
            simp only [List.setIfInBounds_toArray, List.set_cons_zero, List.set_cons_succ]
            clear hE
            refine lx_skip 10 (by kernel_rfl) (fun _ _ d _ _ h => by cases d <;> exact h) (by kernel_rfl) HS1 rfl rfl rfl ?_
            simp only [List.setIfInBounds_toArray, List.set_cons_zero, List.set_cons_succ]
            refine lx_skip 11 (by kernel_rfl) (fun _ _ d _ _ h => by cases d <;> exact h) (by kernel_rfl) HS1 rfl rfl rfl ?_
            simp only [List.setIfInBounds_toArray, List.set_cons_zero, List.set_cons_succ]
            refine lx_skip 12 (by kernel_rfl) (fun _ _ d _ _ h => by cases d <;> exact h) (by kernel_rfl) HS1 rfl rfl rfl ?_
            simp only [List.setIfInBounds_toArray, List.set_cons_zero, List.set_cons_succ]
            refine lx_skip 13 (by kernel_rfl) (fun _ _ d _ _ h => by cases d <;> exact h) (by kernel_rfl) HS1 rfl rfl rfl ?_
            simp only [List.setIfInBounds_toArray, List.set_cons_zero, List.set_cons_succ]
            refine lx_skip 14 (by kernel_rfl) (fun _ _ d _ _ h => by cases d <;> exact h) (by kernel_rfl) HS1 rfl rfl rfl ?_
            simp only [List.setIfInBounds_toArray, List.set_cons_zero, List.set_cons_succ]
            refine lx_skip 15 (by kernel_rfl) (fun _ _ d _ _ h => by cases d <;> exact h) (by kernel_rfl) HS1 rfl rfl rfl ?_
            simp only [List.setIfInBounds_toArray, List.set_cons_zero, List.set_cons_succ]
            refine lx_skip 16 (by kernel_rfl) (fun _ _ d _ _ h => by cases d <;> exact h) (by kernel_rfl) HS1 rfl rfl rfl ?_
            simp only [List.setIfInBounds_toArray, List.set_cons_zero, List.set_cons_succ]
            refine lx_skip 17 (by kernel_rfl) (fun _ _ d _ _ h => by cases d <;> exact h) (by kernel_rfl) HS1 rfl rfl rfl ?_
            simp only [List.setIfInBounds_toArray, List.set_cons_zero, List.set_cons_succ]
            refine lx_skip 18 (by kernel_rfl) (fun _ _ d _ _ h => by cases d <;> exact h) (by kernel_rfl) HS1 rfl rfl rfl ?_
            simp only [List.setIfInBounds_toArray, List.set_cons_zero, List.set_cons_succ]
            refine lx_skip 19 (by kernel_rfl) (fun _ _ d _ _ h => by cases d <;> exact h) (by kernel_rfl) HS1 rfl rfl rfl ?_
            simp only [List.setIfInBounds_toArray, List.set_cons_zero, List.set_cons_succ]
            refine lx_rd 20 (.bool true) (by kernel_rfl) (fun _ _ d _ _ h => by cases d <;> exact h) (by kernel_rfl) HS1 rfl rfl rfl (fun w' hS => ?hH20) ?_
            case hH20 => first | (go_simp; rfl) | go_simp
            simp only [List.setIfInBounds_toArray, List.set_cons_zero, List.set_cons_succ]
            refine lx_nil (by kernel_rfl) ?_
            clear HS1 HSS D0 y4
            go_wp2
            go_ret2
            exact ⟨by rw [HF3.out]; rfl, by rw [HB.out]; exact D1.out.1.bl⟩
        · have hcl : ¬ (j : Int) < (n2 : Int) := by omega
          obtain rfl : j = n2 := by omega
          have hRP : R = some P := by
            have := HF.out
            rw [List.drop_eq_nil_of_le (by rw [Hn.out.1]; exact Nat.le_refl _)] at this
            rw [← this]; rfl
          have hfin : Hid (LR = if (defaultR P us).1 = 0 then some (defaultR P us).2 else none) := by
            show LR = _
            rw [hLR.out, hRP]; rfl
          have u2 := sh2 HS.out.2
          have cD := st_default HS.out.1 us HA.out.2.2.1.u HN.out
          generalize defaultR P us = D at cD hfin
          obtain ⟨en, P1⟩ := D
          dsimp only at cD hfin
          clear hRP HF
          by_cases hen : en = 0
          · subst hen
            have hfin1 : Hid (LR = some P1) := by show LR = some P1; rw [hfin.out, if_pos rfl]
            clear hfin
            go_wp2_with (go_at_call 26; refine cD.mono ?_; clear cD; rintro e w9 ⟨rfl, D9⟩)
            go_ret2
            obtain ⟨F9, hL9, hF9⟩ := D9.out.1.ex
            refine ⟨?_, by rw [HB.out]; exact D9.out.1.bl⟩
            rw [hfin1.out]
            exact ⟨B + 1 + 1, F9, rfl, hL9, fun i hi => by rw [HB.out]; exact (hF9 i hi).1⟩
          · have hE : ((en : Int) != 0) = true := by simp; omega
            have hfin2 : Hid (LR = none) := by show LR = none; rw [hfin.out, if_neg hen]
            clear hfin hen
            go_wp2_with (go_at_call 26; refine cD.mono ?_; clear cD; rintro e w9 ⟨rfl, D9⟩)
            go_ret2
            exact ⟨by rw [hfin2.out]; rfl, by rw [HB.out]; exact D9.out.1.bl⟩
  · have f1 : ((n2 : Int) != (n : Int)) = true := by simp; omega
    have hno : loadR li ru us ns tss = none := load_no (fun h => hnn (by rw [← Hn.out.1, ← Hn.out.2]; exact h.2.1))
    have hLR : none = LR := hno.symm.trans HLR.out
    clear hno
    go_wp2
    go_ret2
    exact ⟨by rw [← hLR]; rfl, by rw [HB.out]; exact H1.out.1.bl⟩
theorem pvLoad_any (S : Value) (w : World) (li ru : Int) (us : By) (ns : List By) (tss : List (List By)) (h : ShR w S li ru us ns tss) (hS : Small us ns tss) (hU : Lib.Utf8Tabs 0 1 w) :
    Calls Tryz.prog 13 #[S] w fun e w' => Loaded w (loadR li ru us ns tss) e w' ∧ Below w.heap.size w w' := by
  obtain ⟨a, n, c, a2, n2, c2, rfl, hN, hT⟩ := h
  cases hb : (bnd li && bnd ru) with
  | false =>
    have hno : loadR li ru us ns tss = none := load_no (fun h => by rw [hb] at h; cases h.1)
    rw [hno]
    exact pvLoad_bad a n c a2 n2 c2 w li ru us hb
  | true =>
    simp only [Bool.and_eq_true] at hb
    exact pvLoad_ok a n c a2 n2 c2 w li ru us ns tss hN hT hS hU hb.1 hb.2
end Go.Proofs.YtiplalbicibahaaGreatDoor
