/- Opening a log: segments are removed; a segment is cut. -/
import Derived.Test.YtikkieaokfailaaGreatDoorLgK
namespace Go.Proofs.YtikkieaokfailaaGreatDoor
open Go.RowKit Go.Joins

set_option maxHeartbeats 2000000 in
theorem remSegs_any (w : World) (F : Nat → Prop) (lb d most : Nat) (v : Value) (c : Ch) (dn : Bool) (k : Dk) (c2 : Ch) (f : Nat) (h : LD w F lb d most v c dn k) (hP : Pf w F lb) (hg : c2.g < 18446744073709551616) (hc : c2.cnt ≤ 100000) (hst : k.steps + c2.cnt < 1000000) :
    Calls Tryz.prog 112 #[.pointer (some ⟨lb, 0, none⟩), .agg (chs c2), .int .i64 ((f + 1 : Nat) : Int)] w fun e w' => Gs (remAll (segs c2.g f (c2.cnt - f)) dn k).1 e ∧ Lp w F lb d most v c (remAll (segs c2.g f (c2.cnt - f)) dn k).2.1 (remAll (segs c2.g f (c2.cnt - f)) dn k).2.2 w' := by
  obtain ⟨R, HR⟩ : ∃ R, Hid (remAll (segs c2.g f (c2.cnt - f)) dn k = R) := ⟨_, rfl⟩
  rw [HR.out]
  obtain ⟨eR, dnR, kR⟩ := R
  dsimp only
  have hbe : Below w.heap.size w (w.alloc (.cells (chs c2) 117)) := (Below.refl _ _).alloc (Nat.le_refl _) _
  have hfil := alloc_at w (.cells (chs c2) 117)
  have hlt := h.D.lt
  have hlb := h.lt
  obtain ⟨N, HN⟩ : ∃ N, Hid (c2.cnt = N) := ⟨_, rfl⟩
  rw [HN.out] at hc hst
  obtain ⟨g, Hg⟩ : ∃ g, Hid (c2.g = g) := ⟨_, rfl⟩
  rw [Hg.out] at hg
  have hch : chs c2 = #[.int .u64 (g : Int), .int .i64 (N : Int), .int .i64 (c2.size : Int), .bool c2.loose] := by unfold chs; rw [Hg.out, HN.out]
  have hf1 : ((f + 1 : Nat) : Int) = (f : Int) + 1 := by omega
  have hbb : ¬ F w.heap.size := fun hf => by have := hlt _ hf; omega
  have hLA := h.below hbe
  have hPA := hP.below hbe
  rw [hch] at hfil hbe hLA hPA ⊢
  rw [hf1]
  have hR9 : Hid (remAll (segs g f (N - f)) dn k = (eR, dnR, kR)) := by
    have h9 := HR.out
    rw [Hg.out, HN.out] at h9
    exact h9
  clear HR hch
  go_enter Tryz.func112, Tryz.ntmps112
  go_upto_region 2 with fail
  obtain ⟨bb, hbb0⟩ : ∃ bb, w.heap.size = bb := ⟨_, rfl⟩
  rw [hbb0] at hfil hbb ⊢
  generalize w.alloc (.cells #[.int .u64 (g : Int), .int .i64 (N : Int), .int .i64 (c2.size : Int), .bool c2.loose] 117) = Z at *
  go_loopw [6] (fun s6 wr => ∃ (j : Nat) (F1 : Nat → Prop) (dn1 : Bool) (k1 : Dk), s6 = .int .i64 (((f + j : Nat) : Int) + 1) ∧ (f + j ≤ N ∨ j = 0) ∧ k1.steps + (N - (f + j)) < 1000000 ∧ Hid (LD wr F1 lb d most v c dn1 k1) ∧ Hid (Pf wr F1 lb) ∧ Hid (Keep (fun i => F i ∨ i = lb) w wr) ∧ Hid (∀ i, F1 i → F i ∨ w.heap.size ≤ i) ∧ Hid (¬ F1 bb) ∧ Hid (wr.heap[bb]? = some (.cells #[.int .u64 (g : Int), .int .i64 (N : Int), .int .i64 (c2.size : Int), .bool c2.loose] 117 (0, 0))) ∧ Hid (remAll (segs g (f + j) (N - (f + j))) dn1 k1 = (eR, dnR, kR))) (fun s6 _ => N + 1 - (intOf s6).toNat)
  case atStart => exact ⟨0, F, dn, k, rfl, Or.inr rfl, by omega, hLA, hPA, Keep.ofBelow hbe, fun i hi => Or.inl hi, hbb, hfil, hR9.out⟩
  case round =>
    clear hLA hPA hbe hfil hbb hR9
    obtain ⟨j, F1, dn1, k1, rfl, hjN, hs1, HL, HP, HK, HF, HB, HX, HQ⟩ := hrel
    have qc : wr.cell? ⟨bb, 1, none⟩ = some (.int .i64 (N : Int)) := by rw [cell_of_block HX.out]; rfl
    have qg : wr.cell? ⟨bb, 0, none⟩ = some (.int .u64 (g : Int)) := by rw [cell_of_block HX.out]; rfl
    obtain ⟨J, HJ⟩ : ∃ J, Hid (f + j = J) := ⟨_, rfl⟩
    rw [HJ.out] at hjN hs1 HQ ⊢
    have hbw : w.heap.size = bb := hbb0
    by_cases hle : J + 1 ≤ N
    · have hz : (J : Int) + 1 ≤ (N : Int) := by omega
      have hsg := segment_any bb 0 g (J + 1) hg (by omega) wr HP.out.pw qg
      have hJ1 : ((J + 1 : Nat) : Int) = (J : Int) + 1 := by omega
      rw [hJ1] at hsg
      obtain ⟨s, Hs⟩ : ∃ s, Hid (segN g (J + 1) = s) := ⟨_, rfl⟩
      rw [Hs.out] at hsg
      have HQn : Hid (remAll (s :: segs g (J + 1) (N - (J + 1))) dn1 k1 = (eR, dnR, kR)) := by
        have h9 := HQ.out
        have e : N - J = (N - (J + 1)) + 1 := by omega
        rw [e, segs_cons, Hs.out] at h9
        exact h9
      have hstp := stpR_gr dn1 k1 s
      have hrm := fun w' (hb : Below wr.heap.size wr w') => sremove_any lb d most F1 v _ dn1 k1 s (by omega) w' (HL.out.below hb)
      obtain ⟨P, HP2⟩ : ∃ P, Hid (stp dn1 k1 (removeK k1 s) = P) := ⟨_, rfl⟩
      simp only [HP2.out] at hrm
      rw [HP2.out] at hstp
      obtain ⟨en, dn2, k2⟩ := P
      dsimp only at hrm hstp
      clear HQ
      by_cases h0 : en = 0
      · subst h0
        have HQ2 : Hid (remAll (segs g (J + 1) (N - (J + 1))) dn2 k2 = (eR, dnR, kR)) := by
          show _ = _
          rw [← remAll_ok HP2.out]
          exact HQn.out
        clear HQn
        go_wp2_with (first
          | (go_at_call 103; refine hsg.mono ?_; rintro e w5 ⟨rfl, hb5⟩)
          | (go_at_call 134; refine ((hrm w5 hb5).mono (fun e w' h => And.intro (h.1.elim (fun k => k.2) (fun k => absurd rfl k.1)) h.2 : ∀ e w', _ → (e = .returned (.tuple #[]) ∧ _))).mono ?_; rintro e w6 ⟨rfl, hp⟩))
        obtain ⟨F2, hL2, hk2, hF2⟩ := hp.from hb5
        have hsw := HK.out.size
        have hbr : bb < wr.heap.size := (Array.getElem?_eq_some_iff.1 HX.out).1
        have hkall : Keep (fun j => F j ∨ j = lb) w w6 := HK.out.andThen hk2 (fun q hq hs => by
          rcases hs with hs | hs
          · rcases HF.out q hs with h9 | h9
            · exact Or.inl h9
            · omega
          · exact Or.inr hs)
        have hnb : ¬ (F1 bb ∨ bb = lb) := fun h9 => h9.elim HB.out (fun e => by omega)
        refine ⟨⟨j + 1, F2, dn2, k2, ?_, Or.inl ?_, ?_, hL2, HP.out.next hk2 hF2, hkall, fun q hq => (hF2 q hq).elim (HF.out q) (fun h9 => Or.inr (Nat.le_trans hsw h9)), fun hq => (hF2 bb hq).elim HB.out (fun h9 => by omega), box_keep HX.out hk2 hnb, ?_⟩, ?_⟩
        · have e : ((f + (j + 1) : Nat) : Int) = (J : Int) + 1 := by have := HJ.out; omega
          rw [e]
        · have := HJ.out; omega
        · have := HJ.out; omega
        · show remAll (segs g (f + (j + 1)) (N - (f + (j + 1)))) dn2 k2 = _
          have e : f + (j + 1) = J + 1 := by have := HJ.out; omega
          rw [e]
          exact HQ2.out
        · simp [intOf]; omega
      · have hres := HQn.out.symm.trans (remAll_no HP2.out h0)
        simp only [Prod.mk.injEq] at hres
        obtain ⟨e1, e2, e3⟩ := hres
        subst eR dnR kR
        clear HQn
        go_wp2_with (first
          | (go_at_call 103; refine hsg.mono ?_; rintro e w5 ⟨rfl, hb5⟩)
          | (go_at_call 134; refine ((hrm w5 hb5).mono (fun e w' h => And.intro (h.1.elim (fun k => absurd k.1 h0) (fun k => k.2)) h.2 : ∀ e w', _ → (e = .panicked (gaveS en) ∧ _))).mono ?_; rintro e w6 ⟨rfl, hp⟩))
        exact ⟨rfl, gs_no h0 rfl, Lp.next HK.out HF.out (hp.from hb5)⟩
    · have hz : ¬ (J : Int) + 1 ≤ (N : Int) := by omega
      have hQ := HQ.out
      rw [show N - J = 0 from by omega] at hQ
      have hQ2 : (0, dn1, k1) = (eR, dnR, kR) := hQ
      simp only [Prod.mk.injEq] at hQ2
      obtain ⟨e1, e2, e3⟩ := hQ2
      subst eR dnR kR
      clear hQ HQ
      go_wp2
      go_end0
      exact ⟨Or.inl ⟨rfl, rfl⟩, F1, HL.out, HK.out, HF.out⟩

set_option maxHeartbeats 1000000 in
/-- The closure that cuts a segment at the log's size. -/
theorem cutC_any (bl bn lb d most : Nat) (F : Nat → Prop) (v : Value) (c : Ch) (dn : Bool) (k : Dk) (s : Nm) (hst : k.steps < 1000000) (hfl : k.fs.length < 1000000) (W : World) (h : LD W F lb d most v c dn k) (hbl : W.heap[bl]? = some (.cells #[.pointer (some ⟨lb, 0, none⟩)] 48 (0, 0))) (hbn : W.heap[bn]? = some (.cells #[.string s] 9 (0, 0))) (nbl : ¬ F bl) (nbn : ¬ F bn) :
    Calls Tryz.prog 155 #[.pointer (some ⟨bl, 0, none⟩), .pointer (some ⟨bn, 0, none⟩)] W fun e w' => e = .returned (.int .i64 (cutK k s (c.size : Int)).1) ∧ Dp W F d (cutK k s (c.size : Int)).2 w' := by
  have HS0 : W.drew.cell? ⟨bl, 0, none⟩ = some (.pointer (some ⟨lb, 0, none⟩)) ∧ W.drew.cell? ⟨bn, 0, none⟩ = some (.string s) ∧ W.drew.cell? ⟨lb, 0, none⟩ = some (.pointer (some ⟨d, 0, none⟩)) ∧ W.drew.cell? ⟨lb, 5, none⟩ = some (.int .i64 (c.size : Int)) := ⟨box_cell hbl, box_cell hbn, h.c0, h.c5⟩
  have hD := fun w' (hb : Below W.heap.size W w') => cut_any d F k s (c.size : Int) hst hfl w' (h.D.below hb)
  obtain ⟨P, hP⟩ : ∃ P, cutK k s (c.size : Int) = P := ⟨_, rfl⟩
  rw [hP] at hD ⊢
  clear hP
  have nlb := h.nf
  go_enter Tryz.func155, Tryz.ntmps155
  go_upto_region 1 with fail
  refine wp_region_lx (fun w' => w'.cell? ⟨bl, 0, none⟩ = some (.pointer (some ⟨lb, 0, none⟩)) ∧ w'.cell? ⟨bn, 0, none⟩ = some (.string s) ∧ w'.cell? ⟨lb, 0, none⟩ = some (.pointer (some ⟨d, 0, none⟩)) ∧ w'.cell? ⟨lb, 5, none⟩ = some (.int .i64 (c.size : Int))) [] 12 (by kernel_rfl) (by kernel_rfl) ?_
  refine lx_rd 0 (.pointer (some ⟨lb, 0, none⟩)) (by kernel_rfl) (fun _ _ d _ _ h => by cases d <;> exact h) (by kernel_rfl) HS0 rfl rfl rfl (fun w' hS => ?ha0) ?_
  case ha0 => have q := hS.1; first | (go_simp; rfl) | go_simp
  simp only [List.setIfInBounds_toArray, List.set_cons_zero, List.set_cons_succ]
  refine lx_rd 1 (.pointer (some ⟨lb, 0, none⟩)) (by kernel_rfl) (fun _ _ d _ _ h => by cases d <;> exact h) (by kernel_rfl) HS0 rfl rfl rfl (fun w' hS => ?ha1) ?_
  case ha1 => first | (go_simp; rfl) | go_simp
  simp only [List.setIfInBounds_toArray, List.set_cons_zero, List.set_cons_succ]
  refine lx_rd 2 (.pointer (some ⟨lb, 0, none⟩)) (by kernel_rfl) (fun _ _ d _ _ h => by cases d <;> exact h) (by kernel_rfl) HS0 rfl rfl rfl (fun w' hS => ?ha2) ?_
  case ha2 => first | (go_simp; rfl) | go_simp
  simp only [List.setIfInBounds_toArray, List.set_cons_zero, List.set_cons_succ]
  refine lx_rd 3 (.pointer (some ⟨d, 0, none⟩)) (by kernel_rfl) (fun _ _ d _ _ h => by cases d <;> exact h) (by kernel_rfl) HS0 rfl rfl rfl (fun w' hS => ?ha3) ?_
  case ha3 => have q := hS.2.2.1; first | (go_simp; rfl) | go_simp
  simp only [List.setIfInBounds_toArray, List.set_cons_zero, List.set_cons_succ]
  refine lx_rd 4 (.string s) (by kernel_rfl) (fun _ _ d _ _ h => by cases d <;> exact h) (by kernel_rfl) HS0 rfl rfl rfl (fun w' hS => ?ha4) ?_
  case ha4 => have q := hS.2.1; first | (go_simp; rfl) | go_simp
  simp only [List.setIfInBounds_toArray, List.set_cons_zero, List.set_cons_succ]
  refine lx_rd 5 (.pointer (some ⟨lb, 0, none⟩)) (by kernel_rfl) (fun _ _ d _ _ h => by cases d <;> exact h) (by kernel_rfl) HS0 rfl rfl rfl (fun w' hS => ?ha5) ?_
  case ha5 => have q := hS.1; first | (go_simp; rfl) | go_simp
  simp only [List.setIfInBounds_toArray, List.set_cons_zero, List.set_cons_succ]
  refine lx_rd 6 (.pointer (some ⟨lb, 0, none⟩)) (by kernel_rfl) (fun _ _ d _ _ h => by cases d <;> exact h) (by kernel_rfl) HS0 rfl rfl rfl (fun w' hS => ?ha6) ?_
  case ha6 => first | (go_simp; rfl) | go_simp
  simp only [List.setIfInBounds_toArray, List.set_cons_zero, List.set_cons_succ]
  refine lx_rd 7 (.pointer (some ⟨lb, 3, none⟩)) (by kernel_rfl) (fun _ _ d _ _ h => by cases d <;> exact h) (by kernel_rfl) HS0 rfl rfl rfl (fun w' hS => ?ha7) ?_
  case ha7 => first | (go_simp; rfl) | go_simp
  simp only [List.setIfInBounds_toArray, List.set_cons_zero, List.set_cons_succ]
  refine lx_rd 8 (.pointer (some ⟨lb, 5, none⟩)) (by kernel_rfl) (fun _ _ d _ _ h => by cases d <;> exact h) (by kernel_rfl) HS0 rfl rfl rfl (fun w' hS => ?ha8) ?_
  case ha8 => first | (go_simp; rfl) | go_simp
  simp only [List.setIfInBounds_toArray, List.set_cons_zero, List.set_cons_succ]
  refine lx_rd 9 (.int .i64 (c.size : Int)) (by kernel_rfl) (fun _ _ d _ _ h => by cases d <;> exact h) (by kernel_rfl) HS0 rfl rfl rfl (fun w' hS => ?ha9) ?_
  case ha9 => have q := hS.2.2.2; first | (go_simp; rfl) | go_simp
  simp only [List.setIfInBounds_toArray, List.set_cons_zero, List.set_cons_succ]
  refine lx_one 10 (by kernel_rfl) (stepT_call 156 ?a9 rfl rfl rfl ?r9 ?_)
  case r9 => first | (go_simp; rfl) | go_simp
  refine (hD W.drew ((Below.refl _ _).drew)).mono ?_
  rintro e w1 ⟨rfl, hdp⟩
  have HS1 : w1.cell? ⟨bl, 0, none⟩ = some (.pointer (some ⟨lb, 0, none⟩)) ∧ w1.cell? ⟨bn, 0, none⟩ = some (.string s) ∧ w1.cell? ⟨lb, 0, none⟩ = some (.pointer (some ⟨d, 0, none⟩)) ∧ w1.cell? ⟨lb, 5, none⟩ = some (.int .i64 (c.size : Int)) := by
    obtain ⟨_, _, hk, _⟩ := hdp
    exact ⟨hk.cell (p := ⟨bl, 0, none⟩) HS0.1 nbl, hk.cell (p := ⟨bn, 0, none⟩) HS0.2.1 nbn, hk.cell (p := ⟨lb, 0, none⟩) HS0.2.2.1 nlb, hk.cell (p := ⟨lb, 5, none⟩) HS0.2.2.2 nlb⟩
  refine ⟨_, rfl, fun _ => HS1, ?_⟩
  simp only [List.setIfInBounds_toArray, List.set_cons_zero, List.set_cons_succ]
  refine lx_rd 11 ?vb11 (by kernel_rfl) (fun _ _ d _ _ h => by cases d <;> exact h) (by kernel_rfl) HS1 rfl rfl rfl (fun w' hS => ?hb11) ?_
  case hb11 => first | (go_simp; rfl) | go_simp
  simp only [List.setIfInBounds_toArray, List.set_cons_zero, List.set_cons_succ]
  refine lx_nil (by kernel_rfl) ?_
  go_wp2
  go_ret
  exact ⟨rfl, dp_drew hdp⟩

end Go.Proofs.YtikkieaokfailaaGreatDoor
