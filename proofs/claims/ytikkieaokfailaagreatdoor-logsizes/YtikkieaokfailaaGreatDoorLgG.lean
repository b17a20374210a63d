/- seglog's Append, Commit, Len, At. -/
import Derived.Test.YtikkieaokfailaaGreatDoorLgF
namespace Go.Proofs.YtikkieaokfailaaGreatDoor
open Go.RowKit Go.Joins

def appendL (l : Lg) (k : Dk) (xs : List Int) : Nat × Lg × Dk :=
  ((layL l.most l.ch (formL xs) l.dn k).1, ⟨l.most, (if (layL l.most l.ch (formL xs) l.dn k).1 = 0 then l.recs ++ [xs] else l.recs), (layL l.most l.ch (formL xs) l.dn k).2.1, (layL l.most l.ch (formL xs) l.dn k).2.2.1⟩, (layL l.most l.ch (formL xs) l.dn k).2.2.2)
/-- What a log's numbers keep to. -/
structure Lg.Ok (l : Lg) : Prop where
  g : l.ch.g < 18446744073709551616
  cnt : l.ch.cnt ≤ 1000000000000
  size : l.ch.size ≤ 1000000000000
  most : l.most ≤ 1000000000000
  recs : l.recs.length ≤ 1000000

set_option maxHeartbeats 4000000 in
set_option maxRecDepth 100000 in
theorem appendC_any (W : World) (F H : Nat → Prop) (lb d bl br : Nat) (l : Lg) (k : Dk) (h : LogAt W F H lb d l k) (ok : l.Ok) (hst : k.steps < 999999) (hfl : k.fs.length < 999999)
    (a : Option Addr) (n c : Nat) (xs : List Int) (hR : Rd W a n c xs) (hn : n ≤ 1048576) (hRF : ∀ ad, a = some ad → ¬ F ad.block ∧ ad.block ≠ lb)
    (hbl : W.heap[bl]? = some (.cells #[.pointer (some ⟨lb, 0, none⟩)] 48 (0, 0))) (hbr : W.heap[br]? = some (.cells #[.slice a n c] 29 (0, 0))) (nbl : ¬ F bl) (nbr : ¬ F br) (nhl : ¬ H bl) (nhr : ¬ H br) :
    Calls Tryz.prog 64 #[.pointer (some ⟨bl, 0, none⟩), .pointer (some ⟨br, 0, none⟩)] W fun e w' => Gs (appendL l k xs).1 e ∧ Lgp W F H lb d (appendL l k xs).2.1 (appendL l k xs).2.2 w' := by
  obtain ⟨v, hLD, hRc⟩ := h.ex
  have hbb : bl ≠ lb := fun e => by rw [e, hLD.blk] at hbl; cases hbl
  have hbb2 : br ≠ lb := fun e => by rw [e, hLD.blk] at hbr; cases hbr
  have hla := fun w' (hb : Below W.heap.size W w') => lay_any w' F lb d l.most v l.dn k lb 3 l.ch l.ch ⟨by rw [if_pos rfl]; exact hLD.below hb, fun _ => rfl, fun e => absurd rfl e⟩ (h.pf.below hb) h.pf.ll ok.g ok.cnt ok.size ok.most hst hfl a n c xs (hR.carry (Nat.le_refl _) hb) hn
  obtain ⟨R, HR⟩ : ∃ R, Hid (layL l.most l.ch (formL xs) l.dn k = R) := ⟨_, rfl⟩
  have hE : appendL l k xs = (R.1, ⟨l.most, (if R.1 = 0 then l.recs ++ [xs] else l.recs), R.2.1, R.2.2.1⟩, R.2.2.2) := by unfold appendL; rw [HR.out]
  rw [hE]
  simp only [HR.out] at hla
  obtain ⟨en, c', dn', k'⟩ := R
  dsimp only at hla ⊢
  clear hE
  have hbX : Below W.heap.size W W.drew := (Below.refl _ _).drew
  have HS0 : W.drew.cell? ⟨bl, 0, none⟩ = some (.pointer (some ⟨lb, 0, none⟩)) ∧ W.drew.cell? ⟨br, 0, none⟩ = some (.slice a n c) := ⟨box_cell hbl, box_cell hbr⟩
  have hfin : ∀ w1, Lcp W.drew F lb d l.most v dn' k' lb 3 l.ch c' w1 → _ := fun w1 hp => (h.below hbX).own (hRc.keep (S := fun _ => False) (Keep.ofBelow hbX) (fun _ _ h => h) (fun _ h => h)) (c' := c') (v := v) (dn' := dn') (k' := k') (w' := w1) (by
    obtain ⟨F', k1, k2, k3⟩ := hp
    exact ⟨F', ⟨by have := k1.L; rw [if_pos rfl] at this ⊢; exact this, fun _ => rfl, fun e => absurd rfl e⟩, k2, k3⟩)
  by_cases h0 : en = 0
  · subst h0
    rw [if_pos rfl]
    go_enter Tryz.func64, Tryz.ntmps64
    go_upto_region 0 with fail
    refine wp_region_lx (fun w' => w'.cell? ⟨bl, 0, none⟩ = some (.pointer (some ⟨lb, 0, none⟩)) ∧ w'.cell? ⟨br, 0, none⟩ = some (.slice a n c)) [] 6 (by kernel_rfl) (by kernel_rfl) ?_
    refine lx_rd 0 (.pointer (some ⟨lb, 0, none⟩)) (by kernel_rfl) (fun _ _ d _ _ h => by cases d <;> exact h) (by kernel_rfl) HS0 rfl rfl rfl (fun w' hS => ?ha0) ?_
    case ha0 => have q := hS.1; first | (go_simp; rfl) | go_simp
    simp only [List.setIfInBounds_toArray, List.set_cons_zero, List.set_cons_succ]
    refine lx_rd 1 (.pointer (some ⟨lb, 0, none⟩)) (by kernel_rfl) (fun _ _ d _ _ h => by cases d <;> exact h) (by kernel_rfl) HS0 rfl rfl rfl (fun w' hS => ?ha1) ?_
    case ha1 => have q := hS.1; first | (go_simp; rfl) | go_simp
    simp only [List.setIfInBounds_toArray, List.set_cons_zero, List.set_cons_succ]
    refine lx_rd 2 (.pointer (some ⟨lb, 0, none⟩)) (by kernel_rfl) (fun _ _ d _ _ h => by cases d <;> exact h) (by kernel_rfl) HS0 rfl rfl rfl (fun w' hS => ?ha2) ?_
    case ha2 => first | (go_simp; rfl) | go_simp
    simp only [List.setIfInBounds_toArray, List.set_cons_zero, List.set_cons_succ]
    refine lx_rd 3 (.pointer (some ⟨lb, 3, none⟩)) (by kernel_rfl) (fun _ _ d _ _ h => by cases d <;> exact h) (by kernel_rfl) HS0 rfl rfl rfl (fun w' hS => ?ha3) ?_
    case ha3 => first | (go_simp; rfl) | go_simp
    simp only [List.setIfInBounds_toArray, List.set_cons_zero, List.set_cons_succ]
    refine lx_rd 4 (.slice a n c) (by kernel_rfl) (fun _ _ d _ _ h => by cases d <;> exact h) (by kernel_rfl) HS0 rfl rfl rfl (fun w' hS => ?ha4) ?_
    case ha4 => have q := hS.2; first | (go_simp; rfl) | go_simp
    simp only [List.setIfInBounds_toArray, List.set_cons_zero, List.set_cons_succ]
    refine lx_one 5 (by kernel_rfl) (stepT_call 65 ?a5 rfl rfl rfl ?r5 ?_)
    case r5 => first | (go_simp; rfl) | go_simp
    refine ((hla W.drew hbX).mono (fun e w' h => And.intro (h.1.elim (fun k => k.2) (fun k => absurd rfl k.1)) h.2 : ∀ e w', _ → (e = .returned (.tuple #[]) ∧ _))).mono ?_
    rintro e w1 ⟨rfl, hp⟩
    have hkR : Keep (fun i => F i ∨ i = lb) W w1 := by
      obtain ⟨_, _, k2, _⟩ := hp
      exact (Keep.ofBelow hbX).trans (k2.mono (fun i hi => hi.elim Or.inl (fun h => Or.inr (h.elim id id))))
    obtain ⟨F1, hL1, hR1, hk1, hF1, hHF1, hP1, hlt1⟩ := hfin w1 hp
    have nb1 : ∀ x, x ≠ lb → ¬ F x → ¬ H x → ¬ (F x ∨ H x ∨ x = lb) := fun x h1 h2 h3 h4 => h4.elim h2 (fun h5 => h5.elim h3 h1)
    have HS1 : w1.cell? ⟨bl, 0, none⟩ = some (.pointer (some ⟨lb, 0, none⟩)) ∧ w1.cell? ⟨br, 0, none⟩ = some (.slice a n c) := ⟨hk1.cell (p := ⟨bl, 0, none⟩) HS0.1 (nb1 bl hbb nbl nhl), hk1.cell (p := ⟨br, 0, none⟩) HS0.2 (nb1 br hbb2 nbr nhr)⟩
    refine ⟨_, rfl, fun _ => HS1, ?_⟩
    simp only [List.setIfInBounds_toArray, List.set_cons_zero, List.set_cons_succ]
    refine lx_nil (by kernel_rfl) ?_
    have kp1 : Keep (fun i => F i ∨ H i ∨ i = lb) W w1 := (Keep.ofBelow hbX).trans hk1
    have hR9 : Rd w1 a n c xs := hR.keep (S := fun i => F i ∨ i = lb) hkR (fun ad had hs => hs.elim (hRF ad had).1 (hRF ad had).2)
    clear hla hp hk1 HS0
    go_upto_region 1 with fail
    refine wp_region_lx (fun w' => w'.cell? ⟨bl, 0, none⟩ = some (.pointer (some ⟨lb, 0, none⟩)) ∧ w'.cell? ⟨br, 0, none⟩ = some (.slice a n c) ∧ w'.cell? ⟨lb, 2, none⟩ = some v) [11] 12 (by kernel_rfl) (by kernel_rfl) ?_
    have hbD : Below w1.heap.size w1 w1.drew := (Below.refl _ _).drew
    have hL2 := hL1.below hbD
    have hR2 := hR1.keep (S := fun _ => False) (H' := H) (Keep.ofBelow hbD) (fun _ _ h => h) (fun _ h => h)
    have hP2 := hP1.below hbD
    have hX2 : W.heap.size ≤ w1.drew.heap.size := kp1.size
    have kp2 : Keep (fun i => F i ∨ H i ∨ i = lb) W w1.drew := kp1.drew
    have hR10 := hR9.carry (Nat.le_refl _) hbD
    have HS2 : w1.drew.cell? ⟨bl, 0, none⟩ = some (.pointer (some ⟨lb, 0, none⟩)) ∧ w1.drew.cell? ⟨br, 0, none⟩ = some (.slice a n c) ∧ w1.drew.cell? ⟨lb, 2, none⟩ = some v := ⟨HS1.1, HS1.2, hL2.c2⟩
    have hlt2 : ∀ i, H i → i < w1.drew.heap.size := hlt1
    have hF2 : ∀ i, F1 i → F i ∨ W.heap.size ≤ i := hF1
    clear hL1 hR1 hP1 hR9 HS1 kp1 hlt1 hF1 hbD
    generalize w1.drew = X at *
    refine lx_rd 0 (.pointer (some ⟨lb, 0, none⟩)) (by kernel_rfl) (fun _ _ d _ _ h => by cases d <;> exact h) (by kernel_rfl) HS2 rfl rfl rfl (fun w' hS => ?hc0) ?_
    case hc0 => have q := hS.1; first | (go_simp; rfl) | go_simp
    simp only [List.setIfInBounds_toArray, List.set_cons_zero, List.set_cons_succ]
    refine lx_rd 1 (.pointer (some ⟨lb, 0, none⟩)) (by kernel_rfl) (fun _ _ d _ _ h => by cases d <;> exact h) (by kernel_rfl) HS2 rfl rfl rfl (fun w' hS => ?hc1) ?_
    case hc1 => have q := hS.1; first | (go_simp; rfl) | go_simp
    simp only [List.setIfInBounds_toArray, List.set_cons_zero, List.set_cons_succ]
    refine lx_rd 2 (.pointer (some ⟨lb, 0, none⟩)) (by kernel_rfl) (fun _ _ d _ _ h => by cases d <;> exact h) (by kernel_rfl) HS2 rfl rfl rfl (fun w' hS => ?hc2) ?_
    case hc2 => first | (go_simp; rfl) | go_simp
    simp only [List.setIfInBounds_toArray, List.set_cons_zero, List.set_cons_succ]
    refine lx_rd 3 (.pointer (some ⟨lb, 2, none⟩)) (by kernel_rfl) (fun _ _ d _ _ h => by cases d <;> exact h) (by kernel_rfl) HS2 rfl rfl rfl (fun w' hS => ?hc3) ?_
    case hc3 => first | (go_simp; rfl) | go_simp
    simp only [List.setIfInBounds_toArray, List.set_cons_zero, List.set_cons_succ]
    refine lx_rd 4 v (by kernel_rfl) (fun _ _ d _ _ h => by cases d <;> exact h) (by kernel_rfl) HS2 rfl rfl rfl (fun w' hS => ?hc4) ?_
    case hc4 => have q := hS.2.2; first | (go_simp; rfl) | go_simp
    simp only [List.setIfInBounds_toArray, List.set_cons_zero, List.set_cons_succ]
    refine lx_rd 5 (.slice a n c) (by kernel_rfl) (fun _ _ d _ _ h => by cases d <;> exact h) (by kernel_rfl) HS2 rfl rfl rfl (fun w' hS => ?hc5) ?_
    case hc5 => have q := hS.2.1; first | (go_simp; rfl) | go_simp
    simp only [List.setIfInBounds_toArray, List.set_cons_zero, List.set_cons_succ]
    refine lx_one 6 (by kernel_rfl) (stepT_call 66 ?a6 rfl rfl rfl ?r6 ?_)
    case r6 => first | (go_simp; rfl) | go_simp
    refine (bcloneO a n c xs X hR10 (by omega)).mono ?_
    rintro e w3 ⟨u, rfl, ou, hb3⟩
    obtain ⟨au, cu, rfl, _⟩ := Rd.ofOwn ou hR10.bytes
    have t3 : ∀ p x, X.cell? p = some x → w3.cell? p = some x := fun p x hx => (hb3.cell (World.block_lt_of_cell? _ _ hx)).trans hx
    have HS3 := And.intro (t3 _ _ HS2.1) (And.intro (t3 _ _ HS2.2.1) (t3 _ _ HS2.2.2))
    refine ⟨_, rfl, fun _ => HS3, ?_⟩
    simp only [List.setIfInBounds_toArray, List.set_cons_zero, List.set_cons_succ]
    have t4 : ∀ p x, w3.cell? p = some x → (w3.alloc (.cells #[.slice au n cu] 29)).cell? p = some x := fun p x hx => ((Keep.refl (fun _ => False) w3).alloc _).cell hx (fun h => h)
    refine lx_one 7 (by kernel_rfl) (stepT_val (w' := w3.alloc (.cells #[.slice au n cu] 29)) (.slice (some ⟨w3.heap.size, 0, none⟩) 1 1) rfl rfl rfl ?r7 (fun _ => And.intro (t4 _ _ HS3.1) (And.intro (t4 _ _ HS3.2.1) (t4 _ _ HS3.2.2))) ?_)
    case r7 => first | (go_simp; rfl) | go_simp
    simp only [List.setIfInBounds_toArray, List.set_cons_zero, List.set_cons_succ]
    have hL3 := hL2.below hb3
    have hR3 := hR2.keep (S := fun _ => False) (H' := H) (Keep.ofBelow hb3) (fun _ _ h => h) (fun _ h => h)
    have hP3 := hP2.below hb3
    obtain ⟨⟨vs, ov, hvs⟩, hvo⟩ := hR3
    obtain ⟨v', w4, hrun4, ov4, hk4, hwh4⟩ := run_appW 30 ov au n cu ok.recs (Nat.zero_le _)
    obtain ⟨av, cv, rfl⟩ := own_sl ov4
    have nlb : ¬ v.ownBlock = some lb := fun hv => h.hl (hvo lb hv)
    have nv1 : ¬ v.ownBlock = some bl := fun hv => nhl (hvo bl hv)
    have nv2 : ¬ v.ownBlock = some br := fun hv => nhr (hvo br hv)
    have HS4 := And.intro (hk4.cell (p := ⟨bl, 0, none⟩) HS3.1 nv1) (And.intro (hk4.cell (p := ⟨br, 0, none⟩) HS3.2.1 nv2) (hk4.cell (p := ⟨lb, 2, none⟩) HS3.2.2 nlb))
    refine lx_one 8 (by kernel_rfl) (stepT_val (w' := w4) (.slice av (l.recs.length + 1) cv) rfl rfl rfl (exec_appW rfl rfl rfl hrun4) (fun _ => HS4) ?_)
    simp only [List.setIfInBounds_toArray, List.set_cons_zero, List.set_cons_succ]
    refine lx_one 9 (by kernel_rfl) (stepT_val (w' := w4) (.pointer (some ⟨lb, 0, none⟩)) rfl rfl rfl ?r9d (fun _ => HS4) ?_)
    case r9d => first | (go_simp; rfl) | go_simp
    simp only [List.setIfInBounds_toArray, List.set_cons_zero, List.set_cons_succ]
    refine lx_one 10 (by kernel_rfl) (stepT_val (w' := w4) (.pointer (some ⟨lb, 2, none⟩)) rfl rfl rfl ?r10d (fun _ => HS4) ?_)
    case r10d => first | (go_simp; rfl) | go_simp
    simp only [List.setIfInBounds_toArray, List.set_cons_zero, List.set_cons_succ]
    have hL4 : LD w4 F1 lb d l.most v c' dn' k' := hL3.keep hk4 (fun i hi hv => hHF1 i (hvo i hv) hi) nlb
    have p4 := hL4.c2
    have z4 := hL4.fz 2
    refine lx_one 11 (by kernel_rfl) (stepT_store (w' := w4.setCell ⟨lb, 2, none⟩ (.slice av (l.recs.length + 1) cv)) rfl rfl rfl ?r11 (fun h => by cases h) ?_)
    case r11 => first | (go_simp; rfl) | go_simp
    refine lx_nil (by kernel_rfl) ?_
    have hL5 : LD (w4.setCell ⟨lb, 2, none⟩ (.slice av (l.recs.length + 1) cv)) F1 lb d l.most (.slice av (l.recs.length + 1) cv) c' dn' k' := hL4.set 2 _ rfl
    have hsz3 := hb3.size
    have hsz4 := hk4.size
    obtain ⟨H9, hH9⟩ : ∃ H9 : Nat → Prop, H9 = (fun i => H i ∨ (X.heap.size ≤ i ∧ i < w4.heap.size)) := ⟨_, rfl⟩
    have hHin : ∀ i, H i → H9 i := fun i hi => by rw [hH9]; exact Or.inl hi
    have hHout : ∀ i, H9 i → H i ∨ (X.heap.size ≤ i ∧ i < w4.heap.size) := fun i hi => by rw [hH9] at hi; exact hi
    have hu0 := own_weak ou (Nat.zero_le _)
    have hxl := hR.len
    have hRA : RcA w4 H9 (.slice av (l.recs.length + 1) cv) (l.recs ++ [xs]) := by
      refine RcA.app (vs := vs) (u := .slice au n cu) ov (fun i r hr => ?_) ov4 hk4 (by rw [hxl]; exact hu0) (fun g hg => ?_) hR.bytes (fun g hg => ?_)
      · obtain ⟨u2, m1, m2, m3, m4⟩ := hvs i r hr
        exact ⟨u2, m1, m2, fun g hg => hHin g (m3 g hg), m4⟩
      · rw [hH9]
        have := ou.lt g hg
        exact Or.inr ⟨this.1, by omega⟩
      · rcases hwh4 with h9 | ⟨g9, h9, h10⟩
        · exact hHin g (hvo g (by rw [← h9]; exact hg))
        · rw [h9] at hg
          injection hg with hg
          subst hg
          rw [hH9]
          refine Or.inr ⟨by omega, ?_⟩
          obtain ⟨cur, e⟩ := own_blkT ov4 h9
          exact (Array.getElem?_eq_some_iff.1 e).1
    have hkS : Keep (fun i => i = lb) w4 (w4.setCell ⟨lb, 2, none⟩ (.slice av (l.recs.length + 1) cv)) := (Keep.refl (fun i => i = lb) w4).setCell (p := ⟨lb, 2, none⟩) rfl _
    have hlbX : lb < X.heap.size := hL2.lt
    have hFX := hL2.D.lt
    have hHlb : ¬ H9 lb := fun hh => (hHout lb hh).elim h.hl (fun h9 => by omega)
    have hRA5 := hRA.keep (H' := H9) hkS (fun i hi e => hHlb (by rw [← e]; exact hi)) (fun _ h => h)
    have hk34 : Keep (fun i => F i ∨ H i ∨ i = lb) X w4 := (Keep.ofBelow hb3).andThen hk4 (fun i hi hv => Or.inr (Or.inl (hvo i hv)))
    have hkE : Keep (fun i => F i ∨ H i ∨ i = lb) W (w4.setCell ⟨lb, 2, none⟩ (.slice av (l.recs.length + 1) cv)) := kp2.trans (hk34.trans (hkS.mono (fun i e => Or.inr (Or.inr e))))
    have hPE : Pf (w4.setCell ⟨lb, 2, none⟩ (.slice av (l.recs.length + 1) cv)) F1 lb := ⟨h.pf.pw.keep hkE (fun hs => by
      rcases hs with hs | hs | hs
      · have := h.pf.fl _ hs; omega
      · have := h.ph _ hs; omega
      · have := h.pf.ll; omega), hP3.fl, hP3.ll⟩
    go_wp2
    go_end0
    refine ⟨Or.inl ⟨rfl, rfl⟩, F1, H9, ⟨⟨_, hL5, hRA5⟩, fun i hi hf => ?_, hHlb, fun i hi => ?_, hPE, fun i hi => ?_⟩, hkE, hF2, fun i hi => ?_⟩
    · rcases hHout i hi with h9 | h9
      · exact hHF1 i h9 hf
      · have := hFX i hf; omega
    · have hs9 := hkS.size
      rcases hHout i hi with h9 | h9
      · have := hlt2 i h9; omega
      · omega
    · rcases hHout i hi with h9 | h9
      · exact h.ph i h9
      · have := h.pf.pw.at; omega
    · rcases hHout i hi with h9 | h9
      · exact Or.inl h9
      · exact Or.inr (Nat.le_trans hX2 h9.1)
  · rw [if_neg h0]
    go_enter Tryz.func64, Tryz.ntmps64
    go_upto_region 0 with fail
    refine wp_region_lx (fun w' => w'.cell? ⟨bl, 0, none⟩ = some (.pointer (some ⟨lb, 0, none⟩)) ∧ w'.cell? ⟨br, 0, none⟩ = some (.slice a n c)) [] 6 (by kernel_rfl) (by kernel_rfl) ?_
    refine lx_rd 0 (.pointer (some ⟨lb, 0, none⟩)) (by kernel_rfl) (fun _ _ d _ _ h => by cases d <;> exact h) (by kernel_rfl) HS0 rfl rfl rfl (fun w' hS => ?hb0) ?_
    case hb0 => have q := hS.1; first | (go_simp; rfl) | go_simp
    simp only [List.setIfInBounds_toArray, List.set_cons_zero, List.set_cons_succ]
    refine lx_rd 1 (.pointer (some ⟨lb, 0, none⟩)) (by kernel_rfl) (fun _ _ d _ _ h => by cases d <;> exact h) (by kernel_rfl) HS0 rfl rfl rfl (fun w' hS => ?hb1) ?_
    case hb1 => have q := hS.1; first | (go_simp; rfl) | go_simp
    simp only [List.setIfInBounds_toArray, List.set_cons_zero, List.set_cons_succ]
    refine lx_rd 2 (.pointer (some ⟨lb, 0, none⟩)) (by kernel_rfl) (fun _ _ d _ _ h => by cases d <;> exact h) (by kernel_rfl) HS0 rfl rfl rfl (fun w' hS => ?hb2) ?_
    case hb2 => first | (go_simp; rfl) | go_simp
    simp only [List.setIfInBounds_toArray, List.set_cons_zero, List.set_cons_succ]
    refine lx_rd 3 (.pointer (some ⟨lb, 3, none⟩)) (by kernel_rfl) (fun _ _ d _ _ h => by cases d <;> exact h) (by kernel_rfl) HS0 rfl rfl rfl (fun w' hS => ?hb3) ?_
    case hb3 => first | (go_simp; rfl) | go_simp
    simp only [List.setIfInBounds_toArray, List.set_cons_zero, List.set_cons_succ]
    refine lx_rd 4 (.slice a n c) (by kernel_rfl) (fun _ _ d _ _ h => by cases d <;> exact h) (by kernel_rfl) HS0 rfl rfl rfl (fun w' hS => ?hb4) ?_
    case hb4 => have q := hS.2; first | (go_simp; rfl) | go_simp
    simp only [List.setIfInBounds_toArray, List.set_cons_zero, List.set_cons_succ]
    refine lx_one 5 (by kernel_rfl) (stepT_callP 65 ?b5 rfl rfl rfl ?s5 ?_)
    case s5 => first | (go_simp; rfl) | go_simp
    refine ((hla W.drew hbX).mono (fun e w' h => And.intro (h.1.elim (fun k => absurd k.1 h0) (fun k => k.2)) h.2 : ∀ e w', _ → (e = .panicked (gaveS en) ∧ _))).mono ?_
    rintro e w1 ⟨rfl, hp⟩
    obtain ⟨F1, hL1, hR1, hk1, hF1, hHF1, hP1, hlt1⟩ := hfin w1 hp
    refine Or.inr ⟨_, rfl, ?_⟩
    exact ⟨rfl, gs_no h0 rfl, F1, H, ⟨⟨v, hL1, hR1⟩, hHF1, h.hl, hlt1, hP1, h.ph⟩, (Keep.ofBelow hbX).trans hk1, hF1, fun i hi => Or.inl hi⟩

end Go.Proofs.YtikkieaokfailaaGreatDoor
