/- Texts of one seat, one behind the other: LgG, LgH, DkX, DkY, DkH, DkJ, DkK, DkL. -/
import Derived.Test.YtikkieaokfailaaGreatDoorM4
import Derived.WalkKit
import Derived.ProofKit
import Derived.OpenShut
import Derived.ShutString
import Derived.ChangeOld
import Derived.ChangeMaps5
import Derived.Deep.Matrix
import Derived.Deep.DeepHandedRow
import Derived.Sort.Walk0
namespace Go.Proofs.YtikkieaokfailaaGreatDoor
open Go.RowKit Go.Joins
def appendL (l : Lg) (k : Dk) (xs : List Int) : Nat × Lg × Dk :=
 ((layL l.most l.ch (formL xs) l.dn k).1, ⟨l.most, (if (layL l.most l.ch (formL xs) l.dn k).1 = 0 then l.recs ++ [xs] else l.recs), (layL l.most l.ch (formL xs) l.dn k).2.1, (layL l.most l.ch (formL xs) l.dn k).2.2.1⟩, (layL l.most l.ch (formL xs) l.dn k).2.2.2)
structure Lg.Ok (l : Lg) : Prop where
 g : l.ch.g < 18446744073709551616
 cnt : l.ch.cnt ≤ 1000000000000
 size : l.ch.size ≤ 1000000000000
 most : l.most ≤ 1000000000000
 recs : l.recs.length ≤ 1000000
set_option maxHeartbeats 4000000 in
set_option maxRecDepth 100000 in
theorem appendC_any (W : World) (F H : Nat → Prop) (lb d bl br : Nat) (l : Lg) (k : Dk) (h : LogAt W F H lb d l k) (ok : l.Ok) (hst : k.steps < 999999) (hfl : k.fs.length < 999999)
  (a : Option Addr) (n c : Nat) (xs : List Int) (hR : Rd W a n c xs) (hn : n ≤ 1048576) (hRF : ∀ ad, a = some ad → ¬ F ad.block ∧ ad.block ≠ lb)
  (hbl : W.heap[bl]? = some (.cells #[.pointer (some ⟨lb, 0, none⟩)] 48 (0, 0))) (hbr : W.heap[br]? = some (.cells #[.slice a n c] 29 (0, 0))) (nbl : ¬ F bl) (nbr : ¬ F br) (nhl : ¬ H bl) (nhr : ¬ H br) :
  Calls Tryz.prog 64 #[.pointer (some ⟨bl, 0, none⟩), .pointer (some ⟨br, 0, none⟩)] W fun e w' => Gs (appendL l k xs).1 e ∧ Lgp W F H lb d (appendL l k xs).2.1 (appendL l k xs).2.2 w' := by
 obtain ⟨v, hLD, hRc⟩ := h.ex
 have hbb : bl ≠ lb := fun e => by rw [e, hLD.blk] at hbl; cases hbl
 have hbb2 : br ≠ lb := fun e => by rw [e, hLD.blk] at hbr; cases hbr
 have hla := fun w' (hb : Below W.heap.size W w') => lay_any w' F lb d l.most v l.dn k lb 3 l.ch l.ch ⟨by rw [if_pos rfl]; exact hLD.below hb, fun _ => rfl, fun e => absurd rfl e⟩ (h.pf.below hb) h.pf.ll ok.g ok.cnt ok.size ok.most hst hfl a n c xs (hR.carry (Nat.le_refl _) hb) hn
 obtain ⟨R, HR⟩ : ∃ R, Hid (layL l.most l.ch (formL xs) l.dn k = R) := ⟨_, rfl⟩
 have hE : appendL l k xs = (R.1, ⟨l.most, (if R.1 = 0 then l.recs ++ [xs] else l.recs), R.2.1, R.2.2.1⟩, R.2.2.2) := by unfold appendL; rw [HR.out]
 rw [hE]
 simp only [HR.out] at hla
 obtain ⟨en, c', dn', k'⟩ := R
 dsimp only at hla ⊢
 clear hE
 have hbX : Below W.heap.size W W.drew := (Below.refl _ _).drew
 have HS0 : W.drew.cell? ⟨bl, 0, none⟩ = some (.pointer (some ⟨lb, 0, none⟩)) ∧ W.drew.cell? ⟨br, 0, none⟩ = some (.slice a n c) := ⟨box_cell hbl, box_cell hbr⟩
 have hfin : ∀ w1, Lcp W.drew F lb d l.most v dn' k' lb 3 l.ch c' w1 → _ := fun w1 hp => (h.below hbX).own (hRc.keep (S := fun _ => False) (Keep.ofBelow hbX) (fun _ _ h => h) (fun _ h => h)) (c' := c') (v := v) (dn' := dn') (k' := k') (w' := w1) (by
  obtain ⟨F', k1, k2, k3⟩ := hp
  exact ⟨F', ⟨by have := k1.L; rw [if_pos rfl] at this ⊢; exact this, fun _ => rfl, fun e => absurd rfl e⟩, k2, k3⟩)
 by_cases h0 : en = 0
 ·subst h0
  rw [if_pos rfl]
  go_enter Tryz.func64, Tryz.ntmps64
  go_upto_region 0 with fail
  refine wp_region_lx (fun w' => w'.cell? ⟨bl, 0, none⟩ = some (.pointer (some ⟨lb, 0, none⟩)) ∧ w'.cell? ⟨br, 0, none⟩ = some (.slice a n c)) [] 6 (by kernel_rfl) (by kernel_rfl) ?_
  refine lx_r 0 (.pointer (some ⟨lb, 0, none⟩)) HS0 ?_ (hv := fun w' hS => by have q := hS.1; first | (go_simp; rfl) | go_simp); simp only [lxa, lxb, lxc]
  refine lx_r 1 (.pointer (some ⟨lb, 0, none⟩)) HS0 ?_ (hv := fun w' hS => by have q := hS.1; first | (go_simp; rfl) | go_simp); simp only [lxa, lxb, lxc]
  refine lx_r 2 (.pointer (some ⟨lb, 0, none⟩)) HS0 ?_; simp only [lxa, lxb, lxc]
  refine lx_r 3 (.pointer (some ⟨lb, 3, none⟩)) HS0 ?_; simp only [lxa, lxb, lxc]
  refine lx_r 4 (.slice a n c) HS0 ?_ (hv := fun w' hS => by have q := hS.2; first | (go_simp; rfl) | go_simp); simp only [lxa, lxb, lxc]
  refine lx_one 5 (by kernel_rfl) (stepT_call 65 ?a5 rfl rfl rfl ?r5 ?_)
  case r5 => first | (go_simp; rfl) | go_simp
  refine ((hla W.drew hbX).mono (fun e w' h => And.intro (h.1.elim (fun k => k.2) (fun k => absurd rfl k.1)) h.2 : ∀ e w', _ → (e = .returned (.tuple #[]) ∧ _))).mono ?_
  rintro e w1 ⟨rfl, hp⟩
  have hkR : Keep (fun i => F i ∨ i = lb) W w1 := by
   obtain ⟨_, _, k2, _⟩ := hp
   exact (Keep.ofBelow hbX).trans (k2.mono (fun i hi => hi.elim Or.inl (fun h => Or.inr (h.elim id id))))
  obtain ⟨F1, hL1, hR1, hk1, hF1, hHF1, hP1, hlt1⟩ := hfin w1 hp
  have nb1 : ∀ x, x ≠ lb → ¬ F x → ¬ H x → ¬ (F x ∨ H x ∨ x = lb) := fun x h1 h2 h3 h4 => h4.elim h2 (fun h5 => h5.elim h3 h1)
  have HS1 : w1.cell? ⟨bl, 0, none⟩ = some (.pointer (some ⟨lb, 0, none⟩)) ∧ w1.cell? ⟨br, 0, none⟩ = some (.slice a n c) := ⟨hk1.cell (p := ⟨bl, 0, none⟩) HS0.1 (nb1 bl hbb nbl nhl), hk1.cell (p := ⟨br, 0, none⟩) HS0.2 (nb1 br hbb2 nbr nhr)⟩
  refine ⟨_, rfl, fun _ => HS1, ?_⟩
  simp only [lxa, lxb, lxc]
  refine lx_nil (by kernel_rfl) ?_
  have kp1 : Keep (fun i => F i ∨ H i ∨ i = lb) W w1 := (Keep.ofBelow hbX).trans hk1
  have hR9 : Rd w1 a n c xs := hR.keep (S := fun i => F i ∨ i = lb) hkR (fun ad had hs => hs.elim (hRF ad had).1 (hRF ad had).2)
  clear hla hp hk1 HS0
  go_upto_region 1 with fail
  refine wp_region_lx (fun w' => w'.cell? ⟨bl, 0, none⟩ = some (.pointer (some ⟨lb, 0, none⟩)) ∧ w'.cell? ⟨br, 0, none⟩ = some (.slice a n c) ∧ w'.cell? ⟨lb, 2, none⟩ = some v) [11] 12 (by kernel_rfl) (by kernel_rfl) ?_
  have hbD : Below w1.heap.size w1 w1.drew := (Below.refl _ _).drew
  have hL2 := hL1.below hbD
  have hR2 := hR1.keep (S := fun _ => False) (H' := H) (Keep.ofBelow hbD) (fun _ _ h => h) (fun _ h => h)
  have hP2 := hP1.below hbD
  have hX2 : W.heap.size ≤ w1.drew.heap.size := kp1.size
  have kp2 : Keep (fun i => F i ∨ H i ∨ i = lb) W w1.drew := kp1.drew
  have hR10 := hR9.carry (Nat.le_refl _) hbD
  have HS2 : w1.drew.cell? ⟨bl, 0, none⟩ = some (.pointer (some ⟨lb, 0, none⟩)) ∧ w1.drew.cell? ⟨br, 0, none⟩ = some (.slice a n c) ∧ w1.drew.cell? ⟨lb, 2, none⟩ = some v := ⟨HS1.1, HS1.2, hL2.c2⟩
  have hlt2 : ∀ i, H i → i < w1.drew.heap.size := hlt1
  have hF2 : ∀ i, F1 i → F i ∨ W.heap.size ≤ i := hF1
  clear hL1 hR1 hP1 hR9 HS1 kp1 hlt1 hF1 hbD
  generalize w1.drew = X at *
  refine lx_r 0 (.pointer (some ⟨lb, 0, none⟩)) HS2 ?_ (hv := fun w' hS => by have q := hS.1; first | (go_simp; rfl) | go_simp); simp only [lxa, lxb, lxc]
  refine lx_r 1 (.pointer (some ⟨lb, 0, none⟩)) HS2 ?_ (hv := fun w' hS => by have q := hS.1; first | (go_simp; rfl) | go_simp); simp only [lxa, lxb, lxc]
  refine lx_r 2 (.pointer (some ⟨lb, 0, none⟩)) HS2 ?_; simp only [lxa, lxb, lxc]
  refine lx_r 3 (.pointer (some ⟨lb, 2, none⟩)) HS2 ?_; simp only [lxa, lxb, lxc]
  refine lx_r 4 v HS2 ?_ (hv := fun w' hS => by have q := hS.2.2; first | (go_simp; rfl) | go_simp); simp only [lxa, lxb, lxc]
  refine lx_r 5 (.slice a n c) HS2 ?_ (hv := fun w' hS => by have q := hS.2.1; first | (go_simp; rfl) | go_simp); simp only [lxa, lxb, lxc]
  refine lx_one 6 (by kernel_rfl) (stepT_call 66 ?a6 rfl rfl rfl ?r6 ?_)
  case r6 => first | (go_simp; rfl) | go_simp
  refine (bcloneO a n c xs X hR10 (by omega)).mono ?_
  rintro e w3 ⟨u, rfl, ou, hb3⟩
  obtain ⟨au, cu, rfl, _⟩ := Rd.ofOwn ou hR10.bytes
  have t3 : ∀ p x, X.cell? p = some x → w3.cell? p = some x := fun p x hx => (hb3.cell (World.block_lt_of_cell? _ _ hx)).trans hx
  have HS3 := And.intro (t3 _ _ HS2.1) (And.intro (t3 _ _ HS2.2.1) (t3 _ _ HS2.2.2))
  refine ⟨_, rfl, fun _ => HS3, ?_⟩
  simp only [lxa, lxb, lxc]
  have t4 : ∀ p x, w3.cell? p = some x → (w3.alloc (.cells #[.slice au n cu] 29)).cell? p = some x := fun p x hx => ((Keep.refl (fun _ => False) w3).alloc _).cell hx (fun h => h)
  refine lx_one 7 (by kernel_rfl) (stepT_val (w' := w3.alloc (.cells #[.slice au n cu] 29)) (.slice (some ⟨w3.heap.size, 0, none⟩) 1 1) rfl rfl rfl ?r7 (fun _ => And.intro (t4 _ _ HS3.1) (And.intro (t4 _ _ HS3.2.1) (t4 _ _ HS3.2.2))) ?_)
  case r7 => first | (go_simp; rfl) | go_simp
  simp only [lxa, lxb, lxc]
  have hL3 := hL2.below hb3
  have hR3 := hR2.keep (S := fun _ => False) (H' := H) (Keep.ofBelow hb3) (fun _ _ h => h) (fun _ h => h)
  have hP3 := hP2.below hb3
  obtain ⟨⟨vs, ov, hvs⟩, hvo⟩ := hR3
  obtain ⟨v', w4, hrun4, ov4, hk4, hwh4⟩ := run_appW 30 ov au n cu ok.recs (Nat.zero_le _)
  obtain ⟨av, cv, rfl⟩ := own_sl ov4
  have nlb : ¬ v.ownBlock = some lb := fun hv => h.hl (hvo lb hv)
  have nv1 : ¬ v.ownBlock = some bl := fun hv => nhl (hvo bl hv)
  have nv2 : ¬ v.ownBlock = some br := fun hv => nhr (hvo br hv)
  have HS4 := And.intro (hk4.cell (p := ⟨bl, 0, none⟩) HS3.1 nv1) (And.intro (hk4.cell (p := ⟨br, 0, none⟩) HS3.2.1 nv2) (hk4.cell (p := ⟨lb, 2, none⟩) HS3.2.2 nlb))
  refine lx_one 8 (by kernel_rfl) (stepT_val (w' := w4) (.slice av (l.recs.length + 1) cv) rfl rfl rfl (exec_appW rfl rfl rfl hrun4) (fun _ => HS4) ?_)
  simp only [lxa, lxb, lxc]
  refine lx_one 9 (by kernel_rfl) (stepT_val (w' := w4) (.pointer (some ⟨lb, 0, none⟩)) rfl rfl rfl ?r9d (fun _ => HS4) ?_)
  case r9d => first | (go_simp; rfl) | go_simp
  simp only [lxa, lxb, lxc]
  refine lx_one 10 (by kernel_rfl) (stepT_val (w' := w4) (.pointer (some ⟨lb, 2, none⟩)) rfl rfl rfl ?r10d (fun _ => HS4) ?_)
  case r10d => first | (go_simp; rfl) | go_simp
  simp only [lxa, lxb, lxc]
  have hL4 : LD w4 F1 lb d l.most v c' dn' k' := hL3.keep hk4 (fun i hi hv => hHF1 i (hvo i hv) hi) nlb
  have p4 := hL4.c2
  have z4 := hL4.fz 2
  refine lx_one 11 (by kernel_rfl) (stepT_store (w' := w4.setCell ⟨lb, 2, none⟩ (.slice av (l.recs.length + 1) cv)) rfl rfl rfl ?r11 (fun h => by cases h) ?_)
  case r11 => first | (go_simp; rfl) | go_simp
  refine lx_nil (by kernel_rfl) ?_
  have hL5 : LD (w4.setCell ⟨lb, 2, none⟩ (.slice av (l.recs.length + 1) cv)) F1 lb d l.most (.slice av (l.recs.length + 1) cv) c' dn' k' := hL4.set 2 _ rfl
  have hsz3 := hb3.size
  have hsz4 := hk4.size
  obtain ⟨H9, hH9⟩ : ∃ H9 : Nat → Prop, H9 = (fun i => H i ∨ (X.heap.size ≤ i ∧ i < w4.heap.size)) := ⟨_, rfl⟩
  have hHin : ∀ i, H i → H9 i := fun i hi => by rw [hH9]; exact Or.inl hi
  have hHout : ∀ i, H9 i → H i ∨ (X.heap.size ≤ i ∧ i < w4.heap.size) := fun i hi => by rw [hH9] at hi; exact hi
  have hu0 := own_weak ou (Nat.zero_le _)
  have hxl := hR.len
  have hRA : RcA w4 H9 (.slice av (l.recs.length + 1) cv) (l.recs ++ [xs]) := by
   refine RcA.app (vs := vs) (u := .slice au n cu) ov (fun i r hr => ?_) ov4 hk4 (by rw [hxl]; exact hu0) (fun g hg => ?_) hR.bytes (fun g hg => ?_)
   ·obtain ⟨u2, m1, m2, m3, m4⟩ := hvs i r hr
    exact ⟨u2, m1, m2, fun g hg => hHin g (m3 g hg), m4⟩
   ·rw [hH9]
    have := ou.lt g hg
    exact Or.inr ⟨this.1, by omega⟩
   ·rcases hwh4 with h9 | ⟨g9, h9, h10⟩
    ·exact hHin g (hvo g (by rw [← h9]; exact hg))
    ·rw [h9] at hg
     injection hg with hg
     subst hg
     rw [hH9]
     refine Or.inr ⟨by omega, ?_⟩
     obtain ⟨cur, e⟩ := own_blkT ov4 h9
     exact (Array.getElem?_eq_some_iff.1 e).1
  have hkS : Keep (fun i => i = lb) w4 (w4.setCell ⟨lb, 2, none⟩ (.slice av (l.recs.length + 1) cv)) := (Keep.refl (fun i => i = lb) w4).setCell (p := ⟨lb, 2, none⟩) rfl _
  have hlbX : lb < X.heap.size := hL2.lt
  have hFX := hL2.D.lt
  have hHlb : ¬ H9 lb := fun hh => (hHout lb hh).elim h.hl (fun h9 => by omega)
  have hRA5 := hRA.keep (H' := H9) hkS (fun i hi e => hHlb (by rw [← e]; exact hi)) (fun _ h => h)
  have hk34 : Keep (fun i => F i ∨ H i ∨ i = lb) X w4 := (Keep.ofBelow hb3).andThen hk4 (fun i hi hv => Or.inr (Or.inl (hvo i hv)))
  have hkE : Keep (fun i => F i ∨ H i ∨ i = lb) W (w4.setCell ⟨lb, 2, none⟩ (.slice av (l.recs.length + 1) cv)) := kp2.trans (hk34.trans (hkS.mono (fun i e => Or.inr (Or.inr e))))
  have hPE : Pf (w4.setCell ⟨lb, 2, none⟩ (.slice av (l.recs.length + 1) cv)) F1 lb := ⟨h.pf.pw.keep hkE (fun hs => by
   rcases hs with hs | hs | hs
   ·have := h.pf.fl _ hs; omega
   ·have := h.ph _ hs; omega
   ·have := h.pf.ll; omega), hP3.fl, hP3.ll⟩
  go_wp2
  go_end0
  refine ⟨Or.inl ⟨rfl, rfl⟩, F1, H9, ⟨⟨_, hL5, hRA5⟩, fun i hi hf => ?_, hHlb, fun i hi => ?_, hPE, fun i hi => ?_⟩, hkE, hF2, fun i hi => ?_⟩
  ·rcases hHout i hi with h9 | h9
   ·exact hHF1 i h9 hf
   ·have := hFX i hf; omega
  ·have hs9 := hkS.size
   rcases hHout i hi with h9 | h9
   ·have := hlt2 i h9; omega
   ·omega
  ·rcases hHout i hi with h9 | h9
   ·exact h.ph i h9
   ·have := h.pf.pw.at; omega
  ·rcases hHout i hi with h9 | h9
   ·exact Or.inl h9
   ·exact Or.inr (Nat.le_trans hX2 h9.1)
 ·rw [if_neg h0]
  go_enter Tryz.func64, Tryz.ntmps64
  go_upto_region 0 with fail
  refine wp_region_lx (fun w' => w'.cell? ⟨bl, 0, none⟩ = some (.pointer (some ⟨lb, 0, none⟩)) ∧ w'.cell? ⟨br, 0, none⟩ = some (.slice a n c)) [] 6 (by kernel_rfl) (by kernel_rfl) ?_
  refine lx_r 0 (.pointer (some ⟨lb, 0, none⟩)) HS0 ?_ (hv := fun w' hS => by have q := hS.1; first | (go_simp; rfl) | go_simp); simp only [lxa, lxb, lxc]
  refine lx_r 1 (.pointer (some ⟨lb, 0, none⟩)) HS0 ?_ (hv := fun w' hS => by have q := hS.1; first | (go_simp; rfl) | go_simp); simp only [lxa, lxb, lxc]
  refine lx_r 2 (.pointer (some ⟨lb, 0, none⟩)) HS0 ?_; simp only [lxa, lxb, lxc]
  refine lx_r 3 (.pointer (some ⟨lb, 3, none⟩)) HS0 ?_; simp only [lxa, lxb, lxc]
  refine lx_r 4 (.slice a n c) HS0 ?_ (hv := fun w' hS => by have q := hS.2; first | (go_simp; rfl) | go_simp); simp only [lxa, lxb, lxc]
  refine lx_one 5 (by kernel_rfl) (stepT_callP 65 ?b5 rfl rfl rfl ?s5 ?_)
  case s5 => first | (go_simp; rfl) | go_simp
  refine ((hla W.drew hbX).mono (fun e w' h => And.intro (h.1.elim (fun k => absurd k.1 h0) (fun k => k.2)) h.2 : ∀ e w', _ → (e = .panicked (gaveS en) ∧ _))).mono ?_
  rintro e w1 ⟨rfl, hp⟩
  obtain ⟨F1, hL1, hR1, hk1, hF1, hHF1, hP1, hlt1⟩ := hfin w1 hp
  refine Or.inr ⟨_, rfl, ?_⟩
  exact ⟨rfl, gs_no h0 rfl, F1, H, ⟨⟨v, hL1, hR1⟩, hHF1, h.hl, hlt1, hP1, h.ph⟩, (Keep.ofBelow hbX).trans hk1, hF1, fun i hi => Or.inl hi⟩
end Go.Proofs.YtikkieaokfailaaGreatDoor

namespace Go.Proofs.YtikkieaokfailaaGreatDoor
open Go.RowKit Go.Joins
theorem isBig_any (a : Option Addr) (n c : Nat) (w : World) (hn : n ≤ 9223372036854775807) : Calls Tryz.prog 63 #[.slice a n c] w fun e w' => e = .returned (.bool (decide (1048576 < n))) ∧ w' = w := by
 by_cases h : 1048576 < n
 ·have hz : (1048576 : Int) < (n : Int) := by omega
  rw [decide_eq_true h]
  clear h
  go_enter Tryz.func63, Tryz.ntmps63
  go_wp2
  go_ret
  exact ⟨rfl, rfl⟩
 ·have hz : ¬ (1048576 : Int) < (n : Int) := by omega
  rw [decide_eq_false h]
  clear h
  go_enter Tryz.func63, Tryz.ntmps63
  go_wp2
  go_ret
  exact ⟨rfl, rfl⟩
def appendT (l : Lg) (k : Dk) (xs : List Int) : Nat × Lg × Dk := if 1048576 < xs.length then (5, l, k) else appendL l k xs
theorem attempt_L (f : Nat) (caps : Array Value) (en : Nat) (W : World) (F H : Nat → Prop) (lb d : Nat) (l l' : Lg) (k k' : Dk) (h : LogAt W F H lb d l k) (hent : ∀ args w, (callFunc f args).run Tryz.prog w = .ok (.enter f args) w)
  (hC : LogAt (W.alloc (.cells #[.int .i64 0] 37)) F H lb d l k → Below W.heap.size W (W.alloc (.cells #[.int .i64 0] 37)) → Calls Tryz.prog f caps (W.alloc (.cells #[.int .i64 0] 37)) fun e w' => Gs en e ∧ Lgp (W.alloc (.cells #[.int .i64 0] 37)) F H lb d l' k' w') :
  Calls Tryz.prog 60 #[.func (.func f) #[] caps] W fun e w' => e = .returned (.int .i64 en) ∧ Lgp W F H lb d l' k' w' := by
 have hb0 : Below W.heap.size W (W.alloc (.cells #[.int .i64 0] 37)) := (Below.refl _ _).alloc (Nat.le_refl _) _
 obtain ⟨v, hLD, _⟩ := h.ex
 have hF := hLD.D.lt
 have hlb := hLD.lt
 refine (attemptS f caps en (fun w' => Lgp (W.alloc (.cells #[.int .i64 0] 37)) F H lb d l' k' w') W hent ((hC (h.below hb0) hb0).mono ?_)).mono ?_
 ·rintro e w' ⟨h1, h2⟩
  refine ⟨h1, h2, ?_⟩
  obtain ⟨F', H', _, hk, _⟩ := h2
  exact box_keep (alloc_at W _) hk (fun e => by
   rcases e with e | e | e
   ·have := hF _ e; omega
   ·have := h.lt _ e; omega
   ·omega)
 ·rintro e w' ⟨rfl, w1, h1, rfl⟩
  exact ⟨rfl, h1.err hF h.lt hlb h.pf.pw.at _⟩
set_option maxHeartbeats 1000000 in
theorem sappend_any (w : World) (F H : Nat → Prop) (lb d : Nat) (l : Lg) (k : Dk) (h : LogAt w F H lb d l k) (ok : l.Ok) (hst : k.steps < 999999) (hfl : k.fs.length < 999999)
  (a : Option Addr) (n c : Nat) (xs : List Int) (hR : Rd w a n c xs) (hRF : ∀ ad, a = some ad → ¬ F ad.block ∧ ad.block ≠ lb) :
  Calls Tryz.prog 22 #[.pointer (some ⟨lb, 0, none⟩), .slice a n c] w fun e w' => e = .returned (.int .i64 (appendT l k xs).1) ∧ Lgp w F H lb d (appendT l k xs).2.1 (appendT l k xs).2.2 w' := by
 have hmf : ∀ (fn : Fn) (first cap : Array Value) (w : World), (Instr.makeFunc fn first cap).run Tryz.prog w = .ok (.func fn first cap) w := fun _ _ _ _ => rfl
 obtain ⟨W, hW⟩ : ∃ W, (w.alloc (.cells #[.pointer (some ⟨lb, 0, none⟩)] 48)).alloc (.cells #[.slice a n c] 29) = W := ⟨_, rfl⟩
 have hB : Below w.heap.size w W := by rw [← hW]; exact ((Below.refl _ _).alloc (Nat.le_refl _) _).alloc (by simp) _
 have q0 : W.heap[w.heap.size]? = some (.cells #[.pointer (some ⟨lb, 0, none⟩)] 48 (0, 0)) := by rw [← hW]; exact alloc2_at w _ _
 have q1 : W.heap[w.heap.size + 1]? = some (.cells #[.slice a n c] 29 (0, 0)) := by rw [← hW]; exact (by simpa using alloc_at (w.alloc (.cells #[.pointer (some ⟨lb, 0, none⟩)] 48)) (.cells #[.slice a n c] 29))
 have c0 := box_cell q0
 have c1 := box_cell q1
 have hmx := hR.most
 have hcp := hR.cap
 have hig := isBig_any a n c W (by unfold maxLen at hmx; omega)
 have hl := hR.len
 have hLW := h.below hB
 have hRW := hR.carry (Nat.le_refl _) hB
 obtain ⟨v, hLD, _⟩ := h.ex
 have hF := hLD.D.lt
 have hH := h.lt
 unfold appendT
 rw [hl]
 by_cases hbig : 1048576 < n
 ·rw [if_pos hbig]
  rw [decide_eq_true hbig] at hig
  clear hbig hl
  go_enter Tryz.func22, Tryz.ntmps22
  go_upto_region 1 with fail
  clear hW
  go_wp2_with (first
   | (go_at_call 63; refine hig.mono ?_; rintro e w1 ⟨rfl, h1⟩; replace h1 := h1.symm; subst h1))
  go_ret
  exact ⟨rfl, Lgp.from hB (Lgp.refl hLW)⟩
 ·rw [if_neg hbig]
  rw [decide_eq_false hbig] at hig
  have hA : Calls Tryz.prog 60 #[.func (.func 64) #[] #[.pointer (some ⟨w.heap.size, 0, none⟩), .pointer (some ⟨w.heap.size + 1, 0, none⟩)]] W fun e w' => e = .returned (.int .i64 (appendL l k xs).1) ∧ Lgp W F H lb d (appendL l k xs).2.1 (appendL l k xs).2.2 w' := by
   refine attempt_L _ _ _ W F H lb d l _ k _ hLW (enters_of Tryz.func64 (by kernel_rfl) rfl) (fun hL1 hb1 => ?_)
   exact appendC_any _ F H lb d _ _ l k hL1 ok hst hfl a n c xs (hRW.carry (Nat.le_refl _) hb1) (by omega) hRF (box_below q0 hb1) (box_below q1 hb1) (fun hf => by have := hF _ hf; omega) (fun hf => by have := hF _ hf; omega) (fun hf => by have := hH _ hf; omega) (fun hf => by have := hH _ hf; omega)
  obtain ⟨P, hP⟩ : ∃ P, appendL l k xs = P := ⟨_, rfl⟩
  rw [hP] at hA ⊢
  clear hP hbig hl hLW hRW
  go_enter Tryz.func22, Tryz.ntmps22
  go_upto_region 1 with fail
  clear hW
  go_wp2_with (first
   | (go_at_call 63; refine hig.mono ?_; rintro e w1 ⟨rfl, h1⟩; replace h1 := h1.symm; subst h1)
   | (go_at_call 60; refine hA.mono ?_; rintro e w1 ⟨rfl, hp⟩))
  go_ret
  exact ⟨rfl, hp.from hB⟩
def commitL (l : Lg) (k : Dk) : Nat × Lg × Dk := ((settleL l.ch l.dn k).1, ⟨l.most, l.recs, (settleL l.ch l.dn k).2.1, (settleL l.ch l.dn k).2.2.1⟩, (settleL l.ch l.dn k).2.2.2)
theorem slen_any (w : World) (F H : Nat → Prop) (lb d : Nat) (l : Lg) (k : Dk) (h : LogAt w F H lb d l k) :
  Calls Tryz.prog 26 #[.pointer (some ⟨lb, 0, none⟩)] w fun e w' => e = .returned (.int .i64 (l.recs.length : Int)) ∧ w' = w := by
 obtain ⟨v, hLD, hRc⟩ := h.ex
 obtain ⟨⟨vs, ov, _⟩, _⟩ := hRc
 obtain ⟨a, c, rfl⟩ := own_sl ov
 have q2 := hLD.c2
 obtain ⟨N, HN⟩ : ∃ N, Hid (l.recs.length = N) := ⟨_, rfl⟩
 rw [HN.out] at q2 ⊢
 clear ov hLD
 go_enter Tryz.func26, Tryz.ntmps26
 go_wp2
 go_ret
 exact ⟨rfl, rfl⟩
def atL (l : Lg) (i : Int) : Option (List Int) := if i < 0 then none else l.recs[i.toNat]?
set_option maxHeartbeats 1000000 in
theorem sat_any (w : World) (F H : Nat → Prop) (lb d : Nat) (l : Lg) (k : Dk) (i : Int) (hi1 : i ≤ 9223372036854775807) (h : LogAt w F H lb d l k) (hlen : ∀ r ∈ l.recs, r.length ≤ 1000000000) :
  Calls Tryz.prog 27 #[.pointer (some ⟨lb, 0, none⟩), .int .i64 i] w fun e w' => ∃ u, e = .returned (.tuple #[u, .bool (atL l i).isSome]) ∧ w'.ownsRow w.heap.size 5 1 u ((atL l i).getD []).length (bc ((atL l i).getD [])) ∧ Bd ((atL l i).getD []) ∧ Below w.heap.size w w' := by
 obtain ⟨v, hLD, hRc⟩ := h.ex
 obtain ⟨⟨vs, ov, hvs⟩, _⟩ := hRc
 obtain ⟨a, c, rfl⟩ := own_sl ov
 have q2 := hLD.c2
 obtain ⟨N, HN⟩ : ∃ N, Hid (l.recs.length = N) := ⟨_, rfl⟩
 have hNm : N ≤ 9223372036854775807 ∧ (N ≤ c ∧ c ≤ 9223372036854775807) := by
  rw [HN.out] at ov
  rcases ov.2 with ⟨e, h0⟩ | ⟨g, cap, cur, e, _, _, hnc, hcm, _⟩
  ·cases e; omega
  ·cases e; unfold maxLen at hcm; omega
 by_cases h0 : i < 0
 ·have hE : atL l i = none := by unfold atL; rw [if_pos h0]
  rw [hE]
  clear ov hLD hvs
  go_enter Tryz.func27, Tryz.ntmps27
  go_wp2
  go_ret2
  exact ⟨_, rfl, ⟨rfl, .inl ⟨rfl, rfl⟩⟩, Bd.nil, Below.refl _ _⟩
 ·obtain ⟨j, rfl⟩ := Int.eq_ofNat_of_zero_le (a := i) (by omega)
  have hE0 : atL l (j : Int) = l.recs[j]? := by unfold atL; rw [if_neg h0]; rfl
  by_cases hj : j < N
  ·have hjl : j < l.recs.length := by rw [HN.out]; exact hj
   obtain ⟨r, hr⟩ : ∃ r, l.recs[j]? = some r := ⟨_, List.getElem?_eq_getElem hjl⟩
   obtain ⟨u, hu, ou, _, hbr⟩ := hvs j r hr
   have hrl := hlen r (List.mem_of_getElem? hr)
   rw [hE0, hr]
   obtain ⟨au, cu, rfl, ru⟩ := Rd.ofOwn ou hbr
   obtain ⟨g, hg⟩ : ∃ g, a = some ⟨g, 0, none⟩ := by
    rcases ov.2 with ⟨e, h0⟩ | ⟨g, cap, cur, e, _⟩
    ·omega
    ·cases e; exact ⟨g, rfl⟩
   subst hg
   have hc := ov.cells (g := g) rfl j _ hu
   rw [add_flat, Nat.zero_add] at hc
   have hcl := bcloneO au r.length cu r w ru hrl
   rw [HN.out] at q2
   have hz1 : ¬ (j : Int) < 0 := by omega
   have hz2 : ¬ (N : Int) ≤ (j : Int) := by omega
   have hz3 : (j : Int) < (N : Int) := by omega
   have hz0 : (0 : Int) ≤ (j : Int) := by omega
   obtain ⟨M, HM⟩ : ∃ M, Hid (r.length = M) := ⟨_, rfl⟩
   simp only [Option.getD_some, Option.isSome_some]
   rw [HM.out] at hcl hc ⊢
   clear ov hLD hvs hu ou ru hr hE0 h0 hrl hjl
   go_enter Tryz.func27, Tryz.ntmps27
   go_wp2_with (go_at_call 66; refine hcl.mono ?_; rintro e w1 ⟨u1, rfl, o1, hb1⟩)
   go_ret2
   exact ⟨_, rfl, o1, hbr, hb1⟩
  ·have hE : atL l (j : Int) = none := by rw [hE0]; exact List.getElem?_eq_none (by rw [HN.out]; omega)
   rw [hE]
   rw [HN.out] at q2
   have hz1 : ¬ (j : Int) < 0 := by omega
   have hz2 : (N : Int) ≤ (j : Int) := by omega
   clear ov hLD hvs hE0 hE
   go_enter Tryz.func27, Tryz.ntmps27
   go_wp2
   go_ret2
   exact ⟨_, rfl, ⟨rfl, .inl ⟨rfl, rfl⟩⟩, Bd.nil, Below.refl _ _⟩
end Go.Proofs.YtikkieaokfailaaGreatDoor

namespace Go.Proofs.YtikkieaokfailaaGreatDoor
open Go.RowKit Go.Joins
theorem Keep.low {F : Nat → Prop} {B : Nat} {w w' : World} (h : Keep F w w') (hB : B ≤ w.heap.size) (hF : ∀ i, F i → B ≤ i) : Below B w w' := h.below hB hF
end Go.Proofs.YtikkieaokfailaaGreatDoor

set_option maxRecDepth 100000
namespace Go.Proofs.YtikkieaokfailaaGreatDoor
open Go.ChangeShapes Go.WideShapes Go.ChangeAt Go.RowKit
structure RRd (W : World) (a : Option Addr) (n : Nat) (xs : List (List Int)) : Prop where
 len : xs.length = n
 most : n ≤ 9223372036854775807
 flat : 0 < n → ∃ b off, a = some ⟨b, off, none⟩ ∧ ∀ j, j < n → ∃ aj nj cj, W.cell? ⟨b, off + j, none⟩ = some (.slice aj nj cj) ∧ Rd W aj nj cj (xs.getD j [])
theorem RRd.below {W W' : World} {a : Option Addr} {n : Nat} {xs : List (List Int)} (h : RRd W a n xs) (hb : Below W.heap.size W W') : RRd W' a n xs := by
 refine ⟨h.len, h.most, fun h0 => ?_⟩
 obtain ⟨b, off, rfl, hc⟩ := h.flat h0
 refine ⟨b, off, rfl, fun j hj => ?_⟩
 obtain ⟨aj, nj, cj, h1, h2⟩ := hc j hj
 exact ⟨aj, nj, cj, (hb.cell (p := ⟨b, off + j, none⟩) (World.block_lt_of_cell? W _ h1)).trans h1, h2.carry (Nat.le_refl _) hb⟩
theorem rd_nilK (w : World) : Rd w none 0 0 [] := ⟨rfl, Nat.le_refl _, by unfold maxLen; omega, fun _ => rfl, Bd.nil, fun _ h => by cases h⟩
theorem rd_of_cells {H : Type} {enc : TypeId × Value → H} {W : World} {v : Value} {n : Nat} {y : DataW H × List MemPlace}
  (h : DataW.trod enc Tryz.prog W 0 (fun _ => true) true n 29 [v] = some y) : ∃ a n c zs, v = .slice a n c ∧ Rd W a n c zs := by
 rcases open_ints Tryz.underlying29 Tryz.underlying5 (by kernel_rfl) h with ⟨hcs, _⟩ | ⟨x, l, cc, zs, hcs, _, hl, hm, hz, _, hcell, hwz⟩
 ·simp only [List.cons.injEq, and_true] at hcs
  exact ⟨none, 0, 0, [], hcs, rd_nilK W⟩
 ·simp only [List.cons.injEq, and_true] at hcs
  have hz' : zs.length = cc := by simpa using hz
  refine ⟨some x, l, cc, zs.take l, hcs, by rw [List.length_take]; omega, hl, hm, (fun h => by cases h), fun y hy => ?_, fun ad had j hj => ?_⟩
  ·have := bounds_u8 (hwz y (List.mem_of_mem_take hy)); omega
  ·cases had
   rw [hcell j (by omega)]
   simp [List.getD, hj]
theorem rrd_of_cells {H : Type} {enc : TypeId × Value → H} {W : World} {v : Value} {fuel : Nat} {y : DataW H × List MemPlace}
  (hf : DataW.trod enc Tryz.prog W 0 (fun _ => true) true fuel 30 [v] = some y) : ∃ a n c xs, v = .slice a n c ∧ RRd W a n xs := by
 rcases Go.Deep.open_int_rows Tryz.underlying30 Tryz.underlying29 Tryz.underlying5 (by kernel_rfl) (by kernel_rfl) hf with ⟨hcs, _⟩ | ⟨x, l, cc, A, L, C, Z, hcs, _, hl, hm, _, hr⟩
 ·simp only [List.cons.injEq, and_true] at hcs
  exact ⟨none, 0, 0, [], hcs, rfl, by omega, fun h => by omega⟩
 ·simp only [List.cons.injEq, and_true] at hcs
  refine ⟨some x, l, cc, (List.range l).map (fun r => (Z r).take (L r)), hcs, by simp, by have : cc ≤ 9223372036854775807 := hm; omega, fun h0 => ?_⟩
  obtain ⟨b, off, spot⟩ := x
  have hspot : spot = none := by simpa [Addr.add] using World.cell?_spot (hr 0 (by omega)).1
  subst hspot
  refine ⟨b, off, rfl, fun j hj => ?_⟩
  obtain ⟨h1, h2, h3, h4, h5, h6, h7⟩ := hr j (by omega)
  rw [add_flat] at h1
  refine ⟨A j, L j, C j, h1, ?_⟩
  have e : ((List.range l).map (fun r => (Z r).take (L r))).getD j [] = (Z j).take (L j) := by simp [List.getD, hj]
  rw [e]
  refine ⟨by rw [List.length_take]; omega, h2, h3, h6, fun y hy => ?_, fun ad had i hi => ?_⟩
  ·have := bounds_u8 (h5 y (List.mem_of_mem_take hy)); omega
  ·rw [(h7 ad had).2 i (by omega)]
   simp [List.getD, hi]
set_option maxHeartbeats 800000 in
theorem twin_any (a : Option Addr) (n c : Nat) (xs : List Int) (most : Nat) (w : World) (hR : Rd w a n c xs) (hm : most ≤ 100000) :
  Calls Tryz.prog 54 #[.slice a n c, .int .i64 most] w fun e w' => ∃ v, e = .returned v ∧ w'.ownsRow w.heap.size 5 1 v (xs.take most).length (bc (xs.take most)) ∧ Below w.heap.size w w' := by
 have hl := hR.len
 have hcp := hR.cap
 have hmx : c ≤ 9223372036854775807 := hR.most
 by_cases hn : (most : Int) < (n : Int)
 ·have hlt : (xs.take most).length = most := by rw [List.length_take]; omega
  rw [hlt]
  go_enter Tryz.func54, Tryz.ntmps54
  go_wp2_with (at_builtin; refine wp_app0K rfl _ _ rfl rfl a most c (xs.take most) rfl (hR.takeK (by omega)) (by omega) ?_; intro v' w1 hown1 hb1 _)
  go_ret
  exact ⟨_, rfl, hown1, hb1⟩
 ·have hlt : xs.take most = xs := List.take_of_length_le (by omega)
  rw [hlt, hl]
  go_enter Tryz.func54, Tryz.ntmps54
  go_wp2_with (at_builtin; refine wp_app0K rfl _ _ rfl rfl a n c xs rfl hR (by omega) ?_; intro v' w1 hown1 hb1 _)
  go_ret
  exact ⟨_, rfl, hown1, hb1⟩
end Go.Proofs.YtikkieaokfailaaGreatDoor

namespace Go.Proofs.YtikkieaokfailaaGreatDoor
open Go.RowKit Go.Joins
def ev (sl : Nm → Value) : Fls → List Value
 | [] => []
 | x :: r => .string x.1 :: sl x.1 :: .int .i64 (x.2.safe : Int) :: ev sl r
theorem ev_len (sl : Nm → Value) (l : Fls) : (ev sl l).length = l.length * 3 := by
 induction l with
 | nil => rfl
 | cons x r ih => simp only [ev, List.length_cons, ih]; omega
theorem ev_app (sl : Nm → Value) (a b : Fls) : ev sl (a ++ b) = ev sl a ++ ev sl b := by
 induction a with
 | nil => rfl
 | cons x r ih => simp only [List.cons_append, ev, ih]
theorem ev_get (sl : Nm → Value) (l : Fls) (i : Nat) (x : Nm × Fle) (h : l[i]? = some x) : (ev sl l)[i * 3]? = some (.string x.1) ∧ (ev sl l)[i * 3 + 1]? = some (sl x.1) ∧ (ev sl l)[i * 3 + 2]? = some (.int .i64 (x.2.safe : Int)) := by
 induction l generalizing i with
 | nil => simp at h
 | cons y r ih =>
  cases i with
  | zero =>
   simp only [List.getElem?_cons_zero, Option.some.injEq] at h
   subst h
   exact ⟨rfl, rfl, rfl⟩
  | succ i =>
   rw [List.getElem?_cons_succ] at h
   have := ih i h
   have e1 : (i + 1) * 3 = i * 3 + 3 := by omega
   have e2 : (i + 1) * 3 + 1 = i * 3 + 1 + 3 := by omega
   have e3 : (i + 1) * 3 + 2 = i * 3 + 2 + 3 := by omega
   rw [e2, e3, e1]
   exact this
theorem ev_congr {sl sl' : Nm → Value} {l : Fls} (h : ∀ x ∈ l, sl x.1 = sl' x.1) : ev sl l = ev sl' l := by
 induction l with
 | nil => rfl
 | cons x r ih =>
  unfold ev
  rw [h x (List.mem_cons_self ..), ih (fun y hy => h y (List.mem_cons_of_mem _ hy))]
def leftK (k : Dk) : Int := match k.fu with | none => -1 | some n => (n : Int)
def rcsR (k : Dk) (v : Value) : Array Value := #[v, .int .i64 (k.room : Int), .int .i64 (k.steps : Int), .bool k.off, .int .i64 (leftK k)]
def Lies (w : World) (G : Nat → Prop) (v : Value) (f : Fle) : Prop := w.ownsRow 0 5 1 v f.b.length (bc f.b) ∧ ∀ g, v.ownBlock = some g → G g
structure RefAt (w : World) (G : Nat → Prop) (rd : Nat) (k : Dk) : Prop where
 ex : ∃ v sl, w.heap[rd]? = some (.cells (rcsR k v) 93 (0, 0)) ∧ w.ownsRow 0 113 3 v k.fs.length (ev sl k.fs) ∧ (∀ g, v.ownBlock = some g → G g) ∧ (∀ x ∈ k.fs, Lies w G (sl x.1) x.2) ∧ (∀ s, ∃ a n c, sl s = .slice a n c)
 grd : G rd
 lt : ∀ i, G i → i < w.heap.size
 good : k.Good
theorem Lies.keep {S G G' : Nat → Prop} {w w' : World} {v : Value} {f : Fle} (h : Lies w G v f) (hk : Keep S w w') (hs : ∀ i, v.ownBlock = some i → ¬ S i) (hG : ∀ i, G i → G' i) : Lies w' G' v f :=
 ⟨own_keep h.1 hk hs, fun g hg => hG g (h.2 g hg)⟩
theorem own_blk {w : World} {B sz n : Nat} {t : TypeId} {v : Value} {xs : List Value} (h : w.ownsRow B t sz v n xs) {g : Nat} (hg : v.ownBlock = some g) : ∃ cur, w.heap[g]? = some (.cells cur t (0, 0)) := by
 rcases h.2 with ⟨h1, _⟩ | ⟨g', cap, cur, h1, _, h2, _⟩
 ·rw [h1] at hg; cases hg
 ·rw [h1] at hg
  have : g' = g := by simpa [Value.ownBlock] using hg
  subst this
  exact ⟨cur, h2⟩
theorem RefAt.keep {S G : Nat → Prop} {w w' : World} {rd : Nat} {k : Dk} (h : RefAt w G rd k) (hk : Keep S w w') (hs : ∀ i, G i → ¬ S i) : RefAt w' G rd k := by
 obtain ⟨⟨v, sl, h1, h2, h3, h4, h5⟩, h6, h7, h8⟩ := h
 exact ⟨⟨v, sl, box_keep h1 hk (hs _ h6), own_keep h2 hk (fun g hg => hs g (h3 g hg)), h3, fun x hx => (h4 x hx).keep hk (fun g hg => hs g ((h4 x hx).2 g hg)) (fun _ h => h), h5⟩, h6, fun i hi => Nat.lt_of_lt_of_le (h7 i hi) hk.size, h8⟩
theorem RefAt.below {G : Nat → Prop} {w w' : World} {rd : Nat} {k : Dk} (h : RefAt w G rd k) (hb : Below w.heap.size w w') : RefAt w' G rd k := h.keep (S := fun _ => False) (Keep.ofBelow hb) (fun _ _ h => h)
def Rp (w : World) (G : Nat → Prop) (rd : Nat) (k' : Dk) (w' : World) : Prop := ∃ G', RefAt w' G' rd k' ∧ Keep G w w' ∧ (∀ i, G' i → G i ∨ w.heap.size ≤ i)
theorem Rp.refl {w : World} {G : Nat → Prop} {d : Nat} {k : Dk} (h : RefAt w G d k) : Rp w G d k w := ⟨G, h, Keep.refl _ _, fun _ h => Or.inl h⟩
theorem Rp.ofBelow {w w' : World} {G : Nat → Prop} {d : Nat} {k : Dk} (h : RefAt w G d k) (hb : Below w.heap.size w w') : Rp w G d k w' := ⟨G, h.below hb, Keep.ofBelow hb, fun _ h => Or.inl h⟩
theorem Rp.next {w w1 w2 : World} {F F1 : Nat → Prop} {d : Nat} {k2 : Dk} (kp1 : Keep F w w1) (e1 : ∀ i, F1 i → F i ∨ w.heap.size ≤ i) (h : Rp w1 F1 d k2 w2) : Rp w F d k2 w2 := by
 obtain ⟨F2, h2, kp2, e2⟩ := h
 refine ⟨F2, h2, kp1.andThen kp2 (fun i hi hF => (e1 i hF).elim id (fun h => absurd h (by omega))), fun i hi => ?_⟩
 rcases e2 i hi with h | h
 ·exact e1 i h
 ·exact Or.inr (Nat.le_trans kp1.size h)
theorem row3 {w : World} {B : Nat} {v : Value} {l : Fls} {sl : Nm → Value} (h : w.ownsRow B 113 3 v l.length (ev sl l)) (hl : 0 < l.length) : ∃ g cap, v = .slice (some ⟨g, 0, none⟩) l.length cap ∧ l.length ≤ cap ∧ cap ≤ 9223372036854775807 ∧ (∀ i x, l[i]? = some x → w.cell? ⟨g, i * 3, none⟩ = some (.string x.1) ∧ w.cell? ⟨g, i * 3 + 1, none⟩ = some (sl x.1) ∧ w.cell? ⟨g, i * 3 + 2, none⟩ = some (.int .i64 (x.2.safe : Int))) := by
 rcases h.2 with ⟨_, h0⟩ | ⟨g, cap, cur, hv, _, hb, hn, hc, _, _⟩
 ·omega
 ·refine ⟨g, cap, hv, hn, by unfold maxLen at hc; omega, fun i x hx => ?_⟩
  subst hv
  obtain ⟨e1, e2, e3⟩ := ev_get sl l i x hx
  have c1 := h.cells (g := g) rfl _ _ e1
  have c2 := h.cells (g := g) rfl _ _ e2
  have c3 := h.cells (g := g) rfl _ _ e3
  rw [add_flat, Nat.zero_add] at c1 c2 c3
  exact ⟨c1, c2, c3⟩
theorem row_form {w : World} {B : Nat} {v : Value} {n : Nat} {xs : List Value} (h : w.ownsRow B 113 3 v n xs) : ∃ a c, v = .slice a n c ∧ n ≤ 9223372036854775807 := by
 rcases h.2 with ⟨rfl, rfl⟩ | ⟨g, cap, cur, rfl, _, _, h1, h2, _⟩
 ·exact ⟨none, 0, rfl, by omega⟩
 ·exact ⟨_, _, rfl, by unfold maxLen at h2; omega⟩
theorem Rd.ofRowE {w : World} {B : Nat} {v : Value} {n : Nat} {xs : List Int} (h : w.ownsRow B 5 1 v n (bc xs)) : ∃ a c, v = .slice a n c ∧ n ≤ 9223372036854775807 := by
 rcases h.2 with ⟨rfl, rfl⟩ | ⟨g, cap, cur, rfl, _, _, h1, h2, _⟩
 ·exact ⟨none, 0, rfl, by omega⟩
 ·exact ⟨_, _, rfl, by unfold maxLen at h2; omega⟩
def ixL : Fls → Nm → Nat → Int
 | [], _, _ => -1
 | x :: r, s, i => if x.1 = s then (i : Int) else ixL r s (i + 1)
theorem ixL_none {l : Fls} {s : Nm} (h : look l s = none) (i : Nat) : ixL l s i = -1 := by
 induction l generalizing i with
 | nil => rfl
 | cons q r ih =>
  obtain ⟨n, g⟩ := q
  unfold look at h
  split at h
  ·cases h
  ·rename_i e
   unfold ixL
   rw [if_neg e]
   exact ih h _
theorem ixL_some {l : Fls} {s : Nm} {f : Fle} (h : look l s = some f) (i : Nat) : ∃ j : Nat, ixL l s i = ((i + j : Nat) : Int) ∧ l[j]? = some (s, f) ∧ j < l.length := by
 induction l generalizing i with
 | nil => cases h
 | cons q r ih =>
  obtain ⟨n, g⟩ := q
  unfold look at h
  split at h
  ·rename_i e
   cases h
   subst e
   exact ⟨0, by unfold ixL; rw [if_pos rfl]; simp, rfl, by simp⟩
  ·rename_i e
   obtain ⟨j, h1, h2, h3⟩ := ih h (i + 1)
   refine ⟨j + 1, ?_, h2, by simp; omega⟩
   unfold ixL
   rw [if_neg e, h1]
   congr 1
   omega
theorem ix_drop {l : Fls} {i : Nat} {x : Nm × Fle} (h : l[i]? = some x) (s : Nm) : ixL (l.drop i) s i = if x.1 = s then (i : Int) else ixL (l.drop (i + 1)) s (i + 1) := by
 have hi : i < l.length := (List.getElem?_eq_some_iff.1 h).1
 have hx : l[i] = x := (List.getElem?_eq_some_iff.1 h).2
 rw [List.drop_eq_getElem_cons hi, hx]
 rfl
theorem nm_neq {a b : Nm} (h : ¬ a = b) : (a.toList == b.toList) = false := by
 rw [beq_eq_false_iff_ne, ByteArray.toList_eq, ByteArray.toList_eq]
 exact fun e => h (nm_ext e)
theorem nm_eq (a : Nm) : (a.toList == a.toList) = true := by simp
set_option maxRecDepth 100000 in
set_option maxHeartbeats 2000000 in
theorem at_any (rd : Nat) (G : Nat → Prop) (k : Dk) (s : Nm) (w : World) (hR : RefAt w G rd k) :
  Calls Tryz.prog 57 #[.pointer (some ⟨rd, 0, none⟩), .string s] w fun e w' => e = .returned (.int .i64 (ixL k.fs s 0)) ∧ w' = w := by
 obtain ⟨⟨v, sl, hblk, hrow, _, _, _⟩, _, _, _⟩ := hR
 have q0 : w.cell? ⟨rd, 0, none⟩ = some v := by rw [cell_of_block hblk]; rfl
 obtain ⟨va, vc, rfl, hvl⟩ := row_form hrow
 obtain ⟨N, HN⟩ : ∃ N, Hid (k.fs.length = N) := ⟨_, rfl⟩
 rw [HN.out] at q0 hvl
 have HR : Hid (w.ownsRow 0 113 3 (.slice va k.fs.length vc) k.fs.length (ev sl k.fs)) := hrow
 obtain ⟨I, HI⟩ : ∃ I, Hid (ixL k.fs s 0 = I) := ⟨_, rfl⟩
 rw [HI.out]
 clear hrow hblk
 go_enter Tryz.func57, Tryz.ntmps57
 go_wp2_with fail
 go_loopw [5] (fun s5 wr => ∃ i : Nat, i ≤ N ∧ s5 = .int .i64 i ∧ Hid (ixL (k.fs.drop i) s i = I) ∧ wr = w) (fun s5 _ => N - (intOf s5).toNat)
 case atStart => exact ⟨0, by omega, rfl, HI.out, rfl⟩
 case round =>
  obtain ⟨i, hi, rfl, HX, hw⟩ := hrel
  replace hw := hw.symm
  subst hw
  by_cases hlt : i < N
  ·have hcl : (i : Int) < (N : Int) := by omega
   have hpos : 0 < k.fs.length := by rw [HN.out]; omega
   obtain ⟨g, cap, e, hcap, hcm, hcs⟩ := row3 HR.out hpos
   cases e
   rw [HN.out] at hcap
   obtain ⟨x, hx⟩ : ∃ x, k.fs[i]? = some x := ⟨_, List.getElem?_eq_getElem (by rw [HN.out]; exact hlt)⟩
   have hc := (hcs i x hx).1
   have hX := HX.out
   rw [ix_drop hx] at hX
   clear hcs
   by_cases hxs : x.1 = s
   ·rw [if_pos hxs] at hX
    subst hX
    rw [hxs] at hc
    clear hxs HX
    go_wp2
    go_ret
    exact ⟨rfl, rfl⟩
   ·rw [if_neg hxs] at hX
    have hne := nm_neq hxs
    have HX2 : Hid (ixL (k.fs.drop (i + 1)) s (i + 1) = I) := hX
    clear hX HX
    go_wp2
    exact ⟨⟨i + 1, by omega, by go_num, HX2, trivial⟩, by simp [intOf]; omega⟩
  ·obtain rfl : i = N := by omega
   have hcl : ¬ (i : Int) < (i : Int) := by omega
   have hX := HX.out
   rw [List.drop_eq_nil_of_le (by rw [HN.out]; exact Nat.le_refl _)] at hX
   have hI : I = -1 := hX.symm
   subst hI
   clear HX hX
   go_wp2
   go_ret
   exact ⟨rfl, rfl⟩
theorem okc_cases (c : UInt8) : (okc c = true ∧ ((97 ≤ c.toNat ∧ c.toNat ≤ 122) ∨ (48 ≤ c.toNat ∧ c.toNat ≤ 57) ∨ c.toNat = 46 ∨ c.toNat = 45)) ∨ (okc c = false ∧ (122 < c.toNat ∨ (57 < c.toNat ∧ c.toNat < 97) ∨ (c.toNat < 48 ∧ c.toNat ≠ 46 ∧ c.toNat ≠ 45))) := by
 unfold okc
 by_cases h : (97 ≤ c.toNat ∧ c.toNat ≤ 122) ∨ (48 ≤ c.toNat ∧ c.toNat ≤ 57) ∨ c.toNat = 46 ∨ c.toNat = 45
 ·left
  refine ⟨?_, h⟩
  simp only [Bool.or_eq_true, Bool.and_eq_true, decide_eq_true_eq]
  omega
 ·right
  refine ⟨?_, by omega⟩
  rw [Bool.eq_false_iff]
  simp only [ne_eq, Bool.or_eq_true, Bool.and_eq_true, decide_eq_true_eq]
  omega
set_option maxRecDepth 100000 in
set_option maxHeartbeats 4000000 in
theorem right_any (s : Nm) (hs : s.size ≤ 9223372036854775807) (w : World) : Calls Tryz.prog 93 #[.string s] w fun e w' => e = .returned (.bool (isNm s)) ∧ w' = w := by
 obtain ⟨N, HN⟩ : ∃ N, Hid (s.size = N) := ⟨_, rfl⟩
 have hsN : s.size = N := HN.out
 obtain ⟨R, HRr⟩ : ∃ R, Hid (isNm s = R) := ⟨_, rfl⟩
 rw [HRr.out]
 go_enter Tryz.func93, Tryz.ntmps93
 go_wp2_with fail
 go_loopw [3, 4] (fun s3 _ wr => ∃ i : Nat, i ≤ N ∧ s3 = .int .i64 i ∧ Hid (s.data.toList.all okc = (s.data.toList.drop i).all okc) ∧ wr = w) (fun s3 _ _ => N - (intOf s3).toNat)
 case atStart => exact ⟨0, by omega, rfl, rfl, rfl⟩
 case round =>
  obtain ⟨i, hi, rfl, HX, hw⟩ := hrel
  replace hw := hw.symm
  subst hw
  by_cases hlt : i < N
  ·have hcl : (i : Int) < (N : Int) := by omega
   have his : i < s.size := by omega
   have hX := HX.out
   rw [get_list s i his, List.all_cons] at hX
   have hok := okc_cases s[i]
   have hix : (Instr.index 9 (.string s) (.int .i64 (i : Int))).run Tryz.prog w = .ok (.int .u8 (s[i].toNat : Int)) w := by
    rw [run_index_string w 9 s .i64 (i : Int) Tryz.underlying9, dif_pos ⟨by omega, by omega⟩]
    rfl
   obtain ⟨c, hc⟩ : ∃ c, s[i].toNat = c := ⟨_, rfl⟩
   rw [hc] at hok hix
   clear hc HX
   rcases hok with ⟨ho, h | h | h | h⟩ | ⟨ho, h | h | h⟩
   ·rw [ho] at hX
    have q0 : 97 ≤ (c : Int) := by omega
    have q1 : (c : Int) ≤ 122 := by omega
    rw [Bool.true_and] at hX
    have HX2 : Hid (s.data.toList.all okc = (s.data.toList.drop (i + 1)).all okc) := hX
    clear h ho hX
    go_wp2
    exact ⟨⟨i + 1, by omega, by go_num, HX2, trivial⟩, by simp [intOf]; omega⟩
   ·rw [ho] at hX
    have q0 : ¬ 97 ≤ (c : Int) := by omega
    have q1 : 48 ≤ (c : Int) := by omega
    have q2 : (c : Int) ≤ 57 := by omega
    rw [Bool.true_and] at hX
    have HX2 : Hid (s.data.toList.all okc = (s.data.toList.drop (i + 1)).all okc) := hX
    clear h ho hX
    go_wp2
    exact ⟨⟨i + 1, by omega, by go_num, HX2, trivial⟩, by simp [intOf]; omega⟩
   ·rw [ho] at hX
    have q0 : ¬ 97 ≤ (c : Int) := by omega
    have q1 : ¬ 48 ≤ (c : Int) := by omega
    have q2 : ((c : Int) == 46) = true := by simp; omega
    rw [Bool.true_and] at hX
    have HX2 : Hid (s.data.toList.all okc = (s.data.toList.drop (i + 1)).all okc) := hX
    clear h ho hX
    go_wp2
    exact ⟨⟨i + 1, by omega, by go_num, HX2, trivial⟩, by simp [intOf]; omega⟩
   ·rw [ho] at hX
    have q0 : ¬ 97 ≤ (c : Int) := by omega
    have q1 : ¬ 48 ≤ (c : Int) := by omega
    have q2 : ((c : Int) == 46) = false := by simp; omega
    have q3 : ((c : Int) == 45) = true := by simp; omega
    rw [Bool.true_and] at hX
    have HX2 : Hid (s.data.toList.all okc = (s.data.toList.drop (i + 1)).all okc) := hX
    clear h ho hX
    go_wp2
    exact ⟨⟨i + 1, by omega, by go_num, HX2, trivial⟩, by simp [intOf]; omega⟩
   ·rw [ho] at hX
    have q0 : 97 ≤ (c : Int) := by omega
    have q1 : ¬ (c : Int) ≤ 122 := by omega
    have q2 : 48 ≤ (c : Int) := by omega
    have q3 : ¬ (c : Int) ≤ 57 := by omega
    have q4 : ((c : Int) == 46) = false := by simp; omega
    have q5 : ((c : Int) == 45) = false := by simp; omega
    have hnm : R = false := by rw [← HRr.out]; unfold isNm; rw [hX]; simp
    subst hnm
    clear h ho hX
    go_wp2
    go_ret
    exact ⟨rfl, rfl⟩
   ·rw [ho] at hX
    have q0 : ¬ 97 ≤ (c : Int) := by omega
    have q1 : 48 ≤ (c : Int) := by omega
    have q2 : ¬ (c : Int) ≤ 57 := by omega
    have q3 : ((c : Int) == 46) = false := by simp; omega
    have q4 : ((c : Int) == 45) = false := by simp; omega
    have hnm : R = false := by rw [← HRr.out]; unfold isNm; rw [hX]; simp
    subst hnm
    clear h ho hX
    go_wp2
    go_ret
    exact ⟨rfl, rfl⟩
   ·rw [ho] at hX
    have q0 : ¬ 97 ≤ (c : Int) := by omega
    have q1 : ¬ 48 ≤ (c : Int) := by omega
    have q2 : ((c : Int) == 46) = false := by simp; omega
    have q3 : ((c : Int) == 45) = false := by simp; omega
    have hnm : R = false := by rw [← HRr.out]; unfold isNm; rw [hX]; simp
    subst hnm
    clear h ho hX
    go_wp2
    go_ret
    exact ⟨rfl, rfl⟩
  ·obtain rfl : i = N := by omega
   have hcl : ¬ (i : Int) < (i : Int) := by omega
   have hX := HX.out
   rw [List.drop_eq_nil_of_le (by rw [len_bytes]; omega)] at hX
   have hnm : R = (decide (1 ≤ i) && decide (i ≤ 64)) := by rw [← HRr.out]; unfold isNm; rw [hX, HN.out]; simp
   clear HX hX
   by_cases h1 : 1 ≤ i
   ·have h1' : (1 : Int) ≤ (i : Int) := by omega
    rw [decide_eq_true h1] at hnm
    by_cases h2 : i ≤ 64
    ·have h2' : (i : Int) ≤ 64 := by omega
     rw [decide_eq_true h2] at hnm
     subst hnm
     clear h1 h2
     go_wp2
     go_ret
     exact ⟨rfl, rfl⟩
    ·have h2' : ¬ (i : Int) ≤ 64 := by omega
     rw [decide_eq_false h2] at hnm
     subst hnm
     clear h1 h2
     go_wp2
     go_ret
     exact ⟨rfl, rfl⟩
   ·have h1' : ¬ (1 : Int) ≤ (i : Int) := by omega
    rw [decide_eq_false h1] at hnm
    subst hnm
    clear h1
    go_wp2
    go_ret
    exact ⟨rfl, rfl⟩
theorem power_any (rd : Nat) (G : Nat → Prop) (k : Dk) (hs : k.steps < 1000000) (w : World) (hR : RefAt w G rd k) :
  Calls Tryz.prog 56 #[.pointer (some ⟨rd, 0, none⟩)] w fun e w' => e = .returned (.int .i64 ((passK k).1 : Int)) ∧ Rp w G rd (passK k).2 w' := by
 have hg2 := good_pass hR.good
 have hfs := pass_fs k
 obtain ⟨⟨v, sl, hblk, hrow, hvG, hlies, hslv⟩, hGrd, hlt, hg⟩ := hR
 have fin : ∀ w' k1, k1.fs = k.fs → k1.Good → w'.heap[rd]? = some (.cells (rcsR k1 v) 93 (0, 0)) → Keep (fun i => i = rd) w w' → Rp w G rd k1 w' := fun w' k1 e1 g1 hb1 hk1 => by
  refine ⟨G, ⟨⟨v, sl, hb1, ?_, hvG, ?_, hslv⟩, hGrd, fun i hi => Nat.lt_of_lt_of_le (hlt i hi) hk1.size, g1⟩, hk1.mono (fun i e => by subst e; exact hGrd), fun _ h => Or.inl h⟩
  ·rw [e1]
   refine own_keep hrow hk1 (fun g hg e => ?_)
   obtain ⟨cur, h2⟩ := own_blk hrow hg
   subst e
   rw [hblk] at h2
   cases h2
  ·rw [e1]
   intro x hx
   refine (hlies x hx).keep hk1 (fun g hg e => ?_) (fun _ h => h)
   obtain ⟨cur, h2⟩ := own_blk (hlies x hx).1 hg
   subst e
   rw [hblk] at h2
   cases h2
 have q2 : w.cell? ⟨rd, 2, none⟩ = some (.int .i64 (k.steps : Int)) := by rw [cell_of_block hblk]; rfl
 have q3 : w.cell? ⟨rd, 3, none⟩ = some (.bool k.off) := by rw [cell_of_block hblk]; rfl
 have q4 : w.cell? ⟨rd, 4, none⟩ = some (.int .i64 (leftK k)) := by rw [cell_of_block hblk]; rfl
 have z2 := unfrozen_of_block hblk 2
 have z3 := unfrozen_of_block hblk 3
 have z4 := unfrozen_of_block hblk 4
 have hws : wrap64 ((k.steps : Int) + 1) = (k.steps : Int) + 1 := by unfold wrap64; omega
 clear hrow hlies hslv
 cases hf : k.fu with
 | none =>
  have e : passK k = (0, { k with steps := k.steps + 1 }) := by unfold passK; rw [hf]
  rw [e] at hg2 hfs ⊢
  have hl : leftK k = -1 := by unfold leftK; rw [hf]
  rw [hl] at q4
  have HFu : Hid (k.fu = none) := hf
  clear hf hl hg hfs
  have hb' := block_setCell (i := 2) hblk (.int .i64 ((k.steps : Int) + 1))
  clear hblk
  go_enter Tryz.func56, Tryz.ntmps56
  go_wp2
  go_ret
  refine ⟨rfl, fin _ _ rfl hg2 ?_ ((Keep.refl (fun i => i = rd) w).setCell (p := ⟨rd, 2, none⟩) rfl _)⟩
  rw [hb']
  simp [rcsR, leftK, HFu.out]
 | some n =>
  have hn := hg.fu n hf
  cases n with
  | zero =>
   have e : passK k = (13, { k with off := true }) := by unfold passK; rw [hf]
   rw [e] at hg2 hfs ⊢
   have hl : leftK k = 0 := by unfold leftK; rw [hf]; rfl
   rw [hl] at q4
   have HFu : Hid (k.fu = some 0) := hf
   clear hf hl hg hfs
   have hb' := block_setCell (i := 3) hblk (.bool true)
   clear hblk
   go_enter Tryz.func56, Tryz.ntmps56
   go_wp2
   go_ret
   refine ⟨rfl, fin _ _ rfl hg2 ?_ ((Keep.refl (fun i => i = rd) w).setCell (p := ⟨rd, 3, none⟩) rfl _)⟩
   rw [hb']
   simp [rcsR, leftK, HFu.out]
  | succ n =>
   have e : passK k = (0, { k with steps := k.steps + 1, fu := some n }) := by unfold passK; rw [hf]
   rw [e] at hg2 hfs ⊢
   have hl : leftK k = (n : Int) + 1 := by unfold leftK; rw [hf]; rfl
   rw [hl] at q4
   clear hf hl hg hfs
   have hc0 : ((n : Int) + 1 == 0) = false := by simp; omega
   have hc1 : decide ((0 : Int) < (n : Int) + 1) = true := by simp only [decide_eq_true_eq]; omega
   have hc2 : (0 : Int) < (n : Int) + 1 := by omega
   have hwl : wrap64 ((n : Int) + 1 - 1) = (n : Int) := by unfold wrap64; omega
   have hb1 := block_setCell (i := 4) hblk (.int .i64 (n : Int))
   have hb2 := block_setCell (i := 2) hb1 (.int .i64 ((k.steps : Int) + 1))
   have p2 : (w.setCell ⟨rd, 4, none⟩ (.int .i64 (n : Int))).cell? ⟨rd, 2, none⟩ = some (.int .i64 (k.steps : Int)) := by rw [cell_of_block hb1]; rfl
   have y2 := unfrozen_of_block hb1 2
   clear hblk hb1
   go_enter Tryz.func56, Tryz.ntmps56
   go_wp2
   go_ret
   refine ⟨rfl, fin _ _ rfl hg2 ?_ (((Keep.refl (fun i => i = rd) w).setCell (p := ⟨rd, 4, none⟩) rfl _).setCell (p := ⟨rd, 2, none⟩) rfl _)⟩
   rw [hb2]
   simp [rcsR, leftK]
set_option maxRecDepth 100000 in
set_option maxHeartbeats 2000000 in
theorem refUsed_any (rd : Nat) (G : Nat → Prop) (k : Dk) (w : World) (hR : RefAt w G rd k) :
  Calls Tryz.prog 44 #[.pointer (some ⟨rd, 0, none⟩)] w fun e w' => e = .returned (.int .i64 (used k.fs : Int)) ∧ w' = w := by
 have hroom := hR.good.room
 have husd := hR.good.used
 obtain ⟨⟨v, sl, hblk, hrow, _, hlies, _⟩, _, _, _⟩ := hR
 have q0 : w.cell? ⟨rd, 0, none⟩ = some v := by rw [cell_of_block hblk]; rfl
 obtain ⟨va, vc, rfl, hvl⟩ := row_form hrow
 obtain ⟨N, HN⟩ : ∃ N, Hid (k.fs.length = N) := ⟨_, rfl⟩
 rw [HN.out] at q0 hvl
 have HR : Hid (w.ownsRow 0 113 3 (.slice va k.fs.length vc) k.fs.length (ev sl k.fs)) := hrow
 have HLi : Hid (∀ x ∈ k.fs, Lies w G (sl x.1) x.2) := hlies
 obtain ⟨U, HU⟩ : ∃ U, Hid (used k.fs = U) := ⟨_, rfl⟩
 rw [HU.out] at husd ⊢
 clear hrow hblk hlies
 go_enter Tryz.func44, Tryz.ntmps44
 go_wp2_with fail
 go_loopw [3, 4] (fun s3 s4 wr => ∃ i u : Nat, i ≤ N ∧ s4 = .int .i64 i ∧ s3 = .int .i64 u ∧ Hid (u + used (k.fs.drop i) = U) ∧ wr = w) (fun _ s4 _ => N - (intOf s4).toNat)
 case atStart => exact ⟨0, 0, by omega, rfl, rfl, by show 0 + used (k.fs.drop 0) = U; rw [Nat.zero_add, List.drop_zero]; exact HU.out, rfl⟩
 case round =>
  obtain ⟨i, u, hi, rfl, rfl, HX, hw⟩ := hrel
  replace hw := hw.symm
  subst hw
  by_cases hlt : i < N
  ·have hcl : (i : Int) < (N : Int) := by omega
   have hpos : 0 < k.fs.length := by rw [HN.out]; omega
   obtain ⟨g, cap, e, hcap, hcm, hcs⟩ := row3 HR.out hpos
   cases e
   rw [HN.out] at hcap
   have hil : i < k.fs.length := by rw [HN.out]; exact hlt
   obtain ⟨x, hx⟩ : ∃ x, k.fs[i]? = some x := ⟨_, List.getElem?_eq_getElem hil⟩
   have hc := (hcs i x hx).2.1
   obtain ⟨aj, cj, hv⟩ : ∃ a c, sl x.1 = .slice a x.2.b.length c := by
    obtain ⟨a, c, hv, _⟩ := Rd.ofRowE (HLi.out x (List.mem_of_getElem? hx)).1
    exact ⟨a, c, hv⟩
   rw [hv] at hc
   have hX := HX.out
   rw [List.drop_eq_getElem_cons hil, (List.getElem?_eq_some_iff.1 hx).2] at hX
   obtain ⟨lx, hlx⟩ : ∃ lx, x.2.b.length = lx := ⟨_, rfl⟩
   have hX2 : u + (lx + used (k.fs.drop (i + 1))) = U := by rw [← hlx]; exact hX
   rw [hlx] at hc
   have hlen1 := fun w => len_slice aj lx cj 29 3 w Tryz.underlying29
   have hw2 : wrap64 ((u : Int) + (lx : Int)) = (u : Int) + (lx : Int) := by unfold wrap64; omega
   have HX2 : Hid (u + lx + used (k.fs.drop (i + 1)) = U) := by show _ = _; omega
   clear hcs hX HX hv hlx hX2
   go_wp2
   exact ⟨⟨i + 1, u + lx, by omega, by go_num, by go_num, HX2, trivial⟩, by simp [intOf]; omega⟩
  ·obtain rfl : i = N := by omega
   have hcl : ¬ (i : Int) < (i : Int) := by omega
   have hX := HX.out
   rw [List.drop_eq_nil_of_le (by rw [HN.out]; exact Nat.le_refl _)] at hX
   have hI : U = u := by have : u + 0 = U := hX; omega
   subst hI
   clear HX hX
   go_wp2
   go_ret
   exact ⟨rfl, rfl⟩
end Go.Proofs.YtikkieaokfailaaGreatDoor

namespace Go.Proofs.YtikkieaokfailaaGreatDoor
open Go.RowKit Go.Joins
theorem exec_appJ {w w' : World} {o : Oper} {ρ : Operand → Value} {s x : Operand} {v u v' : Value} (ho : o.op = .call { callee := .builtin .append, args := #[s, x], argTypes := #[29, 29] }) (hs : ρ s = v) (hx : ρ x = u)
  (hrun : (Builtin.append_ #[29, 29] o.type #[v, u]).run Tryz.prog w = .ok v' w') : (execOp ρ o).run Tryz.prog w = .ok (.value v') w' := by
 simp only [execOp, ho, resolve, invoke, builtin, Sem.run_bind, Sem.run_pure, Result.andThen_ok, List.map_toArray, List.map_cons, List.map_nil, hs, hx, hrun]
theorem run_appJ {w : World} (ty : TypeId) {base : Nat} {v : Value} {n : Nat} {xs : List Int} (hown : w.ownsRow base 5 1 v n (bc xs)) {ao : Option Addr} {m c : Nat} {ys : List Int} (hr : Rd w ao m c ys) (hb : n + m ≤ 1000000000) (hbase : base ≤ w.heap.size) :
  ∃ v' w', (Builtin.append_ #[29, 29] ty #[v, .slice ao m c]).run Tryz.prog w = .ok v' w' ∧ w'.ownsRow base 5 1 v' (n + m) (bc (xs ++ ys)) ∧ Below base w w' := by
 obtain ⟨i0, hi, hz0, hz1, hz2⟩ := info_parts Tryz.info5
 cases ao with
 | none =>
  obtain ⟨rfl, rfl⟩ := rd_noneK hr rfl
  have hys : ys = [] := List.eq_nil_of_length_eq_zero hr.len
  subst hys
  exact ⟨v, w, run_append_owned_none w base 29 ty 5 i0 1 Tryz.underlying29 hi v n (bc xs) hown, by simpa using hown, Below.refl _ _⟩
 | some ad =>
  obtain ⟨v', w', hrun, h2, h3, _⟩ := run_append_own (P := Tryz.prog) w base 29 ty 5 i0 (.int .u8 0) 1 1 Tryz.underlying29 hi hz0 hz1 hz2 rfl (by decide) v n (bc xs) hown ad m c (bc ys) (by rw [bc_len, hr.len]; omega) (hr.news rfl) (bc_one ys) (by unfold maxLen; omega) (by omega) hbase
  rw [← bc_append] at h2
  exact ⟨v', w', hrun, h2, (Below.refl _ _).grown h3 hbase (fun k hk => (hown.lt k hk).1)⟩
theorem refNew_ok (room : Nat) (h : room ≤ 16777216) (w : World) : Calls Tryz.prog 15 #[.int .i64 (room : Int)] w fun e w' => ∃ d, e = .returned (.tuple #[.pointer (some ⟨d, 0, none⟩), .bool true]) ∧ (∃ G, RefAt w' G d (newK room) ∧ ∀ i, G i → w.heap.size ≤ i) ∧ Below w.heap.size w w' := by
 have h1 : ¬ (room : Int) < 0 := by omega
 have h2 : ¬ 16777216 < (room : Int) := by omega
 go_enter Tryz.func15, Tryz.ntmps15
 go_wp2
 go_ret2
 have hB : Below w.heap.size w (w.alloc (.cells (rcsR (newK room) (.slice none 0 0)) 93)) := (Below.refl _ _).alloc (Nat.le_refl _) _
 refine ⟨w.heap.size, rfl, ⟨fun i => i = w.heap.size, ⟨⟨.slice none 0 0, fun _ => .slice none 0 0, alloc_at w _, ⟨rfl, Or.inl ⟨rfl, rfl⟩⟩, (fun g hg => by cases hg), (fun x hx => by cases hx), fun s => ⟨none, 0, 0, rfl⟩⟩, rfl, fun i hi => ?_, newK_good h⟩, fun i hi => by omega⟩, hB⟩
 subst hi
 show w.heap.size < (w.alloc (.cells (rcsR (newK room) (.slice none 0 0)) 93)).heap.size
 simp
def firstK (k : Dk) (s : Nm) (must : Bool) : Nat := if k.off then 13 else if isNm s = false then 4 else if must = true ∧ look k.fs s = none then 7 else 0
theorem first_any (rd : Nat) (G : Nat → Prop) (k : Dk) (s : Nm) (hs : s.size ≤ 9223372036854775807) (must : Bool) (w : World) (hR : RefAt w G rd k) :
  Calls Tryz.prog 55 #[.pointer (some ⟨rd, 0, none⟩), .string s, .bool must] w fun e w' => e = .returned (.int .i64 (firstK k s must : Int)) ∧ w' = w := by
 have hA := at_any rd G k s w hR
 have hRt := right_any s hs w
 obtain ⟨⟨v, sl, hblk, _⟩, _, _, _⟩ := hR
 have q3 : w.cell? ⟨rd, 3, none⟩ = some (.bool k.off) := by rw [cell_of_block hblk]; rfl
 clear hblk
 unfold firstK
 cases on : k.off with
 | true =>
  rw [on] at q3
  rw [if_pos rfl]
  clear on
  go_enter Tryz.func55, Tryz.ntmps55
  go_wp2
  go_ret
  exact ⟨rfl, rfl⟩
 | false =>
  rw [on] at q3
  rw [if_neg (by decide)]
  clear on
  cases hn : isNm s with
  | false =>
   rw [hn] at hRt
   rw [if_pos rfl]
   clear hn
   go_enter Tryz.func55, Tryz.ntmps55
   go_wp2_with (first
    | (go_at_call 93; refine hRt.mono ?_; rintro e w1 ⟨rfl, rfl⟩))
   go_ret
   exact ⟨rfl, rfl⟩
  | true =>
   rw [hn] at hRt
   rw [if_neg (by decide)]
   clear hn
   cases must with
   | false =>
    rw [if_neg (by simp)]
    go_enter Tryz.func55, Tryz.ntmps55
    go_wp2_with (first
     | (go_at_call 93; refine hRt.mono ?_; rintro e w1 ⟨rfl, rfl⟩))
    go_ret
    exact ⟨rfl, rfl⟩
   | true =>
    cases hl : look k.fs s with
    | none =>
     rw [if_pos ⟨rfl, rfl⟩]
     rw [ixL_none hl] at hA
     clear hl
     go_enter Tryz.func55, Tryz.ntmps55
     go_wp2_with (first
      | (go_at_call 93; refine hRt.mono ?_; rintro e w1 ⟨rfl, rfl⟩)
      | (go_at_call 57; refine hA.mono ?_; rintro e w2 ⟨rfl, rfl⟩))
     go_ret
     exact ⟨rfl, rfl⟩
    | some f =>
     rw [if_neg (by simp)]
     obtain ⟨j, hj, _, _⟩ := ixL_some hl 0
     rw [hj, Nat.zero_add] at hA
     clear hl hj
     have hjn : ¬ (j : Int) < 0 := by omega
     go_enter Tryz.func55, Tryz.ntmps55
     go_wp2_with (first
      | (go_at_call 93; refine hRt.mono ?_; rintro e w1 ⟨rfl, rfl⟩)
      | (go_at_call 57; refine hA.mono ?_; rintro e w2 ⟨rfl, rfl⟩))
     go_ret
     exact ⟨rfl, rfl⟩
theorem readK_first (k : Dk) (s : Nm) : (∃ f, firstK k s true = 0 ∧ k.off = false ∧ look k.fs s = some f ∧ readK k s = (0, f.b)) ∨ (firstK k s true ≠ 0 ∧ readK k s = (firstK k s true, [])) := by
 unfold firstK readK
 cases on : k.off with
 | true => right; simp
 | false =>
  cases hn : isNm s with
  | false => right; simp
  | true =>
   cases hl : look k.fs s with
   | none => right; simp
   | some f => left; exact ⟨f, by simp, rfl, rfl, by simp⟩
set_option maxRecDepth 100000 in
set_option maxHeartbeats 2000000 in
theorem refRead_any (rd : Nat) (G : Nat → Prop) (k : Dk) (s : Nm) (hs : s.size ≤ 9223372036854775807) (w : World) (hR : RefAt w G rd k) :
  Calls Tryz.prog 47 #[.pointer (some ⟨rd, 0, none⟩), .string s] w fun e w' => ∃ v, e = .returned (.tuple #[v, .int .i64 (readK k s).1]) ∧ w'.ownsRow w.heap.size 5 1 v (readK k s).2.length (bc (readK k s).2) ∧ Below w.heap.size w w' := by
 have hF := first_any rd G k s hs true w hR
 rcases readK_first k s with ⟨f, h0, on, hlk, hrd⟩ | ⟨h0, hrd⟩
 ·rw [hrd]
  rw [h0] at hF
  obtain ⟨j, hj, hix, hjl⟩ := ixL_some hlk 0
  rw [Nat.zero_add] at hj
  have hA := fun w hR => at_any rd G k s w hR
  rw [hj] at hA
  obtain ⟨_, _, hbd⟩ := look_good hR.good hlk
  have hfl : f.b.length ≤ 16777216 := Nat.le_trans (used_mem (look_mem hlk)) (Nat.le_trans hR.good.used hR.good.room)
  have hR0 := hR
  obtain ⟨⟨v, sl, hblk, hrow, hvG, hlies, _⟩, _, _, _⟩ := hR
  obtain ⟨g, cap, e, hcap, hcm, hcs⟩ := row3 hrow (by omega)
  subst e
  obtain ⟨_, hcell, _⟩ := hcs j (s, f) hix
  have hli := (hlies (s, f) (look_mem hlk)).1
  obtain ⟨aj, cj, hvj, _⟩ := Rd.ofRowE hli
  dsimp only at hcell hli hvj
  rw [hvj] at hcell hli
  have hRj0 : Rd w aj f.b.length cj f.b := Rd.ofRow hli hbd
  obtain ⟨ln, hln⟩ : ∃ ln, f.b.length = ln := ⟨_, rfl⟩
  obtain ⟨N, hN⟩ : ∃ N, k.fs.length = N := ⟨_, rfl⟩
  have hq0 : w.cell? ⟨rd, 0, none⟩ = some (.slice (some ⟨g, 0, none⟩) N cap) := by rw [cell_of_block hblk, ← hN]; rfl
  rw [hN] at hcap hjl
  rw [hln] at hcell hRj0 hfl ⊢
  clear hcs hrow hblk hvG hlies hvj hli hlk hix hj h0 hln hN
  have hj0 : (0 : Int) ≤ (j : Int) := by omega
  have hjN : (j : Int) < (N : Int) := by omega
  go_enter Tryz.func47, Tryz.ntmps47
  go_upto_region 4 with (first
   | (go_at_call 55; refine hF.mono ?_; rintro e w1 ⟨rfl, rfl⟩))
  refine wp_region_lx (fun w' => Below w1.drew.heap.size w1.drew w') [] 14 (by kernel_rfl) (by kernel_rfl) ?_
  have hwX : Below w1.heap.size w1 w1.drew := (Below.refl _ _).drew
  have hRX := hR0.below hwX
  have hRj : Rd w1.drew aj ln cj f.b := hRj0.carry (Nat.le_refl _) hwX
  have hcB : ∀ w', Below w1.drew.heap.size w1.drew w' → w'.cell? ⟨g, j * 3 + 1, none⟩ = some (.slice aj ln cj) := fun w' hb => (hb.cell (p := ⟨g, j * 3 + 1, none⟩) (World.block_lt_of_cell? w1 _ hcell)).trans hcell
  have hcF : ∀ w', Below w1.drew.heap.size w1.drew w' → w'.cell? ⟨rd, 0, none⟩ = some (.slice (some ⟨g, 0, none⟩) N cap) := fun w' hb => (hb.cell (p := ⟨rd, 0, none⟩) (World.block_lt_of_cell? w1 _ hq0)).trans hq0
  clear hcell hq0 hRj0 hF
  generalize w1.drew = X at *
  have HSX : Below X.heap.size X X := Below.refl _ _
  refine lx_r 1 _ HSX ?_; simp only [lxa, lxb, lxc]
  refine lx_r 2 _ HSX ?_; simp only [lxa, lxb, lxc]
  refine lx_r 3 _ HSX ?_; simp only [lxa, lxb, lxc]
  refine lx_r 4 (.slice (some ⟨g, 0, none⟩) N cap) HSX ?_ (hv := fun w' hS => by have q := hcF _ hS; first | (go_simp; rfl) | go_simp); simp only [lxa, lxb, lxc]
  refine lx_r 5 _ HSX ?_; simp only [lxa, lxb, lxc]
  refine lx_r 6 _ HSX ?_; simp only [lxa, lxb, lxc]
  have hX0 : Below X.heap.size X (X.alloc (.cells #[] 5)) := (Below.refl _ _).alloc (Nat.le_refl _) _
  have hemp : (X.alloc (.cells #[] 5)).ownsRow X.heap.size 5 1 (.slice (some ⟨X.heap.size, 0, none⟩) 0 0) 0 (bc []) := World.ownsRow_made X #[] 0 (Nat.le_refl _) (by unfold maxLen; omega) rfl
  refine lx_two 0 7 (by kernel_rfl) ?_ ?_
  ·refine stepT_val (w' := X.alloc (.cells #[] 5)) (.slice (some ⟨X.heap.size, 0, none⟩) 0 0) rfl rfl rfl ?r0a (fun _ => hX0) ?_
   case r0a => first | (go_simp; rfl) | go_simp
   simp only [lxa, lxb, lxc]
   refine lx_one 7 (by kernel_rfl) (stepT_call 57 ?a7a rfl rfl rfl ?r7a ?_)
   case r7a => first | (go_simp; rfl) | go_simp
   refine (hA _ (hRX.below hX0)).mono ?_
   rintro e w4 ⟨rfl, rfl⟩
   refine ⟨_, rfl, fun _ => hX0, ?_⟩
   simp only [lxa, lxb, lxc]
   refine lx_r 8 (.pointer (some ⟨g, j * 3, none⟩)) hX0 ?_; simp only [lxa, lxb, lxc]
   refine lx_r 9 (.pointer (some ⟨g, j * 3 + 1, none⟩)) hX0 ?_; simp only [lxa, lxb, lxc]
   refine lx_r 10 (.slice aj ln cj) hX0 ?_ (hv := fun w' hS => by have q := hcB _ hS; first | (go_simp; rfl) | go_simp); simp only [lxa, lxb, lxc]
   obtain ⟨v5, w5, hrun5, o5, hb5⟩ := run_appJ 29 hemp (hRj.carry (Nat.le_refl _) hX0) (by omega) hX0.size
   have hb5' := hX0.trans hb5
   refine lx_one 11 (by kernel_rfl) (stepT_val (w' := w5) v5 rfl rfl rfl (exec_appJ rfl rfl rfl hrun5) (fun _ => hb5') ?_)
   simp only [lxa, lxb, lxc]
   rw [Nat.zero_add, List.nil_append] at o5
   obtain ⟨a6, c6, rfl, hn6⟩ := Rd.ofRowE o5
   refine lx_one 12 (by kernel_rfl) (stepT_val (w' := w5) (.slice a6 ln c6) rfl rfl rfl ?r12a (fun _ => hb5') ?_)
   case r12a => first | (go_simp; rfl) | go_simp
   simp only [lxa, lxb, lxc]
   refine lx_one 13 (by kernel_rfl) (stepT_val (w' := w5) (.int .i64 0) rfl rfl rfl ?r13a (fun _ => hb5') ?_)
   case r13a => first | (go_simp; rfl) | go_simp
   simp only [lxa, lxb, lxc]
   refine lx_nil (by kernel_rfl) ?_
   go_wp2
   go_ret2
   exact ⟨_, rfl, own_weak o5 hwX.size, hwX.trans (hb5'.mono hwX.size)⟩
  ·refine stepT_call 57 ?a7b rfl rfl rfl ?r7b ?_
   case r7b => first | (go_simp; rfl) | go_simp
   refine (hA _ hRX).mono ?_
   rintro e w4 ⟨rfl, hw4⟩
   replace hw4 := hw4.symm
   subst hw4
   refine ⟨_, rfl, fun _ => HSX, ?_⟩
   simp only [lxa, lxb, lxc]
   refine lx_r 8 (.pointer (some ⟨g, j * 3, none⟩)) HSX ?_; simp only [lxa, lxb, lxc]
   refine lx_r 9 (.pointer (some ⟨g, j * 3 + 1, none⟩)) HSX ?_; simp only [lxa, lxb, lxc]
   refine lx_r 10 (.slice aj ln cj) HSX ?_ (hv := fun w' hS => by have q := hcB _ hS; first | (go_simp; rfl) | go_simp); simp only [lxa, lxb, lxc]
   refine lx_one 0 (by kernel_rfl) (stepT_val (w' := X.alloc (.cells #[] 5)) (.slice (some ⟨X.heap.size, 0, none⟩) 0 0) rfl rfl rfl ?r0b (fun _ => (Below.refl _ _).alloc (Nat.le_refl _) _) ?_)
   case r0b => first | (go_simp; rfl) | go_simp
   simp only [lxa, lxb, lxc]
   obtain ⟨v5, w5, hrun5, o5, hb5⟩ := run_appJ 29 hemp (hRj.carry (Nat.le_refl _) hX0) (by omega) hX0.size
   have hb5' := hX0.trans hb5
   refine lx_one 11 (by kernel_rfl) (stepT_val (w' := w5) v5 rfl rfl rfl (exec_appJ rfl rfl rfl hrun5) (fun _ => hb5') ?_)
   simp only [lxa, lxb, lxc]
   rw [Nat.zero_add, List.nil_append] at o5
   obtain ⟨a6, c6, rfl, hn6⟩ := Rd.ofRowE o5
   refine lx_one 12 (by kernel_rfl) (stepT_val (w' := w5) (.slice a6 ln c6) rfl rfl rfl ?r12b (fun _ => hb5') ?_)
   case r12b => first | (go_simp; rfl) | go_simp
   simp only [lxa, lxb, lxc]
   refine lx_one 13 (by kernel_rfl) (stepT_val (w' := w5) (.int .i64 0) rfl rfl rfl ?r13b (fun _ => hb5') ?_)
   case r13b => first | (go_simp; rfl) | go_simp
   simp only [lxa, lxb, lxc]
   refine lx_nil (by kernel_rfl) ?_
   go_wp2
   go_ret2
   exact ⟨_, rfl, own_weak o5 hwX.size, hwX.trans (hb5'.mono hwX.size)⟩
 ·rw [hrd]
  obtain ⟨en, hen⟩ : ∃ en, firstK k s true = en := ⟨_, rfl⟩
  rw [hen] at hF h0 ⊢
  have hne : ((en : Int) != 0) = true := by simp; omega
  clear hen hrd
  go_enter Tryz.func47, Tryz.ntmps47
  go_wp2_with (first
   | (go_at_call 55; refine hF.mono ?_; rintro e w1 ⟨rfl, rfl⟩))
  go_ret2
  exact ⟨_, rfl, ⟨rfl, Or.inl ⟨rfl, rfl⟩⟩, Below.refl _ _⟩
end Go.Proofs.YtikkieaokfailaaGreatDoor

namespace Go.Proofs.YtikkieaokfailaaGreatDoor
open Go.RowKit Go.Joins
theorem wp_app1 (t e : TypeId) (z : Value) (size bytes : Nat) (ht : Tryz.prog.underlying t = some (.slice e)) (hif : (Tryz.prog.info? e).map (fun i => (i.zero, i.size, i.bytes)) = some (some z, size, bytes)) (hzs : z.cells.size = size) (hsz : 0 < size) (hby : bytes ≤ 100)
  {w : World} {ops : Array Oper} {rest : List Oper} {o : Oper} {a : Act} {Q : Exit → Act → World → Prop} (hgd : o.guard = none) (s x : Operand)
  (ho : o.op = .call { callee := .builtin .append, args := #[s, x], argTypes := #[t, t] })
  (base : Nat) (v : Value) (n : Nat) (xs : List Value) (hs : a.eval s = v) (hown : w.ownsRow base e size v n xs) (cs : Array Value) (hcs : cs.size = size) (hone : ∀ u ∈ cs.toList, u.oneCell' = true)
  (hx : a.eval x = .slice (some ⟨w.heap.size, 0, none⟩) 1 1) (hn : n ≤ 1000000) (hbase : base ≤ w.heap.size)
  (h : ∀ v' w', w'.ownsRow base e size v' (n + 1) (xs ++ cs.toList) → Keep (fun k => v.ownBlock = some k) w w' → (v' ≠ .slice none 0 0) → wpList Tryz.prog ops Q rest (a.put o.dst v') w') : wpList Tryz.prog ops Q (o :: rest) a (w.alloc (.cells cs e)) := by
 obtain ⟨i0, hi, hz0, hz1, hz2⟩ := info_parts hif
 have hk0 : Keep (fun k => v.ownBlock = some k) w (w.alloc (.cells cs e)) := (Keep.refl _ _).alloc _
 have hown1 : (w.alloc (.cells cs e)).ownsRow base e size v n xs := own_keep (S := fun _ => False) hown ((Keep.refl _ _).alloc _) (fun _ _ h => h)
 refine wpList_append_own (w.alloc (.cells cs e)) hgd s x t ho base e i0 z size bytes ht hi hz0 hz1 hz2 hzs hsz v n xs hs hown1 ⟨w.heap.size, 0, none⟩ 1 1 cs.toList hx (by simp [hcs]) (fun j u hu => ?_) hone (by unfold maxLen; omega) (by
  have : (n + 1) * bytes ≤ (1000000 + 1) * 100 := Nat.mul_le_mul (by omega) hby
  omega) (by simp; omega) ?_
 ·rw [add_flat, Nat.zero_add, cell_of_block (alloc_at w (.cells cs e))]
  simpa using hu
 ·intro v' w' k1 k2 k3
  refine h v' w' k1 (hk0.trans (Keep.ofGrown k2)) (fun e => ?_)
  have := k3.1 e
  omega
theorem infoStr : (Tryz.prog.info? 9).map (fun i => (i.zero, i.size, i.bytes)) = some (some (.string ByteArray.empty), 1, 16) := by kernel_rfl
theorem infoFile : (Tryz.prog.info? 113).map (fun i => (i.zero, i.size, i.bytes)) = some (some (.agg #[.string ByteArray.empty, .slice none 0 0, .int .i64 0]), 3, 48) := by kernel_rfl
theorem own_formN {w : World} {B : Nat} {v : Value} {n : Nat} {xs : List Value} (h : w.ownsRow B 9 1 v n xs) : ∃ a c, v = .slice a n c ∧ n ≤ 9223372036854775807 := by
 rcases h.2 with ⟨rfl, rfl⟩ | ⟨g, cap, cur, rfl, _, _, h1, h2, _⟩
 ·exact ⟨none, 0, rfl, by omega⟩
 ·exact ⟨_, _, rfl, by unfold maxLen at h2; omega⟩
def listK (k : Dk) : Nat × List Nm := if k.off then (13, []) else (0, k.fs.map Prod.fst)
set_option maxRecDepth 100000 in
set_option maxHeartbeats 2000000 in
theorem refList_any (rd : Nat) (G : Nat → Prop) (k : Dk) (hN9 : k.fs.length ≤ 1000000) (w : World) (hR : RefAt w G rd k) :
  Calls Tryz.prog 45 #[.pointer (some ⟨rd, 0, none⟩)] w fun e w' => ∃ v, e = .returned (.tuple #[v, .int .i64 (listK k).1]) ∧ w'.ownsRow w.heap.size 9 1 v (listK k).2.length (nv (listK k).2) ∧ Below w.heap.size w w' := by
 have hlt := hR.lt
 obtain ⟨⟨v, sl, hblk, hrow, hvG, _, _⟩, hGrd, _, _⟩ := hR
 have q0 : w.cell? ⟨rd, 0, none⟩ = some v := by rw [cell_of_block hblk]; rfl
 have q3 : w.cell? ⟨rd, 3, none⟩ = some (.bool k.off) := by rw [cell_of_block hblk]; rfl
 clear hblk
 cases on : k.off with
 | true =>
  have e : listK k = (13, []) := by unfold listK; rw [on]; rfl
  rw [e]
  rw [on] at q3
  clear on e
  go_enter Tryz.func45, Tryz.ntmps45
  go_wp2
  go_ret2
  exact ⟨_, rfl, ⟨rfl, Or.inl ⟨rfl, rfl⟩⟩, Below.refl _ _⟩
 | false =>
  have e : listK k = (0, k.fs.map Prod.fst) := by unfold listK; rw [on]; rfl
  rw [e]
  rw [on] at q3
  dsimp only
  rw [List.length_map]
  obtain ⟨va, vc, rfl, hvl⟩ := row_form hrow
  obtain ⟨N, HN⟩ : ∃ N, Hid (k.fs.length = N) := ⟨_, rfl⟩
  have HR : Hid (w.ownsRow 0 113 3 (.slice va k.fs.length vc) k.fs.length (ev sl k.fs)) := hrow
  rw [HN.out] at q0 hvl hN9 ⊢
  clear on e hrow
  go_enter Tryz.func45, Tryz.ntmps45
  go_wp2_with fail
  go_loopw [4, 5] (fun s4 s5 wr => ∃ i : Nat, i ≤ N ∧ s5 = .int .i64 i ∧ Hid (wr.ownsRow w.heap.size 9 1 s4 i (nv ((k.fs.take i).map Prod.fst))) ∧ Hid (Below w.heap.size w wr)) (fun _ s5 _ => N - (intOf s5).toNat)
  case atStart => exact ⟨0, by omega, rfl, ⟨rfl, Or.inl ⟨rfl, rfl⟩⟩, Below.refl _ _⟩
  case round =>
   obtain ⟨i, hi, rfl, HO, HB⟩ := hrel
   have p0 : wr.cell? ⟨rd, 0, none⟩ = some (.slice va N vc) := (HB.out.cell (p := ⟨rd, 0, none⟩) (World.block_lt_of_cell? w _ q0)).trans q0
   by_cases hil : i < N
   ·have hcl : (i : Int) < (N : Int) := by omega
    have hpos : 0 < k.fs.length := by rw [HN.out]; omega
    obtain ⟨g, cap, e, hcap, hcm, hcs⟩ := row3 HR.out hpos
    cases e
    rw [HN.out] at hcap
    have hik : i < k.fs.length := by rw [HN.out]; exact hil
    obtain ⟨x, hx⟩ : ∃ x, k.fs[i]? = some x := ⟨_, List.getElem?_eq_getElem hik⟩
    have hc0 := (hcs i x hx).1
    have hc : wr.cell? ⟨g, i * 3, none⟩ = some (.string x.1) := (HB.out.cell (p := ⟨g, i * 3, none⟩) (World.block_lt_of_cell? w _ hc0)).trans hc0
    have htk : nv ((k.fs.take (i + 1)).map Prod.fst) = nv ((k.fs.take i).map Prod.fst) ++ [.string x.1] := by
     rw [List.take_add_one, hx]
     simp [nv]
    have HT : Hid (nv ((k.fs.take (i + 1)).map Prod.fst) = nv ((k.fs.take i).map Prod.fst) ++ [.string x.1]) := htk
    clear hcs htk hc0
    go_wp2_with (first
     | (at_builtin; refine wp_app1 81 9 (.string ByteArray.empty) 1 16 Tryz.underlying81 infoStr rfl (by decide) (by decide) rfl _ _ rfl w.heap.size _ i _ rfl HO.out #[.string x.1] rfl (by simp [Value.oneCell']) rfl (by omega) HB.out.size ?_; intro v' w1 ho1 hk1 hv1))
    have hB1 : Below w.heap.size w w1 := HB.out.trans (hk1.below HB.out.size (fun j hj => (HO.out.lt j hj).1))
    exact ⟨⟨i + 1, by omega, by go_num, by show World.ownsRow _ _ _ _ _ _ _; rw [HT.out]; exact ho1, hB1⟩, by simp [intOf]; omega⟩
   ·obtain rfl : i = N := by omega
    have hcl : ¬ (i : Int) < (i : Int) := by omega
    have hO := HO.out
    rw [List.take_of_length_le (by rw [HN.out]; exact Nat.le_refl _)] at hO
    clear HO
    go_wp2
    go_ret2
    exact ⟨_, rfl, hO, HB.out⟩
end Go.Proofs.YtikkieaokfailaaGreatDoor

namespace Go.Proofs.YtikkieaokfailaaGreatDoor
open Go.RowKit Go.Joins
theorem put_split {p q : Fls} {s : Nm} {f : Fle} (hp : ∀ x ∈ p, ltN x.1 s) (hq : ∀ x, q.head? = some x → ltN s x.1) : putL (p ++ q) s f = p ++ (s, f) :: q := by
 induction p with
 | nil =>
  cases q with
  | nil => rfl
  | cons y r =>
   obtain ⟨n, g⟩ := y
   show putL ((n, g) :: r) s f = _
   unfold putL
   rw [if_pos (hq (n, g) rfl)]
   rfl
 | cons y r ih =>
  obtain ⟨n, g⟩ := y
  have h1 : ltN n s := hp (n, g) (List.mem_cons_self ..)
  show putL ((n, g) :: (r ++ q)) s f = _
  unfold putL
  rw [if_neg (fun h => ltN_irrefl _ (ltN_trans h h1)), if_neg (fun e => by subst e; exact ltN_irrefl _ h1), ih (fun x hx => hp x (List.mem_cons_of_mem _ hx))]
  rfl
theorem gtr_yes {a b : Nm} (h : ltN b a) : (!(Op.bytesLess a.toList b.toList || a.toList == b.toList)) = true := by
 rw [ByteArray.toList_eq, ByteArray.toList_eq, bytesLess_eq]
 have h1 : ¬ a.data.toList < b.data.toList := fun h2 => List.lt_irrefl _ (List.lt_trans h h2)
 have h2 : ¬ a.data.toList = b.data.toList := fun e => by rw [ltN, e] at h; exact List.lt_irrefl _ h
 have h3 : ¬ a.data = b.data := fun e => h2 (by rw [e])
 simp [h1, h3]
theorem gtr_no {a b : Nm} (h : ltN a b) : (!(Op.bytesLess a.toList b.toList || a.toList == b.toList)) = false := by
 rw [ByteArray.toList_eq, ByteArray.toList_eq, bytesLess_eq]
 have h1 : a.data.toList < b.data.toList := h
 simp [h1]
theorem ev_snoc (sl : Nm → Value) (l : Fls) (x : Nm × Fle) : ev sl (l ++ [x]) = ev sl l ++ [.string x.1, sl x.1, .int .i64 (x.2.safe : Int)] := by rw [ev_app]; rfl
set_option maxRecDepth 100000 in
set_option maxHeartbeats 6000000 in
theorem refPut_any (rd : Nat) (G : Nat → Prop) (k : Dk) (s : Nm) (hno : look k.fs s = none) (f : Fle) (a : Option Addr) (n c : Nat) (hN9 : k.fs.length < 1000000) (w : World) (hR : RefAt w G rd k) (hg1 : ({ k with fs := putL k.fs s f } : Dk).Good)
  (hli : Lies w G (.slice a n c) f) :
  Calls Tryz.prog 58 #[.pointer (some ⟨rd, 0, none⟩), .agg #[.string s, .slice a n c, .int .i64 (f.safe : Int)]] w fun e w' => e = .returned (.tuple #[]) ∧ Rp w G rd { k with fs := putL k.fs s f } w' := by
 have hlt := hR.lt
 have hrise := hR.good.rise
 obtain ⟨⟨v, sl, hblk, hrow, hvG, hlies, hslv⟩, hGrd, _, _⟩ := hR
 have hneq : ∀ x ∈ k.fs, x.1 ≠ s := look_none hno
 obtain ⟨sl', hsl'⟩ : ∃ sl' : Nm → Value, sl' = fun t => if t = s then .slice a n c else sl t := ⟨_, rfl⟩
 have hss : sl' s = .slice a n c := by rw [hsl']; simp
 have hso : ∀ t, t ≠ s → sl' t = sl t := fun t ht => by rw [hsl']; simp [ht]
 have hevl : ev sl k.fs = ev sl' k.fs := ev_congr (fun x hx => (hso x.1 (hneq x hx)).symm)
 rw [hevl] at hrow
 obtain ⟨va, vc, rfl, hvl⟩ := row_form hrow
 obtain ⟨N, HN⟩ : ∃ N, Hid (k.fs.length = N) := ⟨_, rfl⟩
 obtain ⟨P, HP⟩ : ∃ P, Hid (putL k.fs s f = P) := ⟨_, rfl⟩
 have hq0 : w.cell? ⟨rd, 0, none⟩ = some (.slice va N vc) := by rw [cell_of_block hblk, ← HN.out]; rfl
 have HRw : Hid (w.ownsRow 0 113 3 (.slice va k.fs.length vc) k.fs.length (ev sl' k.fs)) := hrow
 rw [HN.out] at hvl hN9
 rw [HP.out] at hg1 ⊢
 have Hss : Hid (sl' s = .slice a n c) := hss
 have Hblk : Hid (w.heap[rd]? = some (.cells (rcsR k (.slice va k.fs.length vc)) 93 (0, 0))) := hblk
 have hone : ∀ t, ∃ a n c, sl' t = .slice a n c := fun t => by
  by_cases h : t = s
  ·exact ⟨a, n, c, by rw [h, hss]⟩
  ·rw [hso t h]; exact hslv t
 have fin : ∀ w9 v9, w9.ownsRow w.heap.size 113 3 v9 P.length (ev sl' P) → Below w.heap.size w w9 → Rp w G rd { k with fs := P } (w9.setCell ⟨rd, 0, none⟩ v9) := fun w9 v9 ho9 hb9 => by
  have hrl : rd < w.heap.size := (Array.getElem?_eq_some_iff.1 hblk).1
  have hblk9 := box_below hblk hb9
  have hk9 : Keep (fun i => i = rd) w (w9.setCell ⟨rd, 0, none⟩ v9) := ((Keep.ofBelow (S := fun i => i = rd) hb9).setCell (p := ⟨rd, 0, none⟩) rfl _)
  refine ⟨fun i => G i ∨ (w.heap.size ≤ i ∧ i < w9.heap.size), ⟨⟨v9, sl', ?_, ?_, ?_, ?_, hone⟩, Or.inl hGrd, ?_, hg1⟩, hk9.mono (fun i e => by subst e; exact hGrd), fun i hi => hi.imp id (fun h => h.1)⟩
  ·rw [block_setCell (i := 0) hblk9]
   rfl
  ·refine own_weak (own_keep ho9 ((Keep.refl (fun i => i = rd) w9).setCell (p := ⟨rd, 0, none⟩) rfl _) (fun g hg e => ?_)) (Nat.zero_le _)
   have := (ho9.lt g hg).1
   omega
  ·intro g hg
   exact Or.inr ⟨(ho9.lt g hg).1, (ho9.lt g hg).2⟩
  ·intro x hx
   have hm : x ∈ putL k.fs s f := by rw [HP.out]; exact hx
   rcases mem_put hm with rfl | hx
   ·show Lies _ _ (sl' s) f
    rw [hss]
    refine hli.keep hk9 (fun g hg e => ?_) (fun _ h => Or.inl h)
    obtain ⟨cur, h2⟩ := own_blk hli.1 hg
    subst e
    rw [hblk] at h2; cases h2
   ·rw [hso x.1 (hneq x hx)]
    refine (hlies x hx).keep hk9 (fun g hg e => ?_) (fun _ h => Or.inl h)
    obtain ⟨cur, h2⟩ := own_blk (hlies x hx).1 hg
    subst e
    rw [hblk] at h2; cases h2
  ·intro i hi
   have : (w9.setCell ⟨rd, 0, none⟩ v9).heap.size = w9.heap.size := by simp [World.setCell]
   rw [this]
   rcases hi with h | h
   ·exact Nat.lt_of_lt_of_le (hlt i h) hb9.size
   ·exact h.2
 have hfd := fun w9 (hb : Below w.heap.size w w9) => (hb.cell (p := ⟨rd, 0, none⟩) (World.block_lt_of_cell? w _ hq0)).trans hq0
 have hfz : ∀ w9, Below w.heap.size w w9 → w9.frozen? ⟨rd, 0, none⟩ = false := fun w9 hb => unfrozen_of_block (box_below hblk hb) 0
 have HNe : Hid (∀ x ∈ k.fs, x.1 ≠ s) := hneq
 clear hrow hblk hvG hlies hslv hevl hss hso hneq hno hli hlt hsl' hg1
 go_enter Tryz.func58, Tryz.ntmps58
 go_wp2_with fail
 obtain ⟨bf, hbf⟩ : ∃ bf, w.heap.size = bf := ⟨_, rfl⟩
 have hB0 : Below w.heap.size w (w.alloc (.cells #[.string s, .slice a n c, .int .i64 (f.safe : Int)] 113)) := (Below.refl _ _).alloc (Nat.le_refl _) _
 have hfil := alloc_at w (.cells #[.string s, .slice a n c, .int .i64 (f.safe : Int)] 113)
 rw [hbf] at hfil ⊢
 generalize w.alloc (.cells #[.string s, .slice a n c, .int .i64 (f.safe : Int)] 113) = w0 at *
 go_loopw [4, 5, 6] (fun s4 s5 s6 wr => ∃ (i : Nat) (dn : Bool) (L : Fls), i ≤ N ∧ s6 = .int .i64 i ∧ s5 = .bool dn ∧ L.length ≤ i + 1 ∧ Hid (if dn then L ++ k.fs.drop i = P else (L = k.fs.take i ∧ ∀ x ∈ L, ltN x.1 s)) ∧ Hid (wr.ownsRow w0.heap.size 113 3 s4 L.length (ev sl' L)) ∧ Hid (Below w0.heap.size w0 wr)) (fun _ _ s6 _ => N - (intOf s6).toNat)
 case atStart => exact ⟨0, false, [], by omega, rfl, rfl, by simp, ⟨rfl, fun x hx => by cases hx⟩, ⟨rfl, Or.inl ⟨rfl, rfl⟩⟩, Below.refl _ _⟩
 case round =>
  obtain ⟨i, dn, L, hi, rfl, rfl, hLl, HX, HO, HB⟩ := hrel
  have hBw : Below w.heap.size w wr := hB0.trans (HB.out.mono hB0.size)
  have p0 := hfd wr hBw
  have hflr := box_below hfil HB.out
  have f0 := cell_of_block hflr 0
  have f1 := cell_of_block hflr 1
  have f2 := cell_of_block hflr 2
  simp at f0 f1 f2
  by_cases hil : i < N
  ·have hcl : (i : Int) < (N : Int) := by omega
   have hpos : 0 < k.fs.length := by rw [HN.out]; omega
   obtain ⟨g, cap, e, hcap, hcm, hcs⟩ := row3 HRw.out hpos
   cases e
   rw [HN.out] at hcap
   have hik : i < k.fs.length := by rw [HN.out]; exact hil
   obtain ⟨x, hx⟩ : ∃ x, k.fs[i]? = some x := ⟨_, List.getElem?_eq_getElem hik⟩
   obtain ⟨hc0, hc1, hc2⟩ := hcs i x hx
   obtain ⟨ax, nx, cx, hsx⟩ := hone x.1
   rw [hsx] at hc1
   have hlow := fun (q : Nat) (u : Value) (h : w.cell? ⟨g, q, none⟩ = some u) => (hBw.cell (p := ⟨g, q, none⟩) (World.block_lt_of_cell? w _ h)).trans h
   have d0 := hlow _ _ hc0
   have d1 := hlow _ _ hc1
   have d2 := hlow _ _ hc2
   have Hsx : Hid (sl' x.1 = .slice ax nx cx) := hsx
   have hdr : k.fs.drop i = x :: k.fs.drop (i + 1) := by rw [List.drop_eq_getElem_cons hik, (List.getElem?_eq_some_iff.1 hx).2]
   have htk : k.fs.take (i + 1) = k.fs.take i ++ [x] := by rw [List.take_add_one, hx]; rfl
   have Hdr : Hid (k.fs.drop i = x :: k.fs.drop (i + 1)) := hdr
   have Htk : Hid (k.fs.take (i + 1) = k.fs.take i ++ [x]) := htk
   have Hx : Hid (k.fs[i]? = some x) := hx
   have hi0 : (0 : Int) ≤ (i : Int) := by omega
   have hgw : g < w0.heap.size := Nat.lt_of_lt_of_le (World.block_lt_of_cell? w _ hc0) hB0.size
   clear hcs hc0 hc1 hc2 hlow hsx hdr htk hx
   cases dn with
   | true =>
    go_upto_region 6 with fail
    refine wp_region_lx (fun w' => w' = wr.drew) [] 15 (by kernel_rfl) (by kernel_rfl) ?_
    have HOd := own_keep (S := fun _ => False) HO.out ((Keep.refl (fun _ => False) wr).drew) (fun _ _ h => h)
    have HBd : Below w0.heap.size w0 wr.drew := HB.out.drew
    have e0 : wr.drew.cell? ⟨rd, 0, none⟩ = some (.slice (some ⟨g, 0, none⟩) N vc) := p0
    have e1 : wr.drew.cell? ⟨g, i * 3, none⟩ = some (.string x.1) := d0
    have e2 : wr.drew.cell? ⟨g, i * 3 + 1, none⟩ = some (.slice ax nx cx) := d1
    have e3 : wr.drew.cell? ⟨g, i * 3 + 2, none⟩ = some (.int .i64 (x.2.safe : Int)) := d2
    have k0 : wr.drew.cell? ⟨bf, 0, none⟩ = some (.string s) := f0
    have k1 : wr.drew.cell? ⟨bf, 1, none⟩ = some (.slice a n c) := f1
    have k2 : wr.drew.cell? ⟨bf, 2, none⟩ = some (.int .i64 (f.safe : Int)) := f2
    clear HO HB p0 d0 d1 d2 f0 f1 f2 hflr hBw
    generalize wr.drew = X at *
    have HSa : X = X := rfl
    refine lx_r 0 _ HSa ?_; simp only [lxa, lxb, lxc]
    refine lx_r 1 (.bool false) HSa ?_; simp only [lxa, lxb, lxc]
    refine lx_r 2 _ HSa ?_; simp only [lxa, lxb, lxc]
    refine lx_s 3 HSa ?_; simp only [lxa, lxb, lxc]
    refine lx_s 4 HSa ?_; simp only [lxa, lxb, lxc]
    refine lx_s 5 HSa ?_; simp only [lxa, lxb, lxc]
    refine lx_s 6 HSa ?_; simp only [lxa, lxb, lxc]
    refine lx_s 7 HSa ?_; simp only [lxa, lxb, lxc]
    refine lx_s 8 HSa ?_; simp only [lxa, lxb, lxc]
    refine lx_s 9 HSa ?_; simp only [lxa, lxb, lxc]
    refine lx_s 10 HSa ?_; simp only [lxa, lxb, lxc]
    refine lx_s 11 HSa ?_; simp only [lxa, lxb, lxc]
    refine lx_s 12 HSa ?_; simp only [lxa, lxb, lxc]
    refine lx_s 13 HSa ?_; simp only [lxa, lxb, lxc]
    refine lx_r 14 (.bool false) HSa ?_; simp only [lxa, lxb, lxc]
    refine lx_nil (by kernel_rfl) ?_
    clear HSa
    have hBX : Below w.heap.size w X := hB0.trans (HBd.mono hB0.size)
    go_wp2_with (first
     | (at_builtin; refine wp_app1 91 113 (.agg #[.string ByteArray.empty, .slice none 0 0, .int .i64 0]) 3 48 Tryz.underlying91 infoFile rfl (by decide) (by decide) rfl _ _ rfl w0.heap.size _ L.length _ rfl HOd #[.string x.1, .slice ax nx cx, .int .i64 (x.2.safe : Int)] rfl (by simp [Value.oneCell']) rfl (by omega) HBd.size ?_; intro v' w1 ho1 hk1 hv1))
    have hB1 : Below w0.heap.size w0 w1 := HBd.trans (hk1.below HBd.size (fun j hj => (HOd.lt j hj).1))
    have hXX := HX.out
    simp only [if_true] at hXX
    refine ⟨⟨i + 1, true, L ++ [x], by omega, by go_num, rfl, by simp; omega, ?_, ?_, ?_⟩, by simp [intOf]; omega⟩
    ·show (if true = true then (L ++ [x]) ++ k.fs.drop (i + 1) = P else _)
     rw [if_pos rfl, List.append_assoc, ← hXX, Hdr.out]
     rfl
    ·show World.ownsRow _ _ _ _ _ _ _
     rw [ev_snoc, Hsx.out, List.length_append]
     exact ho1
    ·exact hB1
   | false =>
    have hXX := HX.out
    simp only [Bool.false_eq_true, if_false] at hXX
    obtain ⟨hL0, hsm0⟩ := hXX
    have hL : Hid (L = k.fs.take i) := hL0
    have hLi : L.length ≤ i := by rw [hL0, List.length_take]; omega
    have hsm : ∀ y ∈ L, ltN y.1 s := hsm0
    have hxs : ltN s x.1 ∨ ltN x.1 s := by
     by_cases h : ltN s x.1
     ·exact Or.inl h
     ·exact Or.inr (ltN_tri h (fun e => HNe.out x (List.mem_of_getElem? Hx.out) e.symm))
    clear hL0 hsm0 HX
    rcases hxs with hxs | hxs
    ·-- a greater name: the file goes here
     go_upto_region 6 with fail
     refine wp_region_lx (fun w' => w' = wr.drew) [] 15 (by kernel_rfl) (by kernel_rfl) ?_
     have HOd := own_keep (S := fun _ => False) HO.out ((Keep.refl (fun _ => False) wr).drew) (fun _ _ h => h)
     have HBd : Below w0.heap.size w0 wr.drew := HB.out.drew
     have e0 : wr.drew.cell? ⟨rd, 0, none⟩ = some (.slice (some ⟨g, 0, none⟩) N vc) := p0
     have e1 : wr.drew.cell? ⟨g, i * 3, none⟩ = some (.string x.1) := d0
     have e2 : wr.drew.cell? ⟨g, i * 3 + 1, none⟩ = some (.slice ax nx cx) := d1
     have e3 : wr.drew.cell? ⟨g, i * 3 + 2, none⟩ = some (.int .i64 (x.2.safe : Int)) := d2
     have k0 : wr.drew.cell? ⟨bf, 0, none⟩ = some (.string s) := f0
     have k1 : wr.drew.cell? ⟨bf, 1, none⟩ = some (.slice a n c) := f1
     have k2 : wr.drew.cell? ⟨bf, 2, none⟩ = some (.int .i64 (f.safe : Int)) := f2
     clear HO HB p0 d0 d1 d2 f0 f1 f2 hflr hBw
     generalize wr.drew = X at *
     have HSa : X = X := rfl
     refine lx_r 0 _ HSa ?_; simp only [lxa, lxb, lxc]
     refine lx_r 1 (.bool true) HSa ?_; simp only [lxa, lxb, lxc]
     refine lx_r 2 _ HSa ?_; simp only [lxa, lxb, lxc]
     refine lx_r 3 _ HSa ?_; simp only [lxa, lxb, lxc]
     refine lx_r 4 _ HSa ?_; simp only [lxa, lxb, lxc]
     refine lx_r 5 _ HSa ?_; simp only [lxa, lxb, lxc]
     refine lx_r 6 (.slice (some ⟨g, 0, none⟩) N vc) HSa ?_ (hv := fun w' hS => by subst hS; first | (go_simp; rfl) | go_simp); simp only [lxa, lxb, lxc]
     refine lx_r 7 _ HSa ?_; simp only [lxa, lxb, lxc]
     refine lx_r 8 (.pointer (some ⟨g, i * 3, none⟩)) HSa ?_; simp only [lxa, lxb, lxc]
     refine lx_r 9 _ HSa ?_; simp only [lxa, lxb, lxc]
     refine lx_r 10 (.string x.1) HSa ?_ (hv := fun w' hS => by subst hS; first | (go_simp; rfl) | go_simp); simp only [lxa, lxb, lxc]
     refine lx_r 11 _ HSa ?_; simp only [lxa, lxb, lxc]
     refine lx_r 12 (.string s) HSa ?_ (hv := fun w' hS => by subst hS; first | (go_simp; rfl) | go_simp); simp only [lxa, lxb, lxc]
     refine lx_r 13 (.bool true) HSa ?_ (hv := fun w' hS => by have hgt := gtr_yes hxs; first | (go_simp; rfl) | go_simp); simp only [lxa, lxb, lxc]
     refine lx_r 14 (.bool true) HSa ?_; simp only [lxa, lxb, lxc]
     refine lx_nil (by kernel_rfl) ?_
     clear HSa
     have hBX : Below w.heap.size w X := hB0.trans (HBd.mono hB0.size)
     have k0' := k0
     go_upto_region 9 with (first
      | (at_builtin; refine wp_app1 91 113 (.agg #[.string ByteArray.empty, .slice none 0 0, .int .i64 0]) 3 48 Tryz.underlying91 infoFile rfl (by decide) (by decide) rfl _ _ rfl w0.heap.size _ L.length _ rfl HOd #[.string s, .slice a n c, .int .i64 (f.safe : Int)] rfl (by simp [Value.oneCell']) rfl (by omega) HBd.size ?_; intro v' w1 ho1 hk1 hv1))
     have hB1 : Below w0.heap.size w0 w1 := HBd.trans (hk1.below HBd.size (fun j hj => (HOd.lt j hj).1))
     have hBw1 : Below w.heap.size w w1 := hB0.trans (hB1.mono hB0.size)
     have j0 : w1.cell? ⟨rd, 0, none⟩ = some (.slice (some ⟨g, 0, none⟩) N vc) := hfd w1 hBw1
     have j1 : w1.cell? ⟨g, i * 3, none⟩ = some (.string x.1) := hk1.cell e1 (fun h => Nat.lt_irrefl _ (Nat.lt_of_le_of_lt (HOd.lt _ h).1 hgw))
     have j2 : w1.cell? ⟨g, i * 3 + 1, none⟩ = some (.slice ax nx cx) := hk1.cell e2 (fun h => Nat.lt_irrefl _ (Nat.lt_of_le_of_lt (HOd.lt _ h).1 hgw))
     have j3 : w1.cell? ⟨g, i * 3 + 2, none⟩ = some (.int .i64 (x.2.safe : Int)) := hk1.cell e3 (fun h => Nat.lt_irrefl _ (Nat.lt_of_le_of_lt (HOd.lt _ h).1 hgw))
     have ho1' : w1.ownsRow w0.heap.size 113 3 v' (L.length + 1) (ev sl' (L ++ [(s, f)])) := by rw [ev_snoc]; show World.ownsRow _ _ _ _ _ _ (ev sl' L ++ [.string s, sl' s, .int .i64 (f.safe : Int)]); rw [Hss.out]; exact ho1
     clear e0 e1 e2 e3 k0 k1 k2 k0' HOd ho1 hk1 hv1
     go_wp2_with (first
      | (at_builtin; refine wp_app1 91 113 (.agg #[.string ByteArray.empty, .slice none 0 0, .int .i64 0]) 3 48 Tryz.underlying91 infoFile rfl (by decide) (by decide) rfl _ _ rfl w0.heap.size _ (L.length + 1) _ rfl ho1' #[.string x.1, .slice ax nx cx, .int .i64 (x.2.safe : Int)] rfl (by simp [Value.oneCell']) rfl (by omega) hB1.size ?_; intro v2 w2 ho2 hk2 hv2))
     have hB2 : Below w0.heap.size w0 w2 := hB1.trans (hk2.below hB1.size (fun j hj => (ho1'.lt j hj).1))
     refine ⟨⟨i + 1, true, L ++ [(s, f)] ++ [x], by omega, by go_num, rfl, by simp; omega, ?_, ?_, hB2⟩, by simp [intOf]; omega⟩
     ·show (if true = true then (L ++ [(s, f)] ++ [x]) ++ k.fs.drop (i + 1) = P else _)
      rw [if_pos rfl, ← HP.out]
      have e : k.fs = L ++ (x :: k.fs.drop (i + 1)) := by rw [hL.out, ← Hdr.out, List.take_append_drop]
      have h := put_split (f := f) hsm (q := x :: k.fs.drop (i + 1)) (fun y hy => by cases hy; exact hxs)
      rw [← e] at h
      rw [h]
      simp
     ·show World.ownsRow _ _ _ _ _ _ _
      rw [ev_snoc, Hsx.out]
      have e2 : (L ++ [(s, f)] ++ [x]).length = L.length + 1 + 1 := by simp
      rw [e2]
      exact ho2
    ·-- a smaller name
     go_upto_region 6 with fail
     refine wp_region_lx (fun w' => w' = wr.drew) [] 15 (by kernel_rfl) (by kernel_rfl) ?_
     have HOd := own_keep (S := fun _ => False) HO.out ((Keep.refl (fun _ => False) wr).drew) (fun _ _ h => h)
     have HBd : Below w0.heap.size w0 wr.drew := HB.out.drew
     have e0 : wr.drew.cell? ⟨rd, 0, none⟩ = some (.slice (some ⟨g, 0, none⟩) N vc) := p0
     have e1 : wr.drew.cell? ⟨g, i * 3, none⟩ = some (.string x.1) := d0
     have e2 : wr.drew.cell? ⟨g, i * 3 + 1, none⟩ = some (.slice ax nx cx) := d1
     have e3 : wr.drew.cell? ⟨g, i * 3 + 2, none⟩ = some (.int .i64 (x.2.safe : Int)) := d2
     have k0 : wr.drew.cell? ⟨bf, 0, none⟩ = some (.string s) := f0
     have k1 : wr.drew.cell? ⟨bf, 1, none⟩ = some (.slice a n c) := f1
     have k2 : wr.drew.cell? ⟨bf, 2, none⟩ = some (.int .i64 (f.safe : Int)) := f2
     clear HO HB p0 d0 d1 d2 f0 f1 f2 hflr hBw
     generalize wr.drew = X at *
     have HSa : X = X := rfl
     refine lx_r 0 _ HSa ?_; simp only [lxa, lxb, lxc]
     refine lx_r 1 (.bool true) HSa ?_; simp only [lxa, lxb, lxc]
     refine lx_r 2 _ HSa ?_; simp only [lxa, lxb, lxc]
     refine lx_r 3 _ HSa ?_; simp only [lxa, lxb, lxc]
     refine lx_r 4 _ HSa ?_; simp only [lxa, lxb, lxc]
     refine lx_r 5 _ HSa ?_; simp only [lxa, lxb, lxc]
     refine lx_r 6 (.slice (some ⟨g, 0, none⟩) N vc) HSa ?_ (hv := fun w' hS => by subst hS; first | (go_simp; rfl) | go_simp); simp only [lxa, lxb, lxc]
     refine lx_r 7 _ HSa ?_; simp only [lxa, lxb, lxc]
     refine lx_r 8 (.pointer (some ⟨g, i * 3, none⟩)) HSa ?_; simp only [lxa, lxb, lxc]
     refine lx_r 9 _ HSa ?_; simp only [lxa, lxb, lxc]
     refine lx_r 10 (.string x.1) HSa ?_ (hv := fun w' hS => by subst hS; first | (go_simp; rfl) | go_simp); simp only [lxa, lxb, lxc]
     refine lx_r 11 _ HSa ?_; simp only [lxa, lxb, lxc]
     refine lx_r 12 (.string s) HSa ?_ (hv := fun w' hS => by subst hS; first | (go_simp; rfl) | go_simp); simp only [lxa, lxb, lxc]
     refine lx_r 13 (.bool false) HSa ?_ (hv := fun w' hS => by have hgt := gtr_no hxs; first | (go_simp; rfl) | go_simp); simp only [lxa, lxb, lxc]
     refine lx_r 14 (.bool false) HSa ?_; simp only [lxa, lxb, lxc]
     refine lx_nil (by kernel_rfl) ?_
     clear HSa
     have hBX : Below w.heap.size w X := hB0.trans (HBd.mono hB0.size)
     go_wp2_with (first
      | (at_builtin; refine wp_app1 91 113 (.agg #[.string ByteArray.empty, .slice none 0 0, .int .i64 0]) 3 48 Tryz.underlying91 infoFile rfl (by decide) (by decide) rfl _ _ rfl w0.heap.size _ L.length _ rfl HOd #[.string x.1, .slice ax nx cx, .int .i64 (x.2.safe : Int)] rfl (by simp [Value.oneCell']) rfl (by omega) HBd.size ?_; intro v' w1 ho1 hk1 hv1))
     have hB1 : Below w0.heap.size w0 w1 := HBd.trans (hk1.below HBd.size (fun j hj => (HOd.lt j hj).1))
     refine ⟨⟨i + 1, false, L ++ [x], by omega, by go_num, rfl, by simp; omega, ?_, ?_, hB1⟩, by simp [intOf]; omega⟩
     ·show (if false = true then _ else (L ++ [x] = k.fs.take (i + 1) ∧ ∀ y ∈ L ++ [x], ltN y.1 s))
      rw [if_neg (by decide)]
      refine ⟨by rw [Htk.out, hL.out], fun y hy => ?_⟩
      rcases List.mem_append.1 hy with h | h
      ·exact hsm y h
      ·rw [List.mem_singleton] at h
       rw [h]; exact hxs
     ·show World.ownsRow _ _ _ _ _ _ _
      rw [ev_snoc, Hsx.out, List.length_append]
      exact ho1
  ·obtain rfl : i = N := by omega
   have hcl : ¬ (i : Int) < (i : Int) := by omega
   have hz := hfz wr hBw
   cases dn with
   | true =>
    have hXX := HX.out
    simp only [if_true] at hXX
    rw [List.drop_eq_nil_of_le (by rw [HN.out]; exact Nat.le_refl _), List.append_nil] at hXX
    have hfin := fin wr _ (own_weak (by rw [← hXX]; exact HO.out) hB0.size) hBw
    obtain ⟨av, cv, hv, _⟩ := row_form HO.out
    subst hv
    clear HX hXX HO fin hfd hfz
    go_wp2
    go_end0
    exact ⟨rfl, hfin⟩
   | false =>
    have hXX := HX.out
    simp only [Bool.false_eq_true, if_false] at hXX
    obtain ⟨hL0, hsm⟩ := hXX
    rw [List.take_of_length_le (by rw [HN.out]; exact Nat.le_refl _)] at hL0
    have hPe : L ++ [(s, f)] = P := by
     have h := put_split (f := f) hsm (q := []) (fun y hy => by cases hy)
     rw [List.append_nil, hL0] at h
     rw [← HP.out, h, hL0]
    have HPe : Hid (L ++ [(s, f)] = P) := hPe
    have HOd := HO.out
    clear HX HO hL0 hPe
    go_wp2_with (first
     | (at_builtin; refine wp_app1 91 113 (.agg #[.string ByteArray.empty, .slice none 0 0, .int .i64 0]) 3 48 Tryz.underlying91 infoFile rfl (by decide) (by decide) rfl _ _ rfl w0.heap.size _ L.length _ rfl HOd #[.string s, .slice a n c, .int .i64 (f.safe : Int)] rfl (by simp [Value.oneCell']) rfl (by omega) HB.out.size ?_; intro v' w1 ho1 hk1 hv1; obtain ⟨av, cv, rfl, _⟩ := row_form ho1; have hB1' := HB.out.trans (hk1.below HB.out.size (fun j hj => (HOd.lt j hj).1)); have hBw1' : Below w.heap.size w w1 := hB0.trans (hB1'.mono hB0.size); have g0 := hfd w1 hBw1'; have g1 := hfz w1 hBw1'))
    have hB1 : Below w0.heap.size w0 w1 := HB.out.trans (hk1.below HB.out.size (fun j hj => (HOd.lt j hj).1))
    have hBw1 : Below w.heap.size w w1 := hB0.trans (hB1.mono hB0.size)
    go_end0
    refine ⟨rfl, fin w1 _ (own_weak ?_ hB0.size) hBw1⟩
    have e : P.length = L.length + 1 := by rw [← HPe.out]; simp
    rw [e, ← HPe.out, ev_snoc]
    show World.ownsRow _ _ _ _ _ _ (ev sl' L ++ [.string s, sl' s, .int .i64 (f.safe : Int)])
    rw [Hss.out]
    exact ho1
end Go.Proofs.YtikkieaokfailaaGreatDoor
