/- Texts of one seat, one behind the other: LtI, SdA, SdB, DkI, DkB, SdC, LkA, LzD, LkB, LkC, LkD, SdD. -/
import Derived.Test.YtikkieaokfailaaGreatDoorM8
import Derived.Test.YtikkieaokfailaaGreatDoorM12
import Derived.Test.YtikkieaokfailaaGreatDoorM5
import Derived.Test.YtikkieaokfailaaGreatDoorM6
import Derived.Deep.Slices
import Derived.BigQuiet
import Derived.Test.YtikkieaokfailaaGreatDoorM11
import Derived.Deep.QuietTactic
namespace Go.Proofs.YtikkieaokfailaaGreatDoor
open Go.RowKit Go.Joins
theorem LogAt.keep {S : Nat → Prop} {w w' : World} {F H : Nat → Prop} {lb d : Nat} {l : Lg} {k : Dk} (h : LogAt w F H lb d l k) (hk : Keep S w w') (hF : ∀ i, F i → ¬ S i) (hH : ∀ i, H i → ¬ S i) (hl : ¬ S lb) (hg : ¬ S 0) : LogAt w' F H lb d l k := by
 obtain ⟨v, h1, h2⟩ := h.ex
 exact ⟨⟨v, h1.keep hk hF hl, h2.keep hk hH (fun _ h => h)⟩, h.hf, h.hl, fun i hi => Nat.lt_of_lt_of_le (h.lt i hi) hk.size, ⟨h.pf.pw.keep hk hg, h.pf.fl, h.pf.ll⟩, h.ph⟩
end Go.Proofs.YtikkieaokfailaaGreatDoor

namespace Go.Proofs.YtikkieaokfailaaGreatDoor
open Go.RowKit Go.Joins
def PH (w : World) (P : Nat → Prop) (d : Nat) (pl : Value) (o : Option Lg) (k : Dk) : Prop :=
 ∃ F, (∀ i, F i → P i) ∧ DiskAt w F d k ∧ (∀ i, F i → 0 < i) ∧ match o with
  | none => pl = .pointer none
  | some l => ∃ (lb : Nat) (H : Nat → Prop), pl = .pointer (some ⟨lb, 0, none⟩) ∧ LogAt w F H lb d l k ∧ (∀ i, H i → P i) ∧ P lb
def RH (w : World) (R : Nat → Prop) (rd : Nat) (pr : Value) (o : Option Lg) (k : Dk) : Prop :=
 ∃ G, (∀ i, G i → R i) ∧ RefAt w G rd k ∧ match o with
  | none => pr = .pointer none
  | some l => ∃ (rl : Nat) (H : Nat → Prop), pr = .pointer (some ⟨rl, 0, none⟩) ∧ RLogAt w G H rl rd l k ∧ (∀ i, H i → R i) ∧ R rl
section
variable {w w' : World} {P R S : Nat → Prop} {d rd : Nat} {pl pr : Value} {o : Option Lg} {k : Dk}
theorem PH.keep (h : PH w P d pl o k) (hk : Keep S w w') (hs : ∀ i, P i → ¬ S i) (hg : ¬ S 0) : PH w' P d pl o k := by
 obtain ⟨F, h1, h2, h3, h4⟩ := h
 refine ⟨F, h1, h2.keep hk (fun i hi => hs i (h1 i hi)), h3, ?_⟩
 cases o with
 | none => exact h4
 | some l =>
  obtain ⟨lb, H, e, h5, h6, h7⟩ := h4
  exact ⟨lb, H, e, h5.keep hk (fun i hi => hs i (h1 i hi)) (fun i hi => hs i (h6 i hi)) (hs _ h7) hg, h6, h7⟩
theorem RH.keep (h : RH w R rd pr o k) (hk : Keep S w w') (hs : ∀ i, R i → ¬ S i) : RH w' R rd pr o k := by
 obtain ⟨G, h1, h2, h4⟩ := h
 refine ⟨G, h1, h2.keep hk (fun i hi => hs i (h1 i hi)), ?_⟩
 cases o with
 | none => exact h4
 | some l =>
  obtain ⟨rl, H, e, h5, h6, h7⟩ := h4
  exact ⟨rl, H, e, h5.keep hk (fun i hi => hs i (h1 i hi)) (fun i hi => hs i (h6 i hi)) (hs _ h7), h6, h7⟩
end
structure Sd (B : Nat) (w : World) (sb d rd : Nat) (o : Option Lg) (k : Dk) : Prop where
 ex : ∃ (P R : Nat → Prop) (pl pr : Value), w.heap[sb]? = some (.cells #[.pointer (some ⟨d, 0, none⟩), pl, .pointer (some ⟨rd, 0, none⟩), pr] 51 (0, 0)) ∧ PH w P d pl o k ∧ RH w R rd pr o k ∧ (∀ i, P i → ¬ R i) ∧ ¬ P sb ∧ ¬ R sb ∧ (∀ i, P i ∨ R i → B ≤ i ∧ i < w.heap.size)
 sn : B ≤ sb
 pw : Pw w
 pB : 0 < B
theorem Sd.below {B sb d rd : Nat} {w w' : World} {o : Option Lg} {k : Dk} (h : Sd B w sb d rd o k) (hb : Below w.heap.size w w') : Sd B w' sb d rd o k := by
 obtain ⟨P, R, pl, pr, h1, h2, h3, h4, h5, h6, h7⟩ := h.ex
 exact ⟨⟨P, R, pl, pr, box_below h1 hb, h2.keep (S := fun _ => False) (Keep.ofBelow hb) (fun _ _ h => h) (fun h => h), h3.keep (S := fun _ => False) (Keep.ofBelow hb) (fun _ _ h => h), h4, h5, h6, fun i hi => ⟨(h7 i hi).1, Nat.lt_of_lt_of_le (h7 i hi).2 hb.size⟩⟩, h.sn, h.pw.below hb, h.pB⟩
def opO (most : Nat) (k : Dk) : Option Lg := if (openL most k).1 = 0 then some (openL most k).2.1 else none
set_option maxRecDepth 100000 in
set_option maxHeartbeats 4000000 in
theorem sideOpen_any (B sb d rd most : Nat) (w : World) (o : Option Lg) (k : Dk) (h : Sd B w sb d rd o k) (h1 : 16 ≤ most) (h2 : most ≤ 1048576) (hfl : k.fs.length ≤ 2500) (hst : k.steps < 800000) (hu : used k.fs ≤ 900000) :
  Calls Tryz.prog 19 #[.pointer (some ⟨sb, 0, none⟩), .int .i64 (most : Int)] w fun e w' => e = .returned (.bool true) ∧ Sd B w' sb d rd (opO most k) (openL most k).2.2 ∧ Below B w w' := by
 obtain ⟨P, R, pl, pr, hblk, hP, hRr, hPR, nP, nR, hlt⟩ := h.ex
 obtain ⟨F, hFP, hD, hFg, _⟩ := hP
 obtain ⟨G, hGR, hRf, _⟩ := hRr
 have q0 : w.cell? ⟨sb, 0, none⟩ = some (.pointer (some ⟨d, 0, none⟩)) := by rw [cell_of_block hblk]; rfl
 have hso := sopen_any w F d most k h1 h2 hD h.pw hFg hfl hst hu
 have hro := fun w' (hr : RefAt w' G rd k) => ropen_any w' G rd most k h1 h2 hr hfl hst hu
 have hsl : sb < w.heap.size := (Array.getElem?_eq_some_iff.1 hblk).1
 have hsn := h.sn
 have hpB := h.pB
 unfold opO
 obtain ⟨Q, HQ⟩ : ∃ Q, Hid (openL most k = Q) := ⟨_, rfl⟩
 rw [HQ.out] at hso ⊢
 simp only [HQ.out] at hro
 clear HQ
 obtain ⟨en, lg, k2⟩ := Q
 dsimp only
 by_cases h0 : en = 0
 ·subst h0
  rw [if_pos rfl]
  have hso' := hso.mono (fun e w' hO => hO.yes rfl)
  have hro' := fun w' hr => (hro w' hr).mono (fun e w'' (hO : ROp w' w'' G rd (0, lg, k2) e) => hO.elim (fun h9 => absurd rfl h9.1) (fun h9 => h9.2))
  clear hso hro
  go_enter Tryz.func19, Tryz.ntmps19
  go_upto_region 2 with (first
   | (go_at_call 20; refine hso'.mono ?_; clear hso'; rintro e w1 ⟨lb, rfl, hlb, F1, H1, hA1, hk1, hF1, hH1⟩))
  have hb1 : w1.heap[sb]? = some (.cells #[.pointer (some ⟨d, 0, none⟩), pl, .pointer (some ⟨rd, 0, none⟩), pr] 51 (0, 0)) := box_keep hblk hk1 (fun hf => nP (hFP _ hf))
  have q2 : w1.cell? ⟨sb, 2, none⟩ = some (.pointer (some ⟨rd, 0, none⟩)) := by rw [cell_of_block hb1]; rfl
  have hRf1 := hRf.keep hk1 (fun i hi hf => hPR i (hFP i hf) (hGR i hi))
  replace hro' := hro' w1 hRf1
  go_upto_region 3 with (first
   | (go_at_call 59; refine hro'.mono ?_; clear hro'; rintro e w2 ⟨rl, G2, H2, rfl, hA2, hrl, hH2, hk2, hG2⟩))
  have s1 := hk1.size
  have s2 := hk2.size
  have hGlt := hRf1.lt
  have hb2 : w2.heap[sb]? = some (.cells #[.pointer (some ⟨d, 0, none⟩), pl, .pointer (some ⟨rd, 0, none⟩), pr] 51 (0, 0)) := box_keep hb1 hk2 (fun hg => nR (hGR _ hg))
  have hlb1 : lb < w1.heap.size := by obtain ⟨v, hL, _⟩ := hA1.ex; exact hL.lt
  have hF1lt : ∀ i, F1 i → i < w1.heap.size := by obtain ⟨v, hL, _⟩ := hA1.ex; exact hL.D.lt
  have hrl2 : rl < w2.heap.size := by obtain ⟨v, hL, _⟩ := hA2.ex; exact hL.lt
  have hG2lt : ∀ i, G2 i → i < w2.heap.size := by obtain ⟨v, hL, _⟩ := hA2.ex; exact hL.R.lt
  have hGw : ∀ i, G i → i < w.heap.size := hRf.lt
  have hA1' : LogAt w2 F1 H1 lb d lg k2 := by
   refine hA1.keep hk2 (fun i hi hg => ?_) (fun i hi hg => ?_) (fun hg => ?_) (fun hg => ?_)
   ·rcases hF1 i hi with h9 | h9
    ·exact hPR i (hFP i h9) (hGR i hg)
    ·have := hGw i hg; omega
   ·have := hH1 i hi; have := hGw i hg; omega
   ·have := hGw _ hg; omega
   ·have := (hlt _ (Or.inr (hGR _ hg))).1; omega
  obtain ⟨W, hW⟩ : ∃ W, (w2.setCell ⟨sb, 1, none⟩ (.pointer (some ⟨lb, 0, none⟩))).setCell ⟨sb, 3, none⟩ (.pointer (some ⟨rl, 0, none⟩)) = W := ⟨_, rfl⟩
  have c1 : w2.cell? ⟨sb, 1, none⟩ = some pl := by rw [cell_of_block hb2]; rfl
  have f1 : w2.frozen? ⟨sb, 1, none⟩ = false := unfrozen_of_block hb2 1
  have hb3 := block_setCell (i := 1) hb2 (.pointer (some ⟨lb, 0, none⟩))
  have c3 : (w2.setCell ⟨sb, 1, none⟩ (.pointer (some ⟨lb, 0, none⟩))).cell? ⟨sb, 3, none⟩ = some pr := by rw [cell_of_block hb3]; rfl
  have f3 : (w2.setCell ⟨sb, 1, none⟩ (.pointer (some ⟨lb, 0, none⟩))).frozen? ⟨sb, 3, none⟩ = false := unfrozen_of_block hb3 3
  have hb4 := block_setCell (i := 3) hb3 (.pointer (some ⟨rl, 0, none⟩))
  have hkW : Keep (fun i => i = sb) w2 W := by rw [← hW]; exact ((Keep.refl (fun i => i = sb) w2).setCell (p := ⟨sb, 1, none⟩) rfl _).setCell (p := ⟨sb, 3, none⟩) rfl _
  rw [hW] at hb4
  have hkBel : Below B w W := by
   have b1 := hk1.below (show B ≤ w.heap.size by omega) (fun i hi => (hlt i (Or.inl (hFP i hi))).1)
   have b2 := hk2.below (show B ≤ w1.heap.size by omega) (fun i hi => (hlt i (Or.inr (hGR i hi))).1)
   have b3 := hkW.below (show B ≤ w2.heap.size by omega) (fun i e => by subst e; exact hsn)
   exact (b1.trans b2).trans b3
  have sW := hkW.size
  have hH1lt := hA1.lt
  have hH2lt := hA2.lt
  have hFlt : ∀ i, F i → i < w.heap.size := hD.lt
  have hfin : Sd B W sb d rd (some lg) k2 := by
   have nF : ∀ i, F1 i → ¬ i = sb := fun i hi e => by
    subst e
    rcases hF1 _ hi with h9 | h9
    ·exact nP (hFP _ h9)
    ·omega
   have nG : ∀ i, G2 i → ¬ i = sb := fun i hi e => by
    subst e
    rcases hG2 _ hi with h9 | h9
    ·exact nR (hGR _ h9)
    ·omega
   have nH1 : ∀ i, H1 i → ¬ i = sb := fun i hi e => by have := hH1 i hi; omega
   have nH2 : ∀ i, H2 i → ¬ i = sb := fun i hi e => by have := hH2 i hi; omega
   have hA1W : LogAt W F1 H1 lb d lg k2 := hA1'.keep hkW nF nH1 (by omega) (by omega)
   have hA2W : RLogAt W G2 H2 rl rd lg k2 := hA2.keep hkW nG nH2 (by omega)
   obtain ⟨vL, hLL, _⟩ := hA1W.ex
   obtain ⟨vR, hRR, _⟩ := hA2W.ex
   refine ⟨⟨fun i => F1 i ∨ H1 i ∨ i = lb, fun i => G2 i ∨ H2 i ∨ i = rl, _, _, hb4, ⟨F1, fun i hi => Or.inl hi, hLL.D, hA1W.pf.fl, lb, H1, rfl, hA1W, fun i hi => Or.inr (Or.inl hi), Or.inr (Or.inr rfl)⟩, ⟨G2, fun i hi => Or.inl hi, hRR.R, rl, H2, rfl, hA2W, fun i hi => Or.inr (Or.inl hi), Or.inr (Or.inr rfl)⟩, fun i hi hj => ?_, fun hi => ?_, fun hi => ?_, fun i hi => ?_⟩, hsn, hA1W.pf.pw, hpB⟩
   ·have hi1 : F1 i ∨ w.heap.size ≤ i := by
     rcases hi with hi | hi | hi
     ·exact Or.inl hi
     ·exact Or.inr (hH1 i hi)
     ·exact Or.inr (by omega)
    have hi2 : i < w1.heap.size := by
     rcases hi with hi | hi | hi
     ·exact hF1lt i hi
     ·exact hH1lt i hi
     ·omega
    have hj1 : G i ∨ w1.heap.size ≤ i := by
     rcases hj with hj | hj | hj
     ·exact hG2 i hj
     ·exact Or.inr (hH2 i hj)
     ·exact Or.inr (by omega)
    rcases hj1 with hj1 | hj1
    ·have hgi := hGw i hj1
     rcases hi1 with hi1 | hi1
     ·rcases hF1 i hi1 with h9 | h9
      ·exact hPR i (hFP i h9) (hGR i hj1)
      ·omega
     ·omega
    ·omega
   ·rcases hi with hi | hi | hi
    ·exact nF _ hi rfl
    ·exact nH1 _ hi rfl
    ·omega
   ·rcases hi with hi | hi | hi
    ·exact nG _ hi rfl
    ·exact nH2 _ hi rfl
    ·omega
   ·rcases hi with (hi | hi | hi) | (hi | hi | hi)
    ·refine ⟨?_, by have := hF1lt i hi; omega⟩
     rcases hF1 i hi with h9 | h9
     ·exact (hlt i (Or.inl (hFP i h9))).1
     ·omega
    ·exact ⟨by have := hH1 i hi; omega, by have := hH1lt i hi; omega⟩
    ·exact ⟨by omega, by omega⟩
    ·refine ⟨?_, by have := hG2lt i hi; omega⟩
     rcases hG2 i hi with h9 | h9
     ·exact (hlt i (Or.inr (hGR i h9))).1
     ·omega
    ·exact ⟨by have := hH2 i hi; omega, by have := hH2lt i hi; omega⟩
    ·exact ⟨by omega, by omega⟩
  clear q0 q2 hb1 hb2 hb3 hA1 hA2 hA1'
  go_wp2
  go_ret
  exact ⟨rfl, hfin, hkBel⟩
 ·rw [if_neg h0]
  have hso' := hso.mono (fun e w' hO => hO.no h0)
  have hro' := fun w' hr => (hro w' hr).mono (fun e w'' (hO : ROp w' w'' G rd (en, lg, k2) e) => hO.elim (fun h9 => h9.2) (fun h9 => absurd h9.1 h0))
  dsimp only at hso' hro'
  clear hso hro
  have hee : ((en : Int) == (en : Int)) = true := by simp
  clear h0
  go_enter Tryz.func19, Tryz.ntmps19
  go_upto_region 2 with (first
   | (go_at_call 20; refine hso'.mono ?_; clear hso'; rintro e w1 ⟨rfl, F1, hD1, hk1, hF1⟩))
  have hb1 : w1.heap[sb]? = some (.cells #[.pointer (some ⟨d, 0, none⟩), pl, .pointer (some ⟨rd, 0, none⟩), pr] 51 (0, 0)) := box_keep hblk hk1 (fun hf => nP (hFP _ hf))
  have q2 : w1.cell? ⟨sb, 2, none⟩ = some (.pointer (some ⟨rd, 0, none⟩)) := by rw [cell_of_block hb1]; rfl
  have hRf1 := hRf.keep hk1 (fun i hi hf => hPR i (hFP i hf) (hGR i hi))
  replace hro' := hro' w1 hRf1
  go_upto_region 3 with (first
   | (go_at_call 59; refine hro'.mono ?_; clear hro'; rintro e w2 ⟨rfl, G2, hR2, hk2, hG2⟩))
  have s1 := hk1.size
  have s2 := hk2.size
  have hb2 : w2.heap[sb]? = some (.cells #[.pointer (some ⟨d, 0, none⟩), pl, .pointer (some ⟨rd, 0, none⟩), pr] 51 (0, 0)) := box_keep hb1 hk2 (fun hg => nR (hGR _ hg))
  have hGw : ∀ i, G i → i < w.heap.size := hRf.lt
  have hD1' : DiskAt w2 F1 d k2 := hD1.keep hk2 (fun i hi hg => by
   rcases hF1 i hi with h9 | h9
   ·exact hPR i (hFP i h9) (hGR i hg)
   ·have := hGw i hg; omega)
  obtain ⟨W, hW⟩ : ∃ W, (w2.setCell ⟨sb, 1, none⟩ (.pointer none)).setCell ⟨sb, 3, none⟩ (.pointer none) = W := ⟨_, rfl⟩
  have c1 : w2.cell? ⟨sb, 1, none⟩ = some pl := by rw [cell_of_block hb2]; rfl
  have f1 : w2.frozen? ⟨sb, 1, none⟩ = false := unfrozen_of_block hb2 1
  have hb3 := block_setCell (i := 1) hb2 (.pointer none)
  have c3 : (w2.setCell ⟨sb, 1, none⟩ (.pointer none)).cell? ⟨sb, 3, none⟩ = some pr := by rw [cell_of_block hb3]; rfl
  have f3 : (w2.setCell ⟨sb, 1, none⟩ (.pointer none)).frozen? ⟨sb, 3, none⟩ = false := unfrozen_of_block hb3 3
  have hb4 := block_setCell (i := 3) hb3 (.pointer none)
  have hkW : Keep (fun i => i = sb) w2 W := by rw [← hW]; exact ((Keep.refl (fun i => i = sb) w2).setCell (p := ⟨sb, 1, none⟩) rfl _).setCell (p := ⟨sb, 3, none⟩) rfl _
  rw [hW] at hb4
  have hkBel : Below B w W := by
   have b1 := hk1.below (show B ≤ w.heap.size by omega) (fun i hi => (hlt i (Or.inl (hFP i hi))).1)
   have b2 := hk2.below (show B ≤ w1.heap.size by omega) (fun i hi => (hlt i (Or.inr (hGR i hi))).1)
   have b3 := hkW.below (show B ≤ w2.heap.size by omega) (fun i e => by subst e; exact hsn)
   exact (b1.trans b2).trans b3
  have sW := hkW.size
  have hF1lt := hD1.lt
  have hG2lt := hR2.lt
  have hpw : Pw W := ((h.pw.keep hk1 (fun hf => by have := hFg _ hf; omega)).keep hk2 (fun hg => by have := (hlt _ (Or.inr (hGR _ hg))).1; omega)).keep hkW (by omega)
  have hfin : Sd B W sb d rd none k2 := by
   have nF : ∀ i, F1 i → ¬ i = sb := fun i hi e => by
    subst e
    rcases hF1 _ hi with h9 | h9
    ·exact nP (hFP _ h9)
    ·omega
   have nG : ∀ i, G2 i → ¬ i = sb := fun i hi e => by
    subst e
    rcases hG2 _ hi with h9 | h9
    ·exact nR (hGR _ h9)
    ·omega
   refine ⟨⟨F1, G2, _, _, hb4, ⟨F1, fun i hi => hi, hD1'.keep hkW nF, fun i hi => ?_, rfl⟩, ⟨G2, fun i hi => hi, hR2.keep hkW nG, rfl⟩, fun i hi hj => ?_, fun hi => nF _ hi rfl, fun hi => nG _ hi rfl, fun i hi => ?_⟩, hsn, hpw, hpB⟩
   ·rcases hF1 i hi with h9 | h9
    ·exact hFg i h9
    ·omega
   ·have := hF1lt i hi
    rcases hG2 i hj with h8 | h8
    ·have hgi := hGw i h8
     rcases hF1 i hi with h9 | h9
     ·exact hPR i (hFP i h9) (hGR i h8)
     ·omega
    ·omega
   ·rcases hi with hi | hi
    ·refine ⟨?_, by have := hF1lt i hi; omega⟩
     rcases hF1 i hi with h9 | h9
     ·exact (hlt i (Or.inl (hFP i h9))).1
     ·omega
    ·refine ⟨?_, by have := hG2lt i hi; omega⟩
     rcases hG2 i hi with h9 | h9
     ·exact (hlt i (Or.inr (hGR i h9))).1
     ·omega
  clear q0 q2 hb1 hb2 hb3 hD1 hD1' hR2
  go_wp2
  go_ret
  exact ⟨rfl, hfin, hkBel⟩
end Go.Proofs.YtikkieaokfailaaGreatDoor

namespace Go.Proofs.YtikkieaokfailaaGreatDoor
open Go.RowKit Go.Joins
set_option maxRecDepth 100000 in
theorem ropen_bad (d : Nat) (most : Int) (h : most < 16 ∨ 1048576 < most) (w : World) : Calls Tryz.prog 59 #[.pointer (some ⟨d, 0, none⟩), .int .i64 most] w fun e w' => e = .returned (.tuple #[.pointer none, .int .i64 1]) ∧ w' = w := by
 by_cases h1 : most < 16
 ·clear h
  go_enter Tryz.func59, Tryz.ntmps59
  go_wp2
  go_ret2
  exact ⟨rfl, rfl⟩
 ·have h2 : 1048576 < most := by omega
  clear h
  go_enter Tryz.func59, Tryz.ntmps59
  go_wp2
  go_ret2
  exact ⟨rfl, rfl⟩
set_option maxRecDepth 100000 in
set_option maxHeartbeats 4000000 in
theorem sideOpen_bad (B sb d rd : Nat) (most : Int) (w : World) (o : Option Lg) (k : Dk) (h : Sd B w sb d rd o k) (hm : most < 16 ∨ 1048576 < most) :
  Calls Tryz.prog 19 #[.pointer (some ⟨sb, 0, none⟩), .int .i64 most] w fun e w' => e = .returned (.bool true) ∧ Sd B w' sb d rd none k ∧ Below B w w' := by
 obtain ⟨P, R, pl, pr, hblk, hP, hRr, hPR, nP, nR, hlt⟩ := h.ex
 obtain ⟨F, hFP, hD, hFg, _⟩ := hP
 obtain ⟨G, hGR, hRf, _⟩ := hRr
 have q0 : w.cell? ⟨sb, 0, none⟩ = some (.pointer (some ⟨d, 0, none⟩)) := by rw [cell_of_block hblk]; rfl
 have q2 : w.cell? ⟨sb, 2, none⟩ = some (.pointer (some ⟨rd, 0, none⟩)) := by rw [cell_of_block hblk]; rfl
 have hso := sopen_bad (d : Int) most _ rfl hm w
 rw [Int.toNat_natCast] at hso
 have hro := ropen_bad rd most hm w
 have hsl : sb < w.heap.size := (Array.getElem?_eq_some_iff.1 hblk).1
 have hsn := h.sn
 have hpB := h.pB
 obtain ⟨W, hW⟩ : ∃ W, (w.setCell ⟨sb, 1, none⟩ (.pointer none)).setCell ⟨sb, 3, none⟩ (.pointer none) = W := ⟨_, rfl⟩
 have c1 : w.cell? ⟨sb, 1, none⟩ = some pl := by rw [cell_of_block hblk]; rfl
 have f1 : w.frozen? ⟨sb, 1, none⟩ = false := unfrozen_of_block hblk 1
 have hb3 := block_setCell (i := 1) hblk (.pointer none)
 have c3 : (w.setCell ⟨sb, 1, none⟩ (.pointer none)).cell? ⟨sb, 3, none⟩ = some pr := by rw [cell_of_block hb3]; rfl
 have f3 : (w.setCell ⟨sb, 1, none⟩ (.pointer none)).frozen? ⟨sb, 3, none⟩ = false := unfrozen_of_block hb3 3
 have hb4 := block_setCell (i := 3) hb3 (.pointer none)
 have hkW : Keep (fun i => i = sb) w W := by rw [← hW]; exact ((Keep.refl (fun i => i = sb) w).setCell (p := ⟨sb, 1, none⟩) rfl _).setCell (p := ⟨sb, 3, none⟩) rfl _
 rw [hW] at hb4
 have hkBel : Below B w W := hkW.below (show B ≤ w.heap.size by omega) (fun i e => by subst e; exact hsn)
 have sW := hkW.size
 have hFlt := hD.lt
 have hGlt := hRf.lt
 have hfin : Sd B W sb d rd none k := by
  have nF : ∀ i, F i → ¬ i = sb := fun i hi e => nP (by rw [← e]; exact hFP i hi)
  have nG : ∀ i, G i → ¬ i = sb := fun i hi e => nR (by rw [← e]; exact hGR i hi)
  refine ⟨⟨F, G, _, _, hb4, ⟨F, fun i hi => hi, hD.keep hkW nF, hFg, rfl⟩, ⟨G, fun i hi => hi, hRf.keep hkW nG, rfl⟩, fun i hi hj => hPR i (hFP i hi) (hGR i hj), fun hi => nF _ hi rfl, fun hi => nG _ hi rfl, fun i hi => ?_⟩, hsn, h.pw.keep hkW (by omega), hpB⟩
  rcases hi with hi | hi
  ·exact ⟨(hlt i (Or.inl (hFP i hi))).1, by have := hFlt i hi; omega⟩
  ·exact ⟨(hlt i (Or.inr (hGR i hi))).1, by have := hGlt i hi; omega⟩
 clear hblk hb3 hD hRf hm
 go_enter Tryz.func19, Tryz.ntmps19
 go_wp2_with (first
  | (go_at_call 20; refine hso.mono ?_; clear hso; rintro e w1 ⟨rfl, h9⟩; replace h9 := h9.symm; subst h9)
  | (go_at_call 59; refine hro.mono ?_; clear hro; rintro e w2 ⟨rfl, h9⟩; replace h9 := h9.symm; subst h9))
 go_ret
 exact ⟨rfl, hfin, hkBel⟩
def opI (most : Int) (k : Dk) : Option Lg × Dk := if most < 16 ∨ 1048576 < most then (none, k) else (opO most.toNat k, (openL most.toNat k).2.2)
theorem sideOpen_all (B sb d rd : Nat) (most : Int) (w : World) (o : Option Lg) (k : Dk) (h : Sd B w sb d rd o k) (hfl : k.fs.length ≤ 2500) (hst : k.steps < 800000) (hu : used k.fs ≤ 900000) :
  Calls Tryz.prog 19 #[.pointer (some ⟨sb, 0, none⟩), .int .i64 most] w fun e w' => e = .returned (.bool true) ∧ Sd B w' sb d rd (opI most k).1 (opI most k).2 ∧ Below B w w' := by
 unfold opI
 by_cases hm : most < 16 ∨ 1048576 < most
 ·rw [if_pos hm]
  exact sideOpen_bad B sb d rd most w o k h hm
 ·rw [if_neg hm]
  have := sideOpen_any B sb d rd most.toNat w o k h (by omega) (by omega) hfl hst hu
  rw [Int.toNat_of_nonneg (by omega)] at this
  exact this
end Go.Proofs.YtikkieaokfailaaGreatDoor

namespace Go.Proofs.YtikkieaokfailaaGreatDoor
open Go.ChangeShapes Go.WideShapes Go.ChangeAt Go.RowKit
structure IAr (W : World) (a : Option Addr) (n c : Nat) (zs : List Int) : Prop where
 len : zs.length = n
 cap : n ≤ c
 most : c ≤ 9223372036854775807
 nil : a = none → c = 0
 cells : ∀ ad, a = some ad → ∀ j, j < n → W.cell? (ad.add j) = some (.int .i64 (zs.getD j 0))
theorem IAr.carry {W W' : World} {a : Option Addr} {n c : Nat} {zs : List Int} (h : IAr W a n c zs) (hb : Below W.heap.size W W') : IAr W' a n c zs :=
 ⟨h.len, h.cap, h.most, h.nil, fun ad ha j hj => (hb.cell (World.block_lt_of_cell? W _ (h.cells ad ha j hj))).trans (h.cells ad ha j hj)⟩
theorem IAr.take {W : World} {a : Option Addr} {n c : Nat} {zs : List Int} (h : IAr W a n c zs) {k : Nat} (hk : k ≤ n) : IAr W a k c (zs.take k) :=
 ⟨by rw [List.length_take, h.len]; omega, by have := h.cap; omega, h.most, h.nil, fun ad ha j hj => by
  rw [h.cells ad ha j (by omega)]
  simp [List.getD, hj]⟩
theorem iar_nil (W : World) : IAr W none 0 0 [] := ⟨rfl, Nat.le_refl _, by omega, fun _ => rfl, fun _ h => by cases h⟩
theorem iar_of_cells {H : Type} {enc : TypeId × Value → H} {W : World} {v : Value} {n : Nat} {y : DataW H × List MemPlace}
  (h : DataW.trod enc Tryz.prog W 0 (fun _ => true) true n 31 [v] = some y) : ∃ a n c zs, v = .slice a n c ∧ IAr W a n c zs := by
 rcases open_ints Tryz.underlying31 Tryz.underlying3 (by kernel_rfl) h with ⟨hcs, _⟩ | ⟨x, l, cc, zs, hcs, _, hl, hm, hz, _, hcell, hwz⟩
 ·simp only [List.cons.injEq, and_true] at hcs
  exact ⟨none, 0, 0, [], hcs, iar_nil W⟩
 ·simp only [List.cons.injEq, and_true] at hcs
  have hz' : zs.length = cc := by simpa using hz
  refine ⟨some x, l, cc, zs.take l, hcs, by rw [List.length_take]; omega, hl, hm, (fun h => by cases h), fun ad had j hj => ?_⟩
  cases had
  rw [hcell j (by omega)]
  simp [List.getD, hj]
def ic (zs : List Int) : List Value := zs.map (Value.int .i64)
theorem Tryz.info3 : (Tryz.prog.info? 3).map (fun i => (i.zero, i.size, i.bytes)) = some (some (.int .i64 0), 1, 8) := by kernel_rfl
theorem ic_one (zs : List Int) : ∀ u ∈ ic zs, u.oneCell' = true := by
 intro u hu
 obtain ⟨x, _, rfl⟩ := List.mem_map.1 hu
 rfl
theorem wp_app0I {w : World} {ops : Array Oper} {rest : List Oper} {o : Oper} {a : Act} {Q : Exit → Act → World → Prop} (hgd : o.guard = none) (s x : Operand)
  (ho : o.op = .call { callee := .builtin .append, args := #[s, x], argTypes := #[31, 31] })
  (hs : a.eval s = .slice (some ⟨w.heap.size, 0, none⟩) 0 0)
  (ao : Option Addr) (m c : Nat) (zs : List Int) (hx : a.eval x = .slice ao m c) (hr : IAr w ao m c zs) (hb : m ≤ 1000000000)
  (h : ∀ v' w', w'.ownsRow w.heap.size 3 1 v' m (ic zs) → Below w.heap.size w w' → wpList Tryz.prog ops Q rest (a.put o.dst v') w') : wpList Tryz.prog ops Q (o :: rest) a (w.alloc (.cells #[] 3)) := by
 obtain ⟨i0, hi, hz0, hz1, hz2⟩ := info_parts Tryz.info3
 have hown : (w.alloc (.cells #[] 3)).ownsRow w.heap.size 3 1 (.slice (some ⟨w.heap.size, 0, none⟩) 0 0) 0 [] := World.ownsRow_made w #[] 0 (Nat.le_refl _) (by unfold maxLen; omega) rfl
 have hbel : Below w.heap.size w (w.alloc (.cells #[] 3)) := (Below.refl _ _).alloc (Nat.le_refl _) _
 cases ao with
 | none =>
  have hc0 := hr.nil rfl
  have hcm := hr.cap
  obtain rfl : c = 0 := hc0
  obtain rfl : m = 0 := by omega
  have hzs : zs = [] := List.eq_nil_of_length_eq_zero hr.len
  subst hzs
  refine wpList_append_own_none hgd s x 31 ho w.heap.size 3 i0 1 Tryz.underlying31 hi _ 0 [] hs hown hx ?_
  exact h _ _ hown hbel
 | some ad =>
  refine wpList_append_own (w.alloc (.cells #[] 3)) hgd s x 31 ho w.heap.size 3 i0 (.int .i64 0) 1 8 Tryz.underlying31 hi hz0 hz1 hz2 rfl (by decide) _ 0 [] hs hown ad m c (ic zs) hx (by simp [ic, hr.len]) (fun j u hu => ?_) (ic_one zs) (by unfold maxLen; omega) (by omega) (by simp) ?_
  ·have hj : j < m := by
    have := (List.getElem?_eq_some_iff.1 hu).1
    simp [ic, hr.len] at this
    exact this
   have hjz : j < zs.length := by rw [hr.len]; exact hj
   have := (hr.carry hbel).cells ad rfl j hj
   rw [this]
   simp only [ic, List.getElem?_map, List.getElem?_eq_getElem hjz, Option.map_some] at hu
   rw [← hu]
   simp [List.getD, hjz]
  ·intro v' w' k1 k2 _
   simp only [Nat.zero_add, List.nil_append] at k1
   exact h v' w' k1 (hbel.grown k2 (by simp) (fun k hk => by cases hk; exact Nat.le_refl _))
theorem ints_any (a : Option Addr) (n c : Nat) (zs : List Int) (w : World) (hR : IAr w a n c zs) :
  Calls Tryz.prog 25 #[.slice a n c] w fun e w' => ∃ v g, e = .returned v ∧ IRd w' g v (zs.take 30) ∧ w.heap.size ≤ g ∧ Below w.heap.size w w' := by
 have hcp := hR.cap
 have hmx := hR.most
 have fin : ∀ v w' k, (zs.take 30).length = k → w'.ownsRow w.heap.size 3 1 v k (ic (zs.take 30)) → ∃ g, IRd w' g v (zs.take 30) ∧ w.heap.size ≤ g := fun v w' k hl ho => by
  rcases ho.2 with ⟨rfl, h0⟩ | ⟨g, cap, cur, rfl, hg, hb, hnc, hcm, hcs, htk⟩
  ·subst h0
   exact ⟨w.heap.size, ⟨none, 0, by rw [hl], by omega, by omega, fun h => absurd (List.eq_nil_of_length_eq_zero hl) h⟩, Nat.le_refl _⟩
  ·refine ⟨g, ⟨_, cap, by rw [hl], by omega, by unfold maxLen at hcm; omega, fun _ => ⟨0, rfl, fun j hj => ?_⟩⟩, hg⟩
   have := ho.cells (g := g) rfl j (.int .i64 ((zs.take 30).getD j 0)) (by rw [ic, List.getElem?_map, List.getD_eq_getElem?_getD, List.getElem?_eq_getElem hj]; rfl)
   rw [add_flat] at this
   exact this
 by_cases hn : (30 : Int) < (n : Int)
 ·have hl : (zs.take 30).length = 30 := by rw [List.length_take, hR.len]; omega
  have HL : Hid ((zs.take 30).length = 30) := hl
  clear hl
  go_enter Tryz.func25, Tryz.ntmps25
  go_wp2_with (at_builtin; refine wp_app0I rfl _ _ rfl rfl a 30 c (zs.take 30) rfl (hR.take (by omega)) (by omega) ?_; intro v' w1 hown1 hb1)
  go_ret
  obtain ⟨g, h1, h2⟩ := fin _ _ _ HL.out hown1
  first | exact ⟨_, g, rfl, h1, h2, hb1⟩ | exact ⟨_, rfl, g, h1, h2, hb1⟩ | exact ⟨_, rfl, ⟨g, h1, h2⟩, hb1⟩
 ·have ht : zs.take 30 = zs := List.take_of_length_le (by rw [hR.len]; omega)
  have hl : (zs.take 30).length = n := by rw [ht, hR.len]
  have HT : Hid (zs.take 30 = zs) := ht
  have HL : Hid ((zs.take 30).length = n) := hl
  clear ht hl
  go_enter Tryz.func25, Tryz.ntmps25
  go_wp2_with (at_builtin; refine wp_app0I rfl _ _ rfl rfl a n c zs rfl hR (by omega) ?_; intro v' w1 hown1 hb1)
  go_ret
  obtain ⟨g, h1, h2⟩ := fin _ _ _ HL.out (by rw [HT.out]; exact hown1)
  first | exact ⟨_, g, rfl, h1, h2, hb1⟩ | exact ⟨_, rfl, g, h1, h2, hb1⟩ | exact ⟨_, rfl, ⟨g, h1, h2⟩, hb1⟩
theorem cellsBytes : Tryz.prog.cellsOf 29 = 1 := by kernel_rfl
theorem cellsInt : Tryz.prog.cellsOf 3 = 1 := by kernel_rfl
theorem cellsRows : Tryz.prog.cellsOf 30 = 1 := by kernel_rfl
theorem cellsInts : Tryz.prog.cellsOf 31 = 1 := by kernel_rfl
end Go.Proofs.YtikkieaokfailaaGreatDoor

namespace Go.Proofs.YtikkieaokfailaaGreatDoor
open Go.ChangeShapes Go.WideShapes Go.ChangeAt Go.RowKit
structure OpAt (w : World) (b q : Nat) (On Do : Int) (A B : Nm) (ar : Option Addr) (nr cr : Nat) (xs : List Int) (Nn : Int) (ak : Option Addr) (nk ck : Nat) (zs : List Int) : Prop where
 c0 : w.cell? ⟨b, q, none⟩ = some (.int .i64 On)
 c1 : w.cell? ⟨b, q + 1, none⟩ = some (.int .i64 Do)
 c2 : w.cell? ⟨b, q + 2, none⟩ = some (.string A)
 c3 : w.cell? ⟨b, q + 3, none⟩ = some (.string B)
 c4 : w.cell? ⟨b, q + 4, none⟩ = some (.slice ar nr cr)
 c5 : w.cell? ⟨b, q + 5, none⟩ = some (.int .i64 Nn)
 c6 : w.cell? ⟨b, q + 6, none⟩ = some (.slice ak nk ck)
 hA : A.size ≤ 9223372036854775807
 hB : B.size ≤ 9223372036854775807
 hR : Rd w ar nr cr xs
 hN : -9223372036854775808 ≤ Nn ∧ Nn ≤ 9223372036854775807
 hK : IAr w ak nk ck zs
theorem OpAt.below {w w' : World} {b q : Nat} {On Do : Int} {A B : Nm} {ar : Option Addr} {nr cr : Nat} {xs : List Int} {Nn : Int} {ak : Option Addr} {nk ck : Nat} {zs : List Int} (h : OpAt w b q On Do A B ar nr cr xs Nn ak nk ck zs) (hb : Below w.heap.size w w') : OpAt w' b q On Do A B ar nr cr xs Nn ak nk ck zs := by
 have t : ∀ i u, w.cell? ⟨b, i, none⟩ = some u → w'.cell? ⟨b, i, none⟩ = some u := fun i u hc => (hb.cell (p := ⟨b, i, none⟩) (World.block_lt_of_cell? w _ hc)).trans hc
 exact ⟨t _ _ h.c0, t _ _ h.c1, t _ _ h.c2, t _ _ h.c3, t _ _ h.c4, t _ _ h.c5, t _ _ h.c6, h.hA, h.hB, h.hR.carry (Nat.le_refl _) hb, h.hN, h.hK.carry hb⟩
structure ORd (w : World) (a : Option Addr) (n c : Nat) : Prop where
 cap : n ≤ c
 most : c ≤ 9223372036854775807
 flat : 0 < n → ∃ b off, a = some ⟨b, off, none⟩ ∧ ∀ j, j < n → ∃ On Do A B ar nr cr xs Nn ak nk ck zs, OpAt w b (off + j * 7) On Do A B ar nr cr xs Nn ak nk ck zs
theorem cellsOp : Tryz.prog.cellsOf 45 = 7 := by kernel_rfl
theorem cellsStr : Tryz.prog.cellsOf 9 = 1 := by kernel_rfl
set_option maxRecDepth 100000 in
set_option maxHeartbeats 2000000 in
theorem open_ops {H : Type} {enc : TypeId × Value → H} {W : World} {b0 : Nat} {v : Value} {d : DataW H} {p : List MemPlace}
  (hv : Value.okWide Tryz.prog W .any b0 35 v) (h : DataW.Trod enc Tryz.prog W 0 (fun _ => true) true 35 v d p) : ∃ a n c, v = .slice a n c ∧ ORd W a n c := by
 obtain ⟨a, n, c, rfl⟩ := okWide_slice Tryz.underlying35 hv
 refine ⟨a, n, c, rfl, ?_⟩
 obtain ⟨fuel, hf⟩ := h
 rcases Go.Deep.open_slice Tryz.underlying35 hf with ⟨hcs, _⟩ | ⟨x, l, cc, m, k, D, Pl, hcs, hb, hl, hm, hmm, _, hx⟩
 ·simp [Value.cells] at hcs
  obtain ⟨rfl, rfl, rfl⟩ := hcs
  exact ⟨Nat.le_refl _, by omega, fun h => by omega⟩
 ·simp [Value.cells] at hcs
  obtain ⟨rfl, rfl, rfl⟩ := hcs
  simp only [if_true] at hmm
  subst hmm
  have each : ∀ j, j < n → ∃ (On Do : Int) (A B : Nm) (ar : Option Addr) (nr cr : Nat) (xs : List Int) (Nn : Int) (ak : Option Addr) (nk ck : Nat) (zs : List Int), W.cell? (x.add (j * 7)) = some (.int .i64 On) ∧ W.cell? (x.add (j * 7 + 1)) = some (.int .i64 Do) ∧ W.cell? (x.add (j * 7 + 2)) = some (.string A) ∧ W.cell? (x.add (j * 7 + 3)) = some (.string B) ∧ W.cell? (x.add (j * 7 + 4)) = some (.slice ar nr cr) ∧ W.cell? (x.add (j * 7 + 5)) = some (.int .i64 Nn) ∧ W.cell? (x.add (j * 7 + 6)) = some (.slice ak nk ck) ∧ A.size ≤ 9223372036854775807 ∧ B.size ≤ 9223372036854775807 ∧ Rd W ar nr cr xs ∧ (-9223372036854775808 ≤ Nn ∧ Nn ≤ 9223372036854775807) ∧ IAr W ak nk ck zs := by
   intro j hj
   obtain ⟨cs', h1, h2⟩ := hx j (by omega)
   rw [cellsOp] at h1
   obtain ⟨_, hlen, hcell⟩ := World.cells?_some h1
   obtain ⟨ws, q, hq, hxy, _, hxl, hfs⟩ := DataW.trod_struct Tryz.underlying45 h2
   match ws, hxl, cs', hlen with
   | [y0, y1, y2, y3, y4, y5, y6], _, [v0, v1, v2, v3, v4, v5, v6], _ =>
    have f0 : DataW.trod enc Tryz.prog W 0 (fun _ => true) true q 3 [v0] = some y0 := by simpa [Value.cells, cellsInt] using hfs 0 _ rfl
    have f1 : DataW.trod enc Tryz.prog W 0 (fun _ => true) true q 3 [v1] = some y1 := by simpa [Value.cells, cellsInt] using hfs 1 _ rfl
    have f2 : DataW.trod enc Tryz.prog W 0 (fun _ => true) true q 9 [v2] = some y2 := by simpa [Value.cells, cellsStr] using hfs 2 _ rfl
    have f3 : DataW.trod enc Tryz.prog W 0 (fun _ => true) true q 9 [v3] = some y3 := by simpa [Value.cells, cellsStr] using hfs 3 _ rfl
    have f4 : DataW.trod enc Tryz.prog W 0 (fun _ => true) true q 29 [v4] = some y4 := by simpa [Value.cells, cellsBytes] using hfs 4 _ rfl
    have f5 : DataW.trod enc Tryz.prog W 0 (fun _ => true) true q 3 [v5] = some y5 := by simpa [Value.cells, cellsInt] using hfs 5 _ rfl
    have f6 : DataW.trod enc Tryz.prog W 0 (fun _ => true) true q 31 [v6] = some y6 := by simpa [Value.cells, cellsInts] using hfs 6 _ rfl
    obtain ⟨K0, e0, _, w0⟩ := DataW.trod_int Tryz.underlying3 f0
    obtain ⟨K1, e1, _, w1⟩ := DataW.trod_int Tryz.underlying3 f1
    obtain ⟨S2, e2, _, w2⟩ := DataW.trod_string Tryz.underlying9 f2
    obtain ⟨S3, e3, _, w3⟩ := DataW.trod_string Tryz.underlying9 f3
    obtain ⟨K5, e5, _, w5⟩ := DataW.trod_int Tryz.underlying3 f5
    obtain ⟨ar, nr, cr, xs, e4, hR⟩ := rd_of_cells f4
    obtain ⟨ak, nk, ck, zs, e6, hK⟩ := iar_of_cells f6
    simp only [List.cons.injEq, and_true] at e0 e1 e2 e3 e5
    subst e0 e1 e2 e3 e4 e5 e6
    have b5 := bounds_i64 w5
    have c0 := hcell 0 (by omega)
    have c1 := hcell 1 (by omega)
    have c2 := hcell 2 (by omega)
    have c3 := hcell 3 (by omega)
    have c4 := hcell 4 (by omega)
    have c5 := hcell 5 (by omega)
    have c6 := hcell 6 (by omega)
    rw [Go.Deep.add_add] at c0 c1 c2 c3 c4 c5 c6
    exact ⟨K0, K1, S2, S3, ar, nr, cr, xs, K5, ak, nk, ck, zs, by simpa using c0, by simpa using c1, by simpa using c2, by simpa using c3, by simpa using c4, by simpa using c5, by simpa using c6, w2, w3, hR, b5, hK⟩
  refine ⟨hl, hm, fun h0 => ?_⟩
  obtain ⟨b, off, spot⟩ := x
  obtain ⟨_, _, _, _, _, _, _, _, _, _, _, _, _, e0, _⟩ := each 0 h0
  have hspot : spot = none := by simpa [Addr.add] using World.cell?_spot e0
  subst hspot
  refine ⟨b, off, rfl, fun j hj => ?_⟩
  obtain ⟨On, Do, A, B, ar, nr, cr, xs, Nn, ak, nk, ck, zs, e0, e1, e2, e3, e4, e5, e6, e7, e8, e9, e10, e11⟩ := each j hj
  rw [add_flat] at e0 e1 e2 e3 e4 e5 e6
  simp only [← Nat.add_assoc] at e0 e1 e2 e3 e4 e5 e6
  exact ⟨On, Do, A, B, ar, nr, cr, xs, Nn, ak, nk, ck, zs, ⟨e0, e1, e2, e3, e4, e5, e6, e7, e8, e9, e10, e11⟩⟩
set_option maxRecDepth 100000 in
set_option maxHeartbeats 2000000 in
theorem same_any (v u : Value) (ns : List Nm) (w : World) (B C : Nat) (hv : w.ownsRow B 9 1 v ns.length (nv ns)) (hu : w.ownsRow C 9 1 u ns.length (nv ns)) :
  Calls Tryz.prog 46 #[v, u] w fun e w' => e = .returned (.bool true) ∧ Below w.heap.size w w' := by
 obtain ⟨av, cv, rfl, hnv⟩ := own_formN hv
 obtain ⟨au, cu, rfl, hnu⟩ := own_formN hu
 obtain ⟨N, HN⟩ : ∃ N, Hid (ns.length = N) := ⟨_, rfl⟩
 have HV : Hid (w.ownsRow B 9 1 (.slice av ns.length cv) ns.length (nv ns)) := hv
 have HU : Hid (w.ownsRow C 9 1 (.slice au ns.length cu) ns.length (nv ns)) := hu
 rw [HN.out] at hnv ⊢
 have hself : ((N : Int) != (N : Int)) = false := by simp
 clear hv hu hnu
 go_enter Tryz.func46, Tryz.ntmps46
 go_wp2_with fail
 go_loopw [5] (fun s5 wr => ∃ i : Nat, i ≤ N ∧ s5 = .int .i64 i ∧ ∃ q, wr = w.drewN q) (fun s5 _ => N - (intOf s5).toNat)
 case atStart => exact ⟨0, by omega, rfl, 0, rfl⟩
 case round =>
  obtain ⟨i, hi, rfl, q, rfl⟩ := hrel
  by_cases hil : i < N
  ·have hcl : (i : Int) < (N : Int) := by omega
   have hi0 : (0 : Int) ≤ (i : Int) := by omega
   obtain ⟨x, hx⟩ : ∃ x, ns[i]? = some x := ⟨_, List.getElem?_eq_getElem (by rw [HN.out]; exact hil)⟩
   have hix : (nv ns)[i]? = some (.string x) := by unfold nv; rw [List.getElem?_map, hx]; rfl
   obtain ⟨gv, hgv, c1⟩ : ∃ g, av = some ⟨g, 0, none⟩ ∧ w.cell? ⟨g, i, none⟩ = some (.string x) := by
    rcases HV.out.2 with ⟨_, h0⟩ | ⟨g, cap, cur, h1, _⟩
    ·rw [HN.out] at h0; omega
    ·cases h1
     have hc := HV.out.cells (g := g) rfl i _ hix
     rw [add_flat, Nat.zero_add] at hc
     exact ⟨g, rfl, hc⟩
   obtain ⟨gu, hgu, c2⟩ : ∃ g, au = some ⟨g, 0, none⟩ ∧ w.cell? ⟨g, i, none⟩ = some (.string x) := by
    rcases HU.out.2 with ⟨_, h0⟩ | ⟨g, cap, cur, h1, _⟩
    ·rw [HN.out] at h0; omega
    ·cases h1
     have hc := HU.out.cells (g := g) rfl i _ hix
     rw [add_flat, Nat.zero_add] at hc
     exact ⟨g, rfl, hc⟩
   subst hgv hgu
   clear hx hix
   go_upto_region 6 with fail
   have c1' : (w.drewN q).cell? ⟨gv, i, none⟩ = some (.string x) := c1
   have c2' : (w.drewN q).cell? ⟨gu, i, none⟩ = some (.string x) := c2
   go_quiet (fail)
   go_wp2
   exact ⟨⟨i + 1, by omega, by go_num, q + nq, rfl⟩, by simp [intOf]; omega⟩
  ·obtain rfl : i = N := by omega
   have hcl : ¬ (i : Int) < (i : Int) := by omega
   go_wp2
   go_ret
   exact ⟨rfl, ⟨rfl, rfl, rfl, Nat.le_refl _, fun _ _ => rfl⟩⟩
end Go.Proofs.YtikkieaokfailaaGreatDoor

namespace Go.Proofs.YtikkieaokfailaaGreatDoor
open Go.RowKit Go.Joins
set_option maxRecDepth 400000 in
set_option maxHeartbeats 8000000 in
theorem sideSame_any (B sb d rd : Nat) (w : World) (o : Option Lg) (k : Dk) (h : Sd B w sb d rd o k) (hfl : k.fs.length ≤ 1000000) (hrec : ∀ l, o = some l → l.recs.length ≤ 1000000 ∧ ∀ r ∈ l.recs, r.length ≤ 1000000000) :
  Calls Tryz.prog 13 #[.pointer (some ⟨sb, 0, none⟩)] w fun e w' => e = .returned (.bool true) ∧ Below w.heap.size w w' := by
 obtain ⟨P, R, pl, pr, hblk, hP, hRr, hPR, nP, nR, hlt⟩ := h.ex
 have q0 : w.cell? ⟨sb, 0, none⟩ = some (.pointer (some ⟨d, 0, none⟩)) := by rw [cell_of_block hblk]; rfl
 have q1 : w.cell? ⟨sb, 1, none⟩ = some pl := by rw [cell_of_block hblk]; rfl
 have q2 : w.cell? ⟨sb, 2, none⟩ = some (.pointer (some ⟨rd, 0, none⟩)) := by rw [cell_of_block hblk]; rfl
 have q3 : w.cell? ⟨sb, 3, none⟩ = some pr := by rw [cell_of_block hblk]; rfl
 obtain ⟨F, hFP, hD, hFg, hL⟩ := hP
 obtain ⟨G, hGR, hRf, hRL⟩ := hRr
 have qd : w.cell? ⟨rd, 2, none⟩ = some (.int .i64 (k.steps : Int)) := by
  obtain ⟨v, sl, hb, _⟩ := hRf.ex
  rw [cell_of_block hb]; rfl
 have hst := fun q => steps_any d F k (w.drewN q) (hD.below ⟨rfl, rfl, rfl, Nat.le_refl _, fun _ _ => rfl⟩)
 have hus := fun q => used_any d F k (w.drewN q) (hD.below ⟨rfl, rfl, rfl, Nat.le_refl _, fun _ _ => rfl⟩)
 have hru := fun q => refUsed_any rd G k (w.drewN q) (hRf.keep (S := fun _ => False) (Keep.ofBelow ⟨rfl, rfl, rfl, Nat.le_refl _, fun _ _ => rfl⟩) (fun _ _ h => h))
 go_enter Tryz.func13, Tryz.ntmps13
 go_upto_region 1 with fail
 go_quiet ((first
  | (go_at_call 42; refine Calls.quiet_of_same (hst _))
  | (go_at_call 43; refine Calls.quiet_of_same (hus _))
  | (go_at_call 44; refine Calls.quiet_of_same (hru _))))
 have hb0 : Below w.heap.size w (w.drewN nq) := ⟨rfl, rfl, rfl, Nat.le_refl _, fun _ _ => rfl⟩
 have h0 := h.below hb0
 clear q0 q1 q2 q3 qd hst hus hru hD hRf hL hRL hFP hGR hFg hPR nP nR hlt hblk
 generalize w.drewN nq = W0 at hb0 h0 ⊢
 obtain ⟨P, R, pl, pr, hblk, hP, hRr, hPR, nP, nR, hlt⟩ := h0.ex
 have q0 : W0.cell? ⟨sb, 0, none⟩ = some (.pointer (some ⟨d, 0, none⟩)) := by rw [cell_of_block hblk]; rfl
 have q1 : W0.cell? ⟨sb, 1, none⟩ = some pl := by rw [cell_of_block hblk]; rfl
 have q2 : W0.cell? ⟨sb, 2, none⟩ = some (.pointer (some ⟨rd, 0, none⟩)) := by rw [cell_of_block hblk]; rfl
 have q3 : W0.cell? ⟨sb, 3, none⟩ = some pr := by rw [cell_of_block hblk]; rfl
 obtain ⟨F, hFP, hD, hFg, hL⟩ := hP
 obtain ⟨G, hGR, hRf, hRL⟩ := hRr
 cases o with
 | none =>
  have e1 : pl = .pointer none := hL
  have e2 : pr = .pointer none := hRL
  subst e1 e2
  clear hL hRL
  go_wp2
  go_ret
  exact ⟨rfl, hb0⟩
 | some l =>
  obtain ⟨lb, H, e1, hA, hHP, hlP⟩ := hL
  obtain ⟨rl, H2, e2, hA2, hHR, hlR⟩ := hRL
  subst e1 e2
  obtain ⟨hl1, hl2⟩ := hrec l rfl
  obtain ⟨vR, hDR, hRcR⟩ := hA2.ex
  have hRc9 := hRcR
  obtain ⟨⟨vs, ov, hvs⟩, _⟩ := hRcR
  obtain ⟨aR, cR, eR⟩ := own_sl ov
  subst eR
  have qr : W0.cell? ⟨rl, 3, none⟩ = some (.slice aR l.recs.length cR) := hDR.c3
  have hle := fun q => slen_any (W0.drewN q) F H lb d l k (hA.below ⟨rfl, rfl, rfl, Nat.le_refl _, fun _ _ => rfl⟩)
  have Hov : Hid (W0.ownsRow 0 29 1 (.slice aR l.recs.length cR) l.recs.length vs) := ov
  clear ov hRc9
  go_upto_region 5 with fail
  go_quiet ((go_at_call 26; refine Calls.quiet_of_same (hle _)))
  have hb1 : Below W0.heap.size W0 (W0.drewN nq) := ⟨rfl, rfl, rfl, Nat.le_refl _, fun _ _ => rfl⟩
  have HB1 : Hid (Below w.heap.size w (W0.drewN nq)) := hb0.trans (hb1.mono hb0.size)
  have HS1 : Hid (Below W0.heap.size W0 (W0.drewN nq)) := hb1
  clear hle hb1
  generalize W0.drewN nq = W1 at HB1 HS1 ⊢
  have hW : ∀ W : World, Below W0.heap.size W0 W → (W.cell? ⟨sb, 0, none⟩ = some (.pointer (some ⟨d, 0, none⟩)) ∧ W.cell? ⟨sb, 1, none⟩ = some (.pointer (some ⟨lb, 0, none⟩)) ∧ W.cell? ⟨sb, 2, none⟩ = some (.pointer (some ⟨rd, 0, none⟩)) ∧ W.cell? ⟨sb, 3, none⟩ = some (.pointer (some ⟨rl, 0, none⟩)) ∧ W.cell? ⟨rl, 3, none⟩ = some (.slice aR l.recs.length cR)) := fun W hb =>
   ⟨(hb.cell (World.block_lt_of_cell? _ _ q0)).trans q0, (hb.cell (World.block_lt_of_cell? _ _ q1)).trans q1, (hb.cell (World.block_lt_of_cell? _ _ q2)).trans q2, (hb.cell (World.block_lt_of_cell? _ _ q3)).trans q3, (hb.cell (World.block_lt_of_cell? _ _ qr)).trans qr⟩
  have HW : Hid (∀ W : World, Below W0.heap.size W0 W → (W.cell? ⟨sb, 0, none⟩ = some (.pointer (some ⟨d, 0, none⟩)) ∧ W.cell? ⟨sb, 1, none⟩ = some (.pointer (some ⟨lb, 0, none⟩)) ∧ W.cell? ⟨sb, 2, none⟩ = some (.pointer (some ⟨rd, 0, none⟩)) ∧ W.cell? ⟨sb, 3, none⟩ = some (.pointer (some ⟨rl, 0, none⟩)) ∧ W.cell? ⟨rl, 3, none⟩ = some (.slice aR l.recs.length cR))) := hW
  have Hvs : Hid (∀ (i : Nat) r, l.recs[i]? = some r → ∃ u, vs[i]? = some u ∧ W0.ownsRow 0 5 1 u r.length (bc r) ∧ Bd r) := fun i r hr => by
   obtain ⟨u, m1, m2, _, m4⟩ := hvs i r hr
   exact ⟨u, m1, m2, m4⟩
  clear hW hvs q0 q1 q2 q3 qr hDR
  go_upto_region 8 with fail
  go_loopw [3, 4, 5] (fun s3 _ _ wr => ∃ i : Nat, s3 = .int .i64 i ∧ i ≤ l.recs.length ∧ Hid (Below W0.heap.size W0 wr)) (fun s3 _ _ _ => l.recs.length - (intOf s3).toNat)
  case atStart => exact ⟨0, rfl, Nat.zero_le _, HS1.out⟩
  case round =>
   clear HS1 HB1
   obtain ⟨i, rfl, hin, HS⟩ := hrel
   obtain ⟨c0, c1, c2, c3, c4⟩ := HW.out wr HS.out
   by_cases hil : i < l.recs.length
   ·have hcl : (i : Int) < (l.recs.length : Int) := by omega
    obtain ⟨r, hr⟩ : ∃ r, l.recs[i]? = some r := ⟨_, List.getElem?_eq_getElem hil⟩
    have hat : atL l (i : Int) = some r := by unfold atL; rw [if_neg (by omega), Int.toNat_natCast]; exact hr
    have hsa := sat_any wr F H lb d l k (i : Int) (by omega) (hA.below HS.out) hl2
    rw [hat] at hsa
    dsimp only [Option.isSome, Option.getD] at hsa
    go_upto_region 11 with (first
     | (go_at_call 27; refine hsa.mono ?_; clear hsa; rintro e w2 ⟨u, rfl, ou, hbr, hb2⟩))
    have HS2 := HS.out.trans (hb2.mono HS.out.size)
    obtain ⟨u2, m1, m2, _⟩ := Hvs.out i r hr
    obtain ⟨a1, k1c, e1, r1⟩ := Rd.ofOwn ou hbr
    subst e1
    obtain ⟨a2, k2c, e2, r2⟩ := Rd.ofOwn m2 hbr
    subst e2
    have hbX : Below w2.heap.size w2 w2.drew := (Below.refl _ _).drew
    have HSX := HS2.trans (hbX.mono HS2.size)
    obtain ⟨gR, hgR, cg⟩ : ∃ g, aR = some ⟨g, 0, none⟩ ∧ w2.drew.cell? ⟨g, i, none⟩ = some (.slice a2 r.length k2c) := by
     rcases Hov.out.2 with ⟨_, h9⟩ | ⟨g, cap, cur, h9, _⟩
     ·omega
     ·injection h9 with h9
      have hv2 := Hov.out
      rw [h9] at hv2
      have hc := hv2.cells (g := g) rfl i _ m1
      rw [add_flat, Nat.zero_add] at hc
      exact ⟨g, h9, (HSX.cell (World.block_lt_of_cell? _ _ hc)).trans hc⟩
    subst hgR
    obtain ⟨_, _, _, d3, d4⟩ := HW.out w2.drew HSX
    have HS0 : Rd w2.drew a1 r.length k1c r ∧ w2.drew.cell? ⟨sb, 3, none⟩ = some (.pointer (some ⟨rl, 0, none⟩)) ∧ w2.drew.cell? ⟨rl, 3, none⟩ = some (.slice (some ⟨gR, 0, none⟩) l.recs.length cR) ∧ w2.drew.cell? ⟨gR, i, none⟩ = some (.slice a2 r.length k2c) ∧ Rd w2.drew a2 r.length k2c r := ⟨r1.carry (Nat.le_refl _) hbX, d3, d4, cg, r2.carry (Nat.le_refl _) HSX⟩
    have hqe := nm_eqT (strOfNums r)
    have HSX' : Hid (Below W0.heap.size W0 w2.drew) := HSX
    clear hr hat m1 m2 r1 r2 ou hbr cg d3 d4 HSX HS2 hbX c0 c1 c2 c3 c4 hb2
    refine wp_region_lx (fun w' => Rd w' a1 r.length k1c r ∧ w'.cell? ⟨sb, 3, none⟩ = some (.pointer (some ⟨rl, 0, none⟩)) ∧ w'.cell? ⟨rl, 3, none⟩ = some (.slice (some ⟨gR, 0, none⟩) l.recs.length cR) ∧ w'.cell? ⟨gR, i, none⟩ = some (.slice a2 r.length k2c) ∧ Rd w' a2 r.length k2c r) [] 18 (by kernel_rfl) (by kernel_rfl) ?_
    generalize w2.drew = X at *
    refine lx_r 0 (.bool true) HS0 ?_; simp only [lxa, lxb, lxc]
    refine lx_r 1 (.bool false) HS0 ?_; simp only [lxa, lxb, lxc]
    refine lx_r 2 (.bool false) HS0 ?_; simp only [lxa, lxb, lxc]
    refine lx_r 3 (.slice a1 r.length k1c) HS0 ?_; simp only [lxa, lxb, lxc]
    refine lx_r 4 (.string (strOfNums r)) HS0 ?_ (hv := fun w' hS => by have q := hS.1.string; first | (go_simp; rfl) | go_simp); simp only [lxa, lxb, lxc]
    refine lx_r 5 (.pointer (some ⟨sb, 0, none⟩)) HS0 ?_; simp only [lxa, lxb, lxc]
    refine lx_r 6 (.pointer (some ⟨sb, 0, none⟩)) HS0 ?_; simp only [lxa, lxb, lxc]
    refine lx_r 7 (.pointer (some ⟨sb, 3, none⟩)) HS0 ?_; simp only [lxa, lxb, lxc]
    refine lx_r 8 (.pointer (some ⟨rl, 0, none⟩)) HS0 ?_ (hv := fun w' hS => by have q := hS.2.1; first | (go_simp; rfl) | go_simp); simp only [lxa, lxb, lxc]
    refine lx_r 9 (.pointer (some ⟨rl, 0, none⟩)) HS0 ?_; simp only [lxa, lxb, lxc]
    refine lx_r 10 (.pointer (some ⟨rl, 3, none⟩)) HS0 ?_; simp only [lxa, lxb, lxc]
    refine lx_r 11 (.slice (some ⟨gR, 0, none⟩) l.recs.length cR) HS0 ?_ (hv := fun w' hS => by have q := hS.2.2.1; first | (go_simp; rfl) | go_simp); simp only [lxa, lxb, lxc]
    refine lx_r 12 (.int .i64 (i : Int)) HS0 ?_; simp only [lxa, lxb, lxc]
    refine lx_r 13 (.pointer (some ⟨gR, i, none⟩)) HS0 ?_; simp only [lxa, lxb, lxc]
    refine lx_r 14 (.slice a2 r.length k2c) HS0 ?_ (hv := fun w' hS => by have q := hS.2.2.2.1; first | (go_simp; rfl) | go_simp); simp only [lxa, lxb, lxc]
    refine lx_r 15 (.string (strOfNums r)) HS0 ?_ (hv := fun w' hS => by have q := hS.2.2.2.2.string; first | (go_simp; rfl) | go_simp); simp only [lxa, lxb, lxc]
    generalize strOfNums r = sr at hqe ⊢
    refine lx_r 16 (.bool false) HS0 ?_ (hv := fun w' hS => by have q := hqe; first | (go_simp; rfl) | go_simp); simp only [lxa, lxb, lxc]
    refine lx_r 17 (.bool false) HS0 ?_; simp only [lxa, lxb, lxc]
    refine lx_nil (by kernel_rfl) ?_
    clear HS0 hqe
    go_wp2
    exact ⟨⟨i + 1, by first | rfl | go_num, by omega, HSX'.out⟩, by simp [intOf]; omega⟩
   ·have hcl : ¬ (i : Int) < (l.recs.length : Int) := by omega
    have hli := list_any d F k hfl wr (hD.below HS.out)
    have hrli := fun w' (hr : RefAt w' G rd k) => refList_any rd G k hfl w' hr
    obtain ⟨ns, Hns⟩ : ∃ ns, Hid ((listK k).2 = ns) := ⟨_, rfl⟩
    have hnl : ns.length ≤ 1000000 := by
     rw [← Hns.out]
     unfold listK
     split
     ·simp
     ·simp only [List.length_map]; exact hfl
    rw [Hns.out] at hli
    simp only [Hns.out] at hrli
    obtain ⟨el, Hel⟩ : ∃ e, Hid ((listK k).1 = e) := ⟨_, rfl⟩
    rw [Hel.out] at hli
    simp only [Hel.out] at hrli
    have hRk : ∀ W, Below W0.heap.size W0 W → RefAt W G rd k := fun W hb => hRf.keep (S := fun _ => False) (Keep.ofBelow hb) (fun _ _ h => h)
    have hne : ((el : Int) != (el : Int)) = false := by simp
    clear hil
    go_upto_region 15 with (first
     | (go_at_call 37; refine hli.mono ?_; clear hli; rintro e w2 ⟨v2, rfl, o2, hb2⟩; have HS2 := HS.out.trans (hb2.mono HS.out.size); obtain ⟨e0, e1, e2, e3, e4⟩ := HW.out w2 HS2; replace hrli := hrli w2 (hRk w2 HS2))
     | (go_at_call 45; refine hrli.mono ?_; clear hrli; rintro e w3 ⟨v3, rfl, o3, hb3⟩))
    have HS3 := HS2.trans (hb3.mono HS2.size)
    have o2' := own_keep o2 (S := fun _ => False) (Keep.ofBelow hb3) (fun _ _ h => h)
    have hsm := same_any v2 v3 ns w3 _ _ o2' o3
    obtain ⟨av, cv, hv2, hnv⟩ := own_formN o2'
    subst hv2
    go_upto_region 18 with (first
     | (go_at_call 46; refine hsm.mono ?_; clear hsm; rintro e w4 ⟨rfl, hb4⟩))
    have HS4 : Hid (Below W0.heap.size W0 w4) := HS3.trans (hb4.mono HS3.size)
    obtain ⟨BB, HO4⟩ : ∃ BB, Hid (w4.ownsRow BB 9 1 (.slice av ns.length cv) ns.length (nv ns)) := ⟨_, own_keep o2' (S := fun _ => False) (Keep.ofBelow hb4) (fun _ _ h => h)⟩
    clear HS3 HS2 o2 o2' o3 hb2 hb3 hb4 e0 e1 e2 e3 e4 c0 c1 c2 c3 c4
    go_loopw [10, 11, 12, 13, 14] (fun s10 _ _ _ _ wz => ∃ j : Nat, s10 = .int .i64 j ∧ j ≤ ns.length ∧ Hid (Below W0.heap.size W0 wz) ∧ Hid (wz.ownsRow BB 9 1 (.slice av ns.length cv) ns.length (nv ns))) (fun s10 _ _ _ _ _ => ns.length - (intOf s10).toNat)
    case atStart => exact ⟨0, rfl, Nat.zero_le _, HS4.out, HO4.out⟩
    case round =>
     clear HS4 HO4
     obtain ⟨j, rfl, hjn, HS, HO⟩ := hrel
     by_cases hjl : j < ns.length
     ·have hzj : (j : Int) < (ns.length : Int) := by omega
      obtain ⟨x, hx⟩ : ∃ y, ns[j]? = some y := ⟨_, List.getElem?_eq_getElem hjl⟩
      have hix : (nv ns)[j]? = some (.string x) := by unfold nv; rw [List.getElem?_map, hx]; rfl
      have hxs : x.size ≤ 9223372036854775807 := by
       have hm : x ∈ ns := List.mem_of_getElem? hx
       rw [← Hns.out] at hm
       unfold listK at hm
       split at hm
       ·cases hm
       ·obtain ⟨pf, hpf, e⟩ := List.mem_map.1 hm
        have := isNm_size (hRf.good.each pf hpf).1
        rw [e] at this
        omega
      obtain ⟨gv, hgv, cx⟩ : ∃ g, av = some ⟨g, 0, none⟩ ∧ ∀ W : World, W.ownsRow BB 9 1 (.slice av ns.length cv) ns.length (nv ns) → W.cell? ⟨g, j, none⟩ = some (.string x) := by
       rcases HO.out.2 with ⟨_, h9⟩ | ⟨g, cap, cur, h9, _⟩
       ·omega
       ·injection h9 with h9
        refine ⟨g, h9, fun W hO => ?_⟩
        rw [h9] at hO
        have hc := hO.cells (g := g) rfl j _ hix
        rw [add_flat, Nat.zero_add] at hc
        exact hc
      subst hgv
      have hbd : Bd (readK k x).2 := by
       rcases readK_cases' k x with ⟨f, hl9, e⟩ | e
       ·rw [e]; dsimp only; exact (look_good hRf.good hl9).2.2
       ·rw [e]; exact Bd.nil
      have hrd1 := fun W (hb : Below W0.heap.size W0 W) => read_any d F k x W (hD.below hb)
      have hrd2 := fun W (hb : Below W0.heap.size W0 W) => refRead_any rd G k x hxs W (hRk W hb)
      obtain ⟨PB, HPB⟩ : ∃ P, Hid (readK k x = P) := ⟨_, rfl⟩
      simp only [HPB.out] at hrd1 hrd2
      rw [HPB.out] at hbd
      obtain ⟨er, xs⟩ := PB
      dsimp only at hrd1 hrd2 hbd
      clear hx hix hxs HPB
      have hbX : Below wr.heap.size wr wr.drew := (Below.refl _ _).drew
      have HSX := HS.out.trans (hbX.mono HS.out.size)
      have hOX := own_keep HO.out (S := fun _ => False) (Keep.ofBelow hbX) (fun _ _ h => h)
      have HS0 : wr.drew.cell? ⟨sb, 0, none⟩ = some (.pointer (some ⟨d, 0, none⟩)) ∧ wr.drew.cell? ⟨gv, j, none⟩ = some (.string x) := ⟨(HW.out _ HSX).1, cx _ hOX⟩
      clear hbX
      go_upto_region 20 with fail
      refine wp_region_lx (fun w' => w'.cell? ⟨sb, 0, none⟩ = some (.pointer (some ⟨d, 0, none⟩)) ∧ w'.cell? ⟨gv, j, none⟩ = some (.string x)) [] 14 (by kernel_rfl) (by kernel_rfl) ?_
      generalize wr.drew = X at *
      refine lx_r 0 (.pointer (some ⟨sb, 0, none⟩)) HS0 ?_; simp only [lxa, lxb, lxc]
      refine lx_r 1 (.pointer (some ⟨sb, 0, none⟩)) HS0 ?_; simp only [lxa, lxb, lxc]
      refine lx_r 2 (.pointer (some ⟨sb, 0, none⟩)) HS0 ?_; simp only [lxa, lxb, lxc]
      refine lx_r 3 (.pointer (some ⟨d, 0, none⟩)) HS0 ?_ (hv := fun w' hS => by have q := hS.1; first | (go_simp; rfl) | go_simp); simp only [lxa, lxb, lxc]
      refine lx_r 4 (.slice (some ⟨gv, 0, none⟩) ns.length cv) HS0 ?_; simp only [lxa, lxb, lxc]
      refine lx_r 5 (.int .i64 (j : Int)) HS0 ?_; simp only [lxa, lxb, lxc]
      refine lx_r 6 (.pointer (some ⟨gv, j, none⟩)) HS0 ?_; simp only [lxa, lxb, lxc]
      refine lx_r 7 (.string x) HS0 ?_ (hv := fun w' hS => by have q := hS.2; first | (go_simp; rfl) | go_simp); simp only [lxa, lxb, lxc]
      refine lx_one 8 (by kernel_rfl) (stepT_call 38 ?a8t rfl rfl rfl ?r8t ?_)
      case r8t => first | (go_simp; rfl) | go_simp
      refine (hrd1 X HSX).mono ?_
      rintro e w5 ⟨v5, rfl, o5, hb5⟩
      obtain ⟨a5, c5, e5, r5⟩ := Rd.ofOwn o5 hbd
      subst e5
      have HS5 := HSX.trans (hb5.mono HSX.size)
      have hO5 := own_keep hOX (S := fun _ => False) (Keep.ofBelow hb5) (fun _ _ h => h)
      have HS5c : w5.cell? ⟨sb, 0, none⟩ = some (.pointer (some ⟨d, 0, none⟩)) ∧ w5.cell? ⟨gv, j, none⟩ = some (.string x) := ⟨(HW.out _ HS5).1, cx _ hO5⟩
      refine ⟨_, rfl, fun _ => HS5c, ?_⟩
      simp only [lxa, lxb, lxc]
      refine lx_r 9 (.tuple #[.slice a5 xs.length c5, .int .i64 (er : Int)]) HS5c ?_; simp only [lxa, lxb, lxc]
      refine lx_r 10 (.slice a5 xs.length c5) HS5c ?_; simp only [lxa, lxb, lxc]
      refine lx_r 11 (.int .i64 (er : Int)) HS5c ?_; simp only [lxa, lxb, lxc]
      refine lx_r 12 (.slice a5 xs.length c5) HS5c ?_; simp only [lxa, lxb, lxc]
      refine lx_r 13 (.int .i64 (er : Int)) HS5c ?_; simp only [lxa, lxb, lxc]
      refine lx_nil (by kernel_rfl) ?_
      have hbY : Below w5.heap.size w5 w5.drew := (Below.refl _ _).drew
      have HSY := HS5.trans (hbY.mono HS5.size)
      have hOY := own_keep hO5 (S := fun _ => False) (Keep.ofBelow hbY) (fun _ _ h => h)
      have HS6 : w5.drew.cell? ⟨sb, 2, none⟩ = some (.pointer (some ⟨rd, 0, none⟩)) ∧ w5.drew.cell? ⟨gv, j, none⟩ = some (.string x) := ⟨(HW.out _ HSY).2.2.1, cx _ hOY⟩
      have r5' := r5.carry (Nat.le_refl _) hbY
      clear HS0 HS5c hbY HSX hOX hrd1 r5 o5
      go_upto_region 21 with fail
      refine wp_region_lx (fun w' => w'.cell? ⟨sb, 2, none⟩ = some (.pointer (some ⟨rd, 0, none⟩)) ∧ w'.cell? ⟨gv, j, none⟩ = some (.string x)) [] 14 (by kernel_rfl) (by kernel_rfl) ?_
      generalize w5.drew = Y at *
      refine lx_r 0 (.pointer (some ⟨sb, 0, none⟩)) HS6 ?_; simp only [lxa, lxb, lxc]
      refine lx_r 1 (.pointer (some ⟨sb, 0, none⟩)) HS6 ?_; simp only [lxa, lxb, lxc]
      refine lx_r 2 (.pointer (some ⟨sb, 2, none⟩)) HS6 ?_; simp only [lxa, lxb, lxc]
      refine lx_r 3 (.pointer (some ⟨rd, 0, none⟩)) HS6 ?_ (hv := fun w' hS => by have q := hS.1; first | (go_simp; rfl) | go_simp); simp only [lxa, lxb, lxc]
      refine lx_r 4 (.slice (some ⟨gv, 0, none⟩) ns.length cv) HS6 ?_; simp only [lxa, lxb, lxc]
      refine lx_r 5 (.int .i64 (j : Int)) HS6 ?_; simp only [lxa, lxb, lxc]
      refine lx_r 6 (.pointer (some ⟨gv, j, none⟩)) HS6 ?_; simp only [lxa, lxb, lxc]
      refine lx_r 7 (.string x) HS6 ?_ (hv := fun w' hS => by have q := hS.2; first | (go_simp; rfl) | go_simp); simp only [lxa, lxb, lxc]
      refine lx_one 8 (by kernel_rfl) (stepT_call 47 ?a8u rfl rfl rfl ?r8u ?_)
      case r8u => first | (go_simp; rfl) | go_simp
      refine (hrd2 Y HSY).mono ?_
      rintro e w7 ⟨v7, rfl, o7, hb7⟩
      obtain ⟨a7, c7, e7, r7⟩ := Rd.ofOwn o7 hbd
      subst e7
      have HS7 := HSY.trans (hb7.mono HSY.size)
      have hO7 := own_keep hOY (S := fun _ => False) (Keep.ofBelow hb7) (fun _ _ h => h)
      have HS7c : w7.cell? ⟨sb, 2, none⟩ = some (.pointer (some ⟨rd, 0, none⟩)) ∧ w7.cell? ⟨gv, j, none⟩ = some (.string x) := ⟨(HW.out _ HS7).2.2.1, cx _ hO7⟩
      refine ⟨_, rfl, fun _ => HS7c, ?_⟩
      simp only [lxa, lxb, lxc]
      refine lx_r 9 (.tuple #[.slice a7 xs.length c7, .int .i64 (er : Int)]) HS7c ?_; simp only [lxa, lxb, lxc]
      refine lx_r 10 (.slice a7 xs.length c7) HS7c ?_; simp only [lxa, lxb, lxc]
      refine lx_r 11 (.int .i64 (er : Int)) HS7c ?_; simp only [lxa, lxb, lxc]
      refine lx_r 12 (.slice a7 xs.length c7) HS7c ?_; simp only [lxa, lxb, lxc]
      refine lx_r 13 (.int .i64 (er : Int)) HS7c ?_; simp only [lxa, lxb, lxc]
      refine lx_nil (by kernel_rfl) ?_
      have hs5 := (r5'.carry (Nat.le_refl _) hb7).string
      have hs7 := r7.string
      have HS7' : Hid (Below W0.heap.size W0 w7) := HS7
      clear HS6 HS7c HSY hOY hrd2 r5' r7 o7 HS7 HS5 hO5 hb5 hb7 hbd
      have hqe := nm_eqT (strOfNums xs)
      generalize strOfNums xs = sx at *
      go_wp2
      exact ⟨⟨j + 1, by first | rfl | go_num, by omega, HS7'.out, hO7⟩, by simp [intOf]; omega⟩
     ·have hzj : ¬ (j : Int) < (ns.length : Int) := by omega
      go_wp2
      go_ret
      exact ⟨rfl, hb0.trans (HS.out.mono hb0.size)⟩
end Go.Proofs.YtikkieaokfailaaGreatDoor

namespace Go.Proofs.YtikkieaokfailaaGreatDoor
open Go.RowKit Go.Joins
theorem pass_or (k : Dk) : ∃ k', ((passK k = (0, k') ∧ k'.off = k.off) ∨ (passK k = (13, k') ∧ k.fu ≠ none)) ∧ k'.fs = k.fs ∧ k'.room = k.room ∧ k'.steps ≤ k.steps + 1 ∧ (k.fu = none → k'.fu = none) := by
 cases h : k.fu with
 | none => exact ⟨{ k with steps := k.steps + 1 }, Or.inl ⟨by unfold passK; rw [h], rfl⟩, rfl, rfl, Nat.le_refl _, fun _ => h⟩
 | some n =>
  cases n with
  | zero => exact ⟨{ k with off := true }, Or.inr ⟨by unfold passK; rw [h], by simp⟩, rfl, rfl, Nat.le_succ _, fun e => by simp at e⟩
  | succ n => exact ⟨{ k with steps := k.steps + 1, fu := some n }, Or.inl ⟨by unfold passK; rw [h], rfl⟩, rfl, rfl, Nat.le_refl _, fun e => by simp at e⟩
end Go.Proofs.YtikkieaokfailaaGreatDoor

namespace Go.Proofs.YtikkieaokfailaaGreatDoor
open Go.RowKit Go.Joins
theorem stp_ok {k k' : Dk} {r : Nat × Dk} (h : r = (0, k')) : stp false k r = (0, false, k') := by rw [h]; rfl
end Go.Proofs.YtikkieaokfailaaGreatDoor
namespace Go.Proofs.YtikkieaokfailaaGreatDoor
open Go.RowKit Go.Joins
end Go.Proofs.YtikkieaokfailaaGreatDoor
namespace Go.Proofs.YtikkieaokfailaaGreatDoor
open Go.RowKit Go.Joins
end Go.Proofs.YtikkieaokfailaaGreatDoor
namespace Go.Proofs.YtikkieaokfailaaGreatDoor
open Go.RowKit Go.Joins
end Go.Proofs.YtikkieaokfailaaGreatDoor

namespace Go.Proofs.YtikkieaokfailaaGreatDoor
open Go.RowKit Go.Joins
end Go.Proofs.YtikkieaokfailaaGreatDoor

namespace Go.Proofs.YtikkieaokfailaaGreatDoor
open Go.RowKit Go.Joins
theorem look_restG : ∀ (l : Fls) (keep : List Int) (s : Nm), (look l s = none ∧ look (restL l keep) s = none) ∨ ∃ f x, look l s = some f ∧ look (restL l keep) s = some (if f.b.length = f.safe then f else restF f x)
 | [], _, _ => Or.inl ⟨rfl, rfl⟩
 | (n, f) :: r, keep, s => by
  unfold restL
  split
  ·rename_i h
   unfold look
   split
   ·exact Or.inr ⟨f, 0, rfl, by rw [if_pos h]⟩
   ·exact look_restG r keep s
  ·rename_i h
   unfold look
   split
   ·exact Or.inr ⟨f, keep.headD 0, rfl, by rw [if_neg h]⟩
   ·exact look_restG r keep.tail s
end Go.Proofs.YtikkieaokfailaaGreatDoor

namespace Go.Proofs.YtikkieaokfailaaGreatDoor
open Go.ChangeShapes Go.WideShapes Go.ChangeAt Go.RowKit Go.Joins
theorem few200O (a : Option Addr) (n c : Nat) (xs : List Int) (w : World) (hR : Rd w a n c xs) :
  Calls Tryz.prog 17 #[.slice a n c] w fun e w' => ∃ a' n' c', e = .returned (.slice a' n' c') ∧ n' ≤ 200 ∧ w'.ownsRow w.heap.size 5 1 (.slice a' n' c') n' (bc (xs.take 200)) ∧ Rd w' a' n' c' (xs.take 200) ∧ (∀ ad, a' = some ad → w.heap.size ≤ ad.block) ∧ Below w.heap.size w w' := by
 have hb := hR.bytes.take 200
 go_enter Tryz.func17, Tryz.ntmps17
 go_wp2_with (go_at_call 54; refine (twin_any a n c xs 200 _ hR (by omega)).mono ?_; rintro e w1 ⟨v1, rfl, ho1, hb1⟩)
 go_ret
 obtain ⟨a1, c1, rfl, hr1⟩ := Rd.ofOwn ho1 hb
 refine ⟨a1, _, c1, rfl, by rw [List.length_take]; omega, ho1, hr1, fun ad had => ?_, hb1⟩
 rcases ho1.2 with ⟨e, _⟩ | ⟨g, cap, cur, e, hg, _⟩
 ·injection e with e1; rw [e1] at had; cases had
 ·injection e with e1; rw [e1] at had; cases had; exact hg
theorem IAr.flat {W : World} {a : Option Addr} {n c : Nat} {zs : List Int} (h : IAr W a n c zs) (h0 : 0 < n) : ∃ b off, a = some ⟨b, off, none⟩ ∧ ∀ j, j < n → W.cell? ⟨b, off + j, none⟩ = some (.int .i64 (zs.getD j 0)) := by
 cases a with
 | none => have := h.nil rfl; have := h.cap; omega
 | some ad =>
  obtain ⟨b, off, spot⟩ := ad
  have e0 := h.cells _ rfl 0 h0
  have hspot : spot = none := by simpa [Addr.add] using World.cell?_spot e0
  subst hspot
  refine ⟨b, off, rfl, fun j hj => ?_⟩
  have := h.cells _ rfl j hj
  rwa [add_flat] at this
theorem Opened.dp {w w' : World} {F : Nat → Prop} {d : Nat} {r : Nat × Lg × Dk} {e : Ending} (h : Opened w w' F d r e) : (∃ v, e = .returned v) ∧ Dp w F d r.2.2 w' := by
 by_cases h0 : r.1 = 0
 ·obtain ⟨lb, e1, _, F', H', hA, hk, hF, _⟩ := h.yes h0
  obtain ⟨v, hL, _⟩ := hA.ex
  exact ⟨⟨_, e1⟩, F', hL.D, hk, hF⟩
 ·obtain ⟨e1, h2⟩ := h.no h0
  exact ⟨⟨_, e1⟩, h2⟩
structure SOpAt (w : World) (b q : Nat) (Do : Int) (ar : Option Addr) (nr cr : Nat) (xs : List Int) (al : Option Addr) (nl cl : Nat) (ls : List (List Int)) (Nn : Int) (ak : Option Addr) (nk ck : Nat) (zs : List Int) : Prop where
 c0 : w.cell? ⟨b, q, none⟩ = some (.int .i64 Do)
 c1 : w.cell? ⟨b, q + 1, none⟩ = some (.slice ar nr cr)
 c2 : w.cell? ⟨b, q + 2, none⟩ = some (.slice al nl cl)
 c3 : w.cell? ⟨b, q + 3, none⟩ = some (.int .i64 Nn)
 c4 : w.cell? ⟨b, q + 4, none⟩ = some (.slice ak nk ck)
 hR : Rd w ar nr cr xs
 hL : RRd w al nl ls
 hN : -9223372036854775808 ≤ Nn ∧ Nn ≤ 9223372036854775807
 hK : IAr w ak nk ck zs
theorem SOpAt.below {w w' : World} {b q : Nat} {Do : Int} {ar : Option Addr} {nr cr : Nat} {xs : List Int} {al : Option Addr} {nl cl : Nat} {ls : List (List Int)} {Nn : Int} {ak : Option Addr} {nk ck : Nat} {zs : List Int} (h : SOpAt w b q Do ar nr cr xs al nl cl ls Nn ak nk ck zs) (hb : Below w.heap.size w w') : SOpAt w' b q Do ar nr cr xs al nl cl ls Nn ak nk ck zs := by
 have t : ∀ i u, w.cell? ⟨b, i, none⟩ = some u → w'.cell? ⟨b, i, none⟩ = some u := fun i u hc => (hb.cell (p := ⟨b, i, none⟩) (World.block_lt_of_cell? w _ hc)).trans hc
 exact ⟨t _ _ h.c0, t _ _ h.c1, t _ _ h.c2, t _ _ h.c3, t _ _ h.c4, h.hR.carry (Nat.le_refl _) hb, h.hL.below hb, h.hN, h.hK.carry hb⟩
structure SORd (w : World) (a : Option Addr) (n c : Nat) : Prop where
 cap : n ≤ c
 most : c ≤ 9223372036854775807
 flat : 0 < n → ∃ b off, a = some ⟨b, off, none⟩ ∧ ∀ j, j < n → ∃ Do ar nr cr xs al nl cl ls Nn ak nk ck zs, SOpAt w b (off + j * 5) Do ar nr cr xs al nl cl ls Nn ak nk ck zs
theorem cellsLop : Tryz.prog.cellsOf 33 = 5 := by kernel_rfl
set_option maxRecDepth 100000 in
set_option maxHeartbeats 2000000 in
theorem open_lops {H : Type} {enc : TypeId × Value → H} {W : World} {b0 : Nat} {v : Value} {d : DataW H} {p : List MemPlace}
  (hv : Value.okWide Tryz.prog W .any b0 22 v) (h : DataW.Trod enc Tryz.prog W 0 (fun _ => true) true 22 v d p) : ∃ a n c, v = .slice a n c ∧ SORd W a n c := by
 obtain ⟨a, n, c, rfl⟩ := okWide_slice Tryz.underlying22 hv
 refine ⟨a, n, c, rfl, ?_⟩
 obtain ⟨fuel, hf⟩ := h
 rcases Go.Deep.open_slice Tryz.underlying22 hf with ⟨hcs, _⟩ | ⟨x, l, cc, m, k, D, Pl, hcs, hb, hl, hm, hmm, _, hx⟩
 ·simp [Value.cells] at hcs
  obtain ⟨rfl, rfl, rfl⟩ := hcs
  exact ⟨Nat.le_refl _, by omega, fun h => by omega⟩
 ·simp [Value.cells] at hcs
  obtain ⟨rfl, rfl, rfl⟩ := hcs
  simp only [if_true] at hmm
  subst hmm
  have each : ∀ j, j < n → ∃ (Do : Int) (ar : Option Addr) (nr cr : Nat) (xs : List Int) (al : Option Addr) (nl cl : Nat) (ls : List (List Int)) (Nn : Int) (ak : Option Addr) (nk ck : Nat) (zs : List Int), W.cell? (x.add (j * 5)) = some (.int .i64 Do) ∧ W.cell? (x.add (j * 5 + 1)) = some (.slice ar nr cr) ∧ W.cell? (x.add (j * 5 + 2)) = some (.slice al nl cl) ∧ W.cell? (x.add (j * 5 + 3)) = some (.int .i64 Nn) ∧ W.cell? (x.add (j * 5 + 4)) = some (.slice ak nk ck) ∧ Rd W ar nr cr xs ∧ RRd W al nl ls ∧ (-9223372036854775808 ≤ Nn ∧ Nn ≤ 9223372036854775807) ∧ IAr W ak nk ck zs := by
   intro j hj
   obtain ⟨cs', h1, h2⟩ := hx j (by omega)
   rw [cellsLop] at h1
   obtain ⟨_, hlen, hcell⟩ := World.cells?_some h1
   obtain ⟨ws, q, hq, hxy, _, hxl, hfs⟩ := DataW.trod_struct Tryz.underlying33 h2
   match ws, hxl, cs', hlen with
   | [y0, y1, y2, y3, y4], _, [v0, v1, v2, v3, v4], _ =>
    have f0 : DataW.trod enc Tryz.prog W 0 (fun _ => true) true q 3 [v0] = some y0 := by simpa [Value.cells, cellsInt] using hfs 0 _ rfl
    have f1 : DataW.trod enc Tryz.prog W 0 (fun _ => true) true q 29 [v1] = some y1 := by simpa [Value.cells, cellsBytes] using hfs 1 _ rfl
    have f2 : DataW.trod enc Tryz.prog W 0 (fun _ => true) true q 30 [v2] = some y2 := by simpa [Value.cells, cellsRows] using hfs 2 _ rfl
    have f3 : DataW.trod enc Tryz.prog W 0 (fun _ => true) true q 3 [v3] = some y3 := by simpa [Value.cells, cellsInt] using hfs 3 _ rfl
    have f4 : DataW.trod enc Tryz.prog W 0 (fun _ => true) true q 31 [v4] = some y4 := by simpa [Value.cells, cellsInts] using hfs 4 _ rfl
    obtain ⟨K0, e0, _, w0⟩ := DataW.trod_int Tryz.underlying3 f0
    obtain ⟨K3, e3, _, w3⟩ := DataW.trod_int Tryz.underlying3 f3
    obtain ⟨ar, nr, cr, xs, e1, hR⟩ := rd_of_cells f1
    obtain ⟨al, nl, cl, ls, e2, hL⟩ := rrd_of_cells f2
    obtain ⟨ak, nk, ck, zs, e4, hK⟩ := iar_of_cells f4
    simp only [List.cons.injEq, and_true] at e0 e3
    subst e0 e1 e2 e3 e4
    have b3 := bounds_i64 w3
    have c0 := hcell 0 (by omega)
    have c1 := hcell 1 (by omega)
    have c2 := hcell 2 (by omega)
    have c3 := hcell 3 (by omega)
    have c4 := hcell 4 (by omega)
    rw [Go.Deep.add_add] at c0 c1 c2 c3 c4
    exact ⟨K0, ar, nr, cr, xs, al, nl, cl, ls, K3, ak, nk, ck, zs, by simpa using c0, by simpa using c1, by simpa using c2, by simpa using c3, by simpa using c4, hR, hL, b3, hK⟩
  refine ⟨hl, hm, fun h0 => ?_⟩
  obtain ⟨b, off, spot⟩ := x
  obtain ⟨_, _, _, _, _, _, _, _, _, _, _, _, _, _, e0, _⟩ := each 0 h0
  have hspot : spot = none := by simpa [Addr.add] using World.cell?_spot e0
  subst hspot
  refine ⟨b, off, rfl, fun j hj => ?_⟩
  obtain ⟨Do, ar, nr, cr, xs, al, nl, cl, ls, Nn, ak, nk, ck, zs, e0, e1, e2, e3, e4, e7, e8, e9, e10⟩ := each j hj
  rw [add_flat] at e0 e1 e2 e3 e4
  simp only [← Nat.add_assoc] at e0 e1 e2 e3 e4
  exact ⟨Do, ar, nr, cr, xs, al, nl, cl, ls, Nn, ak, nk, ck, zs, ⟨e0, e1, e2, e3, e4, e7, e8, e9, e10⟩⟩
theorem LogAt.dp {w w' : World} {F H : Nat → Prop} {lb d : Nat} {l : Lg} {k k' : Dk} (h : LogAt w F H lb d l k) (hp : Dp w F d k' w') : Lgp w F H lb d l k' w' := by
 obtain ⟨F', hD, hk, hF⟩ := hp
 obtain ⟨v, hL, hR⟩ := h.ex
 have hl := hL.lt
 have hHl := h.lt
 have hnf : ∀ i, i < w.heap.size → ¬ F i → ¬ F' i := fun i h1 h2 h3 => (hF i h3).elim h2 (fun h4 => by omega)
 exact ⟨F', H, ⟨⟨v, ⟨(hk.block lb hl hL.nf).trans hL.blk, hD, hnf lb hl hL.nf⟩, hR.keep hk h.hf (fun _ h => h)⟩, fun i hi => hnf i (hHl i hi) (h.hf i hi), h.hl, fun i hi => Nat.lt_of_lt_of_le (hHl i hi) hk.size, h.pf.next (hk.mono (fun i hi => Or.inl hi)) hF, h.ph⟩, hk.mono (fun i hi => Or.inl hi), hF, fun i hi => Or.inl hi⟩
theorem RcA.cell {w : World} {A : Nat → Prop} {al : Option Addr} {N cl : Nat} {rs : List (List Int)} (h : RcA w A (.slice al N cl) rs) (hN : rs.length = N) (j : Nat) (hj : j < N) : ∃ g a n c, al = some ⟨g, 0, none⟩ ∧ w.cell? ⟨g, j, none⟩ = some (.slice a n c) ∧ Rd w a n c (rs.getD j []) := by
 obtain ⟨⟨vs, ov, hvs⟩, _⟩ := h
 obtain ⟨r, hr⟩ : ∃ r, rs[j]? = some r := ⟨_, List.getElem?_eq_getElem (by omega)⟩
 obtain ⟨u, h1, h2, _, h4⟩ := hvs j r hr
 obtain ⟨a, c, rfl, h5⟩ := Rd.ofOwn h2 h4
 rcases ov.2 with ⟨e, h0⟩ | ⟨g, cap, cur, e, _⟩
 ·rw [hN] at h0; omega
 ·injection e with e1
  subst e1
  have hc := ov.cells (g := g) rfl j _ h1
  rw [add_flat, Nat.zero_add] at hc
  refine ⟨g, a, _, c, rfl, hc, ?_⟩
  rw [List.getD_eq_getElem?_getD, hr]
  exact h5
end Go.Proofs.YtikkieaokfailaaGreatDoor

namespace Go.Proofs.YtikkieaokfailaaGreatDoor
open Go.RowKit Go.Joins
def PS (w : World) (P : Nat → Prop) (d : Nat) (pl : Value) (o : Option Lg) (k : Dk) (w' : World) : Prop := ∃ P', PH w' P' d pl o k ∧ Keep P w w' ∧ (∀ i, P' i → P i ∨ w.heap.size ≤ i) ∧ (∀ i, P' i → i < w'.heap.size)
def RS (w : World) (R : Nat → Prop) (rd : Nat) (pr : Value) (o : Option Lg) (k : Dk) (w' : World) : Prop := ∃ R', RH w' R' rd pr o k ∧ Keep R w w' ∧ (∀ i, R' i → R i ∨ w.heap.size ≤ i) ∧ (∀ i, R' i → i < w'.heap.size)
theorem LogAt.allLt {w : World} {F H : Nat → Prop} {lb d : Nat} {l : Lg} {k : Dk} (h : LogAt w F H lb d l k) : (∀ i, F i → i < w.heap.size) ∧ (∀ i, H i → i < w.heap.size) ∧ lb < w.heap.size := by
 obtain ⟨v, hL, _⟩ := h.ex
 exact ⟨hL.D.lt, h.lt, hL.lt⟩
theorem RLogAt.allLt {w : World} {F H : Nat → Prop} {lb d : Nat} {l : Lg} {k : Dk} (h : RLogAt w F H lb d l k) : (∀ i, F i → i < w.heap.size) ∧ (∀ i, H i → i < w.heap.size) ∧ lb < w.heap.size := by
 obtain ⟨v, hL, _⟩ := h.ex
 exact ⟨hL.R.lt, h.lt, hL.lt⟩
theorem PS.ofLog {w w' : World} {P F H : Nat → Prop} {lb d : Nat} {l : Lg} {k : Dk} (hF : ∀ i, F i → P i) (hH : ∀ i, H i → P i) (hl : P lb) (hg : ∀ i, F i → 0 < i) (hgs : 0 < w.heap.size) (hp : Lgp w F H lb d l k w') : PS w P d (.pointer (some ⟨lb, 0, none⟩)) (some l) k w' := by
 obtain ⟨F', H', h1, h2, h3, h4⟩ := hp
 obtain ⟨a1, a2, a3⟩ := h1.allLt
 have hD : DiskAt w' F' d k := by obtain ⟨v, hL, _⟩ := h1.ex; exact hL.D
 refine ⟨fun i => F' i ∨ H' i ∨ i = lb, ⟨F', fun i hi => Or.inl hi, hD, fun i hi => ?_, lb, H', rfl, h1, fun i hi => Or.inr (Or.inl hi), Or.inr (Or.inr rfl)⟩, h2.mono (fun i hi => ?_), fun i hi => ?_, fun i hi => ?_⟩
 ·rcases h3 i hi with e | e
  ·exact hg i e
  ·omega
 ·rcases hi with e | e | e
  ·exact hF i e
  ·exact hH i e
  ·subst e; exact hl
 ·rcases hi with e | e | e
  ·exact (h3 i e).imp (hF i) id
  ·exact (h4 i e).imp (hH i) id
  ·subst e; exact Or.inl hl
 ·rcases hi with e | e | e
  ·exact a1 i e
  ·exact a2 i e
  ·subst e; exact a3
theorem RS.ofLog {w w' : World} {R G H : Nat → Prop} {rl rd : Nat} {l : Lg} {k : Dk} (hF : ∀ i, G i → R i) (hH : ∀ i, H i → R i) (hl : R rl) (hp : Rgp w G H rl rd l k w') : RS w R rd (.pointer (some ⟨rl, 0, none⟩)) (some l) k w' := by
 obtain ⟨F', H', h1, h2, h3, h4⟩ := hp
 obtain ⟨a1, a2, a3⟩ := h1.allLt
 have hD : RefAt w' F' rd k := by obtain ⟨v, hL, _⟩ := h1.ex; exact hL.R
 refine ⟨fun i => F' i ∨ H' i ∨ i = rl, ⟨F', fun i hi => Or.inl hi, hD, rl, H', rfl, h1, fun i hi => Or.inr (Or.inl hi), Or.inr (Or.inr rfl)⟩, h2.mono (fun i hi => ?_), fun i hi => ?_, fun i hi => ?_⟩
 ·rcases hi with e | e | e
  ·exact hF i e
  ·exact hH i e
  ·subst e; exact hl
 ·rcases hi with e | e | e
  ·exact (h3 i e).imp (hF i) id
  ·exact (h4 i e).imp (hH i) id
  ·subst e; exact Or.inl hl
 ·rcases hi with e | e | e
  ·exact a1 i e
  ·exact a2 i e
  ·subst e; exact a3
theorem RLogAt.rp {w w' : World} {G H : Nat → Prop} {rl rd : Nat} {l : Lg} {k k' : Dk} (h : RLogAt w G H rl rd l k) (hp : Rp w G rd k' w') : Rgp w G H rl rd l k' w' := by
 obtain ⟨G', hD, hk, hF⟩ := hp
 obtain ⟨v, hL, hR⟩ := h.ex
 have hl := hL.lt
 have hHl := h.lt
 have hnf : ∀ i, i < w.heap.size → ¬ G i → ¬ G' i := fun i h1 h2 h3 => (hF i h3).elim h2 (fun h4 => by omega)
 exact ⟨G', H, ⟨⟨v, ⟨(hk.block rl hl hL.nf).trans hL.blk, hD, hnf rl hl hL.nf⟩, hR.keep hk h.hf (fun _ h => h)⟩, fun i hi => hnf i (hHl i hi) (h.hf i hi), h.hl, fun i hi => Nat.lt_of_lt_of_le (hHl i hi) hk.size⟩, hk.mono (fun i hi => Or.inl hi), hF, fun i hi => Or.inl hi⟩
theorem PH.disk {w : World} {P : Nat → Prop} {d : Nat} {pl : Value} {o : Option Lg} {k : Dk} (h : PH w P d pl o k) (hgs : 0 < w.heap.size) : ∃ F, (∀ i, F i → P i) ∧ DiskAt w F d k ∧ ∀ k2 w', Dp w F d k2 w' → PS w P d pl o k2 w' := by
 obtain ⟨F, h1, h2, h3, h4⟩ := h
 refine ⟨F, h1, h2, fun k2 w' hp => ?_⟩
 cases o with
 | none =>
  obtain ⟨F', a1, a2, a3⟩ := hp
  exact ⟨F', ⟨F', fun i hi => hi, a1, fun i hi => (a3 i hi).elim (h3 i) (fun e => by omega), h4⟩, a2.mono h1, fun i hi => (a3 i hi).imp (h1 i) id, a1.lt⟩
 | some l =>
  obtain ⟨lb, H, rfl, h5, h6, h7⟩ := h4
  exact PS.ofLog h1 h6 h7 h3 hgs (h5.dp hp)
theorem RH.disk {w : World} {R : Nat → Prop} {rd : Nat} {pr : Value} {o : Option Lg} {k : Dk} (h : RH w R rd pr o k) : ∃ G, (∀ i, G i → R i) ∧ RefAt w G rd k ∧ ∀ k2 w', Rp w G rd k2 w' → RS w R rd pr o k2 w' := by
 obtain ⟨G, h1, h2, h4⟩ := h
 refine ⟨G, h1, h2, fun k2 w' hp => ?_⟩
 cases o with
 | none =>
  obtain ⟨G', a1, a2, a3⟩ := hp
  exact ⟨G', ⟨G', fun i hi => hi, a1, h4⟩, a2.mono h1, fun i hi => (a3 i hi).imp (h1 i) id, a1.lt⟩
 | some l =>
  obtain ⟨rl, H, rfl, h5, h6, h7⟩ := h4
  exact RS.ofLog h1 h6 h7 (h5.rp hp)
theorem PH.log {w : World} {P : Nat → Prop} {d : Nat} {pl : Value} {l : Lg} {k : Dk} (h : PH w P d pl (some l) k) (hgs : 0 < w.heap.size) : ∃ F H lb, pl = .pointer (some ⟨lb, 0, none⟩) ∧ (∀ i, F i ∨ H i ∨ i = lb → P i) ∧ LogAt w F H lb d l k ∧ ∀ l2 k2 w', Lgp w F H lb d l2 k2 w' → PS w P d pl (some l2) k2 w' := by
 obtain ⟨F, h1, h2, h3, lb, H, rfl, h5, h6, h7⟩ := h
 refine ⟨F, H, lb, rfl, fun i hi => ?_, h5, fun l2 k2 w' hp => PS.ofLog h1 h6 h7 h3 hgs hp⟩
 rcases hi with e | e | e
 ·exact h1 i e
 ·exact h6 i e
 ·subst e; exact h7
theorem RH.log {w : World} {R : Nat → Prop} {rd : Nat} {pr : Value} {l : Lg} {k : Dk} (h : RH w R rd pr (some l) k) : ∃ G H rl, pr = .pointer (some ⟨rl, 0, none⟩) ∧ (∀ i, G i ∨ H i ∨ i = rl → R i) ∧ RLogAt w G H rl rd l k ∧ ∀ l2 k2 w', Rgp w G H rl rd l2 k2 w' → RS w R rd pr (some l2) k2 w' := by
 obtain ⟨G, h1, h2, rl, H, rfl, h5, h6, h7⟩ := h
 refine ⟨G, H, rl, rfl, fun i hi => ?_, h5, fun l2 k2 w' hp => RS.ofLog h1 h6 h7 hp⟩
 rcases hi with e | e | e
 ·exact h1 i e
 ·exact h6 i e
 ·subst e; exact h7
structure Sw (B : Nat) (w : World) (sb d rd ob : Nat) (X : Obj) (pl pr : Value) (o : Option Lg) (k : Dk) (o' : Option Lg) (k' : Dk) : Prop where
 ex : ∃ (P R : Nat → Prop), w.heap[sb]? = some (.cells #[.pointer (some ⟨d, 0, none⟩), pl, .pointer (some ⟨rd, 0, none⟩), pr] 51 (0, 0)) ∧ PH w P d pl o k ∧ RH w R rd pr o' k' ∧ (∀ i, P i → ¬ R i) ∧ ¬ P sb ∧ ¬ R sb ∧ ¬ P ob ∧ ¬ R ob ∧ (∀ i, P i ∨ R i → B ≤ i ∧ i < w.heap.size)
 xb : w.heap[ob]? = some X
 sn : B ≤ sb
 pw : Pw w
 pB : 0 < B
theorem Sd.sw {B : Nat} {w : World} {sb d rd : Nat} {o : Option Lg} {k : Dk} (h : Sd B w sb d rd o k) (X : Obj) : ∃ pl pr, w.heap[sb]? = some (.cells #[.pointer (some ⟨d, 0, none⟩), pl, .pointer (some ⟨rd, 0, none⟩), pr] 51 (0, 0)) ∧ Sw B (w.alloc X) sb d rd w.heap.size X pl pr o k o k := by
 obtain ⟨P, R, pl, pr, h1, h2, h3, h4, h5, h6, h7⟩ := h.ex
 have hb : Below w.heap.size w (w.alloc X) := (Below.refl _ _).alloc (Nat.le_refl _) _
 exact ⟨pl, pr, h1, ⟨P, R, box_below h1 hb, h2.keep (S := fun _ => False) (Keep.ofBelow hb) (fun _ _ h => h) (fun h => h), h3.keep (S := fun _ => False) (Keep.ofBelow hb) (fun _ _ h => h), h4, h5, h6, fun hp => by have := (h7 _ (Or.inl hp)).2; omega, fun hp => by have := (h7 _ (Or.inr hp)).2; omega, fun i hi => ⟨(h7 i hi).1, Nat.lt_of_lt_of_le (h7 i hi).2 hb.size⟩⟩, alloc_at w X, h.sn, h.pw.below hb, h.pB⟩
theorem Sw.sd {B : Nat} {w : World} {sb d rd ob : Nat} {X : Obj} {pl pr : Value} {o : Option Lg} {k : Dk} (h : Sw B w sb d rd ob X pl pr o k o k) : Sd B w sb d rd o k := by
 obtain ⟨P, R, h1, h2, h3, h4, h5, h6, _, _, h7⟩ := h.ex
 exact ⟨⟨P, R, pl, pr, h1, h2, h3, h4, h5, h6, h7⟩, h.sn, h.pw, h.pB⟩
section
variable {B : Nat} {w w' : World} {sb d rd ob : Nat} {X : Obj} {pl pr : Value} {o o' : Option Lg} {k k' : Dk}
theorem Sw.below (h : Sw B w sb d rd ob X pl pr o k o' k') (hb : Below w.heap.size w w') : Sw B w' sb d rd ob X pl pr o k o' k' := by
 obtain ⟨P, R, h1, h2, h3, h4, h5, h6, x1, x2, h7⟩ := h.ex
 exact ⟨⟨P, R, box_below h1 hb, h2.keep (S := fun _ => False) (Keep.ofBelow hb) (fun _ _ h => h) (fun h => h), h3.keep (S := fun _ => False) (Keep.ofBelow hb) (fun _ _ h => h), h4, h5, h6, x1, x2, fun i hi => ⟨(h7 i hi).1, Nat.lt_of_lt_of_le (h7 i hi).2 hb.size⟩⟩, box_below h.xb hb, h.sn, h.pw.below hb, h.pB⟩
theorem Sw.blk (h : Sw B w sb d rd ob X pl pr o k o' k') : w.heap[sb]? = some (.cells #[.pointer (some ⟨d, 0, none⟩), pl, .pointer (some ⟨rd, 0, none⟩), pr] 51 (0, 0)) := by
 obtain ⟨P, R, h1, _⟩ := h.ex
 exact h1
theorem Sw.lt (h : Sw B w sb d rd ob X pl pr o k o' k') : sb < w.heap.size := by
 obtain ⟨P, R, h1, _⟩ := h.ex
 exact (Array.getElem?_eq_some_iff.1 h1).1
theorem Sw.goL (h : Sw B w sb d rd ob X pl pr o k o' k') : ∃ P, w.cell? ⟨sb, 0, none⟩ = some (.pointer (some ⟨d, 0, none⟩)) ∧ w.cell? ⟨sb, 1, none⟩ = some pl ∧ PH w P d pl o k ∧ (∀ i, P i → B ≤ i ∧ i < w.heap.size) ∧ 0 < w.heap.size ∧ ∀ o2 k2 w', PS w P d pl o2 k2 w' → Sw B w' sb d rd ob X pl pr o2 k2 o' k' ∧ Below B w w' := by
 have hsl := h.lt
 have hsn := h.sn
 have hpB := h.pB
 have hxl : ob < w.heap.size := (Array.getElem?_eq_some_iff.1 h.xb).1
 obtain ⟨P, R, hblk, hP, hR, hPR, nP, nR, xP, xR, hlt⟩ := h.ex
 refine ⟨P, by rw [cell_of_block hblk]; rfl, by rw [cell_of_block hblk]; rfl, hP, fun i hi => hlt i (Or.inl hi), by omega, fun o2 k2 w' hS => ?_⟩
 obtain ⟨P', a1, a2, a3, a4⟩ := hS
 have hsz := a2.size
 refine ⟨⟨⟨P', R, box_keep hblk a2 nP, a1, hR.keep a2 (fun i hi hp => hPR i hp hi), fun i hi hr => ?_, fun hi => ?_, nR, fun hi => ?_, xR, fun i hi => ?_⟩, box_keep h.xb a2 xP, hsn, h.pw.keep a2 (fun hp => by have := (hlt _ (Or.inl hp)).1; omega), hpB⟩, a2.below (by omega) (fun i hi => (hlt i (Or.inl hi)).1)⟩
 ·rcases a3 i hi with e | e
  ·exact hPR i e hr
  ·have := (hlt i (Or.inr hr)).2; omega
 ·rcases a3 _ hi with e | e
  ·exact nP e
  ·omega
 ·rcases a3 _ hi with e | e
  ·exact xP e
  ·omega
 ·rcases hi with hi | hi
  ·refine ⟨?_, a4 i hi⟩
   rcases a3 i hi with e | e
   ·exact (hlt i (Or.inl e)).1
   ·omega
  ·have := hlt i (Or.inr hi); omega
theorem Sw.goR (h : Sw B w sb d rd ob X pl pr o k o' k') : ∃ R, w.cell? ⟨sb, 2, none⟩ = some (.pointer (some ⟨rd, 0, none⟩)) ∧ w.cell? ⟨sb, 3, none⟩ = some pr ∧ RH w R rd pr o' k' ∧ (∀ i, R i → B ≤ i ∧ i < w.heap.size) ∧ ∀ o2 k2 w', RS w R rd pr o2 k2 w' → Sw B w' sb d rd ob X pl pr o k o2 k2 ∧ Below B w w' := by
 have hsl := h.lt
 have hsn := h.sn
 have hpB := h.pB
 have hxl : ob < w.heap.size := (Array.getElem?_eq_some_iff.1 h.xb).1
 obtain ⟨P, R, hblk, hP, hR, hPR, nP, nR, xP, xR, hlt⟩ := h.ex
 refine ⟨R, by rw [cell_of_block hblk]; rfl, by rw [cell_of_block hblk]; rfl, hR, fun i hi => hlt i (Or.inr hi), fun o2 k2 w' hS => ?_⟩
 obtain ⟨R', a1, a2, a3, a4⟩ := hS
 have hsz := a2.size
 have hgn : ¬ R 0 := fun hp => by have := (hlt _ (Or.inr hp)).1; omega
 refine ⟨⟨⟨P, R', box_keep hblk a2 nR, hP.keep a2 (fun i hi hr => hPR i hi hr) hgn, a1, fun i hi hr => ?_, nP, fun hi => ?_, xP, fun hi => ?_, fun i hi => ?_⟩, box_keep h.xb a2 xR, hsn, h.pw.keep a2 hgn, hpB⟩, a2.below (by omega) (fun i hi => (hlt i (Or.inr hi)).1)⟩
 ·rcases a3 i hr with e | e
  ·exact hPR i hi e
  ·have := (hlt i (Or.inl hi)).2; omega
 ·rcases a3 _ hi with e | e
  ·exact nR e
  ·omega
 ·rcases a3 _ hi with e | e
  ·exact xR e
  ·omega
 ·rcases hi with hi | hi
  ·have := hlt i (Or.inl hi); omega
  ·refine ⟨?_, a4 i hi⟩
   rcases a3 i hi with e | e
   ·exact (hlt i (Or.inr e)).1
   ·omega
theorem Sw.disk (h : Sw B w sb d rd ob X pl pr o k o' k') : ∃ F, w.cell? ⟨sb, 0, none⟩ = some (.pointer (some ⟨d, 0, none⟩)) ∧ DiskAt w F d k ∧ (∀ i, F i → B ≤ i ∧ i < w.heap.size) ∧ ∀ k2 w', Dp w F d k2 w' → Sw B w' sb d rd ob X pl pr o k2 o' k' ∧ Below B w w' := by
 obtain ⟨P, c0, _, hP, hlt, hg, go⟩ := h.goL
 obtain ⟨F, h1, h2, h3⟩ := hP.disk hg
 exact ⟨F, c0, h2, fun i hi => hlt i (h1 i hi), fun k2 w' hp => go o k2 w' (h3 k2 w' hp)⟩
theorem Sw.rdisk (h : Sw B w sb d rd ob X pl pr o k o' k') : ∃ G, w.cell? ⟨sb, 2, none⟩ = some (.pointer (some ⟨rd, 0, none⟩)) ∧ RefAt w G rd k' ∧ (∀ i, G i → B ≤ i ∧ i < w.heap.size) ∧ ∀ k2 w', Rp w G rd k2 w' → Sw B w' sb d rd ob X pl pr o k o' k2 ∧ Below B w w' := by
 obtain ⟨R, c0, _, hR, hlt, go⟩ := h.goR
 obtain ⟨G, h1, h2, h3⟩ := hR.disk
 exact ⟨G, c0, h2, fun i hi => hlt i (h1 i hi), fun k2 w' hp => go o' k2 w' (h3 k2 w' hp)⟩
end
theorem Sw.log {B : Nat} {w : World} {sb d rd ob : Nat} {X : Obj} {pl pr : Value} {l : Lg} {o' : Option Lg} {k k' : Dk} (h : Sw B w sb d rd ob X pl pr (some l) k o' k') : ∃ F H lb, pl = .pointer (some ⟨lb, 0, none⟩) ∧ LogAt w F H lb d l k ∧ (∀ i, F i ∨ H i ∨ i = lb → B ≤ i ∧ i < w.heap.size) ∧ ∀ l2 k2 w', Lgp w F H lb d l2 k2 w' → Sw B w' sb d rd ob X pl pr (some l2) k2 o' k' ∧ Below B w w' := by
 obtain ⟨P, _, c1, hP, hlt, hg, go⟩ := h.goL
 obtain ⟨F, H, lb, rfl, h1, h2, h3⟩ := hP.log hg
 exact ⟨F, H, lb, rfl, h2, fun i hi => hlt i (h1 i hi), fun l2 k2 w' hp => go _ k2 w' (h3 l2 k2 w' hp)⟩
theorem Sw.rlog {B : Nat} {w : World} {sb d rd ob : Nat} {X : Obj} {pl pr : Value} {l : Lg} {o : Option Lg} {k k' : Dk} (h : Sw B w sb d rd ob X pl pr o k (some l) k') : ∃ G H rl, pr = .pointer (some ⟨rl, 0, none⟩) ∧ RLogAt w G H rl rd l k' ∧ (∀ i, G i ∨ H i ∨ i = rl → B ≤ i ∧ i < w.heap.size) ∧ ∀ l2 k2 w', Rgp w G H rl rd l2 k2 w' → Sw B w' sb d rd ob X pl pr o k (some l2) k2 ∧ Below B w w' := by
 obtain ⟨R, _, c1, hR, hlt, go⟩ := h.goR
 obtain ⟨G, H, rl, rfl, h1, h2, h3⟩ := hR.log
 exact ⟨G, H, rl, rfl, h2, fun i hi => hlt i (h1 i hi), fun l2 k2 w' hp => go _ k2 w' (h3 l2 k2 w' hp)⟩
end Go.Proofs.YtikkieaokfailaaGreatDoor
