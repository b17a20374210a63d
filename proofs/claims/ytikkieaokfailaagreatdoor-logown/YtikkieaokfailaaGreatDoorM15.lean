/- Texts of one seat, one behind the other: LtI, SdA, SdB, DkI, DkB, SdC, LkA, LzD, LkB, LkC, LkD, SdD, SdG, SdH, SdM. -/
import Derived.Test.YtikkieaokfailaaGreatDoorM7
import Derived.Test.YtikkieaokfailaaGreatDoorM11
import Derived.Test.YtikkieaokfailaaGreatDoorM5
import Derived.Test.YtikkieaokfailaaGreatDoorM6
import Derived.Deep.Slices
import Derived.BigQuiet
import Derived.Test.YtikkieaokfailaaGreatDoorM10
import Derived.Deep.QuietTactic
import Derived.Test.YtikkieaokfailaaGreatDoorM8
namespace Go.Proofs.YtikkieaokfailaaGreatDoor
open Go.RowKit Go.Joins
theorem LogAt.keep {S : Nat → Prop} {w w' : World} {F H : Nat → Prop} {lb d : Nat} {l : Lg} {k : Dk} (h : LogAt w F H lb d l k) (hk : Keep S w w') (hF : ∀ i, F i → ¬ S i) (hH : ∀ i, H i → ¬ S i) (hl : ¬ S lb) (hg : ¬ S 0) : LogAt w' F H lb d l k := by
 obtain ⟨v, h1, h2⟩ := h.ex
 exact ⟨⟨v, h1.keep hk hF hl, h2.keep hk hH (fun _ h => h)⟩, h.hf, h.hl, fun i hi => Nat.lt_of_lt_of_le (h.lt i hi) hk.size, ⟨h.pf.pw.keep hk hg, h.pf.fl, h.pf.ll⟩, h.ph⟩
end Go.Proofs.YtikkieaokfailaaGreatDoor

namespace Go.Proofs.YtikkieaokfailaaGreatDoor
open Go.RowKit Go.Joins
def PH (w : World) (P : Nat → Prop) (d : Nat) (pl : Value) (o : Option Lg) (k : Dk) : Prop :=
 ∃ F, (∀ i, F i → P i) ∧ DiskAt w F d k ∧ (∀ i, F i → 0 < i) ∧ match o with
  | none => pl = .pointer none
  | some l => ∃ (lb : Nat) (H : Nat → Prop), pl = .pointer (some ⟨lb, 0, none⟩) ∧ LogAt w F H lb d l k ∧ (∀ i, H i → P i) ∧ P lb
def RH (w : World) (R : Nat → Prop) (rd : Nat) (pr : Value) (o : Option Lg) (k : Dk) : Prop :=
 ∃ G, (∀ i, G i → R i) ∧ RefAt w G rd k ∧ match o with
  | none => pr = .pointer none
  | some l => ∃ (rl : Nat) (H : Nat → Prop), pr = .pointer (some ⟨rl, 0, none⟩) ∧ RLogAt w G H rl rd l k ∧ (∀ i, H i → R i) ∧ R rl
section
variable {w w' : World} {P R S : Nat → Prop} {d rd : Nat} {pl pr : Value} {o : Option Lg} {k : Dk}
theorem PH.keep (h : PH w P d pl o k) (hk : Keep S w w') (hs : ∀ i, P i → ¬ S i) (hg : ¬ S 0) : PH w' P d pl o k := by
 obtain ⟨F, h1, h2, h3, h4⟩ := h
 refine ⟨F, h1, h2.keep hk (fun i hi => hs i (h1 i hi)), h3, ?_⟩
 cases o with
 | none => exact h4
 | some l =>
  obtain ⟨lb, H, e, h5, h6, h7⟩ := h4
  exact ⟨lb, H, e, h5.keep hk (fun i hi => hs i (h1 i hi)) (fun i hi => hs i (h6 i hi)) (hs _ h7) hg, h6, h7⟩
theorem RH.keep (h : RH w R rd pr o k) (hk : Keep S w w') (hs : ∀ i, R i → ¬ S i) : RH w' R rd pr o k := by
 obtain ⟨G, h1, h2, h4⟩ := h
 refine ⟨G, h1, h2.keep hk (fun i hi => hs i (h1 i hi)), ?_⟩
 cases o with
 | none => exact h4
 | some l =>
  obtain ⟨rl, H, e, h5, h6, h7⟩ := h4
  exact ⟨rl, H, e, h5.keep hk (fun i hi => hs i (h1 i hi)) (fun i hi => hs i (h6 i hi)) (hs _ h7), h6, h7⟩
end
structure Sd (B : Nat) (w : World) (sb d rd : Nat) (o : Option Lg) (k : Dk) : Prop where
 ex : ∃ (P R : Nat → Prop) (pl pr : Value), w.heap[sb]? = some (.cells #[.pointer (some ⟨d, 0, none⟩), pl, .pointer (some ⟨rd, 0, none⟩), pr] 51 (0, 0)) ∧ PH w P d pl o k ∧ RH w R rd pr o k ∧ (∀ i, P i → ¬ R i) ∧ ¬ P sb ∧ ¬ R sb ∧ (∀ i, P i ∨ R i → B ≤ i ∧ i < w.heap.size)
 sn : B ≤ sb
 pw : Pw w
 pB : 0 < B
theorem Sd.below {B sb d rd : Nat} {w w' : World} {o : Option Lg} {k : Dk} (h : Sd B w sb d rd o k) (hb : Below w.heap.size w w') : Sd B w' sb d rd o k := by
 obtain ⟨P, R, pl, pr, h1, h2, h3, h4, h5, h6, h7⟩ := h.ex
 exact ⟨⟨P, R, pl, pr, box_below h1 hb, h2.keep (S := fun _ => False) (Keep.ofBelow hb) (fun _ _ h => h) (fun h => h), h3.keep (S := fun _ => False) (Keep.ofBelow hb) (fun _ _ h => h), h4, h5, h6, fun i hi => ⟨(h7 i hi).1, Nat.lt_of_lt_of_le (h7 i hi).2 hb.size⟩⟩, h.sn, h.pw.below hb, h.pB⟩
def opO (most : Nat) (k : Dk) : Option Lg := if (openL most k).1 = 0 then some (openL most k).2.1 else none
set_option maxRecDepth 100000 in
set_option maxHeartbeats 4000000 in
theorem sideOpen_any (B sb d rd most : Nat) (w : World) (o : Option Lg) (k : Dk) (h : Sd B w sb d rd o k) (h1 : 16 ≤ most) (h2 : most ≤ 1048576) (hfl : k.fs.length ≤ 2500) (hst : k.steps < 800000) (hu : used k.fs ≤ 900000) :
  Calls Tryz.prog 19 #[.pointer (some ⟨sb, 0, none⟩), .int .i64 (most : Int)] w fun e w' => e = .returned (.bool true) ∧ Sd B w' sb d rd (opO most k) (openL most k).2.2 ∧ Below B w w' := by
 obtain ⟨P, R, pl, pr, hblk, hP, hRr, hPR, nP, nR, hlt⟩ := h.ex
 obtain ⟨F, hFP, hD, hFg, _⟩ := hP
 obtain ⟨G, hGR, hRf, _⟩ := hRr
 have q0 : w.cell? ⟨sb, 0, none⟩ = some (.pointer (some ⟨d, 0, none⟩)) := by rw [cell_of_block hblk]; rfl
 have hso := sopen_any w F d most k h1 h2 hD h.pw hFg hfl hst hu
 have hro := fun w' (hr : RefAt w' G rd k) => ropen_any w' G rd most k h1 h2 hr hfl hst hu
 have hsl : sb < w.heap.size := (Array.getElem?_eq_some_iff.1 hblk).1
 have hsn := h.sn
 have hpB := h.pB
 unfold opO
 obtain ⟨Q, HQ⟩ : ∃ Q, Hid (openL most k = Q) := ⟨_, rfl⟩
 rw [HQ.out] at hso ⊢
 simp only [HQ.out] at hro
 clear HQ
 obtain ⟨en, lg, k2⟩ := Q
 dsimp only
 by_cases h0 : en = 0
 ·subst h0
  rw [if_pos rfl]
  have hso' := hso.mono (fun e w' hO => hO.yes rfl)
  have hro' := fun w' hr => (hro w' hr).mono (fun e w'' (hO : ROp w' w'' G rd (0, lg, k2) e) => hO.elim (fun h9 => absurd rfl h9.1) (fun h9 => h9.2))
  clear hso hro
  go_enter Tryz.func19, Tryz.ntmps19
  go_upto_region 2 with (first
   | (go_at_call 20; refine hso'.mono ?_; clear hso'; rintro e w1 ⟨lb, rfl, hlb, F1, H1, hA1, hk1, hF1, hH1⟩))
  have hb1 : w1.heap[sb]? = some (.cells #[.pointer (some ⟨d, 0, none⟩), pl, .pointer (some ⟨rd, 0, none⟩), pr] 51 (0, 0)) := box_keep hblk hk1 (fun hf => nP (hFP _ hf))
  have q2 : w1.cell? ⟨sb, 2, none⟩ = some (.pointer (some ⟨rd, 0, none⟩)) := by rw [cell_of_block hb1]; rfl
  have hRf1 := hRf.keep hk1 (fun i hi hf => hPR i (hFP i hf) (hGR i hi))
  replace hro' := hro' w1 hRf1
  go_upto_region 3 with (first
   | (go_at_call 59; refine hro'.mono ?_; clear hro'; rintro e w2 ⟨rl, G2, H2, rfl, hA2, hrl, hH2, hk2, hG2⟩))
  have s1 := hk1.size
  have s2 := hk2.size
  have hGlt := hRf1.lt
  have hb2 : w2.heap[sb]? = some (.cells #[.pointer (some ⟨d, 0, none⟩), pl, .pointer (some ⟨rd, 0, none⟩), pr] 51 (0, 0)) := box_keep hb1 hk2 (fun hg => nR (hGR _ hg))
  have hlb1 : lb < w1.heap.size := by obtain ⟨v, hL, _⟩ := hA1.ex; exact hL.lt
  have hF1lt : ∀ i, F1 i → i < w1.heap.size := by obtain ⟨v, hL, _⟩ := hA1.ex; exact hL.D.lt
  have hrl2 : rl < w2.heap.size := by obtain ⟨v, hL, _⟩ := hA2.ex; exact hL.lt
  have hG2lt : ∀ i, G2 i → i < w2.heap.size := by obtain ⟨v, hL, _⟩ := hA2.ex; exact hL.R.lt
  have hGw : ∀ i, G i → i < w.heap.size := hRf.lt
  have hA1' : LogAt w2 F1 H1 lb d lg k2 := by
   refine hA1.keep hk2 (fun i hi hg => ?_) (fun i hi hg => ?_) (fun hg => ?_) (fun hg => ?_)
   ·rcases hF1 i hi with h9 | h9
    ·exact hPR i (hFP i h9) (hGR i hg)
    ·have := hGw i hg; omega
   ·have := hH1 i hi; have := hGw i hg; omega
   ·have := hGw _ hg; omega
   ·have := (hlt _ (Or.inr (hGR _ hg))).1; omega
  obtain ⟨W, hW⟩ : ∃ W, (w2.setCell ⟨sb, 1, none⟩ (.pointer (some ⟨lb, 0, none⟩))).setCell ⟨sb, 3, none⟩ (.pointer (some ⟨rl, 0, none⟩)) = W := ⟨_, rfl⟩
  have c1 : w2.cell? ⟨sb, 1, none⟩ = some pl := by rw [cell_of_block hb2]; rfl
  have f1 : w2.frozen? ⟨sb, 1, none⟩ = false := unfrozen_of_block hb2 1
  have hb3 := block_setCell (i := 1) hb2 (.pointer (some ⟨lb, 0, none⟩))
  have c3 : (w2.setCell ⟨sb, 1, none⟩ (.pointer (some ⟨lb, 0, none⟩))).cell? ⟨sb, 3, none⟩ = some pr := by rw [cell_of_block hb3]; rfl
  have f3 : (w2.setCell ⟨sb, 1, none⟩ (.pointer (some ⟨lb, 0, none⟩))).frozen? ⟨sb, 3, none⟩ = false := unfrozen_of_block hb3 3
  have hb4 := block_setCell (i := 3) hb3 (.pointer (some ⟨rl, 0, none⟩))
  have hkW : Keep (fun i => i = sb) w2 W := by rw [← hW]; exact ((Keep.refl (fun i => i = sb) w2).setCell (p := ⟨sb, 1, none⟩) rfl _).setCell (p := ⟨sb, 3, none⟩) rfl _
  rw [hW] at hb4
  have hkBel : Below B w W := by
   have b1 := hk1.below (show B ≤ w.heap.size by omega) (fun i hi => (hlt i (Or.inl (hFP i hi))).1)
   have b2 := hk2.below (show B ≤ w1.heap.size by omega) (fun i hi => (hlt i (Or.inr (hGR i hi))).1)
   have b3 := hkW.below (show B ≤ w2.heap.size by omega) (fun i e => by subst e; exact hsn)
   exact (b1.trans b2).trans b3
  have sW := hkW.size
  have hH1lt := hA1.lt
  have hH2lt := hA2.lt
  have hFlt : ∀ i, F i → i < w.heap.size := hD.lt
  have hfin : Sd B W sb d rd (some lg) k2 := by
   have nF : ∀ i, F1 i → ¬ i = sb := fun i hi e => by
    subst e
    rcases hF1 _ hi with h9 | h9
    ·exact nP (hFP _ h9)
    ·omega
   have nG : ∀ i, G2 i → ¬ i = sb := fun i hi e => by
    subst e
    rcases hG2 _ hi with h9 | h9
    ·exact nR (hGR _ h9)
    ·omega
   have nH1 : ∀ i, H1 i → ¬ i = sb := fun i hi e => by have := hH1 i hi; omega
   have nH2 : ∀ i, H2 i → ¬ i = sb := fun i hi e => by have := hH2 i hi; omega
   have hA1W : LogAt W F1 H1 lb d lg k2 := hA1'.keep hkW nF nH1 (by omega) (by omega)
   have hA2W : RLogAt W G2 H2 rl rd lg k2 := hA2.keep hkW nG nH2 (by omega)
   obtain ⟨vL, hLL, _⟩ := hA1W.ex
   obtain ⟨vR, hRR, _⟩ := hA2W.ex
   refine ⟨⟨fun i => F1 i ∨ H1 i ∨ i = lb, fun i => G2 i ∨ H2 i ∨ i = rl, _, _, hb4, ⟨F1, fun i hi => Or.inl hi, hLL.D, hA1W.pf.fl, lb, H1, rfl, hA1W, fun i hi => Or.inr (Or.inl hi), Or.inr (Or.inr rfl)⟩, ⟨G2, fun i hi => Or.inl hi, hRR.R, rl, H2, rfl, hA2W, fun i hi => Or.inr (Or.inl hi), Or.inr (Or.inr rfl)⟩, fun i hi hj => ?_, fun hi => ?_, fun hi => ?_, fun i hi => ?_⟩, hsn, hA1W.pf.pw, hpB⟩
   ·have hi1 : F1 i ∨ w.heap.size ≤ i := by
     rcases hi with hi | hi | hi
     ·exact Or.inl hi
     ·exact Or.inr (hH1 i hi)
     ·exact Or.inr (by omega)
    have hi2 : i < w1.heap.size := by
     rcases hi with hi | hi | hi
     ·exact hF1lt i hi
     ·exact hH1lt i hi
     ·omega
    have hj1 : G i ∨ w1.heap.size ≤ i := by
     rcases hj with hj | hj | hj
     ·exact hG2 i hj
     ·exact Or.inr (hH2 i hj)
     ·exact Or.inr (by omega)
    rcases hj1 with hj1 | hj1
    ·have hgi := hGw i hj1
     rcases hi1 with hi1 | hi1
     ·rcases hF1 i hi1 with h9 | h9
      ·exact hPR i (hFP i h9) (hGR i hj1)
      ·omega
     ·omega
    ·omega
   ·rcases hi with hi | hi | hi
    ·exact nF _ hi rfl
    ·exact nH1 _ hi rfl
    ·omega
   ·rcases hi with hi | hi | hi
    ·exact nG _ hi rfl
    ·exact nH2 _ hi rfl
    ·omega
   ·rcases hi with (hi | hi | hi) | (hi | hi | hi)
    ·refine ⟨?_, by have := hF1lt i hi; omega⟩
     rcases hF1 i hi with h9 | h9
     ·exact (hlt i (Or.inl (hFP i h9))).1
     ·omega
    ·exact ⟨by have := hH1 i hi; omega, by have := hH1lt i hi; omega⟩
    ·exact ⟨by omega, by omega⟩
    ·refine ⟨?_, by have := hG2lt i hi; omega⟩
     rcases hG2 i hi with h9 | h9
     ·exact (hlt i (Or.inr (hGR i h9))).1
     ·omega
    ·exact ⟨by have := hH2 i hi; omega, by have := hH2lt i hi; omega⟩
    ·exact ⟨by omega, by omega⟩
  clear q0 q2 hb1 hb2 hb3 hA1 hA2 hA1'
  go_wp2
  go_ret
  exact ⟨rfl, hfin, hkBel⟩
 ·rw [if_neg h0]
  have hso' := hso.mono (fun e w' hO => hO.no h0)
  have hro' := fun w' hr => (hro w' hr).mono (fun e w'' (hO : ROp w' w'' G rd (en, lg, k2) e) => hO.elim (fun h9 => h9.2) (fun h9 => absurd h9.1 h0))
  dsimp only at hso' hro'
  clear hso hro
  have hee : ((en : Int) == (en : Int)) = true := by simp
  clear h0
  go_enter Tryz.func19, Tryz.ntmps19
  go_upto_region 2 with (first
   | (go_at_call 20; refine hso'.mono ?_; clear hso'; rintro e w1 ⟨rfl, F1, hD1, hk1, hF1⟩))
  have hb1 : w1.heap[sb]? = some (.cells #[.pointer (some ⟨d, 0, none⟩), pl, .pointer (some ⟨rd, 0, none⟩), pr] 51 (0, 0)) := box_keep hblk hk1 (fun hf => nP (hFP _ hf))
  have q2 : w1.cell? ⟨sb, 2, none⟩ = some (.pointer (some ⟨rd, 0, none⟩)) := by rw [cell_of_block hb1]; rfl
  have hRf1 := hRf.keep hk1 (fun i hi hf => hPR i (hFP i hf) (hGR i hi))
  replace hro' := hro' w1 hRf1
  go_upto_region 3 with (first
   | (go_at_call 59; refine hro'.mono ?_; clear hro'; rintro e w2 ⟨rfl, G2, hR2, hk2, hG2⟩))
  have s1 := hk1.size
  have s2 := hk2.size
  have hb2 : w2.heap[sb]? = some (.cells #[.pointer (some ⟨d, 0, none⟩), pl, .pointer (some ⟨rd, 0, none⟩), pr] 51 (0, 0)) := box_keep hb1 hk2 (fun hg => nR (hGR _ hg))
  have hGw : ∀ i, G i → i < w.heap.size := hRf.lt
  have hD1' : DiskAt w2 F1 d k2 := hD1.keep hk2 (fun i hi hg => by
   rcases hF1 i hi with h9 | h9
   ·exact hPR i (hFP i h9) (hGR i hg)
   ·have := hGw i hg; omega)
  obtain ⟨W, hW⟩ : ∃ W, (w2.setCell ⟨sb, 1, none⟩ (.pointer none)).setCell ⟨sb, 3, none⟩ (.pointer none) = W := ⟨_, rfl⟩
  have c1 : w2.cell? ⟨sb, 1, none⟩ = some pl := by rw [cell_of_block hb2]; rfl
  have f1 : w2.frozen? ⟨sb, 1, none⟩ = false := unfrozen_of_block hb2 1
  have hb3 := block_setCell (i := 1) hb2 (.pointer none)
  have c3 : (w2.setCell ⟨sb, 1, none⟩ (.pointer none)).cell? ⟨sb, 3, none⟩ = some pr := by rw [cell_of_block hb3]; rfl
  have f3 : (w2.setCell ⟨sb, 1, none⟩ (.pointer none)).frozen? ⟨sb, 3, none⟩ = false := unfrozen_of_block hb3 3
  have hb4 := block_setCell (i := 3) hb3 (.pointer none)
  have hkW : Keep (fun i => i = sb) w2 W := by rw [← hW]; exact ((Keep.refl (fun i => i = sb) w2).setCell (p := ⟨sb, 1, none⟩) rfl _).setCell (p := ⟨sb, 3, none⟩) rfl _
  rw [hW] at hb4
  have hkBel : Below B w W := by
   have b1 := hk1.below (show B ≤ w.heap.size by omega) (fun i hi => (hlt i (Or.inl (hFP i hi))).1)
   have b2 := hk2.below (show B ≤ w1.heap.size by omega) (fun i hi => (hlt i (Or.inr (hGR i hi))).1)
   have b3 := hkW.below (show B ≤ w2.heap.size by omega) (fun i e => by subst e; exact hsn)
   exact (b1.trans b2).trans b3
  have sW := hkW.size
  have hF1lt := hD1.lt
  have hG2lt := hR2.lt
  have hpw : Pw W := ((h.pw.keep hk1 (fun hf => by have := hFg _ hf; omega)).keep hk2 (fun hg => by have := (hlt _ (Or.inr (hGR _ hg))).1; omega)).keep hkW (by omega)
  have hfin : Sd B W sb d rd none k2 := by
   have nF : ∀ i, F1 i → ¬ i = sb := fun i hi e => by
    subst e
    rcases hF1 _ hi with h9 | h9
    ·exact nP (hFP _ h9)
    ·omega
   have nG : ∀ i, G2 i → ¬ i = sb := fun i hi e => by
    subst e
    rcases hG2 _ hi with h9 | h9
    ·exact nR (hGR _ h9)
    ·omega
   refine ⟨⟨F1, G2, _, _, hb4, ⟨F1, fun i hi => hi, hD1'.keep hkW nF, fun i hi => ?_, rfl⟩, ⟨G2, fun i hi => hi, hR2.keep hkW nG, rfl⟩, fun i hi hj => ?_, fun hi => nF _ hi rfl, fun hi => nG _ hi rfl, fun i hi => ?_⟩, hsn, hpw, hpB⟩
   ·rcases hF1 i hi with h9 | h9
    ·exact hFg i h9
    ·omega
   ·have := hF1lt i hi
    rcases hG2 i hj with h8 | h8
    ·have hgi := hGw i h8
     rcases hF1 i hi with h9 | h9
     ·exact hPR i (hFP i h9) (hGR i h8)
     ·omega
    ·omega
   ·rcases hi with hi | hi
    ·refine ⟨?_, by have := hF1lt i hi; omega⟩
     rcases hF1 i hi with h9 | h9
     ·exact (hlt i (Or.inl (hFP i h9))).1
     ·omega
    ·refine ⟨?_, by have := hG2lt i hi; omega⟩
     rcases hG2 i hi with h9 | h9
     ·exact (hlt i (Or.inr (hGR i h9))).1
     ·omega
  clear q0 q2 hb1 hb2 hb3 hD1 hD1' hR2
  go_wp2
  go_ret
  exact ⟨rfl, hfin, hkBel⟩
end Go.Proofs.YtikkieaokfailaaGreatDoor

namespace Go.Proofs.YtikkieaokfailaaGreatDoor
open Go.RowKit Go.Joins
set_option maxRecDepth 100000 in
theorem ropen_bad (d : Nat) (most : Int) (h : most < 16 ∨ 1048576 < most) (w : World) : Calls Tryz.prog 59 #[.pointer (some ⟨d, 0, none⟩), .int .i64 most] w fun e w' => e = .returned (.tuple #[.pointer none, .int .i64 1]) ∧ w' = w := by
 by_cases h1 : most < 16
 ·clear h
  go_enter Tryz.func59, Tryz.ntmps59
  go_wp2
  go_ret2
  exact ⟨rfl, rfl⟩
 ·have h2 : 1048576 < most := by omega
  clear h
  go_enter Tryz.func59, Tryz.ntmps59
  go_wp2
  go_ret2
  exact ⟨rfl, rfl⟩
set_option maxRecDepth 100000 in
set_option maxHeartbeats 4000000 in
theorem sideOpen_bad (B sb d rd : Nat) (most : Int) (w : World) (o : Option Lg) (k : Dk) (h : Sd B w sb d rd o k) (hm : most < 16 ∨ 1048576 < most) :
  Calls Tryz.prog 19 #[.pointer (some ⟨sb, 0, none⟩), .int .i64 most] w fun e w' => e = .returned (.bool true) ∧ Sd B w' sb d rd none k ∧ Below B w w' := by
 obtain ⟨P, R, pl, pr, hblk, hP, hRr, hPR, nP, nR, hlt⟩ := h.ex
 obtain ⟨F, hFP, hD, hFg, _⟩ := hP
 obtain ⟨G, hGR, hRf, _⟩ := hRr
 have q0 : w.cell? ⟨sb, 0, none⟩ = some (.pointer (some ⟨d, 0, none⟩)) := by rw [cell_of_block hblk]; rfl
 have q2 : w.cell? ⟨sb, 2, none⟩ = some (.pointer (some ⟨rd, 0, none⟩)) := by rw [cell_of_block hblk]; rfl
 have hso := sopen_bad (d : Int) most _ rfl hm w
 rw [Int.toNat_natCast] at hso
 have hro := ropen_bad rd most hm w
 have hsl : sb < w.heap.size := (Array.getElem?_eq_some_iff.1 hblk).1
 have hsn := h.sn
 have hpB := h.pB
 obtain ⟨W, hW⟩ : ∃ W, (w.setCell ⟨sb, 1, none⟩ (.pointer none)).setCell ⟨sb, 3, none⟩ (.pointer none) = W := ⟨_, rfl⟩
 have c1 : w.cell? ⟨sb, 1, none⟩ = some pl := by rw [cell_of_block hblk]; rfl
 have f1 : w.frozen? ⟨sb, 1, none⟩ = false := unfrozen_of_block hblk 1
 have hb3 := block_setCell (i := 1) hblk (.pointer none)
 have c3 : (w.setCell ⟨sb, 1, none⟩ (.pointer none)).cell? ⟨sb, 3, none⟩ = some pr := by rw [cell_of_block hb3]; rfl
 have f3 : (w.setCell ⟨sb, 1, none⟩ (.pointer none)).frozen? ⟨sb, 3, none⟩ = false := unfrozen_of_block hb3 3
 have hb4 := block_setCell (i := 3) hb3 (.pointer none)
 have hkW : Keep (fun i => i = sb) w W := by rw [← hW]; exact ((Keep.refl (fun i => i = sb) w).setCell (p := ⟨sb, 1, none⟩) rfl _).setCell (p := ⟨sb, 3, none⟩) rfl _
 rw [hW] at hb4
 have hkBel : Below B w W := hkW.below (show B ≤ w.heap.size by omega) (fun i e => by subst e; exact hsn)
 have sW := hkW.size
 have hFlt := hD.lt
 have hGlt := hRf.lt
 have hfin : Sd B W sb d rd none k := by
  have nF : ∀ i, F i → ¬ i = sb := fun i hi e => nP (by rw [← e]; exact hFP i hi)
  have nG : ∀ i, G i → ¬ i = sb := fun i hi e => nR (by rw [← e]; exact hGR i hi)
  refine ⟨⟨F, G, _, _, hb4, ⟨F, fun i hi => hi, hD.keep hkW nF, hFg, rfl⟩, ⟨G, fun i hi => hi, hRf.keep hkW nG, rfl⟩, fun i hi hj => hPR i (hFP i hi) (hGR i hj), fun hi => nF _ hi rfl, fun hi => nG _ hi rfl, fun i hi => ?_⟩, hsn, h.pw.keep hkW (by omega), hpB⟩
  rcases hi with hi | hi
  ·exact ⟨(hlt i (Or.inl (hFP i hi))).1, by have := hFlt i hi; omega⟩
  ·exact ⟨(hlt i (Or.inr (hGR i hi))).1, by have := hGlt i hi; omega⟩
 clear hblk hb3 hD hRf hm
 go_enter Tryz.func19, Tryz.ntmps19
 go_wp2_with (first
  | (go_at_call 20; refine hso.mono ?_; clear hso; rintro e w1 ⟨rfl, h9⟩; replace h9 := h9.symm; subst h9)
  | (go_at_call 59; refine hro.mono ?_; clear hro; rintro e w2 ⟨rfl, h9⟩; replace h9 := h9.symm; subst h9))
 go_ret
 exact ⟨rfl, hfin, hkBel⟩
def opI (most : Int) (k : Dk) : Option Lg × Dk := if most < 16 ∨ 1048576 < most then (none, k) else (opO most.toNat k, (openL most.toNat k).2.2)
theorem sideOpen_all (B sb d rd : Nat) (most : Int) (w : World) (o : Option Lg) (k : Dk) (h : Sd B w sb d rd o k) (hfl : k.fs.length ≤ 2500) (hst : k.steps < 800000) (hu : used k.fs ≤ 900000) :
  Calls Tryz.prog 19 #[.pointer (some ⟨sb, 0, none⟩), .int .i64 most] w fun e w' => e = .returned (.bool true) ∧ Sd B w' sb d rd (opI most k).1 (opI most k).2 ∧ Below B w w' := by
 unfold opI
 by_cases hm : most < 16 ∨ 1048576 < most
 ·rw [if_pos hm]
  exact sideOpen_bad B sb d rd most w o k h hm
 ·rw [if_neg hm]
  have := sideOpen_any B sb d rd most.toNat w o k h (by omega) (by omega) hfl hst hu
  rw [Int.toNat_of_nonneg (by omega)] at this
  exact this
set_option maxRecDepth 100000 in
set_option maxHeartbeats 4000000 in
theorem fresh_any (r : Nat) (hr : r ≤ 100000) (most : Int) (w : World) (hp : Pw w) (hpl : 0 < w.heap.size) :
  Calls Tryz.prog 9 #[.int .i64 (r : Int), .int .i64 most] w fun e w' => ∃ sb d rd, e = .returned (.tuple #[.pointer (some ⟨sb, 0, none⟩), .bool true]) ∧ Sd w.heap.size w' sb d rd (opI most (newK r)).1 (opI most (newK r)).2 ∧ Below w.heap.size w w' := by
 have hn := new_ok r (by omega) w
 have hrn := fun w' => refNew_ok r (by omega) w'
 go_enter Tryz.func9, Tryz.ntmps9
 go_upto_region 6 with (first
  | (go_at_call 14; refine hn.mono ?_; clear hn; rintro e w1 ⟨d, rfl, ⟨F, hD, hF⟩, hb1⟩)
  | (go_at_call 15; refine (hrn _).mono ?_; clear hrn; rintro e w2 ⟨rd, rfl, ⟨G, hG, hGn⟩, hb2⟩))
 obtain ⟨W, hW⟩ : ∃ W, w2.alloc (.cells #[.pointer (some ⟨d, 0, none⟩), .pointer none, .pointer (some ⟨rd, 0, none⟩), .pointer none] 51) = W := ⟨_, rfl⟩
 have hbW : Below w2.heap.size w2 W := by rw [← hW]; exact (Below.refl _ _).alloc (Nat.le_refl _) _
 have s1 := hb1.size
 have s2 := hb2.size
 have sW := hbW.size
 have hFl := hD.lt
 have hGl := hG.lt
 have hblk : W.heap[w2.heap.size]? = some (.cells #[.pointer (some ⟨d, 0, none⟩), .pointer none, .pointer (some ⟨rd, 0, none⟩), .pointer none] 51 (0, 0)) := by rw [← hW]; exact alloc_at w2 _
 have hsW : w2.heap.size < W.heap.size := (Array.getElem?_eq_some_iff.1 hblk).1
 have hSd : Sd w.heap.size W w2.heap.size d rd none (newK r) := by
  refine ⟨⟨F, G, _, _, hblk, ⟨F, fun i hi => hi, (hD.below hb2).below hbW, fun i hi => by have := hF i hi; omega, rfl⟩, ⟨G, fun i hi => hi, hG.keep (S := fun _ => False) (Keep.ofBelow hbW) (fun _ _ h => h), rfl⟩, fun i hi hj => ?_, fun hi => ?_, fun hi => ?_, fun i hi => ?_⟩, by omega, ((hp.below hb1).below hb2).below hbW, hpl⟩
  ·have := hFl i hi; have := hGn i hj; omega
  ·have := hFl _ hi; omega
  ·have := hGl _ hi; omega
  ·rcases hi with hi | hi
   ·exact ⟨hF i hi, by have := hFl i hi; omega⟩
   ·exact ⟨by have := hGn i hi; omega, by have := hGl i hi; omega⟩
 have hB : Below w.heap.size w W := (hb1.trans (hb2.mono hb1.size)).trans (hbW.mono (by omega))
 have hop := sideOpen_all w.heap.size w2.heap.size d rd most W none (newK r) hSd (by unfold newK; simp) (by unfold newK; simp) (by unfold newK; simp [used])
 rw [hW]
 clear hW hD hG hFl hGl hblk hSd
 go_wp2_with (first
  | (go_at_call 19; refine hop.mono ?_; clear hop; rintro e w3 ⟨rfl, hS3, hb3⟩))
 go_ret2
 exact ⟨_, d, rd, rfl, hS3, hB.trans hb3⟩
end Go.Proofs.YtikkieaokfailaaGreatDoor

namespace Go.Proofs.YtikkieaokfailaaGreatDoor
open Go.ChangeShapes Go.WideShapes Go.ChangeAt Go.RowKit
structure IAr (W : World) (a : Option Addr) (n c : Nat) (zs : List Int) : Prop where
 len : zs.length = n
 cap : n ≤ c
 most : c ≤ 9223372036854775807
 nil : a = none → c = 0
 cells : ∀ ad, a = some ad → ∀ j, j < n → W.cell? (ad.add j) = some (.int .i64 (zs.getD j 0))
theorem IAr.carry {W W' : World} {a : Option Addr} {n c : Nat} {zs : List Int} (h : IAr W a n c zs) (hb : Below W.heap.size W W') : IAr W' a n c zs :=
 ⟨h.len, h.cap, h.most, h.nil, fun ad ha j hj => (hb.cell (World.block_lt_of_cell? W _ (h.cells ad ha j hj))).trans (h.cells ad ha j hj)⟩
theorem IAr.take {W : World} {a : Option Addr} {n c : Nat} {zs : List Int} (h : IAr W a n c zs) {k : Nat} (hk : k ≤ n) : IAr W a k c (zs.take k) :=
 ⟨by rw [List.length_take, h.len]; omega, by have := h.cap; omega, h.most, h.nil, fun ad ha j hj => by
  rw [h.cells ad ha j (by omega)]
  simp [List.getD, hj]⟩
theorem iar_nil (W : World) : IAr W none 0 0 [] := ⟨rfl, Nat.le_refl _, by omega, fun _ => rfl, fun _ h => by cases h⟩
theorem iar_of_cells {H : Type} {enc : TypeId × Value → H} {W : World} {v : Value} {n : Nat} {y : DataW H × List MemPlace}
  (h : DataW.trod enc Tryz.prog W 0 (fun _ => true) true n 31 [v] = some y) : ∃ a n c zs, v = .slice a n c ∧ IAr W a n c zs := by
 rcases open_ints Tryz.underlying31 Tryz.underlying3 (by kernel_rfl) h with ⟨hcs, _⟩ | ⟨x, l, cc, zs, hcs, _, hl, hm, hz, _, hcell, hwz⟩
 ·simp only [List.cons.injEq, and_true] at hcs
  exact ⟨none, 0, 0, [], hcs, iar_nil W⟩
 ·simp only [List.cons.injEq, and_true] at hcs
  have hz' : zs.length = cc := by simpa using hz
  refine ⟨some x, l, cc, zs.take l, hcs, by rw [List.length_take]; omega, hl, hm, (fun h => by cases h), fun ad had j hj => ?_⟩
  cases had
  rw [hcell j (by omega)]
  simp [List.getD, hj]
theorem cellsBytes : Tryz.prog.cellsOf 29 = 1 := by kernel_rfl
theorem cellsInt : Tryz.prog.cellsOf 3 = 1 := by kernel_rfl
theorem cellsRows : Tryz.prog.cellsOf 30 = 1 := by kernel_rfl
theorem cellsInts : Tryz.prog.cellsOf 31 = 1 := by kernel_rfl
end Go.Proofs.YtikkieaokfailaaGreatDoor

namespace Go.Proofs.YtikkieaokfailaaGreatDoor
open Go.ChangeShapes Go.WideShapes Go.ChangeAt Go.RowKit
set_option maxRecDepth 100000 in
set_option maxHeartbeats 2000000 in
theorem same_any (v u : Value) (ns : List Nm) (w : World) (B C : Nat) (hv : w.ownsRow B 9 1 v ns.length (nv ns)) (hu : w.ownsRow C 9 1 u ns.length (nv ns)) :
  Calls Tryz.prog 46 #[v, u] w fun e w' => e = .returned (.bool true) ∧ Below w.heap.size w w' := by
 obtain ⟨av, cv, rfl, hnv⟩ := own_formN hv
 obtain ⟨au, cu, rfl, hnu⟩ := own_formN hu
 obtain ⟨N, HN⟩ : ∃ N, Hid (ns.length = N) := ⟨_, rfl⟩
 have HV : Hid (w.ownsRow B 9 1 (.slice av ns.length cv) ns.length (nv ns)) := hv
 have HU : Hid (w.ownsRow C 9 1 (.slice au ns.length cu) ns.length (nv ns)) := hu
 rw [HN.out] at hnv ⊢
 have hself : ((N : Int) != (N : Int)) = false := by simp
 clear hv hu hnu
 go_enter Tryz.func46, Tryz.ntmps46
 go_wp2_with fail
 go_loopw [5] (fun s5 wr => ∃ i : Nat, i ≤ N ∧ s5 = .int .i64 i ∧ ∃ q, wr = w.drewN q) (fun s5 _ => N - (intOf s5).toNat)
 case atStart => exact ⟨0, by omega, rfl, 0, rfl⟩
 case round =>
  obtain ⟨i, hi, rfl, q, rfl⟩ := hrel
  by_cases hil : i < N
  ·have hcl : (i : Int) < (N : Int) := by omega
   have hi0 : (0 : Int) ≤ (i : Int) := by omega
   obtain ⟨x, hx⟩ : ∃ x, ns[i]? = some x := ⟨_, List.getElem?_eq_getElem (by rw [HN.out]; exact hil)⟩
   have hix : (nv ns)[i]? = some (.string x) := by unfold nv; rw [List.getElem?_map, hx]; rfl
   obtain ⟨gv, hgv, c1⟩ : ∃ g, av = some ⟨g, 0, none⟩ ∧ w.cell? ⟨g, i, none⟩ = some (.string x) := by
    rcases HV.out.2 with ⟨_, h0⟩ | ⟨g, cap, cur, h1, _⟩
    ·rw [HN.out] at h0; omega
    ·cases h1
     have hc := HV.out.cells (g := g) rfl i _ hix
     rw [add_flat, Nat.zero_add] at hc
     exact ⟨g, rfl, hc⟩
   obtain ⟨gu, hgu, c2⟩ : ∃ g, au = some ⟨g, 0, none⟩ ∧ w.cell? ⟨g, i, none⟩ = some (.string x) := by
    rcases HU.out.2 with ⟨_, h0⟩ | ⟨g, cap, cur, h1, _⟩
    ·rw [HN.out] at h0; omega
    ·cases h1
     have hc := HU.out.cells (g := g) rfl i _ hix
     rw [add_flat, Nat.zero_add] at hc
     exact ⟨g, rfl, hc⟩
   subst hgv hgu
   clear hx hix
   go_upto_region 6 with fail
   have c1' : (w.drewN q).cell? ⟨gv, i, none⟩ = some (.string x) := c1
   have c2' : (w.drewN q).cell? ⟨gu, i, none⟩ = some (.string x) := c2
   go_quiet (fail)
   go_wp2
   exact ⟨⟨i + 1, by omega, by go_num, q + nq, rfl⟩, by simp [intOf]; omega⟩
  ·obtain rfl : i = N := by omega
   have hcl : ¬ (i : Int) < (i : Int) := by omega
   go_wp2
   go_ret
   exact ⟨rfl, ⟨rfl, rfl, rfl, Nat.le_refl _, fun _ _ => rfl⟩⟩
end Go.Proofs.YtikkieaokfailaaGreatDoor

namespace Go.Proofs.YtikkieaokfailaaGreatDoor
open Go.RowKit Go.Joins
set_option maxRecDepth 400000 in
set_option maxHeartbeats 8000000 in
theorem sideSame_any (B sb d rd : Nat) (w : World) (o : Option Lg) (k : Dk) (h : Sd B w sb d rd o k) (hfl : k.fs.length ≤ 1000000) (hrec : ∀ l, o = some l → l.recs.length ≤ 1000000 ∧ ∀ r ∈ l.recs, r.length ≤ 1000000000) :
  Calls Tryz.prog 13 #[.pointer (some ⟨sb, 0, none⟩)] w fun e w' => e = .returned (.bool true) ∧ Below w.heap.size w w' := by
 obtain ⟨P, R, pl, pr, hblk, hP, hRr, hPR, nP, nR, hlt⟩ := h.ex
 have q0 : w.cell? ⟨sb, 0, none⟩ = some (.pointer (some ⟨d, 0, none⟩)) := by rw [cell_of_block hblk]; rfl
 have q1 : w.cell? ⟨sb, 1, none⟩ = some pl := by rw [cell_of_block hblk]; rfl
 have q2 : w.cell? ⟨sb, 2, none⟩ = some (.pointer (some ⟨rd, 0, none⟩)) := by rw [cell_of_block hblk]; rfl
 have q3 : w.cell? ⟨sb, 3, none⟩ = some pr := by rw [cell_of_block hblk]; rfl
 obtain ⟨F, hFP, hD, hFg, hL⟩ := hP
 obtain ⟨G, hGR, hRf, hRL⟩ := hRr
 have qd : w.cell? ⟨rd, 2, none⟩ = some (.int .i64 (k.steps : Int)) := by
  obtain ⟨v, sl, hb, _⟩ := hRf.ex
  rw [cell_of_block hb]; rfl
 have hst := fun q => steps_any d F k (w.drewN q) (hD.below ⟨rfl, rfl, rfl, Nat.le_refl _, fun _ _ => rfl⟩)
 have hus := fun q => used_any d F k (w.drewN q) (hD.below ⟨rfl, rfl, rfl, Nat.le_refl _, fun _ _ => rfl⟩)
 have hru := fun q => refUsed_any rd G k (w.drewN q) (hRf.keep (S := fun _ => False) (Keep.ofBelow ⟨rfl, rfl, rfl, Nat.le_refl _, fun _ _ => rfl⟩) (fun _ _ h => h))
 go_enter Tryz.func13, Tryz.ntmps13
 go_upto_region 1 with fail
 go_quiet ((first
  | (go_at_call 42; refine Calls.quiet_of_same (hst _))
  | (go_at_call 43; refine Calls.quiet_of_same (hus _))
  | (go_at_call 44; refine Calls.quiet_of_same (hru _))))
 have hb0 : Below w.heap.size w (w.drewN nq) := ⟨rfl, rfl, rfl, Nat.le_refl _, fun _ _ => rfl⟩
 have h0 := h.below hb0
 clear q0 q1 q2 q3 qd hst hus hru hD hRf hL hRL hFP hGR hFg hPR nP nR hlt hblk
 generalize w.drewN nq = W0 at hb0 h0 ⊢
 obtain ⟨P, R, pl, pr, hblk, hP, hRr, hPR, nP, nR, hlt⟩ := h0.ex
 have q0 : W0.cell? ⟨sb, 0, none⟩ = some (.pointer (some ⟨d, 0, none⟩)) := by rw [cell_of_block hblk]; rfl
 have q1 : W0.cell? ⟨sb, 1, none⟩ = some pl := by rw [cell_of_block hblk]; rfl
 have q2 : W0.cell? ⟨sb, 2, none⟩ = some (.pointer (some ⟨rd, 0, none⟩)) := by rw [cell_of_block hblk]; rfl
 have q3 : W0.cell? ⟨sb, 3, none⟩ = some pr := by rw [cell_of_block hblk]; rfl
 obtain ⟨F, hFP, hD, hFg, hL⟩ := hP
 obtain ⟨G, hGR, hRf, hRL⟩ := hRr
 cases o with
 | none =>
  have e1 : pl = .pointer none := hL
  have e2 : pr = .pointer none := hRL
  subst e1 e2
  clear hL hRL
  go_wp2
  go_ret
  exact ⟨rfl, hb0⟩
 | some l =>
  obtain ⟨lb, H, e1, hA, hHP, hlP⟩ := hL
  obtain ⟨rl, H2, e2, hA2, hHR, hlR⟩ := hRL
  subst e1 e2
  obtain ⟨hl1, hl2⟩ := hrec l rfl
  obtain ⟨vR, hDR, hRcR⟩ := hA2.ex
  have hRc9 := hRcR
  obtain ⟨⟨vs, ov, hvs⟩, _⟩ := hRcR
  obtain ⟨aR, cR, eR⟩ := own_sl ov
  subst eR
  have qr : W0.cell? ⟨rl, 3, none⟩ = some (.slice aR l.recs.length cR) := hDR.c3
  have hle := fun q => slen_any (W0.drewN q) F H lb d l k (hA.below ⟨rfl, rfl, rfl, Nat.le_refl _, fun _ _ => rfl⟩)
  have Hov : Hid (W0.ownsRow 0 29 1 (.slice aR l.recs.length cR) l.recs.length vs) := ov
  clear ov hRc9
  go_upto_region 5 with fail
  go_quiet ((go_at_call 26; refine Calls.quiet_of_same (hle _)))
  have hb1 : Below W0.heap.size W0 (W0.drewN nq) := ⟨rfl, rfl, rfl, Nat.le_refl _, fun _ _ => rfl⟩
  have HB1 : Hid (Below w.heap.size w (W0.drewN nq)) := hb0.trans (hb1.mono hb0.size)
  have HS1 : Hid (Below W0.heap.size W0 (W0.drewN nq)) := hb1
  clear hle hb1
  generalize W0.drewN nq = W1 at HB1 HS1 ⊢
  have hW : ∀ W : World, Below W0.heap.size W0 W → (W.cell? ⟨sb, 0, none⟩ = some (.pointer (some ⟨d, 0, none⟩)) ∧ W.cell? ⟨sb, 1, none⟩ = some (.pointer (some ⟨lb, 0, none⟩)) ∧ W.cell? ⟨sb, 2, none⟩ = some (.pointer (some ⟨rd, 0, none⟩)) ∧ W.cell? ⟨sb, 3, none⟩ = some (.pointer (some ⟨rl, 0, none⟩)) ∧ W.cell? ⟨rl, 3, none⟩ = some (.slice aR l.recs.length cR)) := fun W hb =>
   ⟨(hb.cell (World.block_lt_of_cell? _ _ q0)).trans q0, (hb.cell (World.block_lt_of_cell? _ _ q1)).trans q1, (hb.cell (World.block_lt_of_cell? _ _ q2)).trans q2, (hb.cell (World.block_lt_of_cell? _ _ q3)).trans q3, (hb.cell (World.block_lt_of_cell? _ _ qr)).trans qr⟩
  have HW : Hid (∀ W : World, Below W0.heap.size W0 W → (W.cell? ⟨sb, 0, none⟩ = some (.pointer (some ⟨d, 0, none⟩)) ∧ W.cell? ⟨sb, 1, none⟩ = some (.pointer (some ⟨lb, 0, none⟩)) ∧ W.cell? ⟨sb, 2, none⟩ = some (.pointer (some ⟨rd, 0, none⟩)) ∧ W.cell? ⟨sb, 3, none⟩ = some (.pointer (some ⟨rl, 0, none⟩)) ∧ W.cell? ⟨rl, 3, none⟩ = some (.slice aR l.recs.length cR))) := hW
  have Hvs : Hid (∀ (i : Nat) r, l.recs[i]? = some r → ∃ u, vs[i]? = some u ∧ W0.ownsRow 0 5 1 u r.length (bc r) ∧ Bd r) := fun i r hr => by
   obtain ⟨u, m1, m2, _, m4⟩ := hvs i r hr
   exact ⟨u, m1, m2, m4⟩
  clear hW hvs q0 q1 q2 q3 qr hDR
  go_upto_region 8 with fail
  go_loopw [3, 4, 5] (fun s3 _ _ wr => ∃ i : Nat, s3 = .int .i64 i ∧ i ≤ l.recs.length ∧ Hid (Below W0.heap.size W0 wr)) (fun s3 _ _ _ => l.recs.length - (intOf s3).toNat)
  case atStart => exact ⟨0, rfl, Nat.zero_le _, HS1.out⟩
  case round =>
   clear HS1 HB1
   obtain ⟨i, rfl, hin, HS⟩ := hrel
   obtain ⟨c0, c1, c2, c3, c4⟩ := HW.out wr HS.out
   by_cases hil : i < l.recs.length
   ·have hcl : (i : Int) < (l.recs.length : Int) := by omega
    obtain ⟨r, hr⟩ : ∃ r, l.recs[i]? = some r := ⟨_, List.getElem?_eq_getElem hil⟩
    have hat : atL l (i : Int) = some r := by unfold atL; rw [if_neg (by omega), Int.toNat_natCast]; exact hr
    have hsa := sat_any wr F H lb d l k (i : Int) (by omega) (hA.below HS.out) hl2
    rw [hat] at hsa
    dsimp only [Option.isSome, Option.getD] at hsa
    go_upto_region 11 with (first
     | (go_at_call 27; refine hsa.mono ?_; clear hsa; rintro e w2 ⟨u, rfl, ou, hbr, hb2⟩))
    have HS2 := HS.out.trans (hb2.mono HS.out.size)
    obtain ⟨u2, m1, m2, _⟩ := Hvs.out i r hr
    obtain ⟨a1, k1c, e1, r1⟩ := Rd.ofOwn ou hbr
    subst e1
    obtain ⟨a2, k2c, e2, r2⟩ := Rd.ofOwn m2 hbr
    subst e2
    have hbX : Below w2.heap.size w2 w2.drew := (Below.refl _ _).drew
    have HSX := HS2.trans (hbX.mono HS2.size)
    obtain ⟨gR, hgR, cg⟩ : ∃ g, aR = some ⟨g, 0, none⟩ ∧ w2.drew.cell? ⟨g, i, none⟩ = some (.slice a2 r.length k2c) := by
     rcases Hov.out.2 with ⟨_, h9⟩ | ⟨g, cap, cur, h9, _⟩
     ·omega
     ·injection h9 with h9
      have hv2 := Hov.out
      rw [h9] at hv2
      have hc := hv2.cells (g := g) rfl i _ m1
      rw [add_flat, Nat.zero_add] at hc
      exact ⟨g, h9, (HSX.cell (World.block_lt_of_cell? _ _ hc)).trans hc⟩
    subst hgR
    obtain ⟨_, _, _, d3, d4⟩ := HW.out w2.drew HSX
    have HS0 : Rd w2.drew a1 r.length k1c r ∧ w2.drew.cell? ⟨sb, 3, none⟩ = some (.pointer (some ⟨rl, 0, none⟩)) ∧ w2.drew.cell? ⟨rl, 3, none⟩ = some (.slice (some ⟨gR, 0, none⟩) l.recs.length cR) ∧ w2.drew.cell? ⟨gR, i, none⟩ = some (.slice a2 r.length k2c) ∧ Rd w2.drew a2 r.length k2c r := ⟨r1.carry (Nat.le_refl _) hbX, d3, d4, cg, r2.carry (Nat.le_refl _) HSX⟩
    have hqe := nm_eqT (strOfNums r)
    have HSX' : Hid (Below W0.heap.size W0 w2.drew) := HSX
    clear hr hat m1 m2 r1 r2 ou hbr cg d3 d4 HSX HS2 hbX c0 c1 c2 c3 c4 hb2
    refine wp_region_lx (fun w' => Rd w' a1 r.length k1c r ∧ w'.cell? ⟨sb, 3, none⟩ = some (.pointer (some ⟨rl, 0, none⟩)) ∧ w'.cell? ⟨rl, 3, none⟩ = some (.slice (some ⟨gR, 0, none⟩) l.recs.length cR) ∧ w'.cell? ⟨gR, i, none⟩ = some (.slice a2 r.length k2c) ∧ Rd w' a2 r.length k2c r) [] 18 (by kernel_rfl) (by kernel_rfl) ?_
    generalize w2.drew = X at *
    refine lx_r 0 (.bool true) HS0 ?_; simp only [lxa, lxb, lxc]
    refine lx_r 1 (.bool false) HS0 ?_; simp only [lxa, lxb, lxc]
    refine lx_r 2 (.bool false) HS0 ?_; simp only [lxa, lxb, lxc]
    refine lx_r 3 (.slice a1 r.length k1c) HS0 ?_; simp only [lxa, lxb, lxc]
    refine lx_r 4 (.string (strOfNums r)) HS0 ?_ (hv := fun w' hS => by have q := hS.1.string; first | (go_simp; rfl) | go_simp); simp only [lxa, lxb, lxc]
    refine lx_r 5 (.pointer (some ⟨sb, 0, none⟩)) HS0 ?_; simp only [lxa, lxb, lxc]
    refine lx_r 6 (.pointer (some ⟨sb, 0, none⟩)) HS0 ?_; simp only [lxa, lxb, lxc]
    refine lx_r 7 (.pointer (some ⟨sb, 3, none⟩)) HS0 ?_; simp only [lxa, lxb, lxc]
    refine lx_r 8 (.pointer (some ⟨rl, 0, none⟩)) HS0 ?_ (hv := fun w' hS => by have q := hS.2.1; first | (go_simp; rfl) | go_simp); simp only [lxa, lxb, lxc]
    refine lx_r 9 (.pointer (some ⟨rl, 0, none⟩)) HS0 ?_; simp only [lxa, lxb, lxc]
    refine lx_r 10 (.pointer (some ⟨rl, 3, none⟩)) HS0 ?_; simp only [lxa, lxb, lxc]
    refine lx_r 11 (.slice (some ⟨gR, 0, none⟩) l.recs.length cR) HS0 ?_ (hv := fun w' hS => by have q := hS.2.2.1; first | (go_simp; rfl) | go_simp); simp only [lxa, lxb, lxc]
    refine lx_r 12 (.int .i64 (i : Int)) HS0 ?_; simp only [lxa, lxb, lxc]
    refine lx_r 13 (.pointer (some ⟨gR, i, none⟩)) HS0 ?_; simp only [lxa, lxb, lxc]
    refine lx_r 14 (.slice a2 r.length k2c) HS0 ?_ (hv := fun w' hS => by have q := hS.2.2.2.1; first | (go_simp; rfl) | go_simp); simp only [lxa, lxb, lxc]
    refine lx_r 15 (.string (strOfNums r)) HS0 ?_ (hv := fun w' hS => by have q := hS.2.2.2.2.string; first | (go_simp; rfl) | go_simp); simp only [lxa, lxb, lxc]
    generalize strOfNums r = sr at hqe ⊢
    refine lx_r 16 (.bool false) HS0 ?_ (hv := fun w' hS => by have q := hqe; first | (go_simp; rfl) | go_simp); simp only [lxa, lxb, lxc]
    refine lx_r 17 (.bool false) HS0 ?_; simp only [lxa, lxb, lxc]
    refine lx_nil (by kernel_rfl) ?_
    clear HS0 hqe
    go_wp2
    exact ⟨⟨i + 1, by first | rfl | go_num, by omega, HSX'.out⟩, by simp [intOf]; omega⟩
   ·have hcl : ¬ (i : Int) < (l.recs.length : Int) := by omega
    have hli := list_any d F k hfl wr (hD.below HS.out)
    have hrli := fun w' (hr : RefAt w' G rd k) => refList_any rd G k hfl w' hr
    obtain ⟨ns, Hns⟩ : ∃ ns, Hid ((listK k).2 = ns) := ⟨_, rfl⟩
    have hnl : ns.length ≤ 1000000 := by
     rw [← Hns.out]
     unfold listK
     split
     ·simp
     ·simp only [List.length_map]; exact hfl
    rw [Hns.out] at hli
    simp only [Hns.out] at hrli
    obtain ⟨el, Hel⟩ : ∃ e, Hid ((listK k).1 = e) := ⟨_, rfl⟩
    rw [Hel.out] at hli
    simp only [Hel.out] at hrli
    have hRk : ∀ W, Below W0.heap.size W0 W → RefAt W G rd k := fun W hb => hRf.keep (S := fun _ => False) (Keep.ofBelow hb) (fun _ _ h => h)
    have hne : ((el : Int) != (el : Int)) = false := by simp
    clear hil
    go_upto_region 15 with (first
     | (go_at_call 37; refine hli.mono ?_; clear hli; rintro e w2 ⟨v2, rfl, o2, hb2⟩; have HS2 := HS.out.trans (hb2.mono HS.out.size); obtain ⟨e0, e1, e2, e3, e4⟩ := HW.out w2 HS2; replace hrli := hrli w2 (hRk w2 HS2))
     | (go_at_call 45; refine hrli.mono ?_; clear hrli; rintro e w3 ⟨v3, rfl, o3, hb3⟩))
    have HS3 := HS2.trans (hb3.mono HS2.size)
    have o2' := own_keep o2 (S := fun _ => False) (Keep.ofBelow hb3) (fun _ _ h => h)
    have hsm := same_any v2 v3 ns w3 _ _ o2' o3
    obtain ⟨av, cv, hv2, hnv⟩ := own_formN o2'
    subst hv2
    go_upto_region 18 with (first
     | (go_at_call 46; refine hsm.mono ?_; clear hsm; rintro e w4 ⟨rfl, hb4⟩))
    have HS4 : Hid (Below W0.heap.size W0 w4) := HS3.trans (hb4.mono HS3.size)
    obtain ⟨BB, HO4⟩ : ∃ BB, Hid (w4.ownsRow BB 9 1 (.slice av ns.length cv) ns.length (nv ns)) := ⟨_, own_keep o2' (S := fun _ => False) (Keep.ofBelow hb4) (fun _ _ h => h)⟩
    clear HS3 HS2 o2 o2' o3 hb2 hb3 hb4 e0 e1 e2 e3 e4 c0 c1 c2 c3 c4
    go_loopw [10, 11, 12, 13, 14] (fun s10 _ _ _ _ wz => ∃ j : Nat, s10 = .int .i64 j ∧ j ≤ ns.length ∧ Hid (Below W0.heap.size W0 wz) ∧ Hid (wz.ownsRow BB 9 1 (.slice av ns.length cv) ns.length (nv ns))) (fun s10 _ _ _ _ _ => ns.length - (intOf s10).toNat)
    case atStart => exact ⟨0, rfl, Nat.zero_le _, HS4.out, HO4.out⟩
    case round =>
     clear HS4 HO4
     obtain ⟨j, rfl, hjn, HS, HO⟩ := hrel
     by_cases hjl : j < ns.length
     ·have hzj : (j : Int) < (ns.length : Int) := by omega
      obtain ⟨x, hx⟩ : ∃ y, ns[j]? = some y := ⟨_, List.getElem?_eq_getElem hjl⟩
      have hix : (nv ns)[j]? = some (.string x) := by unfold nv; rw [List.getElem?_map, hx]; rfl
      have hxs : x.size ≤ 9223372036854775807 := by
       have hm : x ∈ ns := List.mem_of_getElem? hx
       rw [← Hns.out] at hm
       unfold listK at hm
       split at hm
       ·cases hm
       ·obtain ⟨pf, hpf, e⟩ := List.mem_map.1 hm
        have := isNm_size (hRf.good.each pf hpf).1
        rw [e] at this
        omega
      obtain ⟨gv, hgv, cx⟩ : ∃ g, av = some ⟨g, 0, none⟩ ∧ ∀ W : World, W.ownsRow BB 9 1 (.slice av ns.length cv) ns.length (nv ns) → W.cell? ⟨g, j, none⟩ = some (.string x) := by
       rcases HO.out.2 with ⟨_, h9⟩ | ⟨g, cap, cur, h9, _⟩
       ·omega
       ·injection h9 with h9
        refine ⟨g, h9, fun W hO => ?_⟩
        rw [h9] at hO
        have hc := hO.cells (g := g) rfl j _ hix
        rw [add_flat, Nat.zero_add] at hc
        exact hc
      subst hgv
      have hbd : Bd (readK k x).2 := by
       rcases readK_cases' k x with ⟨f, hl9, e⟩ | e
       ·rw [e]; dsimp only; exact (look_good hRf.good hl9).2.2
       ·rw [e]; exact Bd.nil
      have hrd1 := fun W (hb : Below W0.heap.size W0 W) => read_any d F k x W (hD.below hb)
      have hrd2 := fun W (hb : Below W0.heap.size W0 W) => refRead_any rd G k x hxs W (hRk W hb)
      obtain ⟨PB, HPB⟩ : ∃ P, Hid (readK k x = P) := ⟨_, rfl⟩
      simp only [HPB.out] at hrd1 hrd2
      rw [HPB.out] at hbd
      obtain ⟨er, xs⟩ := PB
      dsimp only at hrd1 hrd2 hbd
      clear hx hix hxs HPB
      have hbX : Below wr.heap.size wr wr.drew := (Below.refl _ _).drew
      have HSX := HS.out.trans (hbX.mono HS.out.size)
      have hOX := own_keep HO.out (S := fun _ => False) (Keep.ofBelow hbX) (fun _ _ h => h)
      have HS0 : wr.drew.cell? ⟨sb, 0, none⟩ = some (.pointer (some ⟨d, 0, none⟩)) ∧ wr.drew.cell? ⟨gv, j, none⟩ = some (.string x) := ⟨(HW.out _ HSX).1, cx _ hOX⟩
      clear hbX
      go_upto_region 20 with fail
      refine wp_region_lx (fun w' => w'.cell? ⟨sb, 0, none⟩ = some (.pointer (some ⟨d, 0, none⟩)) ∧ w'.cell? ⟨gv, j, none⟩ = some (.string x)) [] 14 (by kernel_rfl) (by kernel_rfl) ?_
      generalize wr.drew = X at *
      refine lx_r 0 (.pointer (some ⟨sb, 0, none⟩)) HS0 ?_; simp only [lxa, lxb, lxc]
      refine lx_r 1 (.pointer (some ⟨sb, 0, none⟩)) HS0 ?_; simp only [lxa, lxb, lxc]
      refine lx_r 2 (.pointer (some ⟨sb, 0, none⟩)) HS0 ?_; simp only [lxa, lxb, lxc]
      refine lx_r 3 (.pointer (some ⟨d, 0, none⟩)) HS0 ?_ (hv := fun w' hS => by have q := hS.1; first | (go_simp; rfl) | go_simp); simp only [lxa, lxb, lxc]
      refine lx_r 4 (.slice (some ⟨gv, 0, none⟩) ns.length cv) HS0 ?_; simp only [lxa, lxb, lxc]
      refine lx_r 5 (.int .i64 (j : Int)) HS0 ?_; simp only [lxa, lxb, lxc]
      refine lx_r 6 (.pointer (some ⟨gv, j, none⟩)) HS0 ?_; simp only [lxa, lxb, lxc]
      refine lx_r 7 (.string x) HS0 ?_ (hv := fun w' hS => by have q := hS.2; first | (go_simp; rfl) | go_simp); simp only [lxa, lxb, lxc]
      refine lx_one 8 (by kernel_rfl) (stepT_call 38 ?a8t rfl rfl rfl ?r8t ?_)
      case r8t => first | (go_simp; rfl) | go_simp
      refine (hrd1 X HSX).mono ?_
      rintro e w5 ⟨v5, rfl, o5, hb5⟩
      obtain ⟨a5, c5, e5, r5⟩ := Rd.ofOwn o5 hbd
      subst e5
      have HS5 := HSX.trans (hb5.mono HSX.size)
      have hO5 := own_keep hOX (S := fun _ => False) (Keep.ofBelow hb5) (fun _ _ h => h)
      have HS5c : w5.cell? ⟨sb, 0, none⟩ = some (.pointer (some ⟨d, 0, none⟩)) ∧ w5.cell? ⟨gv, j, none⟩ = some (.string x) := ⟨(HW.out _ HS5).1, cx _ hO5⟩
      refine ⟨_, rfl, fun _ => HS5c, ?_⟩
      simp only [lxa, lxb, lxc]
      refine lx_r 9 (.tuple #[.slice a5 xs.length c5, .int .i64 (er : Int)]) HS5c ?_; simp only [lxa, lxb, lxc]
      refine lx_r 10 (.slice a5 xs.length c5) HS5c ?_; simp only [lxa, lxb, lxc]
      refine lx_r 11 (.int .i64 (er : Int)) HS5c ?_; simp only [lxa, lxb, lxc]
      refine lx_r 12 (.slice a5 xs.length c5) HS5c ?_; simp only [lxa, lxb, lxc]
      refine lx_r 13 (.int .i64 (er : Int)) HS5c ?_; simp only [lxa, lxb, lxc]
      refine lx_nil (by kernel_rfl) ?_
      have hbY : Below w5.heap.size w5 w5.drew := (Below.refl _ _).drew
      have HSY := HS5.trans (hbY.mono HS5.size)
      have hOY := own_keep hO5 (S := fun _ => False) (Keep.ofBelow hbY) (fun _ _ h => h)
      have HS6 : w5.drew.cell? ⟨sb, 2, none⟩ = some (.pointer (some ⟨rd, 0, none⟩)) ∧ w5.drew.cell? ⟨gv, j, none⟩ = some (.string x) := ⟨(HW.out _ HSY).2.2.1, cx _ hOY⟩
      have r5' := r5.carry (Nat.le_refl _) hbY
      clear HS0 HS5c hbY HSX hOX hrd1 r5 o5
      go_upto_region 21 with fail
      refine wp_region_lx (fun w' => w'.cell? ⟨sb, 2, none⟩ = some (.pointer (some ⟨rd, 0, none⟩)) ∧ w'.cell? ⟨gv, j, none⟩ = some (.string x)) [] 14 (by kernel_rfl) (by kernel_rfl) ?_
      generalize w5.drew = Y at *
      refine lx_r 0 (.pointer (some ⟨sb, 0, none⟩)) HS6 ?_; simp only [lxa, lxb, lxc]
      refine lx_r 1 (.pointer (some ⟨sb, 0, none⟩)) HS6 ?_; simp only [lxa, lxb, lxc]
      refine lx_r 2 (.pointer (some ⟨sb, 2, none⟩)) HS6 ?_; simp only [lxa, lxb, lxc]
      refine lx_r 3 (.pointer (some ⟨rd, 0, none⟩)) HS6 ?_ (hv := fun w' hS => by have q := hS.1; first | (go_simp; rfl) | go_simp); simp only [lxa, lxb, lxc]
      refine lx_r 4 (.slice (some ⟨gv, 0, none⟩) ns.length cv) HS6 ?_; simp only [lxa, lxb, lxc]
      refine lx_r 5 (.int .i64 (j : Int)) HS6 ?_; simp only [lxa, lxb, lxc]
      refine lx_r 6 (.pointer (some ⟨gv, j, none⟩)) HS6 ?_; simp only [lxa, lxb, lxc]
      refine lx_r 7 (.string x) HS6 ?_ (hv := fun w' hS => by have q := hS.2; first | (go_simp; rfl) | go_simp); simp only [lxa, lxb, lxc]
      refine lx_one 8 (by kernel_rfl) (stepT_call 47 ?a8u rfl rfl rfl ?r8u ?_)
      case r8u => first | (go_simp; rfl) | go_simp
      refine (hrd2 Y HSY).mono ?_
      rintro e w7 ⟨v7, rfl, o7, hb7⟩
      obtain ⟨a7, c7, e7, r7⟩ := Rd.ofOwn o7 hbd
      subst e7
      have HS7 := HSY.trans (hb7.mono HSY.size)
      have hO7 := own_keep hOY (S := fun _ => False) (Keep.ofBelow hb7) (fun _ _ h => h)
      have HS7c : w7.cell? ⟨sb, 2, none⟩ = some (.pointer (some ⟨rd, 0, none⟩)) ∧ w7.cell? ⟨gv, j, none⟩ = some (.string x) := ⟨(HW.out _ HS7).2.2.1, cx _ hO7⟩
      refine ⟨_, rfl, fun _ => HS7c, ?_⟩
      simp only [lxa, lxb, lxc]
      refine lx_r 9 (.tuple #[.slice a7 xs.length c7, .int .i64 (er : Int)]) HS7c ?_; simp only [lxa, lxb, lxc]
      refine lx_r 10 (.slice a7 xs.length c7) HS7c ?_; simp only [lxa, lxb, lxc]
      refine lx_r 11 (.int .i64 (er : Int)) HS7c ?_; simp only [lxa, lxb, lxc]
      refine lx_r 12 (.slice a7 xs.length c7) HS7c ?_; simp only [lxa, lxb, lxc]
      refine lx_r 13 (.int .i64 (er : Int)) HS7c ?_; simp only [lxa, lxb, lxc]
      refine lx_nil (by kernel_rfl) ?_
      have hs5 := (r5'.carry (Nat.le_refl _) hb7).string
      have hs7 := r7.string
      have HS7' : Hid (Below W0.heap.size W0 w7) := HS7
      clear HS6 HS7c HSY hOY hrd2 r5' r7 o7 HS7 HS5 hO5 hb5 hb7 hbd
      have hqe := nm_eqT (strOfNums xs)
      generalize strOfNums xs = sx at *
      go_wp2
      exact ⟨⟨j + 1, by first | rfl | go_num, by omega, HS7'.out, hO7⟩, by simp [intOf]; omega⟩
     ·have hzj : ¬ (j : Int) < (ns.length : Int) := by omega
      go_wp2
      go_ret
      exact ⟨rfl, hb0.trans (HS.out.mono hb0.size)⟩
end Go.Proofs.YtikkieaokfailaaGreatDoor

namespace Go.Proofs.YtikkieaokfailaaGreatDoor
open Go.RowKit Go.Joins
end Go.Proofs.YtikkieaokfailaaGreatDoor

namespace Go.Proofs.YtikkieaokfailaaGreatDoor
open Go.RowKit Go.Joins
end Go.Proofs.YtikkieaokfailaaGreatDoor
namespace Go.Proofs.YtikkieaokfailaaGreatDoor
open Go.RowKit Go.Joins
end Go.Proofs.YtikkieaokfailaaGreatDoor
namespace Go.Proofs.YtikkieaokfailaaGreatDoor
open Go.RowKit Go.Joins
end Go.Proofs.YtikkieaokfailaaGreatDoor
namespace Go.Proofs.YtikkieaokfailaaGreatDoor
open Go.RowKit Go.Joins
end Go.Proofs.YtikkieaokfailaaGreatDoor

namespace Go.Proofs.YtikkieaokfailaaGreatDoor
open Go.RowKit Go.Joins
end Go.Proofs.YtikkieaokfailaaGreatDoor

namespace Go.Proofs.YtikkieaokfailaaGreatDoor
open Go.RowKit Go.Joins
theorem look_restG : ∀ (l : Fls) (keep : List Int) (s : Nm), (look l s = none ∧ look (restL l keep) s = none) ∨ ∃ f x, look l s = some f ∧ look (restL l keep) s = some (if f.b.length = f.safe then f else restF f x)
 | [], _, _ => Or.inl ⟨rfl, rfl⟩
 | (n, f) :: r, keep, s => by
  unfold restL
  split
  ·rename_i h
   unfold look
   split
   ·exact Or.inr ⟨f, 0, rfl, by rw [if_pos h]⟩
   ·exact look_restG r keep s
  ·rename_i h
   unfold look
   split
   ·exact Or.inr ⟨f, keep.headD 0, rfl, by rw [if_neg h]⟩
   ·exact look_restG r keep.tail s
end Go.Proofs.YtikkieaokfailaaGreatDoor

namespace Go.Proofs.YtikkieaokfailaaGreatDoor
open Go.ChangeShapes Go.WideShapes Go.ChangeAt Go.RowKit Go.Joins
theorem few200O (a : Option Addr) (n c : Nat) (xs : List Int) (w : World) (hR : Rd w a n c xs) :
  Calls Tryz.prog 17 #[.slice a n c] w fun e w' => ∃ a' n' c', e = .returned (.slice a' n' c') ∧ n' ≤ 200 ∧ w'.ownsRow w.heap.size 5 1 (.slice a' n' c') n' (bc (xs.take 200)) ∧ Rd w' a' n' c' (xs.take 200) ∧ (∀ ad, a' = some ad → w.heap.size ≤ ad.block) ∧ Below w.heap.size w w' := by
 have hb := hR.bytes.take 200
 go_enter Tryz.func17, Tryz.ntmps17
 go_wp2_with (go_at_call 54; refine (twin_any a n c xs 200 _ hR (by omega)).mono ?_; rintro e w1 ⟨v1, rfl, ho1, hb1⟩)
 go_ret
 obtain ⟨a1, c1, rfl, hr1⟩ := Rd.ofOwn ho1 hb
 refine ⟨a1, _, c1, rfl, by rw [List.length_take]; omega, ho1, hr1, fun ad had => ?_, hb1⟩
 rcases ho1.2 with ⟨e, _⟩ | ⟨g, cap, cur, e, hg, _⟩
 ·injection e with e1; rw [e1] at had; cases had
 ·injection e with e1; rw [e1] at had; cases had; exact hg
theorem IAr.flat {W : World} {a : Option Addr} {n c : Nat} {zs : List Int} (h : IAr W a n c zs) (h0 : 0 < n) : ∃ b off, a = some ⟨b, off, none⟩ ∧ ∀ j, j < n → W.cell? ⟨b, off + j, none⟩ = some (.int .i64 (zs.getD j 0)) := by
 cases a with
 | none => have := h.nil rfl; have := h.cap; omega
 | some ad =>
  obtain ⟨b, off, spot⟩ := ad
  have e0 := h.cells _ rfl 0 h0
  have hspot : spot = none := by simpa [Addr.add] using World.cell?_spot e0
  subst hspot
  refine ⟨b, off, rfl, fun j hj => ?_⟩
  have := h.cells _ rfl j hj
  rwa [add_flat] at this
structure SOpAt (w : World) (b q : Nat) (Do : Int) (ar : Option Addr) (nr cr : Nat) (xs : List Int) (al : Option Addr) (nl cl : Nat) (ls : List (List Int)) (Nn : Int) (ak : Option Addr) (nk ck : Nat) (zs : List Int) : Prop where
 c0 : w.cell? ⟨b, q, none⟩ = some (.int .i64 Do)
 c1 : w.cell? ⟨b, q + 1, none⟩ = some (.slice ar nr cr)
 c2 : w.cell? ⟨b, q + 2, none⟩ = some (.slice al nl cl)
 c3 : w.cell? ⟨b, q + 3, none⟩ = some (.int .i64 Nn)
 c4 : w.cell? ⟨b, q + 4, none⟩ = some (.slice ak nk ck)
 hR : Rd w ar nr cr xs
 hL : RRd w al nl ls
 hN : -9223372036854775808 ≤ Nn ∧ Nn ≤ 9223372036854775807
 hK : IAr w ak nk ck zs
theorem SOpAt.below {w w' : World} {b q : Nat} {Do : Int} {ar : Option Addr} {nr cr : Nat} {xs : List Int} {al : Option Addr} {nl cl : Nat} {ls : List (List Int)} {Nn : Int} {ak : Option Addr} {nk ck : Nat} {zs : List Int} (h : SOpAt w b q Do ar nr cr xs al nl cl ls Nn ak nk ck zs) (hb : Below w.heap.size w w') : SOpAt w' b q Do ar nr cr xs al nl cl ls Nn ak nk ck zs := by
 have t : ∀ i u, w.cell? ⟨b, i, none⟩ = some u → w'.cell? ⟨b, i, none⟩ = some u := fun i u hc => (hb.cell (p := ⟨b, i, none⟩) (World.block_lt_of_cell? w _ hc)).trans hc
 exact ⟨t _ _ h.c0, t _ _ h.c1, t _ _ h.c2, t _ _ h.c3, t _ _ h.c4, h.hR.carry (Nat.le_refl _) hb, h.hL.below hb, h.hN, h.hK.carry hb⟩
structure SORd (w : World) (a : Option Addr) (n c : Nat) : Prop where
 cap : n ≤ c
 most : c ≤ 9223372036854775807
 flat : 0 < n → ∃ b off, a = some ⟨b, off, none⟩ ∧ ∀ j, j < n → ∃ Do ar nr cr xs al nl cl ls Nn ak nk ck zs, SOpAt w b (off + j * 5) Do ar nr cr xs al nl cl ls Nn ak nk ck zs
theorem cellsLop : Tryz.prog.cellsOf 33 = 5 := by kernel_rfl
set_option maxRecDepth 100000 in
set_option maxHeartbeats 2000000 in
theorem open_lops {H : Type} {enc : TypeId × Value → H} {W : World} {b0 : Nat} {v : Value} {d : DataW H} {p : List MemPlace}
  (hv : Value.okWide Tryz.prog W .any b0 22 v) (h : DataW.Trod enc Tryz.prog W 0 (fun _ => true) true 22 v d p) : ∃ a n c, v = .slice a n c ∧ SORd W a n c := by
 obtain ⟨a, n, c, rfl⟩ := okWide_slice Tryz.underlying22 hv
 refine ⟨a, n, c, rfl, ?_⟩
 obtain ⟨fuel, hf⟩ := h
 rcases Go.Deep.open_slice Tryz.underlying22 hf with ⟨hcs, _⟩ | ⟨x, l, cc, m, k, D, Pl, hcs, hb, hl, hm, hmm, _, hx⟩
 ·simp [Value.cells] at hcs
  obtain ⟨rfl, rfl, rfl⟩ := hcs
  exact ⟨Nat.le_refl _, by omega, fun h => by omega⟩
 ·simp [Value.cells] at hcs
  obtain ⟨rfl, rfl, rfl⟩ := hcs
  simp only [if_true] at hmm
  subst hmm
  have each : ∀ j, j < n → ∃ (Do : Int) (ar : Option Addr) (nr cr : Nat) (xs : List Int) (al : Option Addr) (nl cl : Nat) (ls : List (List Int)) (Nn : Int) (ak : Option Addr) (nk ck : Nat) (zs : List Int), W.cell? (x.add (j * 5)) = some (.int .i64 Do) ∧ W.cell? (x.add (j * 5 + 1)) = some (.slice ar nr cr) ∧ W.cell? (x.add (j * 5 + 2)) = some (.slice al nl cl) ∧ W.cell? (x.add (j * 5 + 3)) = some (.int .i64 Nn) ∧ W.cell? (x.add (j * 5 + 4)) = some (.slice ak nk ck) ∧ Rd W ar nr cr xs ∧ RRd W al nl ls ∧ (-9223372036854775808 ≤ Nn ∧ Nn ≤ 9223372036854775807) ∧ IAr W ak nk ck zs := by
   intro j hj
   obtain ⟨cs', h1, h2⟩ := hx j (by omega)
   rw [cellsLop] at h1
   obtain ⟨_, hlen, hcell⟩ := World.cells?_some h1
   obtain ⟨ws, q, hq, hxy, _, hxl, hfs⟩ := DataW.trod_struct Tryz.underlying33 h2
   match ws, hxl, cs', hlen with
   | [y0, y1, y2, y3, y4], _, [v0, v1, v2, v3, v4], _ =>
    have f0 : DataW.trod enc Tryz.prog W 0 (fun _ => true) true q 3 [v0] = some y0 := by simpa [Value.cells, cellsInt] using hfs 0 _ rfl
    have f1 : DataW.trod enc Tryz.prog W 0 (fun _ => true) true q 29 [v1] = some y1 := by simpa [Value.cells, cellsBytes] using hfs 1 _ rfl
    have f2 : DataW.trod enc Tryz.prog W 0 (fun _ => true) true q 30 [v2] = some y2 := by simpa [Value.cells, cellsRows] using hfs 2 _ rfl
    have f3 : DataW.trod enc Tryz.prog W 0 (fun _ => true) true q 3 [v3] = some y3 := by simpa [Value.cells, cellsInt] using hfs 3 _ rfl
    have f4 : DataW.trod enc Tryz.prog W 0 (fun _ => true) true q 31 [v4] = some y4 := by simpa [Value.cells, cellsInts] using hfs 4 _ rfl
    obtain ⟨K0, e0, _, w0⟩ := DataW.trod_int Tryz.underlying3 f0
    obtain ⟨K3, e3, _, w3⟩ := DataW.trod_int Tryz.underlying3 f3
    obtain ⟨ar, nr, cr, xs, e1, hR⟩ := rd_of_cells f1
    obtain ⟨al, nl, cl, ls, e2, hL⟩ := rrd_of_cells f2
    obtain ⟨ak, nk, ck, zs, e4, hK⟩ := iar_of_cells f4
    simp only [List.cons.injEq, and_true] at e0 e3
    subst e0 e1 e2 e3 e4
    have b3 := bounds_i64 w3
    have c0 := hcell 0 (by omega)
    have c1 := hcell 1 (by omega)
    have c2 := hcell 2 (by omega)
    have c3 := hcell 3 (by omega)
    have c4 := hcell 4 (by omega)
    rw [Go.Deep.add_add] at c0 c1 c2 c3 c4
    exact ⟨K0, ar, nr, cr, xs, al, nl, cl, ls, K3, ak, nk, ck, zs, by simpa using c0, by simpa using c1, by simpa using c2, by simpa using c3, by simpa using c4, hR, hL, b3, hK⟩
  refine ⟨hl, hm, fun h0 => ?_⟩
  obtain ⟨b, off, spot⟩ := x
  obtain ⟨_, _, _, _, _, _, _, _, _, _, _, _, _, _, e0, _⟩ := each 0 h0
  have hspot : spot = none := by simpa [Addr.add] using World.cell?_spot e0
  subst hspot
  refine ⟨b, off, rfl, fun j hj => ?_⟩
  obtain ⟨Do, ar, nr, cr, xs, al, nl, cl, ls, Nn, ak, nk, ck, zs, e0, e1, e2, e3, e4, e7, e8, e9, e10⟩ := each j hj
  rw [add_flat] at e0 e1 e2 e3 e4
  simp only [← Nat.add_assoc] at e0 e1 e2 e3 e4
  exact ⟨Do, ar, nr, cr, xs, al, nl, cl, ls, Nn, ak, nk, ck, zs, ⟨e0, e1, e2, e3, e4, e7, e8, e9, e10⟩⟩
theorem RcA.cell {w : World} {A : Nat → Prop} {al : Option Addr} {N cl : Nat} {rs : List (List Int)} (h : RcA w A (.slice al N cl) rs) (hN : rs.length = N) (j : Nat) (hj : j < N) : ∃ g a n c, al = some ⟨g, 0, none⟩ ∧ w.cell? ⟨g, j, none⟩ = some (.slice a n c) ∧ Rd w a n c (rs.getD j []) := by
 obtain ⟨⟨vs, ov, hvs⟩, _⟩ := h
 obtain ⟨r, hr⟩ : ∃ r, rs[j]? = some r := ⟨_, List.getElem?_eq_getElem (by omega)⟩
 obtain ⟨u, h1, h2, _, h4⟩ := hvs j r hr
 obtain ⟨a, c, rfl, h5⟩ := Rd.ofOwn h2 h4
 rcases ov.2 with ⟨e, h0⟩ | ⟨g, cap, cur, e, _⟩
 ·rw [hN] at h0; omega
 ·injection e with e1
  subst e1
  have hc := ov.cells (g := g) rfl j _ h1
  rw [add_flat, Nat.zero_add] at hc
  refine ⟨g, a, _, c, rfl, hc, ?_⟩
  rw [List.getD_eq_getElem?_getD, hr]
  exact h5
end Go.Proofs.YtikkieaokfailaaGreatDoor

namespace Go.Proofs.YtikkieaokfailaaGreatDoor
open Go.RowKit Go.Joins
def PS (w : World) (P : Nat → Prop) (d : Nat) (pl : Value) (o : Option Lg) (k : Dk) (w' : World) : Prop := ∃ P', PH w' P' d pl o k ∧ Keep P w w' ∧ (∀ i, P' i → P i ∨ w.heap.size ≤ i) ∧ (∀ i, P' i → i < w'.heap.size)
def RS (w : World) (R : Nat → Prop) (rd : Nat) (pr : Value) (o : Option Lg) (k : Dk) (w' : World) : Prop := ∃ R', RH w' R' rd pr o k ∧ Keep R w w' ∧ (∀ i, R' i → R i ∨ w.heap.size ≤ i) ∧ (∀ i, R' i → i < w'.heap.size)
theorem LogAt.allLt {w : World} {F H : Nat → Prop} {lb d : Nat} {l : Lg} {k : Dk} (h : LogAt w F H lb d l k) : (∀ i, F i → i < w.heap.size) ∧ (∀ i, H i → i < w.heap.size) ∧ lb < w.heap.size := by
 obtain ⟨v, hL, _⟩ := h.ex
 exact ⟨hL.D.lt, h.lt, hL.lt⟩
theorem RLogAt.allLt {w : World} {F H : Nat → Prop} {lb d : Nat} {l : Lg} {k : Dk} (h : RLogAt w F H lb d l k) : (∀ i, F i → i < w.heap.size) ∧ (∀ i, H i → i < w.heap.size) ∧ lb < w.heap.size := by
 obtain ⟨v, hL, _⟩ := h.ex
 exact ⟨hL.R.lt, h.lt, hL.lt⟩
theorem PS.ofLog {w w' : World} {P F H : Nat → Prop} {lb d : Nat} {l : Lg} {k : Dk} (hF : ∀ i, F i → P i) (hH : ∀ i, H i → P i) (hl : P lb) (hg : ∀ i, F i → 0 < i) (hgs : 0 < w.heap.size) (hp : Lgp w F H lb d l k w') : PS w P d (.pointer (some ⟨lb, 0, none⟩)) (some l) k w' := by
 obtain ⟨F', H', h1, h2, h3, h4⟩ := hp
 obtain ⟨a1, a2, a3⟩ := h1.allLt
 have hD : DiskAt w' F' d k := by obtain ⟨v, hL, _⟩ := h1.ex; exact hL.D
 refine ⟨fun i => F' i ∨ H' i ∨ i = lb, ⟨F', fun i hi => Or.inl hi, hD, fun i hi => ?_, lb, H', rfl, h1, fun i hi => Or.inr (Or.inl hi), Or.inr (Or.inr rfl)⟩, h2.mono (fun i hi => ?_), fun i hi => ?_, fun i hi => ?_⟩
 ·rcases h3 i hi with e | e
  ·exact hg i e
  ·omega
 ·rcases hi with e | e | e
  ·exact hF i e
  ·exact hH i e
  ·subst e; exact hl
 ·rcases hi with e | e | e
  ·exact (h3 i e).imp (hF i) id
  ·exact (h4 i e).imp (hH i) id
  ·subst e; exact Or.inl hl
 ·rcases hi with e | e | e
  ·exact a1 i e
  ·exact a2 i e
  ·subst e; exact a3
theorem RS.ofLog {w w' : World} {R G H : Nat → Prop} {rl rd : Nat} {l : Lg} {k : Dk} (hF : ∀ i, G i → R i) (hH : ∀ i, H i → R i) (hl : R rl) (hp : Rgp w G H rl rd l k w') : RS w R rd (.pointer (some ⟨rl, 0, none⟩)) (some l) k w' := by
 obtain ⟨F', H', h1, h2, h3, h4⟩ := hp
 obtain ⟨a1, a2, a3⟩ := h1.allLt
 have hD : RefAt w' F' rd k := by obtain ⟨v, hL, _⟩ := h1.ex; exact hL.R
 refine ⟨fun i => F' i ∨ H' i ∨ i = rl, ⟨F', fun i hi => Or.inl hi, hD, rl, H', rfl, h1, fun i hi => Or.inr (Or.inl hi), Or.inr (Or.inr rfl)⟩, h2.mono (fun i hi => ?_), fun i hi => ?_, fun i hi => ?_⟩
 ·rcases hi with e | e | e
  ·exact hF i e
  ·exact hH i e
  ·subst e; exact hl
 ·rcases hi with e | e | e
  ·exact (h3 i e).imp (hF i) id
  ·exact (h4 i e).imp (hH i) id
  ·subst e; exact Or.inl hl
 ·rcases hi with e | e | e
  ·exact a1 i e
  ·exact a2 i e
  ·subst e; exact a3
theorem RLogAt.rp {w w' : World} {G H : Nat → Prop} {rl rd : Nat} {l : Lg} {k k' : Dk} (h : RLogAt w G H rl rd l k) (hp : Rp w G rd k' w') : Rgp w G H rl rd l k' w' := by
 obtain ⟨G', hD, hk, hF⟩ := hp
 obtain ⟨v, hL, hR⟩ := h.ex
 have hl := hL.lt
 have hHl := h.lt
 have hnf : ∀ i, i < w.heap.size → ¬ G i → ¬ G' i := fun i h1 h2 h3 => (hF i h3).elim h2 (fun h4 => by omega)
 exact ⟨G', H, ⟨⟨v, ⟨(hk.block rl hl hL.nf).trans hL.blk, hD, hnf rl hl hL.nf⟩, hR.keep hk h.hf (fun _ h => h)⟩, fun i hi => hnf i (hHl i hi) (h.hf i hi), h.hl, fun i hi => Nat.lt_of_lt_of_le (hHl i hi) hk.size⟩, hk.mono (fun i hi => Or.inl hi), hF, fun i hi => Or.inl hi⟩
theorem PH.log {w : World} {P : Nat → Prop} {d : Nat} {pl : Value} {l : Lg} {k : Dk} (h : PH w P d pl (some l) k) (hgs : 0 < w.heap.size) : ∃ F H lb, pl = .pointer (some ⟨lb, 0, none⟩) ∧ (∀ i, F i ∨ H i ∨ i = lb → P i) ∧ LogAt w F H lb d l k ∧ ∀ l2 k2 w', Lgp w F H lb d l2 k2 w' → PS w P d pl (some l2) k2 w' := by
 obtain ⟨F, h1, h2, h3, lb, H, rfl, h5, h6, h7⟩ := h
 refine ⟨F, H, lb, rfl, fun i hi => ?_, h5, fun l2 k2 w' hp => PS.ofLog h1 h6 h7 h3 hgs hp⟩
 rcases hi with e | e | e
 ·exact h1 i e
 ·exact h6 i e
 ·subst e; exact h7
theorem RH.log {w : World} {R : Nat → Prop} {rd : Nat} {pr : Value} {l : Lg} {k : Dk} (h : RH w R rd pr (some l) k) : ∃ G H rl, pr = .pointer (some ⟨rl, 0, none⟩) ∧ (∀ i, G i ∨ H i ∨ i = rl → R i) ∧ RLogAt w G H rl rd l k ∧ ∀ l2 k2 w', Rgp w G H rl rd l2 k2 w' → RS w R rd pr (some l2) k2 w' := by
 obtain ⟨G, h1, h2, rl, H, rfl, h5, h6, h7⟩ := h
 refine ⟨G, H, rl, rfl, fun i hi => ?_, h5, fun l2 k2 w' hp => RS.ofLog h1 h6 h7 hp⟩
 rcases hi with e | e | e
 ·exact h1 i e
 ·exact h6 i e
 ·subst e; exact h7
section
variable {B : Nat} {w w' : World} {sb d rd ob : Nat} {X : Obj} {pl pr : Value} {o o' : Option Lg} {k k' : Dk}
end
end Go.Proofs.YtikkieaokfailaaGreatDoor

namespace Go.Proofs.YtikkieaokfailaaGreatDoor
open Go.RowKit Go.Joins
def Tw (n : Nat) (a b : Fls) : Prop := Rise a → Rise b ∧ b.length ≤ a.length + n
theorem Tw.rfl (n : Nat) (a : Fls) : Tw n a a := fun h => ⟨h, Nat.le_add_right _ _⟩
theorem Tw.trans {n m q : Nat} {a b c : Fls} (h : Tw n a b) (h' : Tw m b c) (hq : n + m ≤ q) : Tw q a c := fun r => by
 obtain ⟨r1, l1⟩ := h r
 obtain ⟨r2, l2⟩ := h' r1
 exact ⟨r2, by omega⟩
theorem Tw.mono {n m : Nat} {a b : Fls} (h : Tw n a b) (hm : n ≤ m) : Tw m a b := fun r => ⟨(h r).1, by have := (h r).2; omega⟩
theorem tw_put (l : Fls) (s : Nm) (f : Fle) : Tw 1 l (putL l s f) := fun r => ⟨rise_put r s f, len_put l s f⟩
theorem tw_drop (l : Fls) (s : Nm) : Tw 0 l (dropL l s) := fun r => ⟨rise_drop r s, len_drop l s⟩
theorem len_put_there : ∀ (l : Fls) (s : Nm) (f g : Fle), Rise l → look l s = some g → (putL l s f).length = l.length
 | [], s, f, g, _, h => by simp [look] at h
 | (n, e) :: r, s, f, g, hr, h => by
  unfold look at h
  unfold putL
  split at h
  ·rename_i he
   subst he
   rw [if_neg (ltN_irrefl _), if_pos _root_.rfl]
   simp
  ·rename_i he
   split
   ·rename_i hlt
    exfalso
    have hm : ∀ (r : Fls), look r s = some g → ∃ p ∈ r, p.1 = s := by
     intro r
     induction r with
     | nil => intro h; simp [look] at h
     | cons q r ih =>
      intro h
      unfold look at h
      split at h
      ·rename_i e1; exact ⟨_, List.mem_cons_self .., e1⟩
      ·obtain ⟨p, hp, e2⟩ := ih h
       exact ⟨p, List.mem_cons_of_mem _ hp, e2⟩
    obtain ⟨p, hp, e2⟩ := hm r h
    have h3 := hr.1 p hp
    rw [e2] at h3
    exact ltN_irrefl _ (ltN_trans hlt h3)
   ·simp only [List.length_cons]
    rw [len_put_there r s f g hr.2 h]
theorem tw_there {l : Fls} {s : Nm} {g : Fle} (f : Fle) (h : look l s = some g) : Tw 0 l (putL l s f) := fun r => ⟨rise_put r s f, Nat.le_of_eq (len_put_there l s f g r h)⟩
theorem tw_step (k : Dk) (s : Nm) (err : Fle → Nat) (go : Dk → Fle → Dk) (n : Nat) (hgo : ∀ f, look k.fs s = some f → Tw n k.fs (go (passK k).2 f).fs) : Tw n k.fs (stepK k s err go).2.fs := by
 unfold stepK
 split
 ·exact Tw.rfl _ _
 ·split
  ·exact Tw.rfl _ _
  ·split
   ·exact Tw.rfl _ _
   ·rename_i f hf
    split
    ·exact Tw.rfl _ _
    ·split
     ·rw [pass_fs]; exact Tw.rfl _ _
     ·exact hgo f hf
theorem tw_sync (k : Dk) (s : Nm) : Tw 0 k.fs (syncK k s).2.fs := tw_step k s _ _ 0 fun f hf => by
 show Tw 0 k.fs (putL (passK k).2.fs s _)
 rw [pass_fs]; exact tw_there _ hf
theorem tw_cut (k : Dk) (s : Nm) (z : Int) : Tw 0 k.fs (cutK k s z).2.fs := tw_step k s _ _ 0 fun f hf => by
 show Tw 0 k.fs (putL (passK k).2.fs s _)
 rw [pass_fs]; exact tw_there _ hf
theorem tw_remove (k : Dk) (s : Nm) : Tw 0 k.fs (removeK k s).2.fs := tw_step k s _ _ 0 fun f _ => by
 show Tw 0 k.fs (dropL (passK k).2.fs s)
 rw [pass_fs]; exact tw_drop _ _
theorem tw_rename (k : Dk) (s t : Nm) : Tw 1 k.fs (renameK k s t).2.fs := by
 unfold renameK
 split
 ·exact Tw.rfl _ _
 ·split
  ·exact Tw.rfl _ _
  ·exact tw_step k s _ _ 1 fun f _ => by
    show Tw 1 k.fs (putL (dropL (passK k).2.fs s) t _)
    rw [pass_fs]; exact (tw_drop _ _).trans (tw_put _ _ _) (Nat.le_refl _)
theorem tw_app (k : Dk) (s : Nm) (xs : List Int) : Tw 1 k.fs (appK k s xs).2.fs := by
 unfold appK
 split
 ·exact Tw.rfl _ _
 ·split
  ·exact Tw.rfl _ _
  ·split
   ·exact Tw.rfl _ _
   ·rw [pass_fs]; exact tw_put _ _ _
theorem tw_stp {n : Nat} {k : Dk} {r : Nat × Dk} (dn : Bool) (h : Tw n k.fs r.2.fs) : Tw n k.fs (stp dn k r).2.2.fs := by
 unfold stp
 cases dn
 ·exact h
 ·exact Tw.rfl _ _
theorem tw_settle (c : Ch) (dn : Bool) (k : Dk) : Tw 0 k.fs (settleL c dn k).2.2.2.fs := by
 unfold settleL
 split
 ·exact tw_stp dn (tw_sync _ _)
 ·exact Tw.rfl _ _
theorem tw_putS (i sz : Nat) (c : Ch) (b : List Int) (dn : Bool) (k : Dk) : Tw 1 k.fs (putS i sz c b dn k).2.2.2.fs := by
 unfold putS
 exact tw_stp dn (tw_app _ _ _)
theorem tw_lay (most : Nat) (c : Ch) (b : List Int) (dn : Bool) (k : Dk) : Tw 1 k.fs (layL most c b dn k).2.2.2.fs := by
 unfold layL
 split
 ·split
  ·exact (tw_settle c dn k).mono (by omega)
  ·exact (tw_settle c dn k).trans (tw_putS _ _ _ _ _ _) (Nat.le_refl _)
 ·exact tw_putS _ _ _ _ _ _
theorem tw_layAll (most : Nat) : ∀ (rs : List (List Int)) (c : Ch) (dn : Bool) (k : Dk), Tw rs.length k.fs (layAllL most rs c dn k).2.2.2.fs
 | [], c, dn, k => tw_settle c dn k
 | r :: rs, c, dn, k => by
  unfold layAllL
  split
  ·exact (tw_lay most c (formL r) dn k).mono (by simp)
  ·exact (tw_lay most c (formL r) dn k).trans (tw_layAll most rs _ _ _) (by simp only [List.length_cons]; omega)
theorem tw_remAll : ∀ (l : List Nm) (dn : Bool) (k : Dk), Tw 0 k.fs (remAll l dn k).2.2.fs
 | [], dn, k => Tw.rfl _ _
 | s :: r, dn, k => by
  unfold remAll
  split
  ·exact tw_stp dn (tw_remove _ _)
  ·exact (tw_stp dn (tw_remove _ _)).trans (tw_remAll r _ _) (Nat.le_refl _)
theorem tw_remC (c : Ch) (dn : Bool) (k : Dk) : Tw 0 k.fs (remC c dn k).2.2.fs := tw_remAll _ _ _
theorem tw_remNew (dn : Bool) (k : Dk) : Tw 0 k.fs (remNewL dn k).2.2.fs := by
 unfold remNewL
 split
 ·exact tw_stp dn (tw_remove _ _)
 ·exact Tw.rfl _ _
theorem tw_back2 (c : Ch) (dn : Bool) (k : Dk) : Tw 0 k.fs (back2 c dn k).2.2.fs := by
 unfold back2
 split
 ·exact tw_remC _ _ _
 ·exact (tw_remC _ _ _).trans (tw_remNew _ _) (Nat.le_refl _)
theorem tw_room1 (x : Nat × Ch × Bool × Dk) : Tw 0 x.2.2.2.fs (room1 x).2.2.2.fs := by
 unfold room1 ifRoomL
 split
 ·exact tw_remC _ _ _
 ·exact Tw.rfl _ _
theorem tw_room2 (x : Nat × Ch × Bool × Dk) : Tw 0 x.2.2.2.fs (room2 x).2.2.2.fs := by
 unfold room2 ifRoomL
 split
 ·exact tw_back2 _ _ _
 ·exact Tw.rfl _ _
theorem tw_wrB (c : Ch) (dn : Bool) (k : Dk) : Tw 1 k.fs (wrB c dn k).2.2.2.fs := tw_stp dn (tw_app _ _ _)
theorem tw_rb4 (l : Lg) (rs : List (List Int)) (c : Ch) (x : Nat × Bool × Dk) : Tw 0 x.2.2.fs (rb4L l rs c x).2.2.fs := by
 unfold rb4L
 split
 ·exact Tw.rfl _ _
 ·exact tw_remC _ _ _
theorem tw_rb3 (l : Lg) (rs : List (List Int)) (c : Ch) (x : Nat × Bool × Dk) : Tw 1 x.2.2.fs (rb3L l rs c x).2.2.fs := by
 unfold rb3L
 split
 ·exact Tw.rfl _ _
 ·exact (tw_stp x.2.1 (tw_rename x.2.2 sNew sBase)).trans (tw_rb4 _ _ _ _) (Nat.le_refl _)
theorem tw_rb2 (l : Lg) (rs : List (List Int)) (x : Nat × Ch × Bool × Dk) : Tw 1 x.2.2.2.fs (rb2L l rs x).2.2.fs := by
 unfold rb2L
 split
 ·exact Tw.rfl _ _
 ·exact (tw_stp x.2.2.1 (tw_sync x.2.2.2 sNew)).trans (tw_rb3 _ _ _ _) (Nat.le_refl _)
theorem tw_rb1 (l : Lg) (rs : List (List Int)) (x : Nat × Ch × Bool × Dk) : Tw 2 x.2.2.2.fs (rb1L l rs x).2.2.fs := by
 unfold rb1L
 split
 ·exact Tw.rfl _ _
 ·exact ((tw_wrB x.2.1 x.2.2.1 x.2.2.2).trans (tw_room2 _) (Nat.le_refl _)).trans (tw_rb2 _ _ _) (Nat.le_refl _)
theorem tw_rebase (l : Lg) (k : Dk) (rs : List (List Int)) : Tw (rs.length + 2) k.fs (rebaseT l k rs).2.2.fs := by
 unfold rebaseT
 split
 ·exact Tw.rfl _ _
 ·split
  ·exact Tw.rfl _ _
  ·exact ((tw_layAll l.most rs _ l.dn k).trans (tw_room1 _) (Nat.le_refl _)).trans (tw_rb1 l rs _) (Nat.le_refl _)
theorem tw_append (l : Lg) (k : Dk) (xs : List Int) : Tw 1 k.fs (appendT l k xs).2.2.fs := by
 unfold appendT
 split
 ·exact Tw.rfl _ _
 ·exact tw_lay _ _ _ _ _
theorem tw_commit (l : Lg) (k : Dk) : Tw 0 k.fs (commitL l k).2.2.fs := tw_settle _ _ _
theorem tw_readSeg (l : Lg) (i : Nat) (k : Dk) : Tw 0 k.fs (readSegL l i k).2.2.2.fs := by
 unfold readSegL readSegR
 split
 ·exact Tw.rfl _ _
 ·split
  ·exact Tw.rfl _ _
  ·exact tw_stp l.dn (tw_cut _ _ _)
theorem tw_rdSegs : ∀ (m i : Nat) (l : Lg) (k : Dk), Tw 0 k.fs (rdSegs m i l k).2.2.fs
 | 0, _, _, _ => Tw.rfl _ _
 | m + 1, i, l, k => by
  unfold rdSegs
  split
  ·exact tw_readSeg _ _ _
  ·split
   ·exact (tw_readSeg _ _ _).trans (tw_rdSegs m _ _ _) (Nat.le_refl _)
   ·exact (tw_readSeg _ _ _).trans (tw_remAll _ _ _) (Nat.le_refl _)
theorem tw_clean (c : Ch) (dn : Bool) (k : Dk) : Tw 0 k.fs (cleanL c dn k).2.2.2.fs := by
 unfold cleanL
 split
 ·exact Tw.rfl _ _
 ·exact tw_remAll _ _ _
theorem tw_openD (r : Nat × Lg × Dk) : Tw 0 r.2.2.fs (openR.openD r).2.2.fs := by
 unfold openR.openD
 split
 ·exact Tw.rfl _ _
 ·exact tw_commit _ _
theorem tw_openC (most : Nat) (q : Nat × Ch × Bool × Dk) : Tw 0 q.2.2.2.fs (openR.openC most q).2.2.fs := by
 unfold openR.openC
 split
 ·exact Tw.rfl _ _
 ·exact (tw_rdSegs _ _ _ _).trans (tw_openD _) (Nat.le_refl _)
theorem tw_open (most : Nat) (k : Dk) : Tw 0 k.fs (openL most k).2.2.fs := by
 unfold openL openR
 split
 ·exact Tw.rfl _ _
 ·exact (tw_clean _ _ _).trans (tw_openC _ _) (Nat.le_refl _)
theorem clean_gr (g : Nat) (k : Dk) : (cleanL ⟨g, 0, 0, false⟩ false k).2.2.2.steps ≤ k.steps + k.fs.length ∧ (cleanL ⟨g, 0, 0, false⟩ false k).2.1.cnt ≤ k.fs.length ∧ (cleanL ⟨g, 0, 0, false⟩ false k).2.1.g = g ∧ (cleanL ⟨g, 0, 0, false⟩ false k).2.1.size = 0 := by
 have h1 := list_len k
 unfold cleanL
 split
 ·exact ⟨Nat.le_add_right _ _, Nat.zero_le _, _root_.rfl, _root_.rfl⟩
 ·have h2 := (remAll_gr ((listK k).2.filter (left g (cntN (listK k).2 g))) false k).1
  have h3 : ((listK k).2.filter (left g (cntN (listK k).2 g))).length ≤ (listK k).2.length := List.length_filter_le _ _
  have h4 := cntN_le (listK k).2 g
  exact ⟨by dsimp only; omega, by dsimp only; omega, _root_.rfl, _root_.rfl⟩
theorem open_gr (most : Nat) (k : Dk) : (openL most k).2.2.steps ≤ k.steps + 3 * k.fs.length + 1 ∧ (openL most k).2.1.most = most ∧ (openL most k).2.1.ch.cnt ≤ k.fs.length := by
 unfold openL openR
 generalize baseR (readK k sBase) = b
 split
 ·exact ⟨by dsimp only; omega, _root_.rfl, Nat.zero_le _⟩
 ·obtain ⟨c1, c2, c3, c4⟩ := clean_gr b.2 k
  generalize cleanL ⟨b.2, 0, 0, false⟩ false k = q at *
  unfold openR.openC
  split
  ·exact ⟨by dsimp only; omega, _root_.rfl, c2⟩
  ·obtain ⟨r1, r2, r3, r4, r5⟩ := rd_gr q.2.1.cnt 0 ⟨most, [], q.2.1, q.2.2.1⟩ q.2.2.2
   generalize rdSegs q.2.1.cnt 0 ⟨most, [], q.2.1, q.2.2.1⟩ q.2.2.2 = r at *
   dsimp only at r1 r2 r3 r4 r5
   unfold openR.openD
   split
   ·exact ⟨by omega, r2, by omega⟩
   ·obtain ⟨s1, s2, s3, s4⟩ := settle_gr { r.2.1.ch with loose := decide (0 < r.2.1.ch.cnt) } r.2.1.dn r.2.2
    unfold commitL
    refine ⟨?_, r2, ?_⟩
    ·dsimp only at s1 ⊢; omega
    ·dsimp only at s4 ⊢; rw [s4]; omega
theorem rdL_used (k : Dk) (s : Nm) : (readK k s).2.length ≤ used k.fs := Nat.le_trans (read_lenO k s) (lenO_used _ _)
theorem readSeg_sz (l : Lg) (i : Nat) (k : Dk) (z : Nat) (hz : l.ch.size ≤ z) (hu : used k.fs ≤ z) : (readSegL l i k).2.2.1.ch.size ≤ z := by
 have h0 := rdL_used k (segN l.ch.g i)
 unfold readSegL readSegR
 obtain ⟨P, HP⟩ : ∃ P, readK k (segN l.ch.g i) = P := ⟨_, _root_.rfl⟩
 rw [HP] at h0 ⊢
 obtain ⟨h1, h2⟩ := scanF_le P.2.length P.2
 split
 ·exact hz
 ·split
  ·exact Nat.le_trans h2 (Nat.le_trans h0 hu)
  ·exact Nat.le_trans h2 (Nat.le_trans h0 hu)
theorem rd_sz (z : Nat) : ∀ (m i : Nat) (l : Lg) (k : Dk), l.ch.size ≤ z → used k.fs ≤ z → (rdSegs m i l k).2.1.ch.size ≤ z
 | 0, _, _, _, h, _ => h
 | m + 1, i, l, k, h, hu => by
  have h1 := readSeg_sz l (i + 1) k z h hu
  have h2 := (readSeg_same l (i + 1) k).2.2.2.2.2.2.2
  unfold rdSegs
  split
  ·exact h1
  ·rename_i e0
   split
   ·rename_i e1
    have h3 := h2 (by omega) e1
    rw [h3]
    exact rd_sz z m (i + 1) _ _ h1 hu
   ·unfold rdSegs.rdEnd
    dsimp only
    split
    ·exact h1
    ·exact h1
theorem rd_rc : ∀ (m i : Nat) (l : Lg) (k : Dk), (rdSegs m i l k).2.1.recs.length ≤ l.recs.length + segTot l.ch.g k m i
 | 0, _, _, _ => Nat.le_add_right _ _
 | m + 1, i, l, k => by
  obtain ⟨_, hg, _, _, _, h1, _, h2⟩ := readSeg_same l (i + 1) k
  unfold rdSegs segTot
  split
  ·dsimp only; omega
  ·rename_i e0
   split
   ·rename_i e1
    have h3 := h2 (by omega) e1
    rw [h3]
    have h4 := rd_rc m (i + 1) (readSegL l (i + 1) k).2.2.1 k
    rw [hg] at h4
    omega
   ·unfold rdSegs.rdEnd
    dsimp only
    omega
theorem clean_used (c : Ch) (dn : Bool) (k : Dk) : used (cleanL c dn k).2.2.2.fs ≤ used k.fs := by
 unfold cleanL
 split
 ·exact Nat.le_refl _
 ·exact remAll_used _ _ _
theorem open_bd (most : Nat) (k : Dk) (hr : Rise k.fs) (hb : ∀ s, Bd (readK k s).2) : (openL most k).2.1.recs.length ≤ used k.fs ∧ (openL most k).2.1.ch.size ≤ used k.fs ∧ (openL most k).2.1.ch.g < 18446744073709551616 := by
 have hbl := baseR_lt _ (hb sBase)
 unfold openL openR
 generalize baseR (readK k sBase) = b at *
 split
 ·exact ⟨Nat.zero_le _, Nat.zero_le _, by show (0 : Nat) < _; omega⟩
 ·obtain ⟨c1, c2, c3, c4⟩ := clean_gr b.2 k
  have c5 := clean_used ⟨b.2, 0, 0, false⟩ false k
  have c6 := (tw_clean ⟨b.2, 0, 0, false⟩ false k hr).1
  generalize cleanL ⟨b.2, 0, 0, false⟩ false k = q at *
  unfold openR.openC
  split
  ·exact ⟨Nat.zero_le _, by dsimp only; omega, by dsimp only; omega⟩
  ·obtain ⟨r1, r2, r3, r4, r5⟩ := rd_gr q.2.1.cnt 0 ⟨most, [], q.2.1, q.2.2.1⟩ q.2.2.2
   have r6 := rd_sz (used k.fs) q.2.1.cnt 0 ⟨most, [], q.2.1, q.2.2.1⟩ q.2.2.2 (by dsimp only; omega) c5
   have r7 := rd_rc q.2.1.cnt 0 ⟨most, [], q.2.1, q.2.2.1⟩ q.2.2.2
   have r8 := segTot_used q.2.1.g q.2.2.2 c6 q.2.1.cnt 0
   generalize rdSegs q.2.1.cnt 0 ⟨most, [], q.2.1, q.2.2.1⟩ q.2.2.2 = r at *
   dsimp only [List.length_nil] at r1 r7
   have r9 : r.2.1.recs.length ≤ used k.fs := by
    have : ([] : List (List Int)).length = 0 := _root_.rfl
    omega
   unfold openR.openD
   split
   ·exact ⟨r9, r6, by omega⟩
   ·have s3 := (settle_gr { r.2.1.ch with loose := decide (0 < r.2.1.ch.cnt) } r.2.1.dn r.2.2).2.2.1
    have s5 := settle_sz { r.2.1.ch with loose := decide (0 < r.2.1.ch.cnt) } r.2.1.dn r.2.2
    unfold commitL
    refine ⟨r9, ?_, ?_⟩
    ·dsimp only at s5 ⊢; rw [s5]; exact r6
    ·dsimp only at s3 ⊢; rw [s3]; omega
def Z0 (c : Ch) : Prop := c.cnt = 0 → c.size = 0
theorem z0_settle {c : Ch} (h : Z0 c) (dn : Bool) (k : Dk) : Z0 (settleL c dn k).2.1 := by
 obtain ⟨_, _, _, s4⟩ := settle_gr c dn k
 have s5 := settle_sz c dn k
 intro e
 rw [s4] at e
 rw [s5]
 exact h e
theorem z0_putS {c : Ch} (h : Z0 c) (i sz : Nat) (hi : 0 < i) (b : List Int) (dn : Bool) (k : Dk) : Z0 (putS i sz c b dn k).2.1 := by
 unfold putS
 dsimp only
 split
 ·intro e; dsimp only at e; omega
 ·exact h
theorem z0_lay {c : Ch} (h : Z0 c) (most : Nat) (b : List Int) (dn : Bool) (k : Dk) : Z0 (layL most c b dn k).2.1 := by
 unfold layL
 split
 ·split
  ·exact z0_settle h dn k
  ·exact z0_putS (z0_settle h dn k) _ _ (by omega) _ _ _
 ·exact z0_putS h _ _ (by omega) _ _ _
theorem z0_layAll (most : Nat) : ∀ (rs : List (List Int)) (c : Ch) (dn : Bool) (k : Dk), Z0 c → Z0 (layAllL most rs c dn k).2.1
 | [], _, dn, k, h => z0_settle h dn k
 | r :: rs, c, dn, k, h => by
  unfold layAllL
  split
  ·exact z0_lay h most _ dn k
  ·exact z0_layAll most rs _ _ _ (z0_lay h most _ dn k)
theorem z0_append {l : Lg} (h : Z0 l.ch) (k : Dk) (xs : List Int) : Z0 (appendT l k xs).2.1.ch := by
 unfold appendT
 split
 ·exact h
 ·exact z0_lay h _ _ _ _
theorem z0_commit {l : Lg} (h : Z0 l.ch) (k : Dk) : Z0 (commitL l k).2.1.ch := z0_settle h _ _
theorem rebase_cases (l : Lg) (k : Dk) (rs : List (List Int)) : ∃ dn, (rebaseL l k rs).2.1 = ⟨l.most, l.recs, l.ch, dn⟩ ∨ (rebaseL l k rs).2.1 = ⟨l.most, rs, (layAllL l.most rs ⟨l.ch.g + 1, 0, 0, false⟩ l.dn k).2.1, dn⟩ := by
 have b3 := (room1_gr (layAllL l.most rs ⟨l.ch.g + 1, 0, 0, false⟩ l.dn k)).2.2
 unfold rebaseL
 generalize layAllL l.most rs ⟨l.ch.g + 1, 0, 0, false⟩ l.dn k = L0 at *
 obtain ⟨Y, hY⟩ : ∃ Y, room1 L0 = Y := ⟨_, _root_.rfl⟩
 rw [hY] at b3 ⊢
 have c3 := (room2_gr Y.2.1 Y.2.2.1 Y.2.2.2).2.2
 unfold rb1L
 split
 ·exact ⟨_, Or.inl _root_.rfl⟩
 ·generalize room2 (wrB Y.2.1 Y.2.2.1 Y.2.2.2) = Z at *
  unfold rb2L
  split
  ·exact ⟨_, Or.inl _root_.rfl⟩
  ·generalize stp Z.2.2.1 Z.2.2.2 (syncK Z.2.2.2 sNew) = V
   unfold rb3L
   split
   ·exact ⟨_, Or.inl _root_.rfl⟩
   ·generalize stp V.2.1 V.2.2 (renameK V.2.2 sNew sBase) = U
    unfold rb4L
    split
    ·exact ⟨_, Or.inl _root_.rfl⟩
    ·exact ⟨_, Or.inr (by dsimp only; rw [c3, b3])⟩
theorem z0_rebase {l : Lg} (h : Z0 l.ch) (k : Dk) (rs : List (List Int)) : Z0 (rebaseT l k rs).2.1.ch := by
 unfold rebaseT
 split
 ·exact h
 ·split
  ·exact h
  ·obtain ⟨dn, e | e⟩ := rebase_cases l k rs
   ·rw [e]; exact h
   ·rw [e]; exact z0_layAll _ _ _ _ _ (fun _ => _root_.rfl)
theorem z0_rd : ∀ (m i : Nat) (l : Lg) (k : Dk), (m ≠ 0 → l.ch.cnt ≠ 0) → Z0 l.ch → Z0 (rdSegs m i l k).2.1.ch
 | 0, _, _, _, _, h => h
 | m + 1, i, l, k, hc, h => by
  obtain ⟨_, _, h3, _⟩ := readSeg_same l (i + 1) k
  have hc := hc (by omega)
  have h4 : Z0 (readSegL l (i + 1) k).2.2.1.ch := fun e => absurd (h3.symm.trans e) hc
  unfold rdSegs
  split
  ·exact h4
  ·split
   ·exact z0_rd m (i + 1) _ _ (fun _ => by rw [h3]; exact hc) h4
   ·unfold rdSegs.rdEnd
    dsimp only
    split
    ·intro e; dsimp only at e; omega
    ·exact h4
theorem z0_open (most : Nat) (k : Dk) : Z0 (openL most k).2.1.ch := by
 unfold openL openR
 generalize baseR (readK k sBase) = b
 split
 ·exact fun _ => _root_.rfl
 ·obtain ⟨_, _, _, c4⟩ := clean_gr b.2 k
  generalize cleanL ⟨b.2, 0, 0, false⟩ false k = q at *
  unfold openR.openC
  split
  ·exact fun _ => c4
  ·have r1 := z0_rd q.2.1.cnt 0 ⟨most, [], q.2.1, q.2.2.1⟩ q.2.2.2 (fun h => h) (fun _ => c4)
   generalize rdSegs q.2.1.cnt 0 ⟨most, [], q.2.1, q.2.2.1⟩ q.2.2.2 = r at *
   unfold openR.openD
   split
   ·exact r1
   ·exact z0_commit (l := ⟨r.2.1.most, r.2.1.recs, { r.2.1.ch with loose := decide (0 < r.2.1.ch.cnt) }, r.2.1.dn⟩) r1 _
end Go.Proofs.YtikkieaokfailaaGreatDoor

namespace Go.Proofs.YtikkieaokfailaaGreatDoor
open Go.RowKit Go.Joins
def Rm (a b : Dk) : Prop := b.room = a.room
theorem Rm.rfl (a : Dk) : Rm a a := _root_.rfl
theorem Rm.trans {a b c : Dk} (h : Rm a b) (h' : Rm b c) : Rm a c := Eq.trans h' h
theorem rm_pass (k : Dk) : Rm k (passK k).2 := by
 unfold passK
 split <;> exact Rm.rfl _
theorem rm_step (k : Dk) (s : Nm) (err : Fle → Nat) (go : Dk → Fle → Dk) (hgo : ∀ f, Rm (passK k).2 (go (passK k).2 f)) : Rm k (stepK k s err go).2 := by
 unfold stepK
 split
 ·exact Rm.rfl _
 ·split
  ·exact Rm.rfl _
  ·split
   ·exact Rm.rfl _
   ·split
    ·exact Rm.rfl _
    ·split
     ·exact rm_pass k
     ·exact (rm_pass k).trans (hgo _)
theorem rm_sync (k : Dk) (s : Nm) : Rm k (syncK k s).2 := rm_step k s _ _ fun _ => Rm.rfl _
theorem rm_remove (k : Dk) (s : Nm) : Rm k (removeK k s).2 := rm_step k s _ _ fun _ => Rm.rfl _
theorem rm_rename (k : Dk) (s t : Nm) : Rm k (renameK k s t).2 := by
 unfold renameK
 split
 ·exact Rm.rfl _
 ·split
  ·exact Rm.rfl _
  ·exact rm_step k s _ _ fun _ => Rm.rfl _
theorem rm_app (k : Dk) (s : Nm) (xs : List Int) : Rm k (appK k s xs).2 := by
 unfold appK
 split
 ·exact Rm.rfl _
 ·split
  ·exact Rm.rfl _
  ·split
   ·exact Rm.rfl _
   ·exact rm_pass _
theorem rm_stp {k : Dk} {r : Nat × Dk} (dn : Bool) (h : Rm k r.2) : Rm k (stp dn k r).2.2 := by
 unfold stp
 cases dn
 ·exact h
 ·exact Rm.rfl _
theorem rm_settle (c : Ch) (dn : Bool) (k : Dk) : Rm k (settleL c dn k).2.2.2 := by
 unfold settleL
 split
 ·exact rm_stp dn (rm_sync _ _)
 ·exact Rm.rfl _
theorem rm_putS (i sz : Nat) (c : Ch) (b : List Int) (dn : Bool) (k : Dk) : Rm k (putS i sz c b dn k).2.2.2 := by
 unfold putS
 exact rm_stp dn (rm_app _ _ _)
theorem rm_lay (most : Nat) (c : Ch) (b : List Int) (dn : Bool) (k : Dk) : Rm k (layL most c b dn k).2.2.2 := by
 unfold layL
 split
 ·split
  ·exact (rm_settle c dn k)
  ·exact (rm_settle c dn k).trans (rm_putS _ _ _ _ _ _)
 ·exact rm_putS _ _ _ _ _ _
theorem rm_layAll (most : Nat) : ∀ (rs : List (List Int)) (c : Ch) (dn : Bool) (k : Dk), Rm k (layAllL most rs c dn k).2.2.2
 | [], c, dn, k => rm_settle c dn k
 | r :: rs, c, dn, k => by
  unfold layAllL
  split
  ·exact (rm_lay most c (formL r) dn k)
  ·exact (rm_lay most c (formL r) dn k).trans (rm_layAll most rs _ _ _)
theorem rm_remAll : ∀ (l : List Nm) (dn : Bool) (k : Dk), Rm k (remAll l dn k).2.2
 | [], dn, k => Rm.rfl _
 | s :: r, dn, k => by
  unfold remAll
  split
  ·exact rm_stp dn (rm_remove _ _)
  ·exact (rm_stp dn (rm_remove _ _)).trans (rm_remAll r _ _)
theorem rm_remC (c : Ch) (dn : Bool) (k : Dk) : Rm k (remC c dn k).2.2 := rm_remAll _ _ _
theorem rm_remNew (dn : Bool) (k : Dk) : Rm k (remNewL dn k).2.2 := by
 unfold remNewL
 split
 ·exact rm_stp dn (rm_remove _ _)
 ·exact Rm.rfl _
theorem rm_back2 (c : Ch) (dn : Bool) (k : Dk) : Rm k (back2 c dn k).2.2 := by
 unfold back2
 split
 ·exact rm_remC _ _ _
 ·exact (rm_remC _ _ _).trans (rm_remNew _ _)
theorem rm_room1 (x : Nat × Ch × Bool × Dk) : Rm x.2.2.2 (room1 x).2.2.2 := by
 unfold room1 ifRoomL
 split
 ·exact rm_remC _ _ _
 ·exact Rm.rfl _
theorem rm_room2 (x : Nat × Ch × Bool × Dk) : Rm x.2.2.2 (room2 x).2.2.2 := by
 unfold room2 ifRoomL
 split
 ·exact rm_back2 _ _ _
 ·exact Rm.rfl _
theorem rm_wrB (c : Ch) (dn : Bool) (k : Dk) : Rm k (wrB c dn k).2.2.2 := rm_stp dn (rm_app _ _ _)
theorem rm_rb4 (l : Lg) (rs : List (List Int)) (c : Ch) (x : Nat × Bool × Dk) : Rm x.2.2 (rb4L l rs c x).2.2 := by
 unfold rb4L
 split
 ·exact Rm.rfl _
 ·exact rm_remC _ _ _
theorem rm_rb3 (l : Lg) (rs : List (List Int)) (c : Ch) (x : Nat × Bool × Dk) : Rm x.2.2 (rb3L l rs c x).2.2 := by
 unfold rb3L
 split
 ·exact Rm.rfl _
 ·exact (rm_stp x.2.1 (rm_rename x.2.2 sNew sBase)).trans (rm_rb4 _ _ _ _)
theorem rm_rb2 (l : Lg) (rs : List (List Int)) (x : Nat × Ch × Bool × Dk) : Rm x.2.2.2 (rb2L l rs x).2.2 := by
 unfold rb2L
 split
 ·exact Rm.rfl _
 ·exact (rm_stp x.2.2.1 (rm_sync x.2.2.2 sNew)).trans (rm_rb3 _ _ _ _)
theorem rm_rb1 (l : Lg) (rs : List (List Int)) (x : Nat × Ch × Bool × Dk) : Rm x.2.2.2 (rb1L l rs x).2.2 := by
 unfold rb1L
 split
 ·exact Rm.rfl _
 ·exact ((rm_wrB x.2.1 x.2.2.1 x.2.2.2).trans (rm_room2 _)).trans (rm_rb2 _ _ _)
theorem rm_rebase (l : Lg) (k : Dk) (rs : List (List Int)) : Rm k (rebaseT l k rs).2.2 := by
 unfold rebaseT
 split
 ·exact Rm.rfl _
 ·split
  ·exact Rm.rfl _
  ·exact ((rm_layAll l.most rs _ l.dn k).trans (rm_room1 _)).trans (rm_rb1 l rs _)
theorem rm_append (l : Lg) (k : Dk) (xs : List Int) : Rm k (appendT l k xs).2.2 := by
 unfold appendT
 split
 ·exact Rm.rfl _
 ·exact rm_lay _ _ _ _ _
theorem lay_sz (most : Nat) (c : Ch) (b : List Int) (dn : Bool) (k : Dk) : (layL most c b dn k).2.1.size ≤ c.size + b.length := (lay_gr most c b dn k).2.2.2.2
theorem layAll_sz (most : Nat) : ∀ (rs : List (List Int)) (c : Ch) (dn : Bool) (k : Dk), (∀ r ∈ rs, r.length ≤ 200) → (layAllL most rs c dn k).2.1.size ≤ c.size + 208 * rs.length
 | [], c, dn, k, _ => by show (settleL c dn k).2.1.size ≤ _; rw [settle_sz]; exact Nat.le_add_right _ _
 | r :: rs, c, dn, k, h => by
  have h1 := lay_sz most c (formL r) dn k
  rw [formL_len] at h1
  have h2 := h r (List.mem_cons_self ..)
  unfold layAllL
  simp only [List.length_cons]
  split
  ·omega
  ·have h3 := layAll_sz most rs (layL most c (formL r) dn k).2.1 (layL most c (formL r) dn k).2.2.1 (layL most c (formL r) dn k).2.2.2 (fun x hx => h x (List.mem_cons_of_mem _ hx))
   omega
theorem rebase_st (l : Lg) (k : Dk) (rs : List (List Int)) : (rebaseL l k rs).2.2.steps ≤ k.steps + 4 * rs.length + l.ch.cnt + 10 := by
 obtain ⟨a1, a2, a3, a4⟩ := layAll_gr l.most rs ⟨l.ch.g + 1, 0, 0, false⟩ l.dn k
 obtain ⟨b1, b2, b3⟩ := room1_gr (layAllL l.most rs ⟨l.ch.g + 1, 0, 0, false⟩ l.dn k)
 unfold rebaseL
 generalize layAllL l.most rs ⟨l.ch.g + 1, 0, 0, false⟩ l.dn k = L0 at *
 dsimp only at a4
 rw [show max 0 1 = 1 from rfl] at a4
 obtain ⟨Y, hY⟩ : ∃ Y, room1 L0 = Y := ⟨_, rfl⟩
 rw [hY] at b1 b2 b3 ⊢
 obtain ⟨c1, c2, c3⟩ := room2_gr Y.2.1 Y.2.2.1 Y.2.2.2
 rw [b3] at c1
 unfold rb1L
 split
 ·dsimp only; omega
 ·obtain ⟨Z, hZ⟩ : ∃ Z, room2 (wrB Y.2.1 Y.2.2.1 Y.2.2.2) = Z := ⟨_, rfl⟩
  rw [hZ] at c2 c3 ⊢
  rw [← b3, hZ] at c1
  rw [b3] at c1
  have d1 := stp_gr Z.2.2.1 Z.2.2.2 (syncK Z.2.2.2 sNew) (sync_gr _ _).1
  unfold rb2L
  split
  ·dsimp only; omega
  ·generalize stp Z.2.2.1 Z.2.2.2 (syncK Z.2.2.2 sNew) = V at *
   have e1 := stp_gr V.2.1 V.2.2 (renameK V.2.2 sNew sBase) (rename_gr _ _ _).1
   unfold rb3L
   split
   ·dsimp only; omega
   ·generalize stp V.2.1 V.2.2 (renameK V.2.2 sNew sBase) = U at *
    obtain ⟨f1, f2⟩ := remC_gr l.ch U.2.1 U.2.2
    unfold rb4L
    split
    ·dsimp only; omega
    ·dsimp only; omega
theorem Dk.Good.rbd {k : Dk} (h : k.Good) (s : Nm) : Bd (readK k s).2 := by
 rcases readK_cases' k s with ⟨f, hl, e⟩ | e
 ·rw [e]; dsimp only; exact (look_good h hl).2.2
 ·rw [e]; exact Bd.nil
structure LgB (n : Nat) (l : Lg) : Prop where
 g : l.ch.g < 18446744073709551616
 cnt : l.ch.cnt ≤ 32 + 14 * n
 size : l.ch.size ≤ 5000 + 3000 * n
 most : l.most ≤ 1048576
 recs : l.recs.length ≤ 5000 + 12 * n
 z0 : Z0 l.ch
theorem LgB.ok {n : Nat} {l : Lg} (h : LgB n l) (hn : n ≤ 200) : l.Ok := by
 obtain ⟨h1, h2, h3, h4, h5, _⟩ := h
 exact ⟨h1, by omega, by omega, by omega, by omega⟩
theorem LgB.next {n : Nat} {l : Lg} (h : LgB n l) : LgB (n + 1) l := by
 obtain ⟨h1, h2, h3, h4, h5, h6⟩ := h
 exact ⟨h1, by omega, by omega, h4, by omega, h6⟩
structure Pl (n : Nat) (o : Option Lg) (k : Dk) : Prop where
 ro : k.room ≤ 5000
 fl : k.fs.length ≤ 30 + 14 * n
 st : k.steps ≤ 100 + 5300 * n
 lg : ∀ l, o = some l → LgB n l
section
variable {n : Nat} {o : Option Lg} {l : Lg} {k : Dk}
theorem Pl.next (h : Pl n o k) : Pl (n + 1) o k := ⟨h.ro, by have := h.fl; omega, by have := h.st; omega, fun l e => (h.lg l e).next⟩
theorem Pl.rest (h : Pl n o k) (keep : List Int) : Pl n .none (restK k keep) := ⟨h.ro, by show (restL k.fs keep).length ≤ _; rw [restL_len]; exact h.fl, h.st, fun _ e => by cases e⟩
theorem Pl.append (h : Pl n (some l) k) (hr : Rise k.fs) (xs : List Int) (hx : xs.length ≤ 200) : Pl (n + 1) (some (appendT l k xs).2.1) (appendT l k xs).2.2 := by
 obtain ⟨g1, g2, g3, g4, g5, g6⟩ := h.lg l rfl
 have t1 := (tw_append l k xs hr).2
 have t2 := rm_append l k xs
 have t3 := z0_append g6 k xs
 have h3 := h.fl
 have h4 := h.st
 have h5 := h.ro
 have l1 := lay_gr l.most l.ch (formL xs) l.dn k
 rw [formL_len] at l1
 have e : appendT l k xs = appendL l k xs := by unfold appendT; rw [if_neg (by omega)]
 rw [e] at t1 t2 t3 ⊢
 refine ⟨by rw [t2]; exact h5, by omega, ?_, fun l' e' => ?_⟩
 ·show (layL l.most l.ch (formL xs) l.dn k).2.2.2.steps ≤ _; omega
 ·have e' := Option.some.inj e'
  subst e'
  refine ⟨?_, ?_, ?_, g4, ?_, t3⟩
  ·show (layL l.most l.ch (formL xs) l.dn k).2.1.g < _; omega
  ·show (layL l.most l.ch (formL xs) l.dn k).2.1.cnt ≤ _; omega
  ·show (layL l.most l.ch (formL xs) l.dn k).2.1.size ≤ _; omega
  ·unfold appendL
   dsimp only
   split
   ·rw [List.length_append, List.length_singleton]; omega
   ·omega
theorem Pl.rebase (h : Pl n (some l) k) (hn : n ≤ 200) (hr : Rise k.fs) (rs : List (List Int)) (hx : ∀ r ∈ rs, r.length ≤ 200) (hl : rs.length ≤ 12) : Pl (n + 1) (some (rebaseT l k rs).2.1) (rebaseT l k rs).2.2 := by
 obtain ⟨g1, g2, g3, g4, g5, g6⟩ := h.lg l rfl
 have t1 := (tw_rebase l k rs hr).2
 have t2 := rm_rebase l k rs
 have t3 := z0_rebase g6 k rs
 have h3 := h.fl
 have h4 := h.st
 have h5 := h.ro
 have q1 := rebase_st l k rs
 refine ⟨by rw [t2]; exact h5, by omega, ?_, fun l' e' => ?_⟩
 ·unfold rebaseT
  split
  ·dsimp only; omega
  ·split
   ·dsimp only; omega
   ·omega
 ·have e' := Option.some.inj e'
  subst e'
  unfold rebaseT at t3 ⊢
  split
  ·exact (h.lg l rfl).next
  ·split
   ·exact (h.lg l rfl).next
   ·rename_i b1 b2
    rw [if_neg b1, if_neg b2] at t3
    obtain ⟨dn, e | e⟩ := rebase_cases l k rs
    ·rw [e]; exact ⟨g1, by show l.ch.cnt ≤ _; omega, by show l.ch.size ≤ _; omega, g4, by show l.recs.length ≤ _; omega, g6⟩
    ·obtain ⟨_, _, a3, a4⟩ := layAll_gr l.most rs ⟨l.ch.g + 1, 0, 0, false⟩ l.dn k
     have a5 := layAll_sz l.most rs ⟨l.ch.g + 1, 0, 0, false⟩ l.dn k hx
     rw [e] at t3 ⊢
     dsimp only at a3 a4 a5
     exact ⟨by dsimp only; omega, by dsimp only; omega, by dsimp only; omega, g4, by dsimp only; omega, t3⟩
end
end Go.Proofs.YtikkieaokfailaaGreatDoor

namespace Go.Proofs.YtikkieaokfailaaGreatDoor
open Go.RowKit Go.Joins
end Go.Proofs.YtikkieaokfailaaGreatDoor
