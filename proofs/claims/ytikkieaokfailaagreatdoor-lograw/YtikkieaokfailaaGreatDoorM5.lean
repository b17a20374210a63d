/- Texts of one seat, one behind the other: LgD, LgE, LgF, LgG, LgH, DkX, DkY, DkH. -/
import Derived.Test.YtikkieaokfailaaGreatDoorM4
import Derived.Test.YtikkieaokfailaaGreatDoorM2
import Derived.WalkKit
import Derived.ProofKit
import Derived.OpenShut
import Derived.ShutString
import Derived.ChangeOld
import Derived.ChangeMaps5
import Derived.Deep.Matrix
import Derived.Deep.DeepHandedRow
namespace Go.Proofs.YtikkieaokfailaaGreatDoor
open Go.RowKit Go.Joins
def chs (c : Ch) : Array Value := #[.int .u64 (c.g : Int), .int .i64 (c.cnt : Int), .int .i64 (c.size : Int), .bool c.loose]
structure LC (w : World) (F : Nat → Prop) (lb d most : Nat) (v : Value) (dn : Bool) (k : Dk) (b off : Nat) (c0 c : Ch) : Prop where
 L : LD w F lb d most v (if b = lb then c else c0) dn k
 o : b = lb → off = 3
 n : b ≠ lb → off = 0 ∧ ¬ F b ∧ w.heap[b]? = some (.cells (chs c) 117 (0, 0))
section
variable {w w' : World} {F : Nat → Prop} {lb d most : Nat} {v : Value} {dn : Bool} {k : Dk} {b off : Nat} {c0 c : Ch}
theorem LC.nfb (h : LC w F lb d most v dn k b off c0 c) : ¬ F b := by
 by_cases e : b = lb
 ·rw [e]; exact h.L.nf
 ·exact (h.n e).2.1
theorem LC.ltb (h : LC w F lb d most v dn k b off c0 c) : b < w.heap.size := by
 by_cases e : b = lb
 ·rw [e]; exact h.L.lt
 ·exact (Array.getElem?_eq_some_iff.1 (h.n e).2.2).1
theorem LC.below (h : LC w F lb d most v dn k b off c0 c) (hb : Below w.heap.size w w') : LC w' F lb d most v dn k b off c0 c :=
 ⟨h.L.below hb, h.o, fun e => ⟨(h.n e).1, (h.n e).2.1, box_below (h.n e).2.2 hb⟩⟩
theorem LC.keep {S : Nat → Prop} (h : LC w F lb d most v dn k b off c0 c) (hk : Keep S w w') (hF : ∀ i, F i → ¬ S i) (hl : ¬ S lb) (hb : ¬ S b) : LC w' F lb d most v dn k b off c0 c :=
 ⟨h.L.keep hk hF hl, h.o, fun e => ⟨(h.n e).1, (h.n e).2.1, box_keep (h.n e).2.2 hk hb⟩⟩
theorem LC.cell (h : LC w F lb d most v dn k b off c0 c) (j : Nat) (hj : j < 4) : w.cell? ⟨b, off + j, none⟩ = (chs c)[j]? := by
 by_cases e : b = lb
 ·subst e
  have hL := h.L
  rw [if_pos rfl] at hL
  rw [h.o rfl]
  match j, hj with
  | 0, _ => exact hL.c3
  | 1, _ => exact hL.c4
  | 2, _ => exact hL.c5
  | 3, _ => exact hL.c6
 ·rw [(h.n e).1, cell_of_block (h.n e).2.2, Nat.zero_add]
theorem LC.fz (h : LC w F lb d most v dn k b off c0 c) (j : Nat) : w.frozen? ⟨b, j, none⟩ = false := by
 by_cases e : b = lb
 ·rw [e]; exact h.L.fz j
 ·exact unfrozen_of_block (h.n e).2.2 j
theorem LC.set (h : LC w F lb d most v dn k b off c0 c) (j : Nat) (u : Value) {c' : Ch} (e1 : (chs c).setIfInBounds j u = chs c') (e2 : (lcs d most v c dn).setIfInBounds (3 + j) u = lcs d most v c' dn) : LC (w.setCell ⟨b, off + j, none⟩ u) F lb d most v dn k b off c0 c' := by
 by_cases e : b = lb
 ·subst e
  have hL := h.L
  rw [if_pos rfl] at hL
  refine ⟨?_, h.o, fun e => absurd rfl e⟩
  rw [if_pos rfl, h.o rfl]
  exact hL.set (3 + j) u e2
 ·have hL := h.L
  rw [if_neg e] at hL
  have hk : Keep (fun i => i = b) w (w.setCell ⟨b, off + j, none⟩ u) := (Keep.refl (fun i => i = b) w).setCell (p := ⟨b, off + j, none⟩) rfl u
  refine ⟨?_, h.o, fun _ => ⟨(h.n e).1, (h.n e).2.1, ?_⟩⟩
  ·rw [if_neg e]
   exact hL.keep hk (fun i hi e2 => h.nfb (by rw [← e2]; exact hi)) (fun e2 => e e2.symm)
  ·rw [(h.n e).1, Nat.zero_add, ← e1]
   exact block_setCell (h.n e).2.2 u
theorem LC.setK (_ : LC w F lb d most v dn k b off c0 c) (j : Nat) (u : Value) : Keep (fun i => F i ∨ i = lb ∨ i = b) w (w.setCell ⟨b, j, none⟩ u) := (Keep.refl _ w).setCell (p := ⟨b, j, none⟩) (Or.inr (Or.inr rfl)) u
end
def Lcp (w : World) (F : Nat → Prop) (lb d most : Nat) (v : Value) (dn : Bool) (k : Dk) (b off : Nat) (c0 c : Ch) (w' : World) : Prop := ∃ F', LC w' F' lb d most v dn k b off c0 c ∧ Keep (fun i => F i ∨ i = lb ∨ i = b) w w' ∧ (∀ i, F' i → F i ∨ w.heap.size ≤ i)
theorem Lcp.refl {w : World} {F : Nat → Prop} {lb d most : Nat} {v : Value} {dn : Bool} {k : Dk} {b off : Nat} {c0 c : Ch} (h : LC w F lb d most v dn k b off c0 c) : Lcp w F lb d most v dn k b off c0 c w := ⟨F, h, Keep.refl _ _, fun _ h => Or.inl h⟩
theorem Lcp.next {w w1 w2 : World} {F F1 : Nat → Prop} {lb d most : Nat} {v : Value} {dn : Bool} {k : Dk} {b off : Nat} {c0 c : Ch} (kp : Keep (fun i => F i ∨ i = lb ∨ i = b) w w1) (e1 : ∀ i, F1 i → F i ∨ w.heap.size ≤ i) (h : Lcp w1 F1 lb d most v dn k b off c0 c w2) : Lcp w F lb d most v dn k b off c0 c w2 := by
 obtain ⟨F', h1, h2, h3⟩ := h
 refine ⟨F', h1, kp.andThen h2 (fun i hi hs => ?_), fun i hi => ?_⟩
 ·rcases hs with hs | hs
  ·rcases e1 i hs with h | h
   ·exact Or.inl h
   ·omega
  ·exact Or.inr hs
 ·rcases h3 i hi with h | h
  ·exact e1 i h
  ·exact Or.inr (Nat.le_trans kp.size h)
theorem Lcp.from {w0 w w' : World} {F : Nat → Prop} {lb d most : Nat} {v : Value} {dn : Bool} {k : Dk} {b off : Nat} {c0 c : Ch} (hb : Below w0.heap.size w0 w) (h : Lcp w F lb d most v dn k b off c0 c w') : Lcp w0 F lb d most v dn k b off c0 c w' := by
 obtain ⟨F', h1, h2, h3⟩ := h
 exact ⟨F', h1, (Keep.ofBelow hb).trans h2, fun i hi => (h3 i hi).imp id (fun h => Nat.le_trans hb.size h)⟩
theorem LC.step {w w1 : World} {F : Nat → Prop} {lb d most : Nat} {v : Value} {dn dn' : Bool} {k k' : Dk} {b off : Nat} {c0 c : Ch} (h : LC w F lb d most v dn k b off c0 c) (hp : Lp w F lb d most v (if b = lb then c else c0) dn' k' w1) : Lcp w F lb d most v dn' k' b off c0 c w1 := by
 obtain ⟨F1, h1, h2, h3⟩ := hp
 have hlt := h.ltb
 refine ⟨F1, ⟨h1, h.o, fun e => ⟨(h.n e).1, fun hf => ?_, box_keep (h.n e).2.2 h2 (fun hs => ?_)⟩⟩, h2.mono (fun i hi => hi.elim Or.inl (fun h => Or.inr (Or.inl h))), h3⟩
 ·rcases h3 b hf with h4 | h4
  ·exact h.nfb h4
  ·omega
 ·rcases hs with hs | hs
  ·exact h.nfb hs
  ·exact e hs
def settleL (c : Ch) (dn : Bool) (k : Dk) : Nat × Ch × Bool × Dk :=
 if c.loose then ((stp dn k (syncK k (segN c.g c.cnt))).1, (if (stp dn k (syncK k (segN c.g c.cnt))).1 = 0 then { c with loose := false } else c), (stp dn k (syncK k (segN c.g c.cnt))).2)
 else (0, c, dn, k)
set_option maxHeartbeats 1000000 in
theorem settle_any (w : World) (F : Nat → Prop) (lb d most : Nat) (v : Value) (dn : Bool) (k : Dk) (b off : Nat) (c0 c : Ch) (h : LC w F lb d most v dn k b off c0 c) (hP : Pf w F lb) (hg : c.g < 18446744073709551616) (hi : c.cnt ≤ 9223372036854775807) (hst : k.steps < 1000000) (hfl : k.fs.length < 1000000) :
  Calls Tryz.prog 68 #[.pointer (some ⟨lb, 0, none⟩), .pointer (some ⟨b, off, none⟩)] w fun e w' => Gs (settleL c dn k).1 e ∧ Lcp w F lb d most v (settleL c dn k).2.2.1 (settleL c dn k).2.2.2 b off c0 (settleL c dn k).2.1 w' := by
 have q0 : w.cell? ⟨b, off, none⟩ = some (.int .u64 (c.g : Int)) := h.cell 0 (by omega)
 have q1 : w.cell? ⟨b, off + 1, none⟩ = some (.int .i64 (c.cnt : Int)) := h.cell 1 (by omega)
 have q3 : w.cell? ⟨b, off + 3, none⟩ = some (.bool c.loose) := h.cell 3 (by omega)
 by_cases hl : c.loose = true
 ·rw [hl] at q3
  have hsg := segment_any b off c.g c.cnt hg hi w hP.pw q0
  obtain ⟨s, Hs⟩ : ∃ s, Hid (segN c.g c.cnt = s) := ⟨_, rfl⟩
  have hE : settleL c dn k = ((stp dn k (syncK k s)).1, (if (stp dn k (syncK k s)).1 = 0 then { c with loose := false } else c), (stp dn k (syncK k s)).2) := by unfold settleL; rw [if_pos hl, Hs.out]
  rw [hE]
  rw [Hs.out] at hsg
  have hsy := fun w' (hb : Below w.heap.size w w') => ssync_any lb d most F v _ dn k s hst hfl w' (h.L.below hb)
  obtain ⟨P, HP⟩ : ∃ P, Hid (stp dn k (syncK k s) = P) := ⟨_, rfl⟩
  rw [HP.out]
  simp only [HP.out] at hsy
  obtain ⟨en, dn', k'⟩ := P
  dsimp only at hsy ⊢
  have hfin : ∀ w1 w2, Below w.heap.size w w1 → Lp w1 F lb d most v (if b = lb then c else c0) dn' k' w2 → Lcp w F lb d most v dn' k' b off c0 c w2 := fun w1 w2 hb hp => ((h.below hb).step hp).from hb
  clear hE
  by_cases h0 : en = 0
  ·subst h0
   rw [if_pos rfl]
   go_enter Tryz.func68, Tryz.ntmps68
   go_wp2_with (first
    | (go_at_call 103; refine hsg.mono ?_; rintro e w1 ⟨rfl, hb1⟩)
    | (go_at_call 104; refine ((hsy w1 hb1).mono (fun e w' h => And.intro (h.1.elim (fun k => k.2) (fun k => absurd rfl k.1)) h.2 : ∀ e w', _ → (e = .returned (.tuple #[]) ∧ _))).mono ?_; rintro e w2 ⟨rfl, hp⟩; obtain ⟨F2, hL2, hk2, hF2⟩ := hfin w1 w2 hb1 hp; have p3 : w2.cell? ⟨b, off + 3, none⟩ = some (.bool c.loose) := hL2.cell 3 (by omega); have z3 := hL2.fz (off + 3)))
   go_end0
   exact ⟨Or.inl ⟨rfl, rfl⟩, F2, hL2.set 3 _ rfl rfl, hk2.trans ((Keep.refl _ w2).setCell (p := ⟨b, off + 3, none⟩) (Or.inr (Or.inr rfl)) _), hF2⟩
  ·rw [if_neg h0]
   go_enter Tryz.func68, Tryz.ntmps68
   go_wp2_with (first
    | (go_at_call 103; refine hsg.mono ?_; rintro e w1 ⟨rfl, hb1⟩)
    | (go_at_call 104; refine ((hsy w1 hb1).mono (fun e w' h => And.intro (h.1.elim (fun k => absurd k.1 h0) (fun k => k.2)) h.2 : ∀ e w', _ → (e = .panicked (gaveS en) ∧ _))).mono ?_; rintro e w2 ⟨rfl, hp⟩))
   exact ⟨rfl, gs_no h0 rfl, hfin w1 w2 hb1 hp⟩
 ·have hl' : c.loose = false := by simpa using hl
  rw [hl'] at q3
  have hE : settleL c dn k = (0, c, dn, k) := by unfold settleL; rw [if_neg hl]
  rw [hE]
  clear hE
  go_enter Tryz.func68, Tryz.ntmps68
  go_wp2
  go_end0
  exact ⟨Or.inl ⟨rfl, rfl⟩, Lcp.refl h⟩
end Go.Proofs.YtikkieaokfailaaGreatDoor

namespace Go.Proofs.YtikkieaokfailaaGreatDoor
open Go.RowKit Go.Joins
def putS (i sz : Nat) (c : Ch) (b : List Int) (dn : Bool) (k : Dk) : Nat × Ch × Bool × Dk :=
 ((stp dn k (appK k (segN c.g i) b)).1, (if (stp dn k (appK k (segN c.g i) b)).1 = 0 then ⟨c.g, i, sz + b.length, true⟩ else c), (stp dn k (appK k (segN c.g i) b)).2)
def layL (most : Nat) (c : Ch) (b : List Int) (dn : Bool) (k : Dk) : Nat × Ch × Bool × Dk :=
 if 0 < c.size ∧ most < c.size + b.length then
  (if (settleL c dn k).1 ≠ 0 then settleL c dn k else putS (max c.cnt 1 + 1) 0 (settleL c dn k).2.1 b (settleL c dn k).2.2.1 (settleL c dn k).2.2.2)
 else putS (max c.cnt 1) c.size c b dn k
theorem putS_eq {i sz : Nat} {c : Ch} {b : List Int} {dn dn' : Bool} {k k' : Dk} {en : Nat} (h : stp dn k (appK k (segN c.g i) b) = (en, dn', k')) : putS i sz c b dn k = (en, (if en = 0 then ⟨c.g, i, sz + b.length, true⟩ else c), dn', k') := by unfold putS; rw [h]
theorem stp_gr (dn : Bool) (k : Dk) (r : Nat × Dk) (h : r.2.steps ≤ k.steps + 1) : (stp dn k r).2.2.steps ≤ k.steps + 1 := by
 unfold stp
 cases dn
 ·exact h
 ·exact Nat.le_succ _
theorem stp_fl (dn : Bool) (k : Dk) (r : Nat × Dk) (h : r.2.fs.length ≤ k.fs.length + 1) : (stp dn k r).2.2.fs.length ≤ k.fs.length + 1 := by
 unfold stp
 cases dn
 ·exact h
 ·exact Nat.le_succ _
theorem sync_gr (k : Dk) (s : Nm) : (syncK k s).2.steps ≤ k.steps + 1 ∧ (syncK k s).2.fs.length ≤ k.fs.length + 1 := by
 unfold syncK stepK
 have h1 := pass_steps k
 have h2 := pass_fs k
 split
 ·exact ⟨Nat.le_succ _, Nat.le_succ _⟩
 ·split
  ·exact ⟨Nat.le_succ _, Nat.le_succ _⟩
  ·split
   ·exact ⟨Nat.le_succ _, Nat.le_succ _⟩
   ·split
    ·exact ⟨Nat.le_succ _, Nat.le_succ _⟩
    ·split
     ·exact ⟨h1, by rw [h2]; exact Nat.le_succ _⟩
     ·refine ⟨h1, ?_⟩
      show (putL _ _ _).length ≤ _
      rw [← h2]
      exact len_put _ _ _
theorem settle_gr (c : Ch) (dn : Bool) (k : Dk) : (settleL c dn k).2.2.2.steps ≤ k.steps + 1 ∧ (settleL c dn k).2.2.2.fs.length ≤ k.fs.length + 1 ∧ (settleL c dn k).2.1.g = c.g ∧ (settleL c dn k).2.1.cnt = c.cnt := by
 unfold settleL
 split
 ·refine ⟨stp_gr _ _ _ (sync_gr _ _).1, stp_fl _ _ _ (sync_gr _ _).2, ?_, ?_⟩
  ·dsimp only; split <;> rfl
  ·dsimp only; split <;> rfl
 ·exact ⟨Nat.le_succ _, Nat.le_succ _, rfl, rfl⟩
theorem Pf.next3 {w w' : World} {F F' : Nat → Prop} {lb b : Nat} (h : Pf w F lb) (hb : 0 < b) (hk : Keep (fun i => F i ∨ i = lb ∨ i = b) w w') (hF : ∀ i, F' i → F i ∨ w.heap.size ≤ i) : Pf w' F' lb := by
 refine ⟨h.pw.keep hk (fun hs => ?_), fun i hi => ?_, h.ll⟩
 ·rcases hs with hs | hs | hs
  ·have := h.fl _ hs; omega
  ·have := h.ll; omega
  ·omega
 ·rcases hF i hi with h1 | h1
  ·exact h.fl i h1
  ·have := h.pw.at; omega
set_option maxHeartbeats 4000000 in
set_option maxRecDepth 100000 in
theorem lay_any (w : World) (F : Nat → Prop) (lb d most : Nat) (v : Value) (dn : Bool) (k : Dk) (b off : Nat) (c0 c : Ch) (h : LC w F lb d most v dn k b off c0 c) (hP : Pf w F lb) (hPb : 0 < b) (hg : c.g < 18446744073709551616) (hi : c.cnt ≤ 1000000000000) (hz : c.size ≤ 1000000000000) (hmo : most ≤ 1000000000000) (hst : k.steps < 999999) (hfl : k.fs.length < 999999)
  (a : Option Addr) (n cc : Nat) (xs : List Int) (hR : Rd w a n cc xs) (hn : n ≤ 1048576) :
  Calls Tryz.prog 65 #[.pointer (some ⟨lb, 0, none⟩), .pointer (some ⟨b, off, none⟩), .slice a n cc] w fun e w' => Gs (layL most c (formL xs) dn k).1 e ∧ Lcp w F lb d most v (layL most c (formL xs) dn k).2.2.1 (layL most c (formL xs) dn k).2.2.2 b off c0 (layL most c (formL xs) dn k).2.1 w' := by
 have hfo := form_any a n cc xs w hR hn
 have hlen := formL_len xs
 rw [hR.len] at hlen
 have HYb : Hid (Bd (formL xs)) := by
  show Bd (formL xs)
  unfold formL
  exact ((bigL_bd _ _).append (bigL_bd _ _)).append hR.bytes
 obtain ⟨Y, HY⟩ : ∃ Y, Hid (formL xs = Y) := ⟨_, rfl⟩
 rw [HY.out] at hfo hlen HYb ⊢
 obtain ⟨M, HM⟩ : ∃ M, Hid (8 + n = M) := ⟨_, rfl⟩
 rw [HM.out] at hfo hlen
 obtain ⟨R, HR⟩ : ∃ R, Hid (layL most c Y dn k = R) := ⟨_, rfl⟩
 rw [HR.out]
 obtain ⟨eR, cR, dnR, kR⟩ := R
 dsimp only
 have hM9 : M ≤ 1048584 := by have := HM.out; omega
 obtain ⟨I, HI⟩ : ∃ I, Hid (max c.cnt 1 = I) := ⟨_, rfl⟩
 have hIe : max (c.cnt : Int) 1 = (I : Int) := by rw [← HI.out]; omega
 have hI9 : I ≤ 1000000000001 := by have := HI.out; omega
 have hmx := fun (w : World) (ty : TypeId) => max_int (c.cnt : Int) 1 ty w
 rw [hIe] at hmx
 go_enter Tryz.func65, Tryz.ntmps65
 go_upto_region 1 with (first
  | (go_at_call 101; refine hfo.mono ?_; rintro e w5 ⟨v5, rfl, o5, hb5⟩))
 obtain ⟨a5, c5, rfl, r5⟩ := Rd.ofOwn o5 HYb.out
 have hl5 : ∀ ad, a5 = some ad → w.heap.size ≤ ad.block := fun ad had => by
  obtain ⟨ap, cp, e8, hob8⟩ := own_form o5
  exact (o5.lt ad.block (by rw [had]; cases ap with | none => (rw [had] at e8; cases e8) | some g => (rw [had] at e8; cases e8; rfl))).1
 have h5 := h.below hb5
 have hP5 := hP.below hb5
 refine wp_region_lx (fun w' => w' = w5.drew) [] 11 (by kernel_rfl) (by kernel_rfl) ?_
 have hbd : Below w5.heap.size w5 w5.drew := (Below.refl _ _).drew
 have r6 := r5.carry (Nat.le_refl _) hbd
 have h6 := h5.below hbd
 have hP6 := hP5.below hbd
 have hb6 : Below w.heap.size w w5.drew := hb5.drew
 clear h5 hP5 r5 o5 hb5 hbd
 generalize w5.drew = X at *
 have p1 : X.cell? ⟨b, off + 1, none⟩ = some (.int .i64 (c.cnt : Int)) := h6.cell 1 (by omega)
 have p2 : X.cell? ⟨b, off + 2, none⟩ = some (.int .i64 (c.size : Int)) := h6.cell 2 (by omega)
 have p9 := h6.L.c1
 have HSx : X = X := rfl
 refine lx_r 0 _ HSx ?_; simp only [lxa, lxb, lxc]
 refine lx_r 1 (.pointer (some ⟨b, off, none⟩)) HSx ?_; simp only [lxa, lxb, lxc]
 refine lx_r 2 (.pointer (some ⟨b, off + 1, none⟩)) HSx ?_; simp only [lxa, lxb, lxc]
 refine lx_r 3 (.int .i64 (c.cnt : Int)) HSx ?_ (hv := fun w' hS => by subst hS; first | (go_simp; rfl) | go_simp); simp only [lxa, lxb, lxc]
 refine lx_r 4 (.int .i64 (I : Int)) HSx ?_; simp only [lxa, lxb, lxc]
 refine lx_r 5 _ HSx ?_; simp only [lxa, lxb, lxc]
 refine lx_r 6 (.pointer (some ⟨b, off, none⟩)) HSx ?_; simp only [lxa, lxb, lxc]
 refine lx_r 7 (.pointer (some ⟨b, off + 2, none⟩)) HSx ?_; simp only [lxa, lxb, lxc]
 refine lx_r 8 (.int .i64 (c.size : Int)) HSx ?_ (hv := fun w' hS => by subst hS; first | (go_simp; rfl) | go_simp); simp only [lxa, lxb, lxc]
 refine lx_r 9 _ HSx ?_; simp only [lxa, lxb, lxc]
 refine lx_r 10 _ HSx ?_; simp only [lxa, lxb, lxc]
 refine lx_nil (by kernel_rfl) ?_
 have kp6 : Keep (fun i => F i ∨ i = lb ∨ i = b) w X := Keep.ofBelow hb6
 clear hmx HSx
 by_cases hfull : 0 < c.size ∧ most < c.size + M
 ·have hEq0 : layL most c Y dn k = if (settleL c dn k).1 ≠ 0 then settleL c dn k else putS (I + 1) 0 (settleL c dn k).2.1 Y (settleL c dn k).2.2.1 (settleL c dn k).2.2.2 := by
   unfold layL
   rw [if_pos (by rw [hlen]; exact hfull), HI.out]
  have hse := settle_any X F lb d most v dn k b off c0 c h6 hP6 hg (by omega) (by omega) (by omega)
  obtain ⟨gr1, gr2, gr3, gr4⟩ := settle_gr c dn k
  obtain ⟨Q, HQ⟩ : ∃ Q, Hid (settleL c dn k = Q) := ⟨_, rfl⟩
  rw [HQ.out] at hse gr1 gr2 gr3 gr4 hEq0
  obtain ⟨eq, c1, dn1, k1⟩ := Q
  dsimp only at hse gr1 gr2 gr3 gr4 hEq0
  have hz1 : (0 : Int) < (c.size : Int) := by omega
  have hz2 : (most : Int) < (c.size : Int) + (M : Int) := by omega
  clear hfull
  by_cases hq0 : eq = 0
  ·subst hq0
   rw [if_neg (by simp)] at hEq0
   have hEq : Hid (layL most c Y dn k = putS (I + 1) 0 c1 Y dn1 k1) := hEq0
   clear hEq0
   go_upto_region 5 with (first
    | (go_at_call 68; refine (hse.mono (fun e w' h => And.intro (h.1.elim (fun k => k.2) (fun k => absurd rfl k.1)) h.2 : ∀ e w', _ → (e = .returned (.tuple #[]) ∧ _))).mono ?_; rintro e w4 ⟨rfl, F4, hL4, hk4, hF4⟩))
   have kp4 : Keep (fun i => F i ∨ i = lb ∨ i = b) w w4 := kp6.trans hk4
   have hF40 : ∀ i, F4 i → F i ∨ w.heap.size ≤ i := fun i hi => (hF4 i hi).imp id (fun h => Nat.le_trans hb6.size h)
   have hP4 : Pf w4 F4 lb := hP6.next3 hPb hk4 hF4
   have r4 : Rd w4 a5 M c5 Y := r6.keep hk4 (fun ad had hs => by
    have h1 := hl5 ad had
    rcases hs with hs | hs | hs
    ·have := h.L.D.lt _ hs; omega
    ·have := h.L.lt; omega
    ·have := h.ltb; omega)
   have hI1 : ((I + 1 : Nat) : Int) = (I : Int) + 1 := by omega
   clear hse hk4 hF4 h6 hP6 r6 p1 p2 p9 hz1 hz2
   have hsgu := segment_any b off c1.g (I + 1) (by rw [gr3]; exact hg) (by omega) w4 hP4.pw (hL4.cell 0 (by omega))
   obtain ⟨s, Hs⟩ : ∃ s, Hid (segN c1.g (I + 1) = s) := ⟨_, rfl⟩
   rw [Hs.out] at hsgu
   rw [hI1] at hsgu
   have hwru := fun w' (hb : Below w4.heap.size w4 w') => swrite_any lb d most F4 v _ dn1 k1 s a5 M c5 Y (by omega) (by omega) (by omega) w' (hL4.L.below hb) (r4.carry (Nat.le_refl _) hb)
   obtain ⟨P, HP⟩ : ∃ P, Hid (stp dn1 k1 (appK k1 s Y) = P) := ⟨_, rfl⟩
   simp only [HP.out] at hwru
   obtain ⟨en, dn', k'⟩ := P
   dsimp only at hwru
   have hpp : stp dn1 k1 (appK k1 (segN c1.g (I + 1)) Y) = (en, dn', k') := by rw [Hs.out]; exact HP.out
   have hpe : Hid (layL most c Y dn k = (en, (if en = 0 then ⟨c1.g, (I + 1), 0 + M, true⟩ else c1), dn', k')) := by
    show _ = _
    rw [hEq.out, putS_eq hpp, hlen]
   clear hpp
   have hfinu : ∀ w1 w2, Below w4.heap.size w4 w1 → Lp w1 F4 lb d most v (if b = lb then c1 else c0) dn' k' w2 → Lcp w F lb d most v dn' k' b off c0 c1 w2 := fun w1 w2 hb hp => Lcp.next kp4 hF40 (((hL4.below hb).step hp).from hb)
   by_cases h0 : en = 0
   ·subst h0
    have hres := HR.out.symm.trans hpe.out
    rw [if_pos rfl] at hres
    simp only [Prod.mk.injEq] at hres
    obtain ⟨e1, e2, e3, e4⟩ := hres
    subst eR cR dnR kR
    clear hpe HR
    go_wp2_with (first
     | (go_at_call 103; refine hsgu.mono ?_; rintro e w7 ⟨rfl, hb7⟩)
     | (go_at_call 102; refine ((hwru w7 hb7).mono (fun e w' h => And.intro (h.1.elim (fun k => k.2) (fun k => absurd rfl k.1)) h.2 : ∀ e w', _ → (e = .returned (.tuple #[]) ∧ _))).mono ?_; rintro e w8 ⟨rfl, hp⟩; obtain ⟨F8, hL8, hk8, hF8⟩ := hfinu w7 w8 hb7 hp; have p1 : w8.cell? ⟨b, off + 1, none⟩ = some (.int .i64 (c1.cnt : Int)) := hL8.cell 1 (by omega); have z1 := hL8.fz (off + 1); have hL9 := hL8.set 1 (.int .i64 ((I : Int) + 1)) (c' := ⟨c1.g, (I + 1), c1.size, c1.loose⟩) rfl rfl; have p2 : (w8.setCell ⟨b, off + 1, none⟩ (.int .i64 ((I : Int) + 1))).cell? ⟨b, off + 2, none⟩ = some (.int .i64 (c1.size : Int)) := hL9.cell 2 (by omega); have z2 := hL9.fz (off + 2); have hL10 := hL9.set 2 (.int .i64 ((M : Int))) (c' := ⟨c1.g, (I + 1), 0 + M, c1.loose⟩) (by rw [Nat.zero_add]; rfl) (by rw [Nat.zero_add]; rfl); have p3 : ((w8.setCell ⟨b, off + 1, none⟩ (.int .i64 ((I : Int) + 1))).setCell ⟨b, off + 2, none⟩ (.int .i64 ((M : Int)))).cell? ⟨b, off + 3, none⟩ = some (.bool c1.loose) := hL10.cell 3 (by omega); have z3 := hL10.fz (off + 3)))
    go_end0
    refine ⟨Or.inl ⟨rfl, rfl⟩, F8, hL10.set 3 _ rfl rfl, ?_, hF8⟩
    exact ((hk8.setCell (p := ⟨b, off + 1, none⟩) (Or.inr (Or.inr rfl)) _).setCell (p := ⟨b, off + 2, none⟩) (Or.inr (Or.inr rfl)) _).setCell (p := ⟨b, off + 3, none⟩) (Or.inr (Or.inr rfl)) _
   ·have hres := HR.out.symm.trans hpe.out
    rw [if_neg h0] at hres
    simp only [Prod.mk.injEq] at hres
    obtain ⟨e1, e2, e3, e4⟩ := hres
    subst eR cR dnR kR
    clear hpe HR
    go_wp2_with (first
     | (go_at_call 103; refine hsgu.mono ?_; rintro e w7 ⟨rfl, hb7⟩)
     | (go_at_call 102; refine ((hwru w7 hb7).mono (fun e w' h => And.intro (h.1.elim (fun k => absurd k.1 h0) (fun k => k.2)) h.2 : ∀ e w', _ → (e = .panicked (gaveS en) ∧ _))).mono ?_; rintro e w8 ⟨rfl, hp⟩))
    exact ⟨rfl, gs_no h0 rfl, hfinu w7 w8 hb7 hp⟩
  ·rw [if_pos hq0] at hEq0
   have hres := HR.out.symm.trans hEq0
   simp only [Prod.mk.injEq] at hres
   obtain ⟨e1, e2, e3, e4⟩ := hres
   subst eR cR dnR kR
   clear hEq0 HR
   go_wp2_with (first
    | (go_at_call 68; refine (hse.mono (fun e w' h => And.intro (h.1.elim (fun k => absurd k.1 hq0) (fun k => k.2)) h.2 : ∀ e w', _ → (e = .panicked (gaveS eq) ∧ _))).mono ?_; rintro e w4 ⟨rfl, hp4⟩))
   exact ⟨rfl, gs_no hq0 rfl, Lcp.next kp6 (fun i hi => Or.inl hi) hp4⟩
 ·have hEq : Hid (layL most c Y dn k = putS I c.size c Y dn k) := by
   show _ = _
   unfold layL
   rw [if_neg (by rw [hlen]; exact hfull), HI.out]
  have hF60 : ∀ i, F i → F i ∨ w.heap.size ≤ i := fun i hi => Or.inl hi
  by_cases hz0 : 0 < c.size
  ·have hz1 : (0 : Int) < (c.size : Int) := by omega
   have hz2 : ¬ (most : Int) < (c.size : Int) + (M : Int) := by omega
   clear hfull p1 p2
   go_upto_region 5 with fail
   have hsgv := segment_any b off c.g I hg (by omega) X hP6.pw (h6.cell 0 (by omega))
   obtain ⟨s, Hs⟩ : ∃ s, Hid (segN c.g I = s) := ⟨_, rfl⟩
   rw [Hs.out] at hsgv
   have hwrv := fun w' (hb : Below X.heap.size X w') => swrite_any lb d most F v _ dn k s a5 M c5 Y (by omega) (by omega) (by omega) w' (h6.L.below hb) (r6.carry (Nat.le_refl _) hb)
   obtain ⟨P, HP⟩ : ∃ P, Hid (stp dn k (appK k s Y) = P) := ⟨_, rfl⟩
   simp only [HP.out] at hwrv
   obtain ⟨en, dn', k'⟩ := P
   dsimp only at hwrv
   have hpp : stp dn k (appK k (segN c.g I) Y) = (en, dn', k') := by rw [Hs.out]; exact HP.out
   have hpe : Hid (layL most c Y dn k = (en, (if en = 0 then ⟨c.g, I, c.size + M, true⟩ else c), dn', k')) := by
    show _ = _
    rw [hEq.out, putS_eq hpp, hlen]
   clear hpp
   have hfinv : ∀ w1 w2, Below X.heap.size X w1 → Lp w1 F lb d most v (if b = lb then c else c0) dn' k' w2 → Lcp w F lb d most v dn' k' b off c0 c w2 := fun w1 w2 hb hp => Lcp.next kp6 hF60 (((h6.below hb).step hp).from hb)
   by_cases h0 : en = 0
   ·subst h0
    have hres := HR.out.symm.trans hpe.out
    rw [if_pos rfl] at hres
    simp only [Prod.mk.injEq] at hres
    obtain ⟨e1, e2, e3, e4⟩ := hres
    subst eR cR dnR kR
    clear hpe HR
    go_wp2_with (first
     | (go_at_call 103; refine hsgv.mono ?_; rintro e w7 ⟨rfl, hb7⟩)
     | (go_at_call 102; refine ((hwrv w7 hb7).mono (fun e w' h => And.intro (h.1.elim (fun k => k.2) (fun k => absurd rfl k.1)) h.2 : ∀ e w', _ → (e = .returned (.tuple #[]) ∧ _))).mono ?_; rintro e w8 ⟨rfl, hp⟩; obtain ⟨F8, hL8, hk8, hF8⟩ := hfinv w7 w8 hb7 hp; have p1 : w8.cell? ⟨b, off + 1, none⟩ = some (.int .i64 (c.cnt : Int)) := hL8.cell 1 (by omega); have z1 := hL8.fz (off + 1); have hL9 := hL8.set 1 (.int .i64 ((I : Int))) (c' := ⟨c.g, I, c.size, c.loose⟩) rfl rfl; have p2 : (w8.setCell ⟨b, off + 1, none⟩ (.int .i64 ((I : Int)))).cell? ⟨b, off + 2, none⟩ = some (.int .i64 (c.size : Int)) := hL9.cell 2 (by omega); have z2 := hL9.fz (off + 2); have hL10 := hL9.set 2 (.int .i64 ((c.size : Int) + (M : Int))) (c' := ⟨c.g, I, c.size + M, c.loose⟩) (by rw [← Int.natCast_add]; rfl) (by rw [← Int.natCast_add]; rfl); have p3 : ((w8.setCell ⟨b, off + 1, none⟩ (.int .i64 ((I : Int)))).setCell ⟨b, off + 2, none⟩ (.int .i64 ((c.size : Int) + (M : Int)))).cell? ⟨b, off + 3, none⟩ = some (.bool c.loose) := hL10.cell 3 (by omega); have z3 := hL10.fz (off + 3)))
    go_end0
    refine ⟨Or.inl ⟨rfl, rfl⟩, F8, hL10.set 3 _ rfl rfl, ?_, hF8⟩
    exact ((hk8.setCell (p := ⟨b, off + 1, none⟩) (Or.inr (Or.inr rfl)) _).setCell (p := ⟨b, off + 2, none⟩) (Or.inr (Or.inr rfl)) _).setCell (p := ⟨b, off + 3, none⟩) (Or.inr (Or.inr rfl)) _
   ·have hres := HR.out.symm.trans hpe.out
    rw [if_neg h0] at hres
    simp only [Prod.mk.injEq] at hres
    obtain ⟨e1, e2, e3, e4⟩ := hres
    subst eR cR dnR kR
    clear hpe HR
    go_wp2_with (first
     | (go_at_call 103; refine hsgv.mono ?_; rintro e w7 ⟨rfl, hb7⟩)
     | (go_at_call 102; refine ((hwrv w7 hb7).mono (fun e w' h => And.intro (h.1.elim (fun k => absurd k.1 h0) (fun k => k.2)) h.2 : ∀ e w', _ → (e = .panicked (gaveS en) ∧ _))).mono ?_; rintro e w8 ⟨rfl, hp⟩))
    exact ⟨rfl, gs_no h0 rfl, hfinv w7 w8 hb7 hp⟩
  ·have hz1 : ¬ (0 : Int) < (c.size : Int) := by omega
   clear hfull p1 p2 p9
   go_upto_region 5 with fail
   have hsgx := segment_any b off c.g I hg (by omega) X hP6.pw (h6.cell 0 (by omega))
   obtain ⟨s, Hs⟩ : ∃ s, Hid (segN c.g I = s) := ⟨_, rfl⟩
   rw [Hs.out] at hsgx
   have hwrx := fun w' (hb : Below X.heap.size X w') => swrite_any lb d most F v _ dn k s a5 M c5 Y (by omega) (by omega) (by omega) w' (h6.L.below hb) (r6.carry (Nat.le_refl _) hb)
   obtain ⟨P, HP⟩ : ∃ P, Hid (stp dn k (appK k s Y) = P) := ⟨_, rfl⟩
   simp only [HP.out] at hwrx
   obtain ⟨en, dn', k'⟩ := P
   dsimp only at hwrx
   have hpp : stp dn k (appK k (segN c.g I) Y) = (en, dn', k') := by rw [Hs.out]; exact HP.out
   have hpe : Hid (layL most c Y dn k = (en, (if en = 0 then ⟨c.g, I, c.size + M, true⟩ else c), dn', k')) := by
    show _ = _
    rw [hEq.out, putS_eq hpp, hlen]
   clear hpp
   have hfinx : ∀ w1 w2, Below X.heap.size X w1 → Lp w1 F lb d most v (if b = lb then c else c0) dn' k' w2 → Lcp w F lb d most v dn' k' b off c0 c w2 := fun w1 w2 hb hp => Lcp.next kp6 hF60 (((h6.below hb).step hp).from hb)
   by_cases h0 : en = 0
   ·subst h0
    have hres := HR.out.symm.trans hpe.out
    rw [if_pos rfl] at hres
    simp only [Prod.mk.injEq] at hres
    obtain ⟨e1, e2, e3, e4⟩ := hres
    subst eR cR dnR kR
    clear hpe HR
    go_wp2_with (first
     | (go_at_call 103; refine hsgx.mono ?_; rintro e w7 ⟨rfl, hb7⟩)
     | (go_at_call 102; refine ((hwrx w7 hb7).mono (fun e w' h => And.intro (h.1.elim (fun k => k.2) (fun k => absurd rfl k.1)) h.2 : ∀ e w', _ → (e = .returned (.tuple #[]) ∧ _))).mono ?_; rintro e w8 ⟨rfl, hp⟩; obtain ⟨F8, hL8, hk8, hF8⟩ := hfinx w7 w8 hb7 hp; have p1 : w8.cell? ⟨b, off + 1, none⟩ = some (.int .i64 (c.cnt : Int)) := hL8.cell 1 (by omega); have z1 := hL8.fz (off + 1); have hL9 := hL8.set 1 (.int .i64 ((I : Int))) (c' := ⟨c.g, I, c.size, c.loose⟩) rfl rfl; have p2 : (w8.setCell ⟨b, off + 1, none⟩ (.int .i64 ((I : Int)))).cell? ⟨b, off + 2, none⟩ = some (.int .i64 (c.size : Int)) := hL9.cell 2 (by omega); have z2 := hL9.fz (off + 2); have hL10 := hL9.set 2 (.int .i64 ((c.size : Int) + (M : Int))) (c' := ⟨c.g, I, c.size + M, c.loose⟩) (by rw [← Int.natCast_add]; rfl) (by rw [← Int.natCast_add]; rfl); have p3 : ((w8.setCell ⟨b, off + 1, none⟩ (.int .i64 ((I : Int)))).setCell ⟨b, off + 2, none⟩ (.int .i64 ((c.size : Int) + (M : Int)))).cell? ⟨b, off + 3, none⟩ = some (.bool c.loose) := hL10.cell 3 (by omega); have z3 := hL10.fz (off + 3)))
    go_end0
    refine ⟨Or.inl ⟨rfl, rfl⟩, F8, hL10.set 3 _ rfl rfl, ?_, hF8⟩
    exact ((hk8.setCell (p := ⟨b, off + 1, none⟩) (Or.inr (Or.inr rfl)) _).setCell (p := ⟨b, off + 2, none⟩) (Or.inr (Or.inr rfl)) _).setCell (p := ⟨b, off + 3, none⟩) (Or.inr (Or.inr rfl)) _
   ·have hres := HR.out.symm.trans hpe.out
    rw [if_neg h0] at hres
    simp only [Prod.mk.injEq] at hres
    obtain ⟨e1, e2, e3, e4⟩ := hres
    subst eR cR dnR kR
    clear hpe HR
    go_wp2_with (first
     | (go_at_call 103; refine hsgx.mono ?_; rintro e w7 ⟨rfl, hb7⟩)
     | (go_at_call 102; refine ((hwrx w7 hb7).mono (fun e w' h => And.intro (h.1.elim (fun k => absurd k.1 h0) (fun k => k.2)) h.2 : ∀ e w', _ → (e = .panicked (gaveS en) ∧ _))).mono ?_; rintro e w8 ⟨rfl, hp⟩))
    exact ⟨rfl, gs_no h0 rfl, hfinx w7 w8 hb7 hp⟩
end Go.Proofs.YtikkieaokfailaaGreatDoor

namespace Go.Proofs.YtikkieaokfailaaGreatDoor
open Go.RowKit Go.Joins
structure RcA (w : World) (H : Nat → Prop) (v : Value) (rs : List (List Int)) : Prop where
 ex : ∃ vs, w.ownsRow 0 29 1 v rs.length vs ∧ ∀ (i : Nat) r, rs[i]? = some r → ∃ u, vs[i]? = some u ∧ w.ownsRow 0 5 1 u r.length (bc r) ∧ (∀ g, u.ownBlock = some g → H g) ∧ Bd r
 own : ∀ g, v.ownBlock = some g → H g
theorem RcA.keep {S H H' : Nat → Prop} {w w' : World} {v : Value} {rs : List (List Int)} (h : RcA w H v rs) (hk : Keep S w w') (hs : ∀ i, H i → ¬ S i) (hH : ∀ i, H i → H' i) : RcA w' H' v rs := by
 obtain ⟨⟨vs, h1, h2⟩, h3⟩ := h
 refine ⟨⟨vs, own_keep h1 hk (fun g hg => hs g (h3 g hg)), fun i r hr => ?_⟩, fun g hg => hH g (h3 g hg)⟩
 obtain ⟨u, k1, k2, k3, k4⟩ := h2 i r hr
 exact ⟨u, k1, own_keep k2 hk (fun g hg => hs g (k3 g hg)), fun g hg => hH g (k3 g hg), k4⟩
theorem rcA_nil (w : World) (H : Nat → Prop) : RcA w H (.slice none 0 0) [] := ⟨⟨[], ⟨rfl, .inl ⟨rfl, rfl⟩⟩, fun i r h => by simp at h⟩, fun g h => by cases h⟩
theorem own_blkT {w : World} {B sz n : Nat} {t : TypeId} {v : Value} {xs : List Value} (h : w.ownsRow B t sz v n xs) {g : Nat} (hg : v.ownBlock = some g) : ∃ cur, w.heap[g]? = some (.cells cur t (0, 0)) := by
 rcases h.2 with ⟨rfl, _⟩ | ⟨g', cap, cur, rfl, _, hh, _⟩
 ·cases hg
 ·have e : g' = g := by simpa [Value.ownBlock] using hg
  subst e
  exact ⟨cur, hh⟩
theorem RcA.app {w w' : World} {H : Nat → Prop} {v v' u : Value} {rs : List (List Int)} {r : List Int} {vs : List Value} (h1 : w.ownsRow 0 29 1 v rs.length vs) (h2 : ∀ (i : Nat) r, rs[i]? = some r → ∃ u, vs[i]? = some u ∧ w.ownsRow 0 5 1 u r.length (bc r) ∧ (∀ g, u.ownBlock = some g → H g) ∧ Bd r)
  (ho : w'.ownsRow 0 29 1 v' (rs.length + 1) (vs ++ [u])) (hk : Keep (fun k => v.ownBlock = some k) w w') (hu : w.ownsRow 0 5 1 u r.length (bc r)) (huH : ∀ g, u.ownBlock = some g → H g) (hb : Bd r) (hv' : ∀ g, v'.ownBlock = some g → H g) : RcA w' H v' (rs ++ [r]) := by
 have hvl : vs.length = rs.length := by have := h1.1; simpa using this
 have hne : ∀ u2 (r2 : List Int), w.ownsRow 0 5 1 u2 r2.length (bc r2) → ∀ g, u2.ownBlock = some g → ¬ v.ownBlock = some g := fun u2 r2 h g hg hv => by
  obtain ⟨c1, e1⟩ := own_blkT h hg
  obtain ⟨c2, e2⟩ := own_blkT h1 hv
  rw [e1] at e2
  cases e2
 refine ⟨⟨vs ++ [u], by rw [List.length_append]; exact ho, fun i r' hr => ?_⟩, hv'⟩
 by_cases hi : i < rs.length
 ·rw [List.getElem?_append_left hi] at hr
  obtain ⟨u2, k1, k2, k3, k4⟩ := h2 i r' hr
  exact ⟨u2, by rw [List.getElem?_append_left (by omega)]; exact k1, own_keep k2 hk (hne u2 r' k2), k3, k4⟩
 ·have hi2 : i = rs.length := by
   have := (List.getElem?_eq_some_iff.1 hr).1
   simp at this
   omega
  subst hi2
  have hr' : r' = r := by simpa using hr.symm
  subst hr'
  exact ⟨u, by rw [← hvl]; simp, own_keep hu hk (hne u r' hu), huH, hb⟩
structure Lg where
 most : Nat
 recs : List (List Int)
 ch : Ch
 dn : Bool
structure LogAt (w : World) (F H : Nat → Prop) (lb d : Nat) (l : Lg) (k : Dk) : Prop where
 ex : ∃ v, LD w F lb d l.most v l.ch l.dn k ∧ RcA w H v l.recs
 hf : ∀ i, H i → ¬ F i
 hl : ¬ H lb
 lt : ∀ i, H i → i < w.heap.size
 pf : Pf w F lb
 ph : ∀ i, H i → 0 < i
theorem LogAt.below {w w' : World} {F H : Nat → Prop} {lb d : Nat} {l : Lg} {k : Dk} (h : LogAt w F H lb d l k) (hb : Below w.heap.size w w') : LogAt w' F H lb d l k := by
 obtain ⟨v, h1, h2⟩ := h.ex
 exact ⟨⟨v, h1.below hb, h2.keep (S := fun _ => False) (Keep.ofBelow hb) (fun _ _ h => h) (fun _ h => h)⟩, h.hf, h.hl, fun i hi => Nat.lt_of_lt_of_le (h.lt i hi) hb.size, h.pf.below hb, h.ph⟩
def Lgp (w : World) (F H : Nat → Prop) (lb d : Nat) (l : Lg) (k : Dk) (w' : World) : Prop := ∃ F' H', LogAt w' F' H' lb d l k ∧ Keep (fun i => F i ∨ H i ∨ i = lb) w w' ∧ (∀ i, F' i → F i ∨ w.heap.size ≤ i) ∧ (∀ i, H' i → H i ∨ w.heap.size ≤ i)
theorem Lgp.refl {w : World} {F H : Nat → Prop} {lb d : Nat} {l : Lg} {k : Dk} (h : LogAt w F H lb d l k) : Lgp w F H lb d l k w := ⟨F, H, h, Keep.refl _ _, fun _ h => Or.inl h, fun _ h => Or.inl h⟩
theorem Lgp.from {w0 w w' : World} {F H : Nat → Prop} {lb d : Nat} {l : Lg} {k : Dk} (hb : Below w0.heap.size w0 w) (h : Lgp w F H lb d l k w') : Lgp w0 F H lb d l k w' := by
 obtain ⟨F', H', h1, h2, h3, h4⟩ := h
 exact ⟨F', H', h1, (Keep.ofBelow hb).trans h2, fun i hi => (h3 i hi).imp id (fun h => Nat.le_trans hb.size h), fun i hi => (h4 i hi).imp id (fun h => Nat.le_trans hb.size h)⟩
theorem Lgp.err {w0 w1 : World} {o : Obj} {F H : Nat → Prop} {lb d : Nat} {l : Lg} {k : Dk} (h : Lgp (w0.alloc o) F H lb d l k w1) (hF : ∀ i, F i → i < w0.heap.size) (hH : ∀ i, H i → i < w0.heap.size) (hlb : lb < w0.heap.size) (hg : 0 < w0.heap.size) (v : Value) : Lgp w0 F H lb d l k (w1.setCell ⟨w0.heap.size, 0, none⟩ v) := by
 obtain ⟨F', H', h1, h2, h3, h4⟩ := h
 have hs : (w0.alloc o).heap.size = w0.heap.size + 1 := by simp
 have hk : Keep (fun k => k = w0.heap.size) w1 (w1.setCell ⟨w0.heap.size, 0, none⟩ v) := (Keep.refl (fun k => k = w0.heap.size) w1).setCell (p := ⟨w0.heap.size, 0, none⟩) rfl v
 have hnF : ∀ i, F' i → i ≠ w0.heap.size := fun i hi e => by
  rcases h3 i hi with h | h
  ·have := hF i h; omega
  ·omega
 have hnH : ∀ i, H' i → i ≠ w0.heap.size := fun i hi e => by
  rcases h4 i hi with h | h
  ·have := hH i h; omega
  ·omega
 obtain ⟨u, k1, k2⟩ := h1.ex
 refine ⟨F', H', ⟨⟨u, k1.keep hk hnF (by omega), k2.keep hk hnH (fun _ h => h)⟩, h1.hf, h1.hl, fun i hi => Nat.lt_of_lt_of_le (h1.lt i hi) hk.size, ⟨h1.pf.pw.keep hk (by omega), h1.pf.fl, h1.pf.ll⟩, h1.ph⟩, (((Keep.refl _ w0).alloc o).trans h2).setNew (Nat.le_refl _) v, fun i hi => (h3 i hi).imp id (fun h => by omega), fun i hi => (h4 i hi).imp id (fun h => by omega)⟩
theorem LogAt.own {w w' : World} {F H : Nat → Prop} {lb d : Nat} {l : Lg} {k k' : Dk} {v : Value} {c' : Ch} {dn' : Bool} (h : LogAt w F H lb d l k) (hv : RcA w H v l.recs) (hp : Lcp w F lb d l.most v dn' k' lb 3 c' c' w') :
  ∃ F', LD w' F' lb d l.most v c' dn' k' ∧ RcA w' H v l.recs ∧ Keep (fun i => F i ∨ H i ∨ i = lb) w w' ∧ (∀ i, F' i → F i ∨ w.heap.size ≤ i) ∧ (∀ i, H i → ¬ F' i) ∧ Pf w' F' lb ∧ ∀ i, H i → i < w'.heap.size := by
 obtain ⟨F', h1, h2, h3⟩ := hp
 have hL := h1.L
 rw [if_pos rfl] at hL
 have hk : Keep (fun i => F i ∨ i = lb) w w' := h2.mono (fun i hi => hi.elim Or.inl (fun h => Or.inr (h.elim id id)))
 refine ⟨F', hL, hv.keep hk (fun i hi hs => hs.elim (h.hf i hi) (fun e => h.hl (by rw [← e]; exact hi))) (fun _ h => h), hk.mono (fun i hi => hi.elim Or.inl (fun h => Or.inr (Or.inr h))), h3, fun i hi hf => ?_, h.pf.next hk h3, fun i hi => Nat.lt_of_lt_of_le (h.lt i hi) hk.size⟩
 rcases h3 i hf with h4 | h4
 ·exact h.hf i hi h4
 ·have := h.lt i hi; omega
theorem own_sl {w : World} {B sz n : Nat} {t : TypeId} {v : Value} {xs : List Value} (h : w.ownsRow B t sz v n xs) : ∃ a c, v = .slice a n c := by
 rcases h.2 with ⟨rfl, rfl⟩ | ⟨g, cap, cur, rfl, _⟩
 ·exact ⟨_, _, rfl⟩
 ·exact ⟨_, _, rfl⟩
theorem exec_appW {w w' : World} {o : Oper} {ρ : Operand → Value} {s x : Operand} {v u v' : Value} (ho : o.op = .call { callee := .builtin .append, args := #[s, x], argTypes := #[30, 30] }) (hs : ρ s = v) (hx : ρ x = u)
  (hrun : (Builtin.append_ #[30, 30] o.type #[v, u]).run Tryz.prog w = .ok v' w') : (execOp ρ o).run Tryz.prog w = .ok (.value v') w' := by
 simp only [execOp, ho, resolve, invoke, builtin, Sem.run_bind, Sem.run_pure, Result.andThen_ok, List.map_toArray, List.map_cons, List.map_nil, hs, hx, hrun]
theorem infoRow : (Tryz.prog.info? 29).map (fun i => (i.zero, i.size, i.bytes)) = some (some (.slice none 0 0), 1, 24) := by kernel_rfl
set_option maxRecDepth 100000 in
theorem app_whereW {w : World} {base : Nat} {v : Value} {n : Nat} {xs : List Value} (hown : w.ownsRow base 29 1 v n xs) {ad : Addr} {c : Nat} {u : Value} (hu : u.oneCell' = true) (hr : ∀ j x, [u][j]? = some x → w.cell? (ad.add j) = some x) (hb : n ≤ 1000000) {ty : TypeId} {v' : Value} {w' : World}
  (hrun : (Builtin.append_ #[30, 30] ty #[v, .slice (some ad) 1 c]).run Tryz.prog w = .ok v' w') : v'.ownBlock = v.ownBlock ∨ v'.ownBlock = some w.heap.size := by
 obtain ⟨i0, hi, hz0, hz1, hz2⟩ := info_parts infoRow
 have hl : [u].length = 1 * i0.size := by rw [hz1]; rfl
 rcases hown.2 with ⟨rfl, rfl⟩ | ⟨g, cap, cur, rfl, hbg, hg, hnc, hcm, hcs, htake⟩
 ·right
  have hr2 := run_append_nil (P := Tryz.prog) w 30 ty 29 i0 (.slice none 0 0) Tryz.underlying30 hi hz0 ad 1 c [u] hl hr (by omega) (by omega) (by rw [hz2]; omega)
  rw [hr2] at hrun
  injection hrun with e _
  rw [← e]; rfl
 ·by_cases hroom : n + 1 ≤ cap
  ·left
   have hr2 := run_append_room (P := Tryz.prog) w 30 ty 29 i0 Tryz.underlying30 hi g n cap cur hg ad 1 c [u] hl hr (by simpa using hu) hroom (by rw [hl, hcs, hz1]; omega)
   rw [hr2] at hrun
   injection hrun with e _
   rw [← e]; rfl
  ·right
   have hr2 := run_append_grow (P := Tryz.prog) w 30 ty 29 i0 (.slice none 0 0) Tryz.underlying30 hi hz0 ⟨g, 0, none⟩ n cap xs (by rw [hown.1, hz1]) (hown.cells (g := g) rfl) ad 1 c [u] hl hr (by omega) (by omega) (growslice_fits (by omega) (by rw [hz2]; omega))
   rw [hr2] at hrun
   injection hrun with e _
   rw [← e]; rfl
theorem run_appW {w : World} (ty : TypeId) {base : Nat} {v : Value} {n : Nat} {xs : List Value} (hown : w.ownsRow base 29 1 v n xs) (a : Option Addr) (m c : Nat) (hn : n ≤ 1000000) (hbase : base ≤ w.heap.size) :
  ∃ v' w', (Builtin.append_ #[30, 30] ty #[v, .slice (some ⟨w.heap.size, 0, none⟩) 1 1]).run Tryz.prog (w.alloc (.cells #[.slice a m c] 29)) = .ok v' w' ∧ w'.ownsRow base 29 1 v' (n + 1) (xs ++ [.slice a m c]) ∧ Keep (fun k => v.ownBlock = some k) w w' ∧ (v'.ownBlock = v.ownBlock ∨ ∃ g, v'.ownBlock = some g ∧ w.heap.size ≤ g) := by
 obtain ⟨i0, hi, hz0, hz1, hz2⟩ := info_parts infoRow
 have hk0 : Keep (fun k => v.ownBlock = some k) w (w.alloc (.cells #[.slice a m c] 29)) := (Keep.refl _ _).alloc _
 have hown1 := own_keep (S := fun _ => False) hown ((Keep.refl (fun _ => False) w).alloc (.cells #[.slice a m c] 29)) (fun _ _ h => h)
 have hnw : ∀ j u, [Value.slice a m c][j]? = some u → (w.alloc (.cells #[.slice a m c] 29)).cell? ((⟨w.heap.size, 0, none⟩ : Addr).add j) = some u := fun j u hu => by
  rw [add_flat, Nat.zero_add, cell_of_block (alloc_at w (.cells #[.slice a m c] 29))]
  simpa using hu
 obtain ⟨v', w', hrun, h2, h3, _⟩ := run_append_own (P := Tryz.prog) (w.alloc (.cells #[.slice a m c] 29)) base 30 ty 29 i0 (.slice none 0 0) 1 24 Tryz.underlying30 hi hz0 hz1 hz2 rfl (by decide) v n xs hown1 ⟨w.heap.size, 0, none⟩ 1 1 [.slice a m c] (by simp) hnw (by simp [Value.oneCell']) (by unfold maxLen; omega) (by omega) (by simp; omega)
 have h4 := app_whereW hown1 (by simp [Value.oneCell']) hnw hn hrun
 refine ⟨v', w', hrun, h2, hk0.trans (Keep.ofGrown h3), ?_⟩
 rcases h4 with h4 | h4
 ·exact Or.inl h4
 ·exact Or.inr ⟨_, h4, by simp⟩
end Go.Proofs.YtikkieaokfailaaGreatDoor

namespace Go.Proofs.YtikkieaokfailaaGreatDoor
open Go.RowKit Go.Joins
def appendL (l : Lg) (k : Dk) (xs : List Int) : Nat × Lg × Dk :=
 ((layL l.most l.ch (formL xs) l.dn k).1, ⟨l.most, (if (layL l.most l.ch (formL xs) l.dn k).1 = 0 then l.recs ++ [xs] else l.recs), (layL l.most l.ch (formL xs) l.dn k).2.1, (layL l.most l.ch (formL xs) l.dn k).2.2.1⟩, (layL l.most l.ch (formL xs) l.dn k).2.2.2)
structure Lg.Ok (l : Lg) : Prop where
 g : l.ch.g < 18446744073709551616
 cnt : l.ch.cnt ≤ 1000000000000
 size : l.ch.size ≤ 1000000000000
 most : l.most ≤ 1000000000000
 recs : l.recs.length ≤ 1000000
set_option maxHeartbeats 4000000 in
set_option maxRecDepth 100000 in
theorem appendC_any (W : World) (F H : Nat → Prop) (lb d bl br : Nat) (l : Lg) (k : Dk) (h : LogAt W F H lb d l k) (ok : l.Ok) (hst : k.steps < 999999) (hfl : k.fs.length < 999999)
  (a : Option Addr) (n c : Nat) (xs : List Int) (hR : Rd W a n c xs) (hn : n ≤ 1048576) (hRF : ∀ ad, a = some ad → ¬ F ad.block ∧ ad.block ≠ lb)
  (hbl : W.heap[bl]? = some (.cells #[.pointer (some ⟨lb, 0, none⟩)] 48 (0, 0))) (hbr : W.heap[br]? = some (.cells #[.slice a n c] 29 (0, 0))) (nbl : ¬ F bl) (nbr : ¬ F br) (nhl : ¬ H bl) (nhr : ¬ H br) :
  Calls Tryz.prog 64 #[.pointer (some ⟨bl, 0, none⟩), .pointer (some ⟨br, 0, none⟩)] W fun e w' => Gs (appendL l k xs).1 e ∧ Lgp W F H lb d (appendL l k xs).2.1 (appendL l k xs).2.2 w' := by
 obtain ⟨v, hLD, hRc⟩ := h.ex
 have hbb : bl ≠ lb := fun e => by rw [e, hLD.blk] at hbl; cases hbl
 have hbb2 : br ≠ lb := fun e => by rw [e, hLD.blk] at hbr; cases hbr
 have hla := fun w' (hb : Below W.heap.size W w') => lay_any w' F lb d l.most v l.dn k lb 3 l.ch l.ch ⟨by rw [if_pos rfl]; exact hLD.below hb, fun _ => rfl, fun e => absurd rfl e⟩ (h.pf.below hb) h.pf.ll ok.g ok.cnt ok.size ok.most hst hfl a n c xs (hR.carry (Nat.le_refl _) hb) hn
 obtain ⟨R, HR⟩ : ∃ R, Hid (layL l.most l.ch (formL xs) l.dn k = R) := ⟨_, rfl⟩
 have hE : appendL l k xs = (R.1, ⟨l.most, (if R.1 = 0 then l.recs ++ [xs] else l.recs), R.2.1, R.2.2.1⟩, R.2.2.2) := by unfold appendL; rw [HR.out]
 rw [hE]
 simp only [HR.out] at hla
 obtain ⟨en, c', dn', k'⟩ := R
 dsimp only at hla ⊢
 clear hE
 have hbX : Below W.heap.size W W.drew := (Below.refl _ _).drew
 have HS0 : W.drew.cell? ⟨bl, 0, none⟩ = some (.pointer (some ⟨lb, 0, none⟩)) ∧ W.drew.cell? ⟨br, 0, none⟩ = some (.slice a n c) := ⟨box_cell hbl, box_cell hbr⟩
 have hfin : ∀ w1, Lcp W.drew F lb d l.most v dn' k' lb 3 l.ch c' w1 → _ := fun w1 hp => (h.below hbX).own (hRc.keep (S := fun _ => False) (Keep.ofBelow hbX) (fun _ _ h => h) (fun _ h => h)) (c' := c') (v := v) (dn' := dn') (k' := k') (w' := w1) (by
  obtain ⟨F', k1, k2, k3⟩ := hp
  exact ⟨F', ⟨by have := k1.L; rw [if_pos rfl] at this ⊢; exact this, fun _ => rfl, fun e => absurd rfl e⟩, k2, k3⟩)
 by_cases h0 : en = 0
 ·subst h0
  rw [if_pos rfl]
  go_enter Tryz.func64, Tryz.ntmps64
  go_upto_region 0 with fail
  refine wp_region_lx (fun w' => w'.cell? ⟨bl, 0, none⟩ = some (.pointer (some ⟨lb, 0, none⟩)) ∧ w'.cell? ⟨br, 0, none⟩ = some (.slice a n c)) [] 6 (by kernel_rfl) (by kernel_rfl) ?_
  refine lx_r 0 (.pointer (some ⟨lb, 0, none⟩)) HS0 ?_ (hv := fun w' hS => by have q := hS.1; first | (go_simp; rfl) | go_simp); simp only [lxa, lxb, lxc]
  refine lx_r 1 (.pointer (some ⟨lb, 0, none⟩)) HS0 ?_ (hv := fun w' hS => by have q := hS.1; first | (go_simp; rfl) | go_simp); simp only [lxa, lxb, lxc]
  refine lx_r 2 (.pointer (some ⟨lb, 0, none⟩)) HS0 ?_; simp only [lxa, lxb, lxc]
  refine lx_r 3 (.pointer (some ⟨lb, 3, none⟩)) HS0 ?_; simp only [lxa, lxb, lxc]
  refine lx_r 4 (.slice a n c) HS0 ?_ (hv := fun w' hS => by have q := hS.2; first | (go_simp; rfl) | go_simp); simp only [lxa, lxb, lxc]
  refine lx_one 5 (by kernel_rfl) (stepT_call 65 ?a5 rfl rfl rfl ?r5 ?_)
  case r5 => first | (go_simp; rfl) | go_simp
  refine ((hla W.drew hbX).mono (fun e w' h => And.intro (h.1.elim (fun k => k.2) (fun k => absurd rfl k.1)) h.2 : ∀ e w', _ → (e = .returned (.tuple #[]) ∧ _))).mono ?_
  rintro e w1 ⟨rfl, hp⟩
  have hkR : Keep (fun i => F i ∨ i = lb) W w1 := by
   obtain ⟨_, _, k2, _⟩ := hp
   exact (Keep.ofBelow hbX).trans (k2.mono (fun i hi => hi.elim Or.inl (fun h => Or.inr (h.elim id id))))
  obtain ⟨F1, hL1, hR1, hk1, hF1, hHF1, hP1, hlt1⟩ := hfin w1 hp
  have nb1 : ∀ x, x ≠ lb → ¬ F x → ¬ H x → ¬ (F x ∨ H x ∨ x = lb) := fun x h1 h2 h3 h4 => h4.elim h2 (fun h5 => h5.elim h3 h1)
  have HS1 : w1.cell? ⟨bl, 0, none⟩ = some (.pointer (some ⟨lb, 0, none⟩)) ∧ w1.cell? ⟨br, 0, none⟩ = some (.slice a n c) := ⟨hk1.cell (p := ⟨bl, 0, none⟩) HS0.1 (nb1 bl hbb nbl nhl), hk1.cell (p := ⟨br, 0, none⟩) HS0.2 (nb1 br hbb2 nbr nhr)⟩
  refine ⟨_, rfl, fun _ => HS1, ?_⟩
  simp only [lxa, lxb, lxc]
  refine lx_nil (by kernel_rfl) ?_
  have kp1 : Keep (fun i => F i ∨ H i ∨ i = lb) W w1 := (Keep.ofBelow hbX).trans hk1
  have hR9 : Rd w1 a n c xs := hR.keep (S := fun i => F i ∨ i = lb) hkR (fun ad had hs => hs.elim (hRF ad had).1 (hRF ad had).2)
  clear hla hp hk1 HS0
  go_upto_region 1 with fail
  refine wp_region_lx (fun w' => w'.cell? ⟨bl, 0, none⟩ = some (.pointer (some ⟨lb, 0, none⟩)) ∧ w'.cell? ⟨br, 0, none⟩ = some (.slice a n c) ∧ w'.cell? ⟨lb, 2, none⟩ = some v) [11] 12 (by kernel_rfl) (by kernel_rfl) ?_
  have hbD : Below w1.heap.size w1 w1.drew := (Below.refl _ _).drew
  have hL2 := hL1.below hbD
  have hR2 := hR1.keep (S := fun _ => False) (H' := H) (Keep.ofBelow hbD) (fun _ _ h => h) (fun _ h => h)
  have hP2 := hP1.below hbD
  have hX2 : W.heap.size ≤ w1.drew.heap.size := kp1.size
  have kp2 : Keep (fun i => F i ∨ H i ∨ i = lb) W w1.drew := kp1.drew
  have hR10 := hR9.carry (Nat.le_refl _) hbD
  have HS2 : w1.drew.cell? ⟨bl, 0, none⟩ = some (.pointer (some ⟨lb, 0, none⟩)) ∧ w1.drew.cell? ⟨br, 0, none⟩ = some (.slice a n c) ∧ w1.drew.cell? ⟨lb, 2, none⟩ = some v := ⟨HS1.1, HS1.2, hL2.c2⟩
  have hlt2 : ∀ i, H i → i < w1.drew.heap.size := hlt1
  have hF2 : ∀ i, F1 i → F i ∨ W.heap.size ≤ i := hF1
  clear hL1 hR1 hP1 hR9 HS1 kp1 hlt1 hF1 hbD
  generalize w1.drew = X at *
  refine lx_r 0 (.pointer (some ⟨lb, 0, none⟩)) HS2 ?_ (hv := fun w' hS => by have q := hS.1; first | (go_simp; rfl) | go_simp); simp only [lxa, lxb, lxc]
  refine lx_r 1 (.pointer (some ⟨lb, 0, none⟩)) HS2 ?_ (hv := fun w' hS => by have q := hS.1; first | (go_simp; rfl) | go_simp); simp only [lxa, lxb, lxc]
  refine lx_r 2 (.pointer (some ⟨lb, 0, none⟩)) HS2 ?_; simp only [lxa, lxb, lxc]
  refine lx_r 3 (.pointer (some ⟨lb, 2, none⟩)) HS2 ?_; simp only [lxa, lxb, lxc]
  refine lx_r 4 v HS2 ?_ (hv := fun w' hS => by have q := hS.2.2; first | (go_simp; rfl) | go_simp); simp only [lxa, lxb, lxc]
  refine lx_r 5 (.slice a n c) HS2 ?_ (hv := fun w' hS => by have q := hS.2.1; first | (go_simp; rfl) | go_simp); simp only [lxa, lxb, lxc]
  refine lx_one 6 (by kernel_rfl) (stepT_call 66 ?a6 rfl rfl rfl ?r6 ?_)
  case r6 => first | (go_simp; rfl) | go_simp
  refine (bcloneO a n c xs X hR10 (by omega)).mono ?_
  rintro e w3 ⟨u, rfl, ou, hb3⟩
  obtain ⟨au, cu, rfl, _⟩ := Rd.ofOwn ou hR10.bytes
  have t3 : ∀ p x, X.cell? p = some x → w3.cell? p = some x := fun p x hx => (hb3.cell (World.block_lt_of_cell? _ _ hx)).trans hx
  have HS3 := And.intro (t3 _ _ HS2.1) (And.intro (t3 _ _ HS2.2.1) (t3 _ _ HS2.2.2))
  refine ⟨_, rfl, fun _ => HS3, ?_⟩
  simp only [lxa, lxb, lxc]
  have t4 : ∀ p x, w3.cell? p = some x → (w3.alloc (.cells #[.slice au n cu] 29)).cell? p = some x := fun p x hx => ((Keep.refl (fun _ => False) w3).alloc _).cell hx (fun h => h)
  refine lx_one 7 (by kernel_rfl) (stepT_val (w' := w3.alloc (.cells #[.slice au n cu] 29)) (.slice (some ⟨w3.heap.size, 0, none⟩) 1 1) rfl rfl rfl ?r7 (fun _ => And.intro (t4 _ _ HS3.1) (And.intro (t4 _ _ HS3.2.1) (t4 _ _ HS3.2.2))) ?_)
  case r7 => first | (go_simp; rfl) | go_simp
  simp only [lxa, lxb, lxc]
  have hL3 := hL2.below hb3
  have hR3 := hR2.keep (S := fun _ => False) (H' := H) (Keep.ofBelow hb3) (fun _ _ h => h) (fun _ h => h)
  have hP3 := hP2.below hb3
  obtain ⟨⟨vs, ov, hvs⟩, hvo⟩ := hR3
  obtain ⟨v', w4, hrun4, ov4, hk4, hwh4⟩ := run_appW 30 ov au n cu ok.recs (Nat.zero_le _)
  obtain ⟨av, cv, rfl⟩ := own_sl ov4
  have nlb : ¬ v.ownBlock = some lb := fun hv => h.hl (hvo lb hv)
  have nv1 : ¬ v.ownBlock = some bl := fun hv => nhl (hvo bl hv)
  have nv2 : ¬ v.ownBlock = some br := fun hv => nhr (hvo br hv)
  have HS4 := And.intro (hk4.cell (p := ⟨bl, 0, none⟩) HS3.1 nv1) (And.intro (hk4.cell (p := ⟨br, 0, none⟩) HS3.2.1 nv2) (hk4.cell (p := ⟨lb, 2, none⟩) HS3.2.2 nlb))
  refine lx_one 8 (by kernel_rfl) (stepT_val (w' := w4) (.slice av (l.recs.length + 1) cv) rfl rfl rfl (exec_appW rfl rfl rfl hrun4) (fun _ => HS4) ?_)
  simp only [lxa, lxb, lxc]
  refine lx_one 9 (by kernel_rfl) (stepT_val (w' := w4) (.pointer (some ⟨lb, 0, none⟩)) rfl rfl rfl ?r9d (fun _ => HS4) ?_)
  case r9d => first | (go_simp; rfl) | go_simp
  simp only [lxa, lxb, lxc]
  refine lx_one 10 (by kernel_rfl) (stepT_val (w' := w4) (.pointer (some ⟨lb, 2, none⟩)) rfl rfl rfl ?r10d (fun _ => HS4) ?_)
  case r10d => first | (go_simp; rfl) | go_simp
  simp only [lxa, lxb, lxc]
  have hL4 : LD w4 F1 lb d l.most v c' dn' k' := hL3.keep hk4 (fun i hi hv => hHF1 i (hvo i hv) hi) nlb
  have p4 := hL4.c2
  have z4 := hL4.fz 2
  refine lx_one 11 (by kernel_rfl) (stepT_store (w' := w4.setCell ⟨lb, 2, none⟩ (.slice av (l.recs.length + 1) cv)) rfl rfl rfl ?r11 (fun h => by cases h) ?_)
  case r11 => first | (go_simp; rfl) | go_simp
  refine lx_nil (by kernel_rfl) ?_
  have hL5 : LD (w4.setCell ⟨lb, 2, none⟩ (.slice av (l.recs.length + 1) cv)) F1 lb d l.most (.slice av (l.recs.length + 1) cv) c' dn' k' := hL4.set 2 _ rfl
  have hsz3 := hb3.size
  have hsz4 := hk4.size
  obtain ⟨H9, hH9⟩ : ∃ H9 : Nat → Prop, H9 = (fun i => H i ∨ (X.heap.size ≤ i ∧ i < w4.heap.size)) := ⟨_, rfl⟩
  have hHin : ∀ i, H i → H9 i := fun i hi => by rw [hH9]; exact Or.inl hi
  have hHout : ∀ i, H9 i → H i ∨ (X.heap.size ≤ i ∧ i < w4.heap.size) := fun i hi => by rw [hH9] at hi; exact hi
  have hu0 := own_weak ou (Nat.zero_le _)
  have hxl := hR.len
  have hRA : RcA w4 H9 (.slice av (l.recs.length + 1) cv) (l.recs ++ [xs]) := by
   refine RcA.app (vs := vs) (u := .slice au n cu) ov (fun i r hr => ?_) ov4 hk4 (by rw [hxl]; exact hu0) (fun g hg => ?_) hR.bytes (fun g hg => ?_)
   ·obtain ⟨u2, m1, m2, m3, m4⟩ := hvs i r hr
    exact ⟨u2, m1, m2, fun g hg => hHin g (m3 g hg), m4⟩
   ·rw [hH9]
    have := ou.lt g hg
    exact Or.inr ⟨this.1, by omega⟩
   ·rcases hwh4 with h9 | ⟨g9, h9, h10⟩
    ·exact hHin g (hvo g (by rw [← h9]; exact hg))
    ·rw [h9] at hg
     injection hg with hg
     subst hg
     rw [hH9]
     refine Or.inr ⟨by omega, ?_⟩
     obtain ⟨cur, e⟩ := own_blkT ov4 h9
     exact (Array.getElem?_eq_some_iff.1 e).1
  have hkS : Keep (fun i => i = lb) w4 (w4.setCell ⟨lb, 2, none⟩ (.slice av (l.recs.length + 1) cv)) := (Keep.refl (fun i => i = lb) w4).setCell (p := ⟨lb, 2, none⟩) rfl _
  have hlbX : lb < X.heap.size := hL2.lt
  have hFX := hL2.D.lt
  have hHlb : ¬ H9 lb := fun hh => (hHout lb hh).elim h.hl (fun h9 => by omega)
  have hRA5 := hRA.keep (H' := H9) hkS (fun i hi e => hHlb (by rw [← e]; exact hi)) (fun _ h => h)
  have hk34 : Keep (fun i => F i ∨ H i ∨ i = lb) X w4 := (Keep.ofBelow hb3).andThen hk4 (fun i hi hv => Or.inr (Or.inl (hvo i hv)))
  have hkE : Keep (fun i => F i ∨ H i ∨ i = lb) W (w4.setCell ⟨lb, 2, none⟩ (.slice av (l.recs.length + 1) cv)) := kp2.trans (hk34.trans (hkS.mono (fun i e => Or.inr (Or.inr e))))
  have hPE : Pf (w4.setCell ⟨lb, 2, none⟩ (.slice av (l.recs.length + 1) cv)) F1 lb := ⟨h.pf.pw.keep hkE (fun hs => by
   rcases hs with hs | hs | hs
   ·have := h.pf.fl _ hs; omega
   ·have := h.ph _ hs; omega
   ·have := h.pf.ll; omega), hP3.fl, hP3.ll⟩
  go_wp2
  go_end0
  refine ⟨Or.inl ⟨rfl, rfl⟩, F1, H9, ⟨⟨_, hL5, hRA5⟩, fun i hi hf => ?_, hHlb, fun i hi => ?_, hPE, fun i hi => ?_⟩, hkE, hF2, fun i hi => ?_⟩
  ·rcases hHout i hi with h9 | h9
   ·exact hHF1 i h9 hf
   ·have := hFX i hf; omega
  ·have hs9 := hkS.size
   rcases hHout i hi with h9 | h9
   ·have := hlt2 i h9; omega
   ·omega
  ·rcases hHout i hi with h9 | h9
   ·exact h.ph i h9
   ·have := h.pf.pw.at; omega
  ·rcases hHout i hi with h9 | h9
   ·exact Or.inl h9
   ·exact Or.inr (Nat.le_trans hX2 h9.1)
 ·rw [if_neg h0]
  go_enter Tryz.func64, Tryz.ntmps64
  go_upto_region 0 with fail
  refine wp_region_lx (fun w' => w'.cell? ⟨bl, 0, none⟩ = some (.pointer (some ⟨lb, 0, none⟩)) ∧ w'.cell? ⟨br, 0, none⟩ = some (.slice a n c)) [] 6 (by kernel_rfl) (by kernel_rfl) ?_
  refine lx_r 0 (.pointer (some ⟨lb, 0, none⟩)) HS0 ?_ (hv := fun w' hS => by have q := hS.1; first | (go_simp; rfl) | go_simp); simp only [lxa, lxb, lxc]
  refine lx_r 1 (.pointer (some ⟨lb, 0, none⟩)) HS0 ?_ (hv := fun w' hS => by have q := hS.1; first | (go_simp; rfl) | go_simp); simp only [lxa, lxb, lxc]
  refine lx_r 2 (.pointer (some ⟨lb, 0, none⟩)) HS0 ?_; simp only [lxa, lxb, lxc]
  refine lx_r 3 (.pointer (some ⟨lb, 3, none⟩)) HS0 ?_; simp only [lxa, lxb, lxc]
  refine lx_r 4 (.slice a n c) HS0 ?_ (hv := fun w' hS => by have q := hS.2; first | (go_simp; rfl) | go_simp); simp only [lxa, lxb, lxc]
  refine lx_one 5 (by kernel_rfl) (stepT_callP 65 ?b5 rfl rfl rfl ?s5 ?_)
  case s5 => first | (go_simp; rfl) | go_simp
  refine ((hla W.drew hbX).mono (fun e w' h => And.intro (h.1.elim (fun k => absurd k.1 h0) (fun k => k.2)) h.2 : ∀ e w', _ → (e = .panicked (gaveS en) ∧ _))).mono ?_
  rintro e w1 ⟨rfl, hp⟩
  obtain ⟨F1, hL1, hR1, hk1, hF1, hHF1, hP1, hlt1⟩ := hfin w1 hp
  refine Or.inr ⟨_, rfl, ?_⟩
  exact ⟨rfl, gs_no h0 rfl, F1, H, ⟨⟨v, hL1, hR1⟩, hHF1, h.hl, hlt1, hP1, h.ph⟩, (Keep.ofBelow hbX).trans hk1, hF1, fun i hi => Or.inl hi⟩
end Go.Proofs.YtikkieaokfailaaGreatDoor

namespace Go.Proofs.YtikkieaokfailaaGreatDoor
open Go.RowKit Go.Joins
theorem isBig_any (a : Option Addr) (n c : Nat) (w : World) (hn : n ≤ 9223372036854775807) : Calls Tryz.prog 63 #[.slice a n c] w fun e w' => e = .returned (.bool (decide (1048576 < n))) ∧ w' = w := by
 by_cases h : 1048576 < n
 ·have hz : (1048576 : Int) < (n : Int) := by omega
  rw [decide_eq_true h]
  clear h
  go_enter Tryz.func63, Tryz.ntmps63
  go_wp2
  go_ret
  exact ⟨rfl, rfl⟩
 ·have hz : ¬ (1048576 : Int) < (n : Int) := by omega
  rw [decide_eq_false h]
  clear h
  go_enter Tryz.func63, Tryz.ntmps63
  go_wp2
  go_ret
  exact ⟨rfl, rfl⟩
def appendT (l : Lg) (k : Dk) (xs : List Int) : Nat × Lg × Dk := if 1048576 < xs.length then (5, l, k) else appendL l k xs
theorem attempt_L (f : Nat) (caps : Array Value) (en : Nat) (W : World) (F H : Nat → Prop) (lb d : Nat) (l l' : Lg) (k k' : Dk) (h : LogAt W F H lb d l k) (hent : ∀ args w, (callFunc f args).run Tryz.prog w = .ok (.enter f args) w)
  (hC : LogAt (W.alloc (.cells #[.int .i64 0] 37)) F H lb d l k → Below W.heap.size W (W.alloc (.cells #[.int .i64 0] 37)) → Calls Tryz.prog f caps (W.alloc (.cells #[.int .i64 0] 37)) fun e w' => Gs en e ∧ Lgp (W.alloc (.cells #[.int .i64 0] 37)) F H lb d l' k' w') :
  Calls Tryz.prog 60 #[.func (.func f) #[] caps] W fun e w' => e = .returned (.int .i64 en) ∧ Lgp W F H lb d l' k' w' := by
 have hb0 : Below W.heap.size W (W.alloc (.cells #[.int .i64 0] 37)) := (Below.refl _ _).alloc (Nat.le_refl _) _
 obtain ⟨v, hLD, _⟩ := h.ex
 have hF := hLD.D.lt
 have hlb := hLD.lt
 refine (attemptS f caps en (fun w' => Lgp (W.alloc (.cells #[.int .i64 0] 37)) F H lb d l' k' w') W hent ((hC (h.below hb0) hb0).mono ?_)).mono ?_
 ·rintro e w' ⟨h1, h2⟩
  refine ⟨h1, h2, ?_⟩
  obtain ⟨F', H', _, hk, _⟩ := h2
  exact box_keep (alloc_at W _) hk (fun e => by
   rcases e with e | e | e
   ·have := hF _ e; omega
   ·have := h.lt _ e; omega
   ·omega)
 ·rintro e w' ⟨rfl, w1, h1, rfl⟩
  exact ⟨rfl, h1.err hF h.lt hlb h.pf.pw.at _⟩
set_option maxHeartbeats 1000000 in
theorem sappend_any (w : World) (F H : Nat → Prop) (lb d : Nat) (l : Lg) (k : Dk) (h : LogAt w F H lb d l k) (ok : l.Ok) (hst : k.steps < 999999) (hfl : k.fs.length < 999999)
  (a : Option Addr) (n c : Nat) (xs : List Int) (hR : Rd w a n c xs) (hRF : ∀ ad, a = some ad → ¬ F ad.block ∧ ad.block ≠ lb) :
  Calls Tryz.prog 22 #[.pointer (some ⟨lb, 0, none⟩), .slice a n c] w fun e w' => e = .returned (.int .i64 (appendT l k xs).1) ∧ Lgp w F H lb d (appendT l k xs).2.1 (appendT l k xs).2.2 w' := by
 have hmf : ∀ (fn : Fn) (first cap : Array Value) (w : World), (Instr.makeFunc fn first cap).run Tryz.prog w = .ok (.func fn first cap) w := fun _ _ _ _ => rfl
 obtain ⟨W, hW⟩ : ∃ W, (w.alloc (.cells #[.pointer (some ⟨lb, 0, none⟩)] 48)).alloc (.cells #[.slice a n c] 29) = W := ⟨_, rfl⟩
 have hB : Below w.heap.size w W := by rw [← hW]; exact ((Below.refl _ _).alloc (Nat.le_refl _) _).alloc (by simp) _
 have q0 : W.heap[w.heap.size]? = some (.cells #[.pointer (some ⟨lb, 0, none⟩)] 48 (0, 0)) := by rw [← hW]; exact alloc2_at w _ _
 have q1 : W.heap[w.heap.size + 1]? = some (.cells #[.slice a n c] 29 (0, 0)) := by rw [← hW]; exact (by simpa using alloc_at (w.alloc (.cells #[.pointer (some ⟨lb, 0, none⟩)] 48)) (.cells #[.slice a n c] 29))
 have c0 := box_cell q0
 have c1 := box_cell q1
 have hmx := hR.most
 have hcp := hR.cap
 have hig := isBig_any a n c W (by unfold maxLen at hmx; omega)
 have hl := hR.len
 have hLW := h.below hB
 have hRW := hR.carry (Nat.le_refl _) hB
 obtain ⟨v, hLD, _⟩ := h.ex
 have hF := hLD.D.lt
 have hH := h.lt
 unfold appendT
 rw [hl]
 by_cases hbig : 1048576 < n
 ·rw [if_pos hbig]
  rw [decide_eq_true hbig] at hig
  clear hbig hl
  go_enter Tryz.func22, Tryz.ntmps22
  go_upto_region 1 with fail
  clear hW
  go_wp2_with (first
   | (go_at_call 63; refine hig.mono ?_; rintro e w1 ⟨rfl, h1⟩; replace h1 := h1.symm; subst h1))
  go_ret
  exact ⟨rfl, Lgp.from hB (Lgp.refl hLW)⟩
 ·rw [if_neg hbig]
  rw [decide_eq_false hbig] at hig
  have hA : Calls Tryz.prog 60 #[.func (.func 64) #[] #[.pointer (some ⟨w.heap.size, 0, none⟩), .pointer (some ⟨w.heap.size + 1, 0, none⟩)]] W fun e w' => e = .returned (.int .i64 (appendL l k xs).1) ∧ Lgp W F H lb d (appendL l k xs).2.1 (appendL l k xs).2.2 w' := by
   refine attempt_L _ _ _ W F H lb d l _ k _ hLW (enters_of Tryz.func64 (by kernel_rfl) rfl) (fun hL1 hb1 => ?_)
   exact appendC_any _ F H lb d _ _ l k hL1 ok hst hfl a n c xs (hRW.carry (Nat.le_refl _) hb1) (by omega) hRF (box_below q0 hb1) (box_below q1 hb1) (fun hf => by have := hF _ hf; omega) (fun hf => by have := hF _ hf; omega) (fun hf => by have := hH _ hf; omega) (fun hf => by have := hH _ hf; omega)
  obtain ⟨P, hP⟩ : ∃ P, appendL l k xs = P := ⟨_, rfl⟩
  rw [hP] at hA ⊢
  clear hP hbig hl hLW hRW
  go_enter Tryz.func22, Tryz.ntmps22
  go_upto_region 1 with fail
  clear hW
  go_wp2_with (first
   | (go_at_call 63; refine hig.mono ?_; rintro e w1 ⟨rfl, h1⟩; replace h1 := h1.symm; subst h1)
   | (go_at_call 60; refine hA.mono ?_; rintro e w1 ⟨rfl, hp⟩))
  go_ret
  exact ⟨rfl, hp.from hB⟩
def commitL (l : Lg) (k : Dk) : Nat × Lg × Dk := ((settleL l.ch l.dn k).1, ⟨l.most, l.recs, (settleL l.ch l.dn k).2.1, (settleL l.ch l.dn k).2.2.1⟩, (settleL l.ch l.dn k).2.2.2)
set_option maxHeartbeats 1000000 in
theorem commitC_any (W : World) (F H : Nat → Prop) (lb d bl : Nat) (l : Lg) (k : Dk) (h : LogAt W F H lb d l k) (ok : l.Ok) (hst : k.steps < 999999) (hfl : k.fs.length < 999999)
  (hbl : W.heap[bl]? = some (.cells #[.pointer (some ⟨lb, 0, none⟩)] 48 (0, 0))) (nbl : ¬ F bl) (nhl : ¬ H bl) :
  Calls Tryz.prog 67 #[.pointer (some ⟨bl, 0, none⟩)] W fun e w' => Gs (commitL l k).1 e ∧ Lgp W F H lb d (commitL l k).2.1 (commitL l k).2.2 w' := by
 obtain ⟨v, hLD, hRc⟩ := h.ex
 have hbb : bl ≠ lb := fun e => by rw [e, hLD.blk] at hbl; cases hbl
 have hbX : Below W.heap.size W W.drew := (Below.refl _ _).drew
 have hse := settle_any W.drew F lb d l.most v l.dn k lb 3 l.ch l.ch ⟨by rw [if_pos rfl]; exact hLD.below hbX, fun _ => rfl, fun e => absurd rfl e⟩ (h.pf.below hbX) ok.g (by have := ok.cnt; omega) (by omega) (by omega)
 obtain ⟨R, HR⟩ : ∃ R, Hid (settleL l.ch l.dn k = R) := ⟨_, rfl⟩
 have hE : commitL l k = (R.1, ⟨l.most, l.recs, R.2.1, R.2.2.1⟩, R.2.2.2) := by unfold commitL; rw [HR.out]
 rw [hE]
 rw [HR.out] at hse
 obtain ⟨en, c', dn', k'⟩ := R
 dsimp only at hse ⊢
 clear hE
 have HS0 : W.drew.cell? ⟨bl, 0, none⟩ = some (.pointer (some ⟨lb, 0, none⟩)) := box_cell hbl
 have hfin : ∀ w1, Lcp W.drew F lb d l.most v dn' k' lb 3 l.ch c' w1 → _ := fun w1 hp => (h.below hbX).own (hRc.keep (S := fun _ => False) (Keep.ofBelow hbX) (fun _ _ h => h) (fun _ h => h)) (c' := c') (v := v) (dn' := dn') (k' := k') (w' := w1) (by
  obtain ⟨F', k1, k2, k3⟩ := hp
  exact ⟨F', ⟨by have := k1.L; rw [if_pos rfl] at this ⊢; exact this, fun _ => rfl, fun e => absurd rfl e⟩, k2, k3⟩)
 have nb1 : ¬ (F bl ∨ H bl ∨ bl = lb) := fun h4 => h4.elim nbl (fun h5 => h5.elim nhl hbb)
 by_cases h0 : en = 0
 ·subst h0
  go_enter Tryz.func67, Tryz.ntmps67
  go_upto_region 0 with fail
  refine wp_region_lx (fun w' => w'.cell? ⟨bl, 0, none⟩ = some (.pointer (some ⟨lb, 0, none⟩))) [] 5 (by kernel_rfl) (by kernel_rfl) ?_
  refine lx_r 0 (.pointer (some ⟨lb, 0, none⟩)) HS0 ?_; simp only [lxa, lxb, lxc]
  refine lx_r 1 (.pointer (some ⟨lb, 0, none⟩)) HS0 ?_; simp only [lxa, lxb, lxc]
  refine lx_r 2 (.pointer (some ⟨lb, 0, none⟩)) HS0 ?_; simp only [lxa, lxb, lxc]
  refine lx_r 3 (.pointer (some ⟨lb, 3, none⟩)) HS0 ?_; simp only [lxa, lxb, lxc]
  refine lx_one 4 (by kernel_rfl) (stepT_call 68 ?a5 rfl rfl rfl ?r5 ?_)
  case r5 => first | (go_simp; rfl) | go_simp
  refine (hse.mono (fun e w' h => And.intro (h.1.elim (fun k => k.2) (fun k => absurd rfl k.1)) h.2 : ∀ e w', _ → (e = .returned (.tuple #[]) ∧ _))).mono ?_
  rintro e w1 ⟨rfl, hp⟩
  obtain ⟨F1, hL1, hR1, hk1, hF1, hHF1, hP1, hlt1⟩ := hfin w1 hp
  refine ⟨_, rfl, fun _ => hk1.cell (p := ⟨bl, 0, none⟩) HS0 nb1, ?_⟩
  simp only [lxa, lxb, lxc]
  refine lx_nil (by kernel_rfl) ?_
  go_wp2
  go_end0
  exact ⟨Or.inl ⟨rfl, rfl⟩, F1, H, ⟨⟨v, hL1, hR1⟩, hHF1, h.hl, hlt1, hP1, h.ph⟩, (Keep.ofBelow hbX).trans hk1, hF1, fun i hi => Or.inl hi⟩
 ·go_enter Tryz.func67, Tryz.ntmps67
  go_upto_region 0 with fail
  refine wp_region_lx (fun w' => w'.cell? ⟨bl, 0, none⟩ = some (.pointer (some ⟨lb, 0, none⟩))) [] 5 (by kernel_rfl) (by kernel_rfl) ?_
  refine lx_r 0 (.pointer (some ⟨lb, 0, none⟩)) HS0 ?_; simp only [lxa, lxb, lxc]
  refine lx_r 1 (.pointer (some ⟨lb, 0, none⟩)) HS0 ?_; simp only [lxa, lxb, lxc]
  refine lx_r 2 (.pointer (some ⟨lb, 0, none⟩)) HS0 ?_; simp only [lxa, lxb, lxc]
  refine lx_r 3 (.pointer (some ⟨lb, 3, none⟩)) HS0 ?_; simp only [lxa, lxb, lxc]
  refine lx_one 4 (by kernel_rfl) (stepT_callP 68 ?b5 rfl rfl rfl ?s5 ?_)
  case s5 => first | (go_simp; rfl) | go_simp
  refine (hse.mono (fun e w' h => And.intro (h.1.elim (fun k => absurd k.1 h0) (fun k => k.2)) h.2 : ∀ e w', _ → (e = .panicked (gaveS en) ∧ _))).mono ?_
  rintro e w1 ⟨rfl, hp⟩
  obtain ⟨F1, hL1, hR1, hk1, hF1, hHF1, hP1, hlt1⟩ := hfin w1 hp
  refine Or.inr ⟨_, rfl, ?_⟩
  exact ⟨rfl, gs_no h0 rfl, F1, H, ⟨⟨v, hL1, hR1⟩, hHF1, h.hl, hlt1, hP1, h.ph⟩, (Keep.ofBelow hbX).trans hk1, hF1, fun i hi => Or.inl hi⟩
set_option maxHeartbeats 1000000 in
theorem scommit_any (w : World) (F H : Nat → Prop) (lb d : Nat) (l : Lg) (k : Dk) (h : LogAt w F H lb d l k) (ok : l.Ok) (hst : k.steps < 999999) (hfl : k.fs.length < 999999) :
  Calls Tryz.prog 23 #[.pointer (some ⟨lb, 0, none⟩)] w fun e w' => e = .returned (.int .i64 (commitL l k).1) ∧ Lgp w F H lb d (commitL l k).2.1 (commitL l k).2.2 w' := by
 have hmf : ∀ (fn : Fn) (first cap : Array Value) (w : World), (Instr.makeFunc fn first cap).run Tryz.prog w = .ok (.func fn first cap) w := fun _ _ _ _ => rfl
 obtain ⟨W, hW⟩ : ∃ W, w.alloc (.cells #[.pointer (some ⟨lb, 0, none⟩)] 48) = W := ⟨_, rfl⟩
 have hB : Below w.heap.size w W := by rw [← hW]; exact (Below.refl _ _).alloc (Nat.le_refl _) _
 have q0 : W.heap[w.heap.size]? = some (.cells #[.pointer (some ⟨lb, 0, none⟩)] 48 (0, 0)) := by rw [← hW]; exact alloc_at w _
 have c0 := box_cell q0
 have hLW := h.below hB
 obtain ⟨v, hLD, _⟩ := h.ex
 have hF := hLD.D.lt
 have hH := h.lt
 have hA : Calls Tryz.prog 60 #[.func (.func 67) #[] #[.pointer (some ⟨w.heap.size, 0, none⟩)]] W fun e w' => e = .returned (.int .i64 (commitL l k).1) ∧ Lgp W F H lb d (commitL l k).2.1 (commitL l k).2.2 w' := by
  refine attempt_L _ _ _ W F H lb d l _ k _ hLW (enters_of Tryz.func67 (by kernel_rfl) rfl) (fun hL1 hb1 => ?_)
  exact commitC_any _ F H lb d _ l k hL1 ok hst hfl (box_below q0 hb1) (fun hf => by have := hF _ hf; omega) (fun hf => by have := hH _ hf; omega)
 obtain ⟨P, hP⟩ : ∃ P, commitL l k = P := ⟨_, rfl⟩
 rw [hP] at hA ⊢
 clear hP hLW
 go_enter Tryz.func23, Tryz.ntmps23
 go_upto_region 1 with fail
 clear hW
 go_wp2_with (first
  | (go_at_call 60; refine hA.mono ?_; rintro e w1 ⟨rfl, hp⟩))
 go_ret
 exact ⟨rfl, hp.from hB⟩
theorem slen_any (w : World) (F H : Nat → Prop) (lb d : Nat) (l : Lg) (k : Dk) (h : LogAt w F H lb d l k) :
  Calls Tryz.prog 26 #[.pointer (some ⟨lb, 0, none⟩)] w fun e w' => e = .returned (.int .i64 (l.recs.length : Int)) ∧ w' = w := by
 obtain ⟨v, hLD, hRc⟩ := h.ex
 obtain ⟨⟨vs, ov, _⟩, _⟩ := hRc
 obtain ⟨a, c, rfl⟩ := own_sl ov
 have q2 := hLD.c2
 obtain ⟨N, HN⟩ : ∃ N, Hid (l.recs.length = N) := ⟨_, rfl⟩
 rw [HN.out] at q2 ⊢
 clear ov hLD
 go_enter Tryz.func26, Tryz.ntmps26
 go_wp2
 go_ret
 exact ⟨rfl, rfl⟩
def atL (l : Lg) (i : Int) : Option (List Int) := if i < 0 then none else l.recs[i.toNat]?
set_option maxHeartbeats 1000000 in
theorem sat_any (w : World) (F H : Nat → Prop) (lb d : Nat) (l : Lg) (k : Dk) (i : Int) (hi1 : i ≤ 9223372036854775807) (h : LogAt w F H lb d l k) (hlen : ∀ r ∈ l.recs, r.length ≤ 1000000000) :
  Calls Tryz.prog 27 #[.pointer (some ⟨lb, 0, none⟩), .int .i64 i] w fun e w' => ∃ u, e = .returned (.tuple #[u, .bool (atL l i).isSome]) ∧ w'.ownsRow w.heap.size 5 1 u ((atL l i).getD []).length (bc ((atL l i).getD [])) ∧ Bd ((atL l i).getD []) ∧ Below w.heap.size w w' := by
 obtain ⟨v, hLD, hRc⟩ := h.ex
 obtain ⟨⟨vs, ov, hvs⟩, _⟩ := hRc
 obtain ⟨a, c, rfl⟩ := own_sl ov
 have q2 := hLD.c2
 obtain ⟨N, HN⟩ : ∃ N, Hid (l.recs.length = N) := ⟨_, rfl⟩
 have hNm : N ≤ 9223372036854775807 ∧ (N ≤ c ∧ c ≤ 9223372036854775807) := by
  rw [HN.out] at ov
  rcases ov.2 with ⟨e, h0⟩ | ⟨g, cap, cur, e, _, _, hnc, hcm, _⟩
  ·cases e; omega
  ·cases e; unfold maxLen at hcm; omega
 by_cases h0 : i < 0
 ·have hE : atL l i = none := by unfold atL; rw [if_pos h0]
  rw [hE]
  clear ov hLD hvs
  go_enter Tryz.func27, Tryz.ntmps27
  go_wp2
  go_ret2
  exact ⟨_, rfl, ⟨rfl, .inl ⟨rfl, rfl⟩⟩, Bd.nil, Below.refl _ _⟩
 ·obtain ⟨j, rfl⟩ := Int.eq_ofNat_of_zero_le (a := i) (by omega)
  have hE0 : atL l (j : Int) = l.recs[j]? := by unfold atL; rw [if_neg h0]; rfl
  by_cases hj : j < N
  ·have hjl : j < l.recs.length := by rw [HN.out]; exact hj
   obtain ⟨r, hr⟩ : ∃ r, l.recs[j]? = some r := ⟨_, List.getElem?_eq_getElem hjl⟩
   obtain ⟨u, hu, ou, _, hbr⟩ := hvs j r hr
   have hrl := hlen r (List.mem_of_getElem? hr)
   rw [hE0, hr]
   obtain ⟨au, cu, rfl, ru⟩ := Rd.ofOwn ou hbr
   obtain ⟨g, hg⟩ : ∃ g, a = some ⟨g, 0, none⟩ := by
    rcases ov.2 with ⟨e, h0⟩ | ⟨g, cap, cur, e, _⟩
    ·omega
    ·cases e; exact ⟨g, rfl⟩
   subst hg
   have hc := ov.cells (g := g) rfl j _ hu
   rw [add_flat, Nat.zero_add] at hc
   have hcl := bcloneO au r.length cu r w ru hrl
   rw [HN.out] at q2
   have hz1 : ¬ (j : Int) < 0 := by omega
   have hz2 : ¬ (N : Int) ≤ (j : Int) := by omega
   have hz3 : (j : Int) < (N : Int) := by omega
   have hz0 : (0 : Int) ≤ (j : Int) := by omega
   obtain ⟨M, HM⟩ : ∃ M, Hid (r.length = M) := ⟨_, rfl⟩
   simp only [Option.getD_some, Option.isSome_some]
   rw [HM.out] at hcl hc ⊢
   clear ov hLD hvs hu ou ru hr hE0 h0 hrl hjl
   go_enter Tryz.func27, Tryz.ntmps27
   go_wp2_with (go_at_call 66; refine hcl.mono ?_; rintro e w1 ⟨u1, rfl, o1, hb1⟩)
   go_ret2
   exact ⟨_, rfl, o1, hbr, hb1⟩
  ·have hE : atL l (j : Int) = none := by rw [hE0]; exact List.getElem?_eq_none (by rw [HN.out]; omega)
   rw [hE]
   rw [HN.out] at q2
   have hz1 : ¬ (j : Int) < 0 := by omega
   have hz2 : (N : Int) ≤ (j : Int) := by omega
   clear ov hLD hvs hE0 hE
   go_enter Tryz.func27, Tryz.ntmps27
   go_wp2
   go_ret2
   exact ⟨_, rfl, ⟨rfl, .inl ⟨rfl, rfl⟩⟩, Bd.nil, Below.refl _ _⟩
end Go.Proofs.YtikkieaokfailaaGreatDoor

namespace Go.Proofs.YtikkieaokfailaaGreatDoor
open Go.RowKit Go.Joins
theorem Keep.low {F : Nat → Prop} {B : Nat} {w w' : World} (h : Keep F w w') (hB : B ≤ w.heap.size) (hF : ∀ i, F i → B ≤ i) : Below B w w' := h.below hB hF
end Go.Proofs.YtikkieaokfailaaGreatDoor

set_option maxRecDepth 100000
namespace Go.Proofs.YtikkieaokfailaaGreatDoor
open Go.ChangeShapes Go.WideShapes Go.ChangeAt Go.RowKit
structure RRd (W : World) (a : Option Addr) (n : Nat) (xs : List (List Int)) : Prop where
 len : xs.length = n
 most : n ≤ 9223372036854775807
 flat : 0 < n → ∃ b off, a = some ⟨b, off, none⟩ ∧ ∀ j, j < n → ∃ aj nj cj, W.cell? ⟨b, off + j, none⟩ = some (.slice aj nj cj) ∧ Rd W aj nj cj (xs.getD j [])
theorem RRd.below {W W' : World} {a : Option Addr} {n : Nat} {xs : List (List Int)} (h : RRd W a n xs) (hb : Below W.heap.size W W') : RRd W' a n xs := by
 refine ⟨h.len, h.most, fun h0 => ?_⟩
 obtain ⟨b, off, rfl, hc⟩ := h.flat h0
 refine ⟨b, off, rfl, fun j hj => ?_⟩
 obtain ⟨aj, nj, cj, h1, h2⟩ := hc j hj
 exact ⟨aj, nj, cj, (hb.cell (p := ⟨b, off + j, none⟩) (World.block_lt_of_cell? W _ h1)).trans h1, h2.carry (Nat.le_refl _) hb⟩
theorem rd_nilK (w : World) : Rd w none 0 0 [] := ⟨rfl, Nat.le_refl _, by unfold maxLen; omega, fun _ => rfl, Bd.nil, fun _ h => by cases h⟩
theorem rd_of_cells {H : Type} {enc : TypeId × Value → H} {W : World} {v : Value} {n : Nat} {y : DataW H × List MemPlace}
  (h : DataW.trod enc Tryz.prog W 0 (fun _ => true) true n 29 [v] = some y) : ∃ a n c zs, v = .slice a n c ∧ Rd W a n c zs := by
 rcases open_ints Tryz.underlying29 Tryz.underlying5 (by kernel_rfl) h with ⟨hcs, _⟩ | ⟨x, l, cc, zs, hcs, _, hl, hm, hz, _, hcell, hwz⟩
 ·simp only [List.cons.injEq, and_true] at hcs
  exact ⟨none, 0, 0, [], hcs, rd_nilK W⟩
 ·simp only [List.cons.injEq, and_true] at hcs
  have hz' : zs.length = cc := by simpa using hz
  refine ⟨some x, l, cc, zs.take l, hcs, by rw [List.length_take]; omega, hl, hm, (fun h => by cases h), fun y hy => ?_, fun ad had j hj => ?_⟩
  ·have := bounds_u8 (hwz y (List.mem_of_mem_take hy)); omega
  ·cases had
   rw [hcell j (by omega)]
   simp [List.getD, hj]
theorem rrd_of_cells {H : Type} {enc : TypeId × Value → H} {W : World} {v : Value} {fuel : Nat} {y : DataW H × List MemPlace}
  (hf : DataW.trod enc Tryz.prog W 0 (fun _ => true) true fuel 30 [v] = some y) : ∃ a n c xs, v = .slice a n c ∧ RRd W a n xs := by
 rcases Go.Deep.open_int_rows Tryz.underlying30 Tryz.underlying29 Tryz.underlying5 (by kernel_rfl) (by kernel_rfl) hf with ⟨hcs, _⟩ | ⟨x, l, cc, A, L, C, Z, hcs, _, hl, hm, _, hr⟩
 ·simp only [List.cons.injEq, and_true] at hcs
  exact ⟨none, 0, 0, [], hcs, rfl, by omega, fun h => by omega⟩
 ·simp only [List.cons.injEq, and_true] at hcs
  refine ⟨some x, l, cc, (List.range l).map (fun r => (Z r).take (L r)), hcs, by simp, by have : cc ≤ 9223372036854775807 := hm; omega, fun h0 => ?_⟩
  obtain ⟨b, off, spot⟩ := x
  have hspot : spot = none := by simpa [Addr.add] using World.cell?_spot (hr 0 (by omega)).1
  subst hspot
  refine ⟨b, off, rfl, fun j hj => ?_⟩
  obtain ⟨h1, h2, h3, h4, h5, h6, h7⟩ := hr j (by omega)
  rw [add_flat] at h1
  refine ⟨A j, L j, C j, h1, ?_⟩
  have e : ((List.range l).map (fun r => (Z r).take (L r))).getD j [] = (Z j).take (L j) := by simp [List.getD, hj]
  rw [e]
  refine ⟨by rw [List.length_take]; omega, h2, h3, h6, fun y hy => ?_, fun ad had i hi => ?_⟩
  ·have := bounds_u8 (h5 y (List.mem_of_mem_take hy)); omega
  ·rw [(h7 ad had).2 i (by omega)]
   simp [List.getD, hi]
set_option maxHeartbeats 800000 in
theorem twin_any (a : Option Addr) (n c : Nat) (xs : List Int) (most : Nat) (w : World) (hR : Rd w a n c xs) (hm : most ≤ 100000) :
  Calls Tryz.prog 54 #[.slice a n c, .int .i64 most] w fun e w' => ∃ v, e = .returned v ∧ w'.ownsRow w.heap.size 5 1 v (xs.take most).length (bc (xs.take most)) ∧ Below w.heap.size w w' := by
 have hl := hR.len
 have hcp := hR.cap
 have hmx : c ≤ 9223372036854775807 := hR.most
 by_cases hn : (most : Int) < (n : Int)
 ·have hlt : (xs.take most).length = most := by rw [List.length_take]; omega
  rw [hlt]
  go_enter Tryz.func54, Tryz.ntmps54
  go_wp2_with (at_builtin; refine wp_app0K rfl _ _ rfl rfl a most c (xs.take most) rfl (hR.takeK (by omega)) (by omega) ?_; intro v' w1 hown1 hb1 _)
  go_ret
  exact ⟨_, rfl, hown1, hb1⟩
 ·have hlt : xs.take most = xs := List.take_of_length_le (by omega)
  rw [hlt, hl]
  go_enter Tryz.func54, Tryz.ntmps54
  go_wp2_with (at_builtin; refine wp_app0K rfl _ _ rfl rfl a n c xs rfl hR (by omega) ?_; intro v' w1 hown1 hb1 _)
  go_ret
  exact ⟨_, rfl, hown1, hb1⟩
end Go.Proofs.YtikkieaokfailaaGreatDoor

namespace Go.Proofs.YtikkieaokfailaaGreatDoor
open Go.RowKit Go.Joins
def ev (sl : Nm → Value) : Fls → List Value
 | [] => []
 | x :: r => .string x.1 :: sl x.1 :: .int .i64 (x.2.safe : Int) :: ev sl r
theorem ev_len (sl : Nm → Value) (l : Fls) : (ev sl l).length = l.length * 3 := by
 induction l with
 | nil => rfl
 | cons x r ih => simp only [ev, List.length_cons, ih]; omega
theorem ev_app (sl : Nm → Value) (a b : Fls) : ev sl (a ++ b) = ev sl a ++ ev sl b := by
 induction a with
 | nil => rfl
 | cons x r ih => simp only [List.cons_append, ev, ih]
theorem ev_get (sl : Nm → Value) (l : Fls) (i : Nat) (x : Nm × Fle) (h : l[i]? = some x) : (ev sl l)[i * 3]? = some (.string x.1) ∧ (ev sl l)[i * 3 + 1]? = some (sl x.1) ∧ (ev sl l)[i * 3 + 2]? = some (.int .i64 (x.2.safe : Int)) := by
 induction l generalizing i with
 | nil => simp at h
 | cons y r ih =>
  cases i with
  | zero =>
   simp only [List.getElem?_cons_zero, Option.some.injEq] at h
   subst h
   exact ⟨rfl, rfl, rfl⟩
  | succ i =>
   rw [List.getElem?_cons_succ] at h
   have := ih i h
   have e1 : (i + 1) * 3 = i * 3 + 3 := by omega
   have e2 : (i + 1) * 3 + 1 = i * 3 + 1 + 3 := by omega
   have e3 : (i + 1) * 3 + 2 = i * 3 + 2 + 3 := by omega
   rw [e2, e3, e1]
   exact this
theorem ev_congr {sl sl' : Nm → Value} {l : Fls} (h : ∀ x ∈ l, sl x.1 = sl' x.1) : ev sl l = ev sl' l := by
 induction l with
 | nil => rfl
 | cons x r ih =>
  unfold ev
  rw [h x (List.mem_cons_self ..), ih (fun y hy => h y (List.mem_cons_of_mem _ hy))]
def leftK (k : Dk) : Int := match k.fu with | none => -1 | some n => (n : Int)
def rcsR (k : Dk) (v : Value) : Array Value := #[v, .int .i64 (k.room : Int), .int .i64 (k.steps : Int), .bool k.off, .int .i64 (leftK k)]
def Lies (w : World) (G : Nat → Prop) (v : Value) (f : Fle) : Prop := w.ownsRow 0 5 1 v f.b.length (bc f.b) ∧ ∀ g, v.ownBlock = some g → G g
structure RefAt (w : World) (G : Nat → Prop) (rd : Nat) (k : Dk) : Prop where
 ex : ∃ v sl, w.heap[rd]? = some (.cells (rcsR k v) 93 (0, 0)) ∧ w.ownsRow 0 113 3 v k.fs.length (ev sl k.fs) ∧ (∀ g, v.ownBlock = some g → G g) ∧ (∀ x ∈ k.fs, Lies w G (sl x.1) x.2) ∧ (∀ s, ∃ a n c, sl s = .slice a n c)
 grd : G rd
 lt : ∀ i, G i → i < w.heap.size
 good : k.Good
theorem Lies.keep {S G G' : Nat → Prop} {w w' : World} {v : Value} {f : Fle} (h : Lies w G v f) (hk : Keep S w w') (hs : ∀ i, v.ownBlock = some i → ¬ S i) (hG : ∀ i, G i → G' i) : Lies w' G' v f :=
 ⟨own_keep h.1 hk hs, fun g hg => hG g (h.2 g hg)⟩
theorem own_blk {w : World} {B sz n : Nat} {t : TypeId} {v : Value} {xs : List Value} (h : w.ownsRow B t sz v n xs) {g : Nat} (hg : v.ownBlock = some g) : ∃ cur, w.heap[g]? = some (.cells cur t (0, 0)) := by
 rcases h.2 with ⟨h1, _⟩ | ⟨g', cap, cur, h1, _, h2, _⟩
 ·rw [h1] at hg; cases hg
 ·rw [h1] at hg
  have : g' = g := by simpa [Value.ownBlock] using hg
  subst this
  exact ⟨cur, h2⟩
theorem RefAt.keep {S G : Nat → Prop} {w w' : World} {rd : Nat} {k : Dk} (h : RefAt w G rd k) (hk : Keep S w w') (hs : ∀ i, G i → ¬ S i) : RefAt w' G rd k := by
 obtain ⟨⟨v, sl, h1, h2, h3, h4, h5⟩, h6, h7, h8⟩ := h
 exact ⟨⟨v, sl, box_keep h1 hk (hs _ h6), own_keep h2 hk (fun g hg => hs g (h3 g hg)), h3, fun x hx => (h4 x hx).keep hk (fun g hg => hs g ((h4 x hx).2 g hg)) (fun _ h => h), h5⟩, h6, fun i hi => Nat.lt_of_lt_of_le (h7 i hi) hk.size, h8⟩
theorem RefAt.below {G : Nat → Prop} {w w' : World} {rd : Nat} {k : Dk} (h : RefAt w G rd k) (hb : Below w.heap.size w w') : RefAt w' G rd k := h.keep (S := fun _ => False) (Keep.ofBelow hb) (fun _ _ h => h)
def Rp (w : World) (G : Nat → Prop) (rd : Nat) (k' : Dk) (w' : World) : Prop := ∃ G', RefAt w' G' rd k' ∧ Keep G w w' ∧ (∀ i, G' i → G i ∨ w.heap.size ≤ i)
theorem Rp.refl {w : World} {G : Nat → Prop} {d : Nat} {k : Dk} (h : RefAt w G d k) : Rp w G d k w := ⟨G, h, Keep.refl _ _, fun _ h => Or.inl h⟩
theorem Rp.ofBelow {w w' : World} {G : Nat → Prop} {d : Nat} {k : Dk} (h : RefAt w G d k) (hb : Below w.heap.size w w') : Rp w G d k w' := ⟨G, h.below hb, Keep.ofBelow hb, fun _ h => Or.inl h⟩
theorem Rp.next {w w1 w2 : World} {F F1 : Nat → Prop} {d : Nat} {k2 : Dk} (kp1 : Keep F w w1) (e1 : ∀ i, F1 i → F i ∨ w.heap.size ≤ i) (h : Rp w1 F1 d k2 w2) : Rp w F d k2 w2 := by
 obtain ⟨F2, h2, kp2, e2⟩ := h
 refine ⟨F2, h2, kp1.andThen kp2 (fun i hi hF => (e1 i hF).elim id (fun h => absurd h (by omega))), fun i hi => ?_⟩
 rcases e2 i hi with h | h
 ·exact e1 i h
 ·exact Or.inr (Nat.le_trans kp1.size h)
theorem row3 {w : World} {B : Nat} {v : Value} {l : Fls} {sl : Nm → Value} (h : w.ownsRow B 113 3 v l.length (ev sl l)) (hl : 0 < l.length) : ∃ g cap, v = .slice (some ⟨g, 0, none⟩) l.length cap ∧ l.length ≤ cap ∧ cap ≤ 9223372036854775807 ∧ (∀ i x, l[i]? = some x → w.cell? ⟨g, i * 3, none⟩ = some (.string x.1) ∧ w.cell? ⟨g, i * 3 + 1, none⟩ = some (sl x.1) ∧ w.cell? ⟨g, i * 3 + 2, none⟩ = some (.int .i64 (x.2.safe : Int))) := by
 rcases h.2 with ⟨_, h0⟩ | ⟨g, cap, cur, hv, _, hb, hn, hc, _, _⟩
 ·omega
 ·refine ⟨g, cap, hv, hn, by unfold maxLen at hc; omega, fun i x hx => ?_⟩
  subst hv
  obtain ⟨e1, e2, e3⟩ := ev_get sl l i x hx
  have c1 := h.cells (g := g) rfl _ _ e1
  have c2 := h.cells (g := g) rfl _ _ e2
  have c3 := h.cells (g := g) rfl _ _ e3
  rw [add_flat, Nat.zero_add] at c1 c2 c3
  exact ⟨c1, c2, c3⟩
theorem row_form {w : World} {B : Nat} {v : Value} {n : Nat} {xs : List Value} (h : w.ownsRow B 113 3 v n xs) : ∃ a c, v = .slice a n c ∧ n ≤ 9223372036854775807 := by
 rcases h.2 with ⟨rfl, rfl⟩ | ⟨g, cap, cur, rfl, _, _, h1, h2, _⟩
 ·exact ⟨none, 0, rfl, by omega⟩
 ·exact ⟨_, _, rfl, by unfold maxLen at h2; omega⟩
theorem Rd.ofRowE {w : World} {B : Nat} {v : Value} {n : Nat} {xs : List Int} (h : w.ownsRow B 5 1 v n (bc xs)) : ∃ a c, v = .slice a n c ∧ n ≤ 9223372036854775807 := by
 rcases h.2 with ⟨rfl, rfl⟩ | ⟨g, cap, cur, rfl, _, _, h1, h2, _⟩
 ·exact ⟨none, 0, rfl, by omega⟩
 ·exact ⟨_, _, rfl, by unfold maxLen at h2; omega⟩
def ixL : Fls → Nm → Nat → Int
 | [], _, _ => -1
 | x :: r, s, i => if x.1 = s then (i : Int) else ixL r s (i + 1)
theorem ixL_none {l : Fls} {s : Nm} (h : look l s = none) (i : Nat) : ixL l s i = -1 := by
 induction l generalizing i with
 | nil => rfl
 | cons q r ih =>
  obtain ⟨n, g⟩ := q
  unfold look at h
  split at h
  ·cases h
  ·rename_i e
   unfold ixL
   rw [if_neg e]
   exact ih h _
theorem ixL_some {l : Fls} {s : Nm} {f : Fle} (h : look l s = some f) (i : Nat) : ∃ j : Nat, ixL l s i = ((i + j : Nat) : Int) ∧ l[j]? = some (s, f) ∧ j < l.length := by
 induction l generalizing i with
 | nil => cases h
 | cons q r ih =>
  obtain ⟨n, g⟩ := q
  unfold look at h
  split at h
  ·rename_i e
   cases h
   subst e
   exact ⟨0, by unfold ixL; rw [if_pos rfl]; simp, rfl, by simp⟩
  ·rename_i e
   obtain ⟨j, h1, h2, h3⟩ := ih h (i + 1)
   refine ⟨j + 1, ?_, h2, by simp; omega⟩
   unfold ixL
   rw [if_neg e, h1]
   congr 1
   omega
theorem ix_drop {l : Fls} {i : Nat} {x : Nm × Fle} (h : l[i]? = some x) (s : Nm) : ixL (l.drop i) s i = if x.1 = s then (i : Int) else ixL (l.drop (i + 1)) s (i + 1) := by
 have hi : i < l.length := (List.getElem?_eq_some_iff.1 h).1
 have hx : l[i] = x := (List.getElem?_eq_some_iff.1 h).2
 rw [List.drop_eq_getElem_cons hi, hx]
 rfl
theorem nm_neq {a b : Nm} (h : ¬ a = b) : (a.toList == b.toList) = false := by
 rw [beq_eq_false_iff_ne, ByteArray.toList_eq, ByteArray.toList_eq]
 exact fun e => h (nm_ext e)
theorem nm_eq (a : Nm) : (a.toList == a.toList) = true := by simp
set_option maxRecDepth 100000 in
set_option maxHeartbeats 2000000 in
theorem at_any (rd : Nat) (G : Nat → Prop) (k : Dk) (s : Nm) (w : World) (hR : RefAt w G rd k) :
  Calls Tryz.prog 57 #[.pointer (some ⟨rd, 0, none⟩), .string s] w fun e w' => e = .returned (.int .i64 (ixL k.fs s 0)) ∧ w' = w := by
 obtain ⟨⟨v, sl, hblk, hrow, _, _, _⟩, _, _, _⟩ := hR
 have q0 : w.cell? ⟨rd, 0, none⟩ = some v := by rw [cell_of_block hblk]; rfl
 obtain ⟨va, vc, rfl, hvl⟩ := row_form hrow
 obtain ⟨N, HN⟩ : ∃ N, Hid (k.fs.length = N) := ⟨_, rfl⟩
 rw [HN.out] at q0 hvl
 have HR : Hid (w.ownsRow 0 113 3 (.slice va k.fs.length vc) k.fs.length (ev sl k.fs)) := hrow
 obtain ⟨I, HI⟩ : ∃ I, Hid (ixL k.fs s 0 = I) := ⟨_, rfl⟩
 rw [HI.out]
 clear hrow hblk
 go_enter Tryz.func57, Tryz.ntmps57
 go_wp2_with fail
 go_loopw [5] (fun s5 wr => ∃ i : Nat, i ≤ N ∧ s5 = .int .i64 i ∧ Hid (ixL (k.fs.drop i) s i = I) ∧ wr = w) (fun s5 _ => N - (intOf s5).toNat)
 case atStart => exact ⟨0, by omega, rfl, HI.out, rfl⟩
 case round =>
  obtain ⟨i, hi, rfl, HX, hw⟩ := hrel
  replace hw := hw.symm
  subst hw
  by_cases hlt : i < N
  ·have hcl : (i : Int) < (N : Int) := by omega
   have hpos : 0 < k.fs.length := by rw [HN.out]; omega
   obtain ⟨g, cap, e, hcap, hcm, hcs⟩ := row3 HR.out hpos
   cases e
   rw [HN.out] at hcap
   obtain ⟨x, hx⟩ : ∃ x, k.fs[i]? = some x := ⟨_, List.getElem?_eq_getElem (by rw [HN.out]; exact hlt)⟩
   have hc := (hcs i x hx).1
   have hX := HX.out
   rw [ix_drop hx] at hX
   clear hcs
   by_cases hxs : x.1 = s
   ·rw [if_pos hxs] at hX
    subst hX
    rw [hxs] at hc
    clear hxs HX
    go_wp2
    go_ret
    exact ⟨rfl, rfl⟩
   ·rw [if_neg hxs] at hX
    have hne := nm_neq hxs
    have HX2 : Hid (ixL (k.fs.drop (i + 1)) s (i + 1) = I) := hX
    clear hX HX
    go_wp2
    exact ⟨⟨i + 1, by omega, by go_num, HX2, trivial⟩, by simp [intOf]; omega⟩
  ·obtain rfl : i = N := by omega
   have hcl : ¬ (i : Int) < (i : Int) := by omega
   have hX := HX.out
   rw [List.drop_eq_nil_of_le (by rw [HN.out]; exact Nat.le_refl _)] at hX
   have hI : I = -1 := hX.symm
   subst hI
   clear HX hX
   go_wp2
   go_ret
   exact ⟨rfl, rfl⟩
theorem okc_cases (c : UInt8) : (okc c = true ∧ ((97 ≤ c.toNat ∧ c.toNat ≤ 122) ∨ (48 ≤ c.toNat ∧ c.toNat ≤ 57) ∨ c.toNat = 46 ∨ c.toNat = 45)) ∨ (okc c = false ∧ (122 < c.toNat ∨ (57 < c.toNat ∧ c.toNat < 97) ∨ (c.toNat < 48 ∧ c.toNat ≠ 46 ∧ c.toNat ≠ 45))) := by
 unfold okc
 by_cases h : (97 ≤ c.toNat ∧ c.toNat ≤ 122) ∨ (48 ≤ c.toNat ∧ c.toNat ≤ 57) ∨ c.toNat = 46 ∨ c.toNat = 45
 ·left
  refine ⟨?_, h⟩
  simp only [Bool.or_eq_true, Bool.and_eq_true, decide_eq_true_eq]
  omega
 ·right
  refine ⟨?_, by omega⟩
  rw [Bool.eq_false_iff]
  simp only [ne_eq, Bool.or_eq_true, Bool.and_eq_true, decide_eq_true_eq]
  omega
set_option maxRecDepth 100000 in
set_option maxHeartbeats 4000000 in
theorem right_any (s : Nm) (hs : s.size ≤ 9223372036854775807) (w : World) : Calls Tryz.prog 93 #[.string s] w fun e w' => e = .returned (.bool (isNm s)) ∧ w' = w := by
 obtain ⟨N, HN⟩ : ∃ N, Hid (s.size = N) := ⟨_, rfl⟩
 have hsN : s.size = N := HN.out
 obtain ⟨R, HRr⟩ : ∃ R, Hid (isNm s = R) := ⟨_, rfl⟩
 rw [HRr.out]
 go_enter Tryz.func93, Tryz.ntmps93
 go_wp2_with fail
 go_loopw [3, 4] (fun s3 _ wr => ∃ i : Nat, i ≤ N ∧ s3 = .int .i64 i ∧ Hid (s.data.toList.all okc = (s.data.toList.drop i).all okc) ∧ wr = w) (fun s3 _ _ => N - (intOf s3).toNat)
 case atStart => exact ⟨0, by omega, rfl, rfl, rfl⟩
 case round =>
  obtain ⟨i, hi, rfl, HX, hw⟩ := hrel
  replace hw := hw.symm
  subst hw
  by_cases hlt : i < N
  ·have hcl : (i : Int) < (N : Int) := by omega
   have his : i < s.size := by omega
   have hX := HX.out
   rw [get_list s i his, List.all_cons] at hX
   have hok := okc_cases s[i]
   have hix : (Instr.index 9 (.string s) (.int .i64 (i : Int))).run Tryz.prog w = .ok (.int .u8 (s[i].toNat : Int)) w := by
    rw [run_index_string w 9 s .i64 (i : Int) Tryz.underlying9, dif_pos ⟨by omega, by omega⟩]
    rfl
   obtain ⟨c, hc⟩ : ∃ c, s[i].toNat = c := ⟨_, rfl⟩
   rw [hc] at hok hix
   clear hc HX
   rcases hok with ⟨ho, h | h | h | h⟩ | ⟨ho, h | h | h⟩
   ·rw [ho] at hX
    have q0 : 97 ≤ (c : Int) := by omega
    have q1 : (c : Int) ≤ 122 := by omega
    rw [Bool.true_and] at hX
    have HX2 : Hid (s.data.toList.all okc = (s.data.toList.drop (i + 1)).all okc) := hX
    clear h ho hX
    go_wp2
    exact ⟨⟨i + 1, by omega, by go_num, HX2, trivial⟩, by simp [intOf]; omega⟩
   ·rw [ho] at hX
    have q0 : ¬ 97 ≤ (c : Int) := by omega
    have q1 : 48 ≤ (c : Int) := by omega
    have q2 : (c : Int) ≤ 57 := by omega
    rw [Bool.true_and] at hX
    have HX2 : Hid (s.data.toList.all okc = (s.data.toList.drop (i + 1)).all okc) := hX
    clear h ho hX
    go_wp2
    exact ⟨⟨i + 1, by omega, by go_num, HX2, trivial⟩, by simp [intOf]; omega⟩
   ·rw [ho] at hX
    have q0 : ¬ 97 ≤ (c : Int) := by omega
    have q1 : ¬ 48 ≤ (c : Int) := by omega
    have q2 : ((c : Int) == 46) = true := by simp; omega
    rw [Bool.true_and] at hX
    have HX2 : Hid (s.data.toList.all okc = (s.data.toList.drop (i + 1)).all okc) := hX
    clear h ho hX
    go_wp2
    exact ⟨⟨i + 1, by omega, by go_num, HX2, trivial⟩, by simp [intOf]; omega⟩
   ·rw [ho] at hX
    have q0 : ¬ 97 ≤ (c : Int) := by omega
    have q1 : ¬ 48 ≤ (c : Int) := by omega
    have q2 : ((c : Int) == 46) = false := by simp; omega
    have q3 : ((c : Int) == 45) = true := by simp; omega
    rw [Bool.true_and] at hX
    have HX2 : Hid (s.data.toList.all okc = (s.data.toList.drop (i + 1)).all okc) := hX
    clear h ho hX
    go_wp2
    exact ⟨⟨i + 1, by omega, by go_num, HX2, trivial⟩, by simp [intOf]; omega⟩
   ·rw [ho] at hX
    have q0 : 97 ≤ (c : Int) := by omega
    have q1 : ¬ (c : Int) ≤ 122 := by omega
    have q2 : 48 ≤ (c : Int) := by omega
    have q3 : ¬ (c : Int) ≤ 57 := by omega
    have q4 : ((c : Int) == 46) = false := by simp; omega
    have q5 : ((c : Int) == 45) = false := by simp; omega
    have hnm : R = false := by rw [← HRr.out]; unfold isNm; rw [hX]; simp
    subst hnm
    clear h ho hX
    go_wp2
    go_ret
    exact ⟨rfl, rfl⟩
   ·rw [ho] at hX
    have q0 : ¬ 97 ≤ (c : Int) := by omega
    have q1 : 48 ≤ (c : Int) := by omega
    have q2 : ¬ (c : Int) ≤ 57 := by omega
    have q3 : ((c : Int) == 46) = false := by simp; omega
    have q4 : ((c : Int) == 45) = false := by simp; omega
    have hnm : R = false := by rw [← HRr.out]; unfold isNm; rw [hX]; simp
    subst hnm
    clear h ho hX
    go_wp2
    go_ret
    exact ⟨rfl, rfl⟩
   ·rw [ho] at hX
    have q0 : ¬ 97 ≤ (c : Int) := by omega
    have q1 : ¬ 48 ≤ (c : Int) := by omega
    have q2 : ((c : Int) == 46) = false := by simp; omega
    have q3 : ((c : Int) == 45) = false := by simp; omega
    have hnm : R = false := by rw [← HRr.out]; unfold isNm; rw [hX]; simp
    subst hnm
    clear h ho hX
    go_wp2
    go_ret
    exact ⟨rfl, rfl⟩
  ·obtain rfl : i = N := by omega
   have hcl : ¬ (i : Int) < (i : Int) := by omega
   have hX := HX.out
   rw [List.drop_eq_nil_of_le (by rw [len_bytes]; omega)] at hX
   have hnm : R = (decide (1 ≤ i) && decide (i ≤ 64)) := by rw [← HRr.out]; unfold isNm; rw [hX, HN.out]; simp
   clear HX hX
   by_cases h1 : 1 ≤ i
   ·have h1' : (1 : Int) ≤ (i : Int) := by omega
    rw [decide_eq_true h1] at hnm
    by_cases h2 : i ≤ 64
    ·have h2' : (i : Int) ≤ 64 := by omega
     rw [decide_eq_true h2] at hnm
     subst hnm
     clear h1 h2
     go_wp2
     go_ret
     exact ⟨rfl, rfl⟩
    ·have h2' : ¬ (i : Int) ≤ 64 := by omega
     rw [decide_eq_false h2] at hnm
     subst hnm
     clear h1 h2
     go_wp2
     go_ret
     exact ⟨rfl, rfl⟩
   ·have h1' : ¬ (1 : Int) ≤ (i : Int) := by omega
    rw [decide_eq_false h1] at hnm
    subst hnm
    clear h1
    go_wp2
    go_ret
    exact ⟨rfl, rfl⟩
theorem power_any (rd : Nat) (G : Nat → Prop) (k : Dk) (hs : k.steps < 1000000) (w : World) (hR : RefAt w G rd k) :
  Calls Tryz.prog 56 #[.pointer (some ⟨rd, 0, none⟩)] w fun e w' => e = .returned (.int .i64 ((passK k).1 : Int)) ∧ Rp w G rd (passK k).2 w' := by
 have hg2 := good_pass hR.good
 have hfs := pass_fs k
 obtain ⟨⟨v, sl, hblk, hrow, hvG, hlies, hslv⟩, hGrd, hlt, hg⟩ := hR
 have fin : ∀ w' k1, k1.fs = k.fs → k1.Good → w'.heap[rd]? = some (.cells (rcsR k1 v) 93 (0, 0)) → Keep (fun i => i = rd) w w' → Rp w G rd k1 w' := fun w' k1 e1 g1 hb1 hk1 => by
  refine ⟨G, ⟨⟨v, sl, hb1, ?_, hvG, ?_, hslv⟩, hGrd, fun i hi => Nat.lt_of_lt_of_le (hlt i hi) hk1.size, g1⟩, hk1.mono (fun i e => by subst e; exact hGrd), fun _ h => Or.inl h⟩
  ·rw [e1]
   refine own_keep hrow hk1 (fun g hg e => ?_)
   obtain ⟨cur, h2⟩ := own_blk hrow hg
   subst e
   rw [hblk] at h2
   cases h2
  ·rw [e1]
   intro x hx
   refine (hlies x hx).keep hk1 (fun g hg e => ?_) (fun _ h => h)
   obtain ⟨cur, h2⟩ := own_blk (hlies x hx).1 hg
   subst e
   rw [hblk] at h2
   cases h2
 have q2 : w.cell? ⟨rd, 2, none⟩ = some (.int .i64 (k.steps : Int)) := by rw [cell_of_block hblk]; rfl
 have q3 : w.cell? ⟨rd, 3, none⟩ = some (.bool k.off) := by rw [cell_of_block hblk]; rfl
 have q4 : w.cell? ⟨rd, 4, none⟩ = some (.int .i64 (leftK k)) := by rw [cell_of_block hblk]; rfl
 have z2 := unfrozen_of_block hblk 2
 have z3 := unfrozen_of_block hblk 3
 have z4 := unfrozen_of_block hblk 4
 have hws : wrap64 ((k.steps : Int) + 1) = (k.steps : Int) + 1 := by unfold wrap64; omega
 clear hrow hlies hslv
 cases hf : k.fu with
 | none =>
  have e : passK k = (0, { k with steps := k.steps + 1 }) := by unfold passK; rw [hf]
  rw [e] at hg2 hfs ⊢
  have hl : leftK k = -1 := by unfold leftK; rw [hf]
  rw [hl] at q4
  have HFu : Hid (k.fu = none) := hf
  clear hf hl hg hfs
  have hb' := block_setCell (i := 2) hblk (.int .i64 ((k.steps : Int) + 1))
  clear hblk
  go_enter Tryz.func56, Tryz.ntmps56
  go_wp2
  go_ret
  refine ⟨rfl, fin _ _ rfl hg2 ?_ ((Keep.refl (fun i => i = rd) w).setCell (p := ⟨rd, 2, none⟩) rfl _)⟩
  rw [hb']
  simp [rcsR, leftK, HFu.out]
 | some n =>
  have hn := hg.fu n hf
  cases n with
  | zero =>
   have e : passK k = (13, { k with off := true }) := by unfold passK; rw [hf]
   rw [e] at hg2 hfs ⊢
   have hl : leftK k = 0 := by unfold leftK; rw [hf]; rfl
   rw [hl] at q4
   have HFu : Hid (k.fu = some 0) := hf
   clear hf hl hg hfs
   have hb' := block_setCell (i := 3) hblk (.bool true)
   clear hblk
   go_enter Tryz.func56, Tryz.ntmps56
   go_wp2
   go_ret
   refine ⟨rfl, fin _ _ rfl hg2 ?_ ((Keep.refl (fun i => i = rd) w).setCell (p := ⟨rd, 3, none⟩) rfl _)⟩
   rw [hb']
   simp [rcsR, leftK, HFu.out]
  | succ n =>
   have e : passK k = (0, { k with steps := k.steps + 1, fu := some n }) := by unfold passK; rw [hf]
   rw [e] at hg2 hfs ⊢
   have hl : leftK k = (n : Int) + 1 := by unfold leftK; rw [hf]; rfl
   rw [hl] at q4
   clear hf hl hg hfs
   have hc0 : ((n : Int) + 1 == 0) = false := by simp; omega
   have hc1 : decide ((0 : Int) < (n : Int) + 1) = true := by simp only [decide_eq_true_eq]; omega
   have hc2 : (0 : Int) < (n : Int) + 1 := by omega
   have hwl : wrap64 ((n : Int) + 1 - 1) = (n : Int) := by unfold wrap64; omega
   have hb1 := block_setCell (i := 4) hblk (.int .i64 (n : Int))
   have hb2 := block_setCell (i := 2) hb1 (.int .i64 ((k.steps : Int) + 1))
   have p2 : (w.setCell ⟨rd, 4, none⟩ (.int .i64 (n : Int))).cell? ⟨rd, 2, none⟩ = some (.int .i64 (k.steps : Int)) := by rw [cell_of_block hb1]; rfl
   have y2 := unfrozen_of_block hb1 2
   clear hblk hb1
   go_enter Tryz.func56, Tryz.ntmps56
   go_wp2
   go_ret
   refine ⟨rfl, fin _ _ rfl hg2 ?_ (((Keep.refl (fun i => i = rd) w).setCell (p := ⟨rd, 4, none⟩) rfl _).setCell (p := ⟨rd, 2, none⟩) rfl _)⟩
   rw [hb2]
   simp [rcsR, leftK]
set_option maxRecDepth 100000 in
set_option maxHeartbeats 2000000 in
theorem refUsed_any (rd : Nat) (G : Nat → Prop) (k : Dk) (w : World) (hR : RefAt w G rd k) :
  Calls Tryz.prog 44 #[.pointer (some ⟨rd, 0, none⟩)] w fun e w' => e = .returned (.int .i64 (used k.fs : Int)) ∧ w' = w := by
 have hroom := hR.good.room
 have husd := hR.good.used
 obtain ⟨⟨v, sl, hblk, hrow, _, hlies, _⟩, _, _, _⟩ := hR
 have q0 : w.cell? ⟨rd, 0, none⟩ = some v := by rw [cell_of_block hblk]; rfl
 obtain ⟨va, vc, rfl, hvl⟩ := row_form hrow
 obtain ⟨N, HN⟩ : ∃ N, Hid (k.fs.length = N) := ⟨_, rfl⟩
 rw [HN.out] at q0 hvl
 have HR : Hid (w.ownsRow 0 113 3 (.slice va k.fs.length vc) k.fs.length (ev sl k.fs)) := hrow
 have HLi : Hid (∀ x ∈ k.fs, Lies w G (sl x.1) x.2) := hlies
 obtain ⟨U, HU⟩ : ∃ U, Hid (used k.fs = U) := ⟨_, rfl⟩
 rw [HU.out] at husd ⊢
 clear hrow hblk hlies
 go_enter Tryz.func44, Tryz.ntmps44
 go_wp2_with fail
 go_loopw [3, 4] (fun s3 s4 wr => ∃ i u : Nat, i ≤ N ∧ s4 = .int .i64 i ∧ s3 = .int .i64 u ∧ Hid (u + used (k.fs.drop i) = U) ∧ wr = w) (fun _ s4 _ => N - (intOf s4).toNat)
 case atStart => exact ⟨0, 0, by omega, rfl, rfl, by show 0 + used (k.fs.drop 0) = U; rw [Nat.zero_add, List.drop_zero]; exact HU.out, rfl⟩
 case round =>
  obtain ⟨i, u, hi, rfl, rfl, HX, hw⟩ := hrel
  replace hw := hw.symm
  subst hw
  by_cases hlt : i < N
  ·have hcl : (i : Int) < (N : Int) := by omega
   have hpos : 0 < k.fs.length := by rw [HN.out]; omega
   obtain ⟨g, cap, e, hcap, hcm, hcs⟩ := row3 HR.out hpos
   cases e
   rw [HN.out] at hcap
   have hil : i < k.fs.length := by rw [HN.out]; exact hlt
   obtain ⟨x, hx⟩ : ∃ x, k.fs[i]? = some x := ⟨_, List.getElem?_eq_getElem hil⟩
   have hc := (hcs i x hx).2.1
   obtain ⟨aj, cj, hv⟩ : ∃ a c, sl x.1 = .slice a x.2.b.length c := by
    obtain ⟨a, c, hv, _⟩ := Rd.ofRowE (HLi.out x (List.mem_of_getElem? hx)).1
    exact ⟨a, c, hv⟩
   rw [hv] at hc
   have hX := HX.out
   rw [List.drop_eq_getElem_cons hil, (List.getElem?_eq_some_iff.1 hx).2] at hX
   obtain ⟨lx, hlx⟩ : ∃ lx, x.2.b.length = lx := ⟨_, rfl⟩
   have hX2 : u + (lx + used (k.fs.drop (i + 1))) = U := by rw [← hlx]; exact hX
   rw [hlx] at hc
   have hlen1 := fun w => len_slice aj lx cj 29 3 w Tryz.underlying29
   have hw2 : wrap64 ((u : Int) + (lx : Int)) = (u : Int) + (lx : Int) := by unfold wrap64; omega
   have HX2 : Hid (u + lx + used (k.fs.drop (i + 1)) = U) := by show _ = _; omega
   clear hcs hX HX hv hlx hX2
   go_wp2
   exact ⟨⟨i + 1, u + lx, by omega, by go_num, by go_num, HX2, trivial⟩, by simp [intOf]; omega⟩
  ·obtain rfl : i = N := by omega
   have hcl : ¬ (i : Int) < (i : Int) := by omega
   have hX := HX.out
   rw [List.drop_eq_nil_of_le (by rw [HN.out]; exact Nat.le_refl _)] at hX
   have hI : U = u := by have : u + 0 = U := hX; omega
   subst hI
   clear HX hX
   go_wp2
   go_ret
   exact ⟨rfl, rfl⟩
end Go.Proofs.YtikkieaokfailaaGreatDoor
