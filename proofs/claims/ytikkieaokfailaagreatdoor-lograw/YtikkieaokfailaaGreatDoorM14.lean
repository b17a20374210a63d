/- Texts of one seat, one behind the other: SdG, SdH, DkZg, DkZf, LsA, LsB, LsC, LsD. -/
import Derived.Test.YtikkieaokfailaaGreatDoorM9
import Derived.Test.YtikkieaokfailaaGreatDoorM13
import Derived.Test.YtikkieaokfailaaGreatDoorM8
import Derived.BigQuiet
import Derived.Deep.QuietTactic
namespace Go.Proofs.YtikkieaokfailaaGreatDoor
open Go.RowKit Go.Joins
def Tw (n : Nat) (a b : Fls) : Prop := Rise a → Rise b ∧ b.length ≤ a.length + n
theorem Tw.rfl (n : Nat) (a : Fls) : Tw n a a := fun h => ⟨h, Nat.le_add_right _ _⟩
theorem Tw.trans {n m q : Nat} {a b c : Fls} (h : Tw n a b) (h' : Tw m b c) (hq : n + m ≤ q) : Tw q a c := fun r => by
 obtain ⟨r1, l1⟩ := h r
 obtain ⟨r2, l2⟩ := h' r1
 exact ⟨r2, by omega⟩
theorem Tw.mono {n m : Nat} {a b : Fls} (h : Tw n a b) (hm : n ≤ m) : Tw m a b := fun r => ⟨(h r).1, by have := (h r).2; omega⟩
theorem tw_put (l : Fls) (s : Nm) (f : Fle) : Tw 1 l (putL l s f) := fun r => ⟨rise_put r s f, len_put l s f⟩
theorem tw_drop (l : Fls) (s : Nm) : Tw 0 l (dropL l s) := fun r => ⟨rise_drop r s, len_drop l s⟩
theorem len_put_there : ∀ (l : Fls) (s : Nm) (f g : Fle), Rise l → look l s = some g → (putL l s f).length = l.length
 | [], s, f, g, _, h => by simp [look] at h
 | (n, e) :: r, s, f, g, hr, h => by
  unfold look at h
  unfold putL
  split at h
  ·rename_i he
   subst he
   rw [if_neg (ltN_irrefl _), if_pos _root_.rfl]
   simp
  ·rename_i he
   split
   ·rename_i hlt
    exfalso
    have hm : ∀ (r : Fls), look r s = some g → ∃ p ∈ r, p.1 = s := by
     intro r
     induction r with
     | nil => intro h; simp [look] at h
     | cons q r ih =>
      intro h
      unfold look at h
      split at h
      ·rename_i e1; exact ⟨_, List.mem_cons_self .., e1⟩
      ·obtain ⟨p, hp, e2⟩ := ih h
       exact ⟨p, List.mem_cons_of_mem _ hp, e2⟩
    obtain ⟨p, hp, e2⟩ := hm r h
    have h3 := hr.1 p hp
    rw [e2] at h3
    exact ltN_irrefl _ (ltN_trans hlt h3)
   ·simp only [List.length_cons]
    rw [len_put_there r s f g hr.2 h]
theorem tw_there {l : Fls} {s : Nm} {g : Fle} (f : Fle) (h : look l s = some g) : Tw 0 l (putL l s f) := fun r => ⟨rise_put r s f, Nat.le_of_eq (len_put_there l s f g r h)⟩
theorem tw_step (k : Dk) (s : Nm) (err : Fle → Nat) (go : Dk → Fle → Dk) (n : Nat) (hgo : ∀ f, look k.fs s = some f → Tw n k.fs (go (passK k).2 f).fs) : Tw n k.fs (stepK k s err go).2.fs := by
 unfold stepK
 split
 ·exact Tw.rfl _ _
 ·split
  ·exact Tw.rfl _ _
  ·split
   ·exact Tw.rfl _ _
   ·rename_i f hf
    split
    ·exact Tw.rfl _ _
    ·split
     ·rw [pass_fs]; exact Tw.rfl _ _
     ·exact hgo f hf
theorem tw_sync (k : Dk) (s : Nm) : Tw 0 k.fs (syncK k s).2.fs := tw_step k s _ _ 0 fun f hf => by
 show Tw 0 k.fs (putL (passK k).2.fs s _)
 rw [pass_fs]; exact tw_there _ hf
theorem tw_cut (k : Dk) (s : Nm) (z : Int) : Tw 0 k.fs (cutK k s z).2.fs := tw_step k s _ _ 0 fun f hf => by
 show Tw 0 k.fs (putL (passK k).2.fs s _)
 rw [pass_fs]; exact tw_there _ hf
theorem tw_remove (k : Dk) (s : Nm) : Tw 0 k.fs (removeK k s).2.fs := tw_step k s _ _ 0 fun f _ => by
 show Tw 0 k.fs (dropL (passK k).2.fs s)
 rw [pass_fs]; exact tw_drop _ _
theorem tw_rename (k : Dk) (s t : Nm) : Tw 1 k.fs (renameK k s t).2.fs := by
 unfold renameK
 split
 ·exact Tw.rfl _ _
 ·split
  ·exact Tw.rfl _ _
  ·exact tw_step k s _ _ 1 fun f _ => by
    show Tw 1 k.fs (putL (dropL (passK k).2.fs s) t _)
    rw [pass_fs]; exact (tw_drop _ _).trans (tw_put _ _ _) (Nat.le_refl _)
theorem tw_app (k : Dk) (s : Nm) (xs : List Int) : Tw 1 k.fs (appK k s xs).2.fs := by
 unfold appK
 split
 ·exact Tw.rfl _ _
 ·split
  ·exact Tw.rfl _ _
  ·split
   ·exact Tw.rfl _ _
   ·rw [pass_fs]; exact tw_put _ _ _
theorem tw_stp {n : Nat} {k : Dk} {r : Nat × Dk} (dn : Bool) (h : Tw n k.fs r.2.fs) : Tw n k.fs (stp dn k r).2.2.fs := by
 unfold stp
 cases dn
 ·exact h
 ·exact Tw.rfl _ _
theorem tw_settle (c : Ch) (dn : Bool) (k : Dk) : Tw 0 k.fs (settleL c dn k).2.2.2.fs := by
 unfold settleL
 split
 ·exact tw_stp dn (tw_sync _ _)
 ·exact Tw.rfl _ _
theorem tw_putS (i sz : Nat) (c : Ch) (b : List Int) (dn : Bool) (k : Dk) : Tw 1 k.fs (putS i sz c b dn k).2.2.2.fs := by
 unfold putS
 exact tw_stp dn (tw_app _ _ _)
theorem tw_lay (most : Nat) (c : Ch) (b : List Int) (dn : Bool) (k : Dk) : Tw 1 k.fs (layL most c b dn k).2.2.2.fs := by
 unfold layL
 split
 ·split
  ·exact (tw_settle c dn k).mono (by omega)
  ·exact (tw_settle c dn k).trans (tw_putS _ _ _ _ _ _) (Nat.le_refl _)
 ·exact tw_putS _ _ _ _ _ _
theorem tw_layAll (most : Nat) : ∀ (rs : List (List Int)) (c : Ch) (dn : Bool) (k : Dk), Tw rs.length k.fs (layAllL most rs c dn k).2.2.2.fs
 | [], c, dn, k => tw_settle c dn k
 | r :: rs, c, dn, k => by
  unfold layAllL
  split
  ·exact (tw_lay most c (formL r) dn k).mono (by simp)
  ·exact (tw_lay most c (formL r) dn k).trans (tw_layAll most rs _ _ _) (by simp only [List.length_cons]; omega)
theorem tw_remAll : ∀ (l : List Nm) (dn : Bool) (k : Dk), Tw 0 k.fs (remAll l dn k).2.2.fs
 | [], dn, k => Tw.rfl _ _
 | s :: r, dn, k => by
  unfold remAll
  split
  ·exact tw_stp dn (tw_remove _ _)
  ·exact (tw_stp dn (tw_remove _ _)).trans (tw_remAll r _ _) (Nat.le_refl _)
theorem tw_remC (c : Ch) (dn : Bool) (k : Dk) : Tw 0 k.fs (remC c dn k).2.2.fs := tw_remAll _ _ _
theorem tw_remNew (dn : Bool) (k : Dk) : Tw 0 k.fs (remNewL dn k).2.2.fs := by
 unfold remNewL
 split
 ·exact tw_stp dn (tw_remove _ _)
 ·exact Tw.rfl _ _
theorem tw_back2 (c : Ch) (dn : Bool) (k : Dk) : Tw 0 k.fs (back2 c dn k).2.2.fs := by
 unfold back2
 split
 ·exact tw_remC _ _ _
 ·exact (tw_remC _ _ _).trans (tw_remNew _ _) (Nat.le_refl _)
theorem tw_room1 (x : Nat × Ch × Bool × Dk) : Tw 0 x.2.2.2.fs (room1 x).2.2.2.fs := by
 unfold room1 ifRoomL
 split
 ·exact tw_remC _ _ _
 ·exact Tw.rfl _ _
theorem tw_room2 (x : Nat × Ch × Bool × Dk) : Tw 0 x.2.2.2.fs (room2 x).2.2.2.fs := by
 unfold room2 ifRoomL
 split
 ·exact tw_back2 _ _ _
 ·exact Tw.rfl _ _
theorem tw_wrB (c : Ch) (dn : Bool) (k : Dk) : Tw 1 k.fs (wrB c dn k).2.2.2.fs := tw_stp dn (tw_app _ _ _)
theorem tw_rb4 (l : Lg) (rs : List (List Int)) (c : Ch) (x : Nat × Bool × Dk) : Tw 0 x.2.2.fs (rb4L l rs c x).2.2.fs := by
 unfold rb4L
 split
 ·exact Tw.rfl _ _
 ·exact tw_remC _ _ _
theorem tw_rb3 (l : Lg) (rs : List (List Int)) (c : Ch) (x : Nat × Bool × Dk) : Tw 1 x.2.2.fs (rb3L l rs c x).2.2.fs := by
 unfold rb3L
 split
 ·exact Tw.rfl _ _
 ·exact (tw_stp x.2.1 (tw_rename x.2.2 sNew sBase)).trans (tw_rb4 _ _ _ _) (Nat.le_refl _)
theorem tw_rb2 (l : Lg) (rs : List (List Int)) (x : Nat × Ch × Bool × Dk) : Tw 1 x.2.2.2.fs (rb2L l rs x).2.2.fs := by
 unfold rb2L
 split
 ·exact Tw.rfl _ _
 ·exact (tw_stp x.2.2.1 (tw_sync x.2.2.2 sNew)).trans (tw_rb3 _ _ _ _) (Nat.le_refl _)
theorem tw_rb1 (l : Lg) (rs : List (List Int)) (x : Nat × Ch × Bool × Dk) : Tw 2 x.2.2.2.fs (rb1L l rs x).2.2.fs := by
 unfold rb1L
 split
 ·exact Tw.rfl _ _
 ·exact ((tw_wrB x.2.1 x.2.2.1 x.2.2.2).trans (tw_room2 _) (Nat.le_refl _)).trans (tw_rb2 _ _ _) (Nat.le_refl _)
theorem tw_rebase (l : Lg) (k : Dk) (rs : List (List Int)) : Tw (rs.length + 2) k.fs (rebaseT l k rs).2.2.fs := by
 unfold rebaseT
 split
 ·exact Tw.rfl _ _
 ·split
  ·exact Tw.rfl _ _
  ·exact ((tw_layAll l.most rs _ l.dn k).trans (tw_room1 _) (Nat.le_refl _)).trans (tw_rb1 l rs _) (Nat.le_refl _)
theorem tw_append (l : Lg) (k : Dk) (xs : List Int) : Tw 1 k.fs (appendT l k xs).2.2.fs := by
 unfold appendT
 split
 ·exact Tw.rfl _ _
 ·exact tw_lay _ _ _ _ _
theorem tw_commit (l : Lg) (k : Dk) : Tw 0 k.fs (commitL l k).2.2.fs := tw_settle _ _ _
theorem tw_readSeg (l : Lg) (i : Nat) (k : Dk) : Tw 0 k.fs (readSegL l i k).2.2.2.fs := by
 unfold readSegL readSegR
 split
 ·exact Tw.rfl _ _
 ·split
  ·exact Tw.rfl _ _
  ·exact tw_stp l.dn (tw_cut _ _ _)
theorem tw_rdSegs : ∀ (m i : Nat) (l : Lg) (k : Dk), Tw 0 k.fs (rdSegs m i l k).2.2.fs
 | 0, _, _, _ => Tw.rfl _ _
 | m + 1, i, l, k => by
  unfold rdSegs
  split
  ·exact tw_readSeg _ _ _
  ·split
   ·exact (tw_readSeg _ _ _).trans (tw_rdSegs m _ _ _) (Nat.le_refl _)
   ·exact (tw_readSeg _ _ _).trans (tw_remAll _ _ _) (Nat.le_refl _)
theorem tw_clean (c : Ch) (dn : Bool) (k : Dk) : Tw 0 k.fs (cleanL c dn k).2.2.2.fs := by
 unfold cleanL
 split
 ·exact Tw.rfl _ _
 ·exact tw_remAll _ _ _
theorem tw_openD (r : Nat × Lg × Dk) : Tw 0 r.2.2.fs (openR.openD r).2.2.fs := by
 unfold openR.openD
 split
 ·exact Tw.rfl _ _
 ·exact tw_commit _ _
theorem tw_openC (most : Nat) (q : Nat × Ch × Bool × Dk) : Tw 0 q.2.2.2.fs (openR.openC most q).2.2.fs := by
 unfold openR.openC
 split
 ·exact Tw.rfl _ _
 ·exact (tw_rdSegs _ _ _ _).trans (tw_openD _) (Nat.le_refl _)
theorem tw_open (most : Nat) (k : Dk) : Tw 0 k.fs (openL most k).2.2.fs := by
 unfold openL openR
 split
 ·exact Tw.rfl _ _
 ·exact (tw_clean _ _ _).trans (tw_openC _ _) (Nat.le_refl _)
theorem tw_fuse (k : Dk) (n : Int) : Tw 0 k.fs (fuseK k n).2.fs := by
 unfold fuseK
 split
 ·exact Tw.rfl _ _
 ·split
  ·exact Tw.rfl _ _
  ·exact Tw.rfl _ _
theorem clean_gr (g : Nat) (k : Dk) : (cleanL ⟨g, 0, 0, false⟩ false k).2.2.2.steps ≤ k.steps + k.fs.length ∧ (cleanL ⟨g, 0, 0, false⟩ false k).2.1.cnt ≤ k.fs.length ∧ (cleanL ⟨g, 0, 0, false⟩ false k).2.1.g = g ∧ (cleanL ⟨g, 0, 0, false⟩ false k).2.1.size = 0 := by
 have h1 := list_len k
 unfold cleanL
 split
 ·exact ⟨Nat.le_add_right _ _, Nat.zero_le _, _root_.rfl, _root_.rfl⟩
 ·have h2 := (remAll_gr ((listK k).2.filter (left g (cntN (listK k).2 g))) false k).1
  have h3 : ((listK k).2.filter (left g (cntN (listK k).2 g))).length ≤ (listK k).2.length := List.length_filter_le _ _
  have h4 := cntN_le (listK k).2 g
  exact ⟨by dsimp only; omega, by dsimp only; omega, _root_.rfl, _root_.rfl⟩
theorem open_gr (most : Nat) (k : Dk) : (openL most k).2.2.steps ≤ k.steps + 3 * k.fs.length + 1 ∧ (openL most k).2.1.most = most ∧ (openL most k).2.1.ch.cnt ≤ k.fs.length := by
 unfold openL openR
 generalize baseR (readK k sBase) = b
 split
 ·exact ⟨by dsimp only; omega, _root_.rfl, Nat.zero_le _⟩
 ·obtain ⟨c1, c2, c3, c4⟩ := clean_gr b.2 k
  generalize cleanL ⟨b.2, 0, 0, false⟩ false k = q at *
  unfold openR.openC
  split
  ·exact ⟨by dsimp only; omega, _root_.rfl, c2⟩
  ·obtain ⟨r1, r2, r3, r4, r5⟩ := rd_gr q.2.1.cnt 0 ⟨most, [], q.2.1, q.2.2.1⟩ q.2.2.2
   generalize rdSegs q.2.1.cnt 0 ⟨most, [], q.2.1, q.2.2.1⟩ q.2.2.2 = r at *
   dsimp only at r1 r2 r3 r4 r5
   unfold openR.openD
   split
   ·exact ⟨by omega, r2, by omega⟩
   ·obtain ⟨s1, s2, s3, s4⟩ := settle_gr { r.2.1.ch with loose := decide (0 < r.2.1.ch.cnt) } r.2.1.dn r.2.2
    unfold commitL
    refine ⟨?_, r2, ?_⟩
    ·dsimp only at s1 ⊢; omega
    ·dsimp only at s4 ⊢; rw [s4]; omega
theorem rdL_used (k : Dk) (s : Nm) : (readK k s).2.length ≤ used k.fs := Nat.le_trans (read_lenO k s) (lenO_used _ _)
theorem readSeg_sz (l : Lg) (i : Nat) (k : Dk) (z : Nat) (hz : l.ch.size ≤ z) (hu : used k.fs ≤ z) : (readSegL l i k).2.2.1.ch.size ≤ z := by
 have h0 := rdL_used k (segN l.ch.g i)
 unfold readSegL readSegR
 obtain ⟨P, HP⟩ : ∃ P, readK k (segN l.ch.g i) = P := ⟨_, _root_.rfl⟩
 rw [HP] at h0 ⊢
 obtain ⟨h1, h2⟩ := scanF_le P.2.length P.2
 split
 ·exact hz
 ·split
  ·exact Nat.le_trans h2 (Nat.le_trans h0 hu)
  ·exact Nat.le_trans h2 (Nat.le_trans h0 hu)
theorem rd_sz (z : Nat) : ∀ (m i : Nat) (l : Lg) (k : Dk), l.ch.size ≤ z → used k.fs ≤ z → (rdSegs m i l k).2.1.ch.size ≤ z
 | 0, _, _, _, h, _ => h
 | m + 1, i, l, k, h, hu => by
  have h1 := readSeg_sz l (i + 1) k z h hu
  have h2 := (readSeg_same l (i + 1) k).2.2.2.2.2.2.2
  unfold rdSegs
  split
  ·exact h1
  ·rename_i e0
   split
   ·rename_i e1
    have h3 := h2 (by omega) e1
    rw [h3]
    exact rd_sz z m (i + 1) _ _ h1 hu
   ·unfold rdSegs.rdEnd
    dsimp only
    split
    ·exact h1
    ·exact h1
theorem rd_rc : ∀ (m i : Nat) (l : Lg) (k : Dk), (rdSegs m i l k).2.1.recs.length ≤ l.recs.length + segTot l.ch.g k m i
 | 0, _, _, _ => Nat.le_add_right _ _
 | m + 1, i, l, k => by
  obtain ⟨_, hg, _, _, _, h1, _, h2⟩ := readSeg_same l (i + 1) k
  unfold rdSegs segTot
  split
  ·dsimp only; omega
  ·rename_i e0
   split
   ·rename_i e1
    have h3 := h2 (by omega) e1
    rw [h3]
    have h4 := rd_rc m (i + 1) (readSegL l (i + 1) k).2.2.1 k
    rw [hg] at h4
    omega
   ·unfold rdSegs.rdEnd
    dsimp only
    omega
theorem clean_used (c : Ch) (dn : Bool) (k : Dk) : used (cleanL c dn k).2.2.2.fs ≤ used k.fs := by
 unfold cleanL
 split
 ·exact Nat.le_refl _
 ·exact remAll_used _ _ _
theorem open_bd (most : Nat) (k : Dk) (hr : Rise k.fs) (hb : ∀ s, Bd (readK k s).2) : (openL most k).2.1.recs.length ≤ used k.fs ∧ (openL most k).2.1.ch.size ≤ used k.fs ∧ (openL most k).2.1.ch.g < 18446744073709551616 := by
 have hbl := baseR_lt _ (hb sBase)
 unfold openL openR
 generalize baseR (readK k sBase) = b at *
 split
 ·exact ⟨Nat.zero_le _, Nat.zero_le _, by show (0 : Nat) < _; omega⟩
 ·obtain ⟨c1, c2, c3, c4⟩ := clean_gr b.2 k
  have c5 := clean_used ⟨b.2, 0, 0, false⟩ false k
  have c6 := (tw_clean ⟨b.2, 0, 0, false⟩ false k hr).1
  generalize cleanL ⟨b.2, 0, 0, false⟩ false k = q at *
  unfold openR.openC
  split
  ·exact ⟨Nat.zero_le _, by dsimp only; omega, by dsimp only; omega⟩
  ·obtain ⟨r1, r2, r3, r4, r5⟩ := rd_gr q.2.1.cnt 0 ⟨most, [], q.2.1, q.2.2.1⟩ q.2.2.2
   have r6 := rd_sz (used k.fs) q.2.1.cnt 0 ⟨most, [], q.2.1, q.2.2.1⟩ q.2.2.2 (by dsimp only; omega) c5
   have r7 := rd_rc q.2.1.cnt 0 ⟨most, [], q.2.1, q.2.2.1⟩ q.2.2.2
   have r8 := segTot_used q.2.1.g q.2.2.2 c6 q.2.1.cnt 0
   generalize rdSegs q.2.1.cnt 0 ⟨most, [], q.2.1, q.2.2.1⟩ q.2.2.2 = r at *
   dsimp only [List.length_nil] at r1 r7
   have r9 : r.2.1.recs.length ≤ used k.fs := by
    have : ([] : List (List Int)).length = 0 := _root_.rfl
    omega
   unfold openR.openD
   split
   ·exact ⟨r9, r6, by omega⟩
   ·have s3 := (settle_gr { r.2.1.ch with loose := decide (0 < r.2.1.ch.cnt) } r.2.1.dn r.2.2).2.2.1
    have s5 := settle_sz { r.2.1.ch with loose := decide (0 < r.2.1.ch.cnt) } r.2.1.dn r.2.2
    unfold commitL
    refine ⟨r9, ?_, ?_⟩
    ·dsimp only at s5 ⊢; rw [s5]; exact r6
    ·dsimp only at s3 ⊢; rw [s3]; omega
def Z0 (c : Ch) : Prop := c.cnt = 0 → c.size = 0
theorem z0_settle {c : Ch} (h : Z0 c) (dn : Bool) (k : Dk) : Z0 (settleL c dn k).2.1 := by
 obtain ⟨_, _, _, s4⟩ := settle_gr c dn k
 have s5 := settle_sz c dn k
 intro e
 rw [s4] at e
 rw [s5]
 exact h e
theorem z0_putS {c : Ch} (h : Z0 c) (i sz : Nat) (hi : 0 < i) (b : List Int) (dn : Bool) (k : Dk) : Z0 (putS i sz c b dn k).2.1 := by
 unfold putS
 dsimp only
 split
 ·intro e; dsimp only at e; omega
 ·exact h
theorem z0_lay {c : Ch} (h : Z0 c) (most : Nat) (b : List Int) (dn : Bool) (k : Dk) : Z0 (layL most c b dn k).2.1 := by
 unfold layL
 split
 ·split
  ·exact z0_settle h dn k
  ·exact z0_putS (z0_settle h dn k) _ _ (by omega) _ _ _
 ·exact z0_putS h _ _ (by omega) _ _ _
theorem z0_layAll (most : Nat) : ∀ (rs : List (List Int)) (c : Ch) (dn : Bool) (k : Dk), Z0 c → Z0 (layAllL most rs c dn k).2.1
 | [], _, dn, k, h => z0_settle h dn k
 | r :: rs, c, dn, k, h => by
  unfold layAllL
  split
  ·exact z0_lay h most _ dn k
  ·exact z0_layAll most rs _ _ _ (z0_lay h most _ dn k)
theorem z0_append {l : Lg} (h : Z0 l.ch) (k : Dk) (xs : List Int) : Z0 (appendT l k xs).2.1.ch := by
 unfold appendT
 split
 ·exact h
 ·exact z0_lay h _ _ _ _
theorem z0_commit {l : Lg} (h : Z0 l.ch) (k : Dk) : Z0 (commitL l k).2.1.ch := z0_settle h _ _
theorem rebase_cases (l : Lg) (k : Dk) (rs : List (List Int)) : ∃ dn, (rebaseL l k rs).2.1 = ⟨l.most, l.recs, l.ch, dn⟩ ∨ (rebaseL l k rs).2.1 = ⟨l.most, rs, (layAllL l.most rs ⟨l.ch.g + 1, 0, 0, false⟩ l.dn k).2.1, dn⟩ := by
 have b3 := (room1_gr (layAllL l.most rs ⟨l.ch.g + 1, 0, 0, false⟩ l.dn k)).2.2
 unfold rebaseL
 generalize layAllL l.most rs ⟨l.ch.g + 1, 0, 0, false⟩ l.dn k = L0 at *
 obtain ⟨Y, hY⟩ : ∃ Y, room1 L0 = Y := ⟨_, _root_.rfl⟩
 rw [hY] at b3 ⊢
 have c3 := (room2_gr Y.2.1 Y.2.2.1 Y.2.2.2).2.2
 unfold rb1L
 split
 ·exact ⟨_, Or.inl _root_.rfl⟩
 ·generalize room2 (wrB Y.2.1 Y.2.2.1 Y.2.2.2) = Z at *
  unfold rb2L
  split
  ·exact ⟨_, Or.inl _root_.rfl⟩
  ·generalize stp Z.2.2.1 Z.2.2.2 (syncK Z.2.2.2 sNew) = V
   unfold rb3L
   split
   ·exact ⟨_, Or.inl _root_.rfl⟩
   ·generalize stp V.2.1 V.2.2 (renameK V.2.2 sNew sBase) = U
    unfold rb4L
    split
    ·exact ⟨_, Or.inl _root_.rfl⟩
    ·exact ⟨_, Or.inr (by dsimp only; rw [c3, b3])⟩
theorem z0_rebase {l : Lg} (h : Z0 l.ch) (k : Dk) (rs : List (List Int)) : Z0 (rebaseT l k rs).2.1.ch := by
 unfold rebaseT
 split
 ·exact h
 ·split
  ·exact h
  ·obtain ⟨dn, e | e⟩ := rebase_cases l k rs
   ·rw [e]; exact h
   ·rw [e]; exact z0_layAll _ _ _ _ _ (fun _ => _root_.rfl)
theorem z0_rd : ∀ (m i : Nat) (l : Lg) (k : Dk), (m ≠ 0 → l.ch.cnt ≠ 0) → Z0 l.ch → Z0 (rdSegs m i l k).2.1.ch
 | 0, _, _, _, _, h => h
 | m + 1, i, l, k, hc, h => by
  obtain ⟨_, _, h3, _⟩ := readSeg_same l (i + 1) k
  have hc := hc (by omega)
  have h4 : Z0 (readSegL l (i + 1) k).2.2.1.ch := fun e => absurd (h3.symm.trans e) hc
  unfold rdSegs
  split
  ·exact h4
  ·split
   ·exact z0_rd m (i + 1) _ _ (fun _ => by rw [h3]; exact hc) h4
   ·unfold rdSegs.rdEnd
    dsimp only
    split
    ·intro e; dsimp only at e; omega
    ·exact h4
theorem z0_open (most : Nat) (k : Dk) : Z0 (openL most k).2.1.ch := by
 unfold openL openR
 generalize baseR (readK k sBase) = b
 split
 ·exact fun _ => _root_.rfl
 ·obtain ⟨_, _, _, c4⟩ := clean_gr b.2 k
  generalize cleanL ⟨b.2, 0, 0, false⟩ false k = q at *
  unfold openR.openC
  split
  ·exact fun _ => c4
  ·have r1 := z0_rd q.2.1.cnt 0 ⟨most, [], q.2.1, q.2.2.1⟩ q.2.2.2 (fun h => h) (fun _ => c4)
   generalize rdSegs q.2.1.cnt 0 ⟨most, [], q.2.1, q.2.2.1⟩ q.2.2.2 = r at *
   unfold openR.openD
   split
   ·exact r1
   ·exact z0_commit (l := ⟨r.2.1.most, r.2.1.recs, { r.2.1.ch with loose := decide (0 < r.2.1.ch.cnt) }, r.2.1.dn⟩) r1 _
end Go.Proofs.YtikkieaokfailaaGreatDoor

namespace Go.Proofs.YtikkieaokfailaaGreatDoor
open Go.RowKit Go.Joins
def Rm (a b : Dk) : Prop := b.room = a.room
theorem Rm.rfl (a : Dk) : Rm a a := _root_.rfl
theorem Rm.trans {a b c : Dk} (h : Rm a b) (h' : Rm b c) : Rm a c := Eq.trans h' h
theorem rm_pass (k : Dk) : Rm k (passK k).2 := by
 unfold passK
 split <;> exact Rm.rfl _
theorem rm_step (k : Dk) (s : Nm) (err : Fle → Nat) (go : Dk → Fle → Dk) (hgo : ∀ f, Rm (passK k).2 (go (passK k).2 f)) : Rm k (stepK k s err go).2 := by
 unfold stepK
 split
 ·exact Rm.rfl _
 ·split
  ·exact Rm.rfl _
  ·split
   ·exact Rm.rfl _
   ·split
    ·exact Rm.rfl _
    ·split
     ·exact rm_pass k
     ·exact (rm_pass k).trans (hgo _)
theorem rm_sync (k : Dk) (s : Nm) : Rm k (syncK k s).2 := rm_step k s _ _ fun _ => Rm.rfl _
theorem rm_cut (k : Dk) (s : Nm) (z : Int) : Rm k (cutK k s z).2 := rm_step k s _ _ fun _ => Rm.rfl _
theorem rm_remove (k : Dk) (s : Nm) : Rm k (removeK k s).2 := rm_step k s _ _ fun _ => Rm.rfl _
theorem rm_rename (k : Dk) (s t : Nm) : Rm k (renameK k s t).2 := by
 unfold renameK
 split
 ·exact Rm.rfl _
 ·split
  ·exact Rm.rfl _
  ·exact rm_step k s _ _ fun _ => Rm.rfl _
theorem rm_app (k : Dk) (s : Nm) (xs : List Int) : Rm k (appK k s xs).2 := by
 unfold appK
 split
 ·exact Rm.rfl _
 ·split
  ·exact Rm.rfl _
  ·split
   ·exact Rm.rfl _
   ·exact rm_pass _
theorem rm_stp {k : Dk} {r : Nat × Dk} (dn : Bool) (h : Rm k r.2) : Rm k (stp dn k r).2.2 := by
 unfold stp
 cases dn
 ·exact h
 ·exact Rm.rfl _
theorem rm_settle (c : Ch) (dn : Bool) (k : Dk) : Rm k (settleL c dn k).2.2.2 := by
 unfold settleL
 split
 ·exact rm_stp dn (rm_sync _ _)
 ·exact Rm.rfl _
theorem rm_putS (i sz : Nat) (c : Ch) (b : List Int) (dn : Bool) (k : Dk) : Rm k (putS i sz c b dn k).2.2.2 := by
 unfold putS
 exact rm_stp dn (rm_app _ _ _)
theorem rm_lay (most : Nat) (c : Ch) (b : List Int) (dn : Bool) (k : Dk) : Rm k (layL most c b dn k).2.2.2 := by
 unfold layL
 split
 ·split
  ·exact (rm_settle c dn k)
  ·exact (rm_settle c dn k).trans (rm_putS _ _ _ _ _ _)
 ·exact rm_putS _ _ _ _ _ _
theorem rm_layAll (most : Nat) : ∀ (rs : List (List Int)) (c : Ch) (dn : Bool) (k : Dk), Rm k (layAllL most rs c dn k).2.2.2
 | [], c, dn, k => rm_settle c dn k
 | r :: rs, c, dn, k => by
  unfold layAllL
  split
  ·exact (rm_lay most c (formL r) dn k)
  ·exact (rm_lay most c (formL r) dn k).trans (rm_layAll most rs _ _ _)
theorem rm_remAll : ∀ (l : List Nm) (dn : Bool) (k : Dk), Rm k (remAll l dn k).2.2
 | [], dn, k => Rm.rfl _
 | s :: r, dn, k => by
  unfold remAll
  split
  ·exact rm_stp dn (rm_remove _ _)
  ·exact (rm_stp dn (rm_remove _ _)).trans (rm_remAll r _ _)
theorem rm_remC (c : Ch) (dn : Bool) (k : Dk) : Rm k (remC c dn k).2.2 := rm_remAll _ _ _
theorem rm_remNew (dn : Bool) (k : Dk) : Rm k (remNewL dn k).2.2 := by
 unfold remNewL
 split
 ·exact rm_stp dn (rm_remove _ _)
 ·exact Rm.rfl _
theorem rm_back2 (c : Ch) (dn : Bool) (k : Dk) : Rm k (back2 c dn k).2.2 := by
 unfold back2
 split
 ·exact rm_remC _ _ _
 ·exact (rm_remC _ _ _).trans (rm_remNew _ _)
theorem rm_room1 (x : Nat × Ch × Bool × Dk) : Rm x.2.2.2 (room1 x).2.2.2 := by
 unfold room1 ifRoomL
 split
 ·exact rm_remC _ _ _
 ·exact Rm.rfl _
theorem rm_room2 (x : Nat × Ch × Bool × Dk) : Rm x.2.2.2 (room2 x).2.2.2 := by
 unfold room2 ifRoomL
 split
 ·exact rm_back2 _ _ _
 ·exact Rm.rfl _
theorem rm_wrB (c : Ch) (dn : Bool) (k : Dk) : Rm k (wrB c dn k).2.2.2 := rm_stp dn (rm_app _ _ _)
theorem rm_rb4 (l : Lg) (rs : List (List Int)) (c : Ch) (x : Nat × Bool × Dk) : Rm x.2.2 (rb4L l rs c x).2.2 := by
 unfold rb4L
 split
 ·exact Rm.rfl _
 ·exact rm_remC _ _ _
theorem rm_rb3 (l : Lg) (rs : List (List Int)) (c : Ch) (x : Nat × Bool × Dk) : Rm x.2.2 (rb3L l rs c x).2.2 := by
 unfold rb3L
 split
 ·exact Rm.rfl _
 ·exact (rm_stp x.2.1 (rm_rename x.2.2 sNew sBase)).trans (rm_rb4 _ _ _ _)
theorem rm_rb2 (l : Lg) (rs : List (List Int)) (x : Nat × Ch × Bool × Dk) : Rm x.2.2.2 (rb2L l rs x).2.2 := by
 unfold rb2L
 split
 ·exact Rm.rfl _
 ·exact (rm_stp x.2.2.1 (rm_sync x.2.2.2 sNew)).trans (rm_rb3 _ _ _ _)
theorem rm_rb1 (l : Lg) (rs : List (List Int)) (x : Nat × Ch × Bool × Dk) : Rm x.2.2.2 (rb1L l rs x).2.2 := by
 unfold rb1L
 split
 ·exact Rm.rfl _
 ·exact ((rm_wrB x.2.1 x.2.2.1 x.2.2.2).trans (rm_room2 _)).trans (rm_rb2 _ _ _)
theorem rm_rebase (l : Lg) (k : Dk) (rs : List (List Int)) : Rm k (rebaseT l k rs).2.2 := by
 unfold rebaseT
 split
 ·exact Rm.rfl _
 ·split
  ·exact Rm.rfl _
  ·exact ((rm_layAll l.most rs _ l.dn k).trans (rm_room1 _)).trans (rm_rb1 l rs _)
theorem rm_append (l : Lg) (k : Dk) (xs : List Int) : Rm k (appendT l k xs).2.2 := by
 unfold appendT
 split
 ·exact Rm.rfl _
 ·exact rm_lay _ _ _ _ _
theorem rm_commit (l : Lg) (k : Dk) : Rm k (commitL l k).2.2 := rm_settle _ _ _
theorem rm_readSeg (l : Lg) (i : Nat) (k : Dk) : Rm k (readSegL l i k).2.2.2 := by
 unfold readSegL readSegR
 split
 ·exact Rm.rfl _
 ·split
  ·exact Rm.rfl _
  ·exact rm_stp l.dn (rm_cut _ _ _)
theorem rm_rdSegs : ∀ (m i : Nat) (l : Lg) (k : Dk), Rm k (rdSegs m i l k).2.2
 | 0, _, _, _ => Rm.rfl _
 | m + 1, i, l, k => by
  unfold rdSegs
  split
  ·exact rm_readSeg _ _ _
  ·split
   ·exact (rm_readSeg _ _ _).trans (rm_rdSegs m _ _ _)
   ·exact (rm_readSeg _ _ _).trans (rm_remAll _ _ _)
theorem rm_clean (c : Ch) (dn : Bool) (k : Dk) : Rm k (cleanL c dn k).2.2.2 := by
 unfold cleanL
 split
 ·exact Rm.rfl _
 ·exact rm_remAll _ _ _
theorem rm_openD (r : Nat × Lg × Dk) : Rm r.2.2 (openR.openD r).2.2 := by
 unfold openR.openD
 split
 ·exact Rm.rfl _
 ·exact rm_commit _ _
theorem rm_openC (most : Nat) (q : Nat × Ch × Bool × Dk) : Rm q.2.2.2 (openR.openC most q).2.2 := by
 unfold openR.openC
 split
 ·exact Rm.rfl _
 ·exact (rm_rdSegs _ _ _ _).trans (rm_openD _)
theorem rm_open (most : Nat) (k : Dk) : Rm k (openL most k).2.2 := by
 unfold openL openR
 split
 ·exact Rm.rfl _
 ·exact (rm_clean _ _ _).trans (rm_openC _ _)
theorem rm_fuse (k : Dk) (n : Int) : Rm k (fuseK k n).2 := by
 unfold fuseK
 split
 ·exact Rm.rfl _
 ·split
  ·exact Rm.rfl _
  ·exact Rm.rfl _
theorem lay_sz (most : Nat) (c : Ch) (b : List Int) (dn : Bool) (k : Dk) : (layL most c b dn k).2.1.size ≤ c.size + b.length := (lay_gr most c b dn k).2.2.2.2
theorem layAll_sz (most : Nat) : ∀ (rs : List (List Int)) (c : Ch) (dn : Bool) (k : Dk), (∀ r ∈ rs, r.length ≤ 200) → (layAllL most rs c dn k).2.1.size ≤ c.size + 208 * rs.length
 | [], c, dn, k, _ => by show (settleL c dn k).2.1.size ≤ _; rw [settle_sz]; exact Nat.le_add_right _ _
 | r :: rs, c, dn, k, h => by
  have h1 := lay_sz most c (formL r) dn k
  rw [formL_len] at h1
  have h2 := h r (List.mem_cons_self ..)
  unfold layAllL
  simp only [List.length_cons]
  split
  ·omega
  ·have h3 := layAll_sz most rs (layL most c (formL r) dn k).2.1 (layL most c (formL r) dn k).2.2.1 (layL most c (formL r) dn k).2.2.2 (fun x hx => h x (List.mem_cons_of_mem _ hx))
   omega
theorem rebase_st (l : Lg) (k : Dk) (rs : List (List Int)) : (rebaseL l k rs).2.2.steps ≤ k.steps + 4 * rs.length + l.ch.cnt + 10 := by
 obtain ⟨a1, a2, a3, a4⟩ := layAll_gr l.most rs ⟨l.ch.g + 1, 0, 0, false⟩ l.dn k
 obtain ⟨b1, b2, b3⟩ := room1_gr (layAllL l.most rs ⟨l.ch.g + 1, 0, 0, false⟩ l.dn k)
 unfold rebaseL
 generalize layAllL l.most rs ⟨l.ch.g + 1, 0, 0, false⟩ l.dn k = L0 at *
 dsimp only at a4
 rw [show max 0 1 = 1 from rfl] at a4
 obtain ⟨Y, hY⟩ : ∃ Y, room1 L0 = Y := ⟨_, rfl⟩
 rw [hY] at b1 b2 b3 ⊢
 obtain ⟨c1, c2, c3⟩ := room2_gr Y.2.1 Y.2.2.1 Y.2.2.2
 rw [b3] at c1
 unfold rb1L
 split
 ·dsimp only; omega
 ·obtain ⟨Z, hZ⟩ : ∃ Z, room2 (wrB Y.2.1 Y.2.2.1 Y.2.2.2) = Z := ⟨_, rfl⟩
  rw [hZ] at c2 c3 ⊢
  rw [← b3, hZ] at c1
  rw [b3] at c1
  have d1 := stp_gr Z.2.2.1 Z.2.2.2 (syncK Z.2.2.2 sNew) (sync_gr _ _).1
  unfold rb2L
  split
  ·dsimp only; omega
  ·generalize stp Z.2.2.1 Z.2.2.2 (syncK Z.2.2.2 sNew) = V at *
   have e1 := stp_gr V.2.1 V.2.2 (renameK V.2.2 sNew sBase) (rename_gr _ _ _).1
   unfold rb3L
   split
   ·dsimp only; omega
   ·generalize stp V.2.1 V.2.2 (renameK V.2.2 sNew sBase) = U at *
    obtain ⟨f1, f2⟩ := remC_gr l.ch U.2.1 U.2.2
    unfold rb4L
    split
    ·dsimp only; omega
    ·dsimp only; omega
theorem Dk.Good.rbd {k : Dk} (h : k.Good) (s : Nm) : Bd (readK k s).2 := by
 rcases readK_cases' k s with ⟨f, hl, e⟩ | e
 ·rw [e]; dsimp only; exact (look_good h hl).2.2
 ·rw [e]; exact Bd.nil
structure LgB (n : Nat) (l : Lg) : Prop where
 g : l.ch.g < 18446744073709551616
 cnt : l.ch.cnt ≤ 32 + 14 * n
 size : l.ch.size ≤ 5000 + 3000 * n
 most : l.most ≤ 1048576
 recs : l.recs.length ≤ 5000 + 12 * n
 z0 : Z0 l.ch
theorem LgB.ok {n : Nat} {l : Lg} (h : LgB n l) (hn : n ≤ 200) : l.Ok := by
 obtain ⟨h1, h2, h3, h4, h5, _⟩ := h
 exact ⟨h1, by omega, by omega, by omega, by omega⟩
theorem LgB.next {n : Nat} {l : Lg} (h : LgB n l) : LgB (n + 1) l := by
 obtain ⟨h1, h2, h3, h4, h5, h6⟩ := h
 exact ⟨h1, by omega, by omega, h4, by omega, h6⟩
structure Pl (n : Nat) (o : Option Lg) (k : Dk) : Prop where
 ro : k.room ≤ 5000
 fl : k.fs.length ≤ 30 + 14 * n
 st : k.steps ≤ 100 + 5300 * n
 lg : ∀ l, o = some l → LgB n l
section
variable {n : Nat} {o : Option Lg} {l : Lg} {k : Dk}
theorem Pl.next (h : Pl n o k) : Pl (n + 1) o k := ⟨h.ro, by have := h.fl; omega, by have := h.st; omega, fun l e => (h.lg l e).next⟩
theorem Pl.nope (h : Pl n o k) : Pl n .none k := ⟨h.ro, h.fl, h.st, fun _ e => by cases e⟩
theorem Pl.fuse (h : Pl n o k) (z : Int) (hr : Rise k.fs) : Pl (n + 1) o (fuseK k z).2 := by
 have h1 := (tw_fuse k z hr).2
 have h2 : (fuseK k z).2.steps = k.steps := by
  unfold fuseK
  split
  ·rfl
  ·split <;> rfl
 have h3 := h.fl
 have h4 := h.st
 exact ⟨by rw [rm_fuse k z]; exact h.ro, by omega, by omega, fun l e => (h.lg l e).next⟩
theorem Pl.rest (h : Pl n o k) (keep : List Int) : Pl n .none (restK k keep) := ⟨h.ro, by show (restL k.fs keep).length ≤ _; rw [restL_len]; exact h.fl, h.st, fun _ e => by cases e⟩
theorem Pl.append (h : Pl n (some l) k) (hr : Rise k.fs) (xs : List Int) (hx : xs.length ≤ 200) : Pl (n + 1) (some (appendT l k xs).2.1) (appendT l k xs).2.2 := by
 obtain ⟨g1, g2, g3, g4, g5, g6⟩ := h.lg l rfl
 have t1 := (tw_append l k xs hr).2
 have t2 := rm_append l k xs
 have t3 := z0_append g6 k xs
 have h3 := h.fl
 have h4 := h.st
 have h5 := h.ro
 have l1 := lay_gr l.most l.ch (formL xs) l.dn k
 rw [formL_len] at l1
 have e : appendT l k xs = appendL l k xs := by unfold appendT; rw [if_neg (by omega)]
 rw [e] at t1 t2 t3 ⊢
 refine ⟨by rw [t2]; exact h5, by omega, ?_, fun l' e' => ?_⟩
 ·show (layL l.most l.ch (formL xs) l.dn k).2.2.2.steps ≤ _; omega
 ·have e' := Option.some.inj e'
  subst e'
  refine ⟨?_, ?_, ?_, g4, ?_, t3⟩
  ·show (layL l.most l.ch (formL xs) l.dn k).2.1.g < _; omega
  ·show (layL l.most l.ch (formL xs) l.dn k).2.1.cnt ≤ _; omega
  ·show (layL l.most l.ch (formL xs) l.dn k).2.1.size ≤ _; omega
  ·unfold appendL
   dsimp only
   split
   ·rw [List.length_append, List.length_singleton]; omega
   ·omega
theorem Pl.commit (h : Pl n (some l) k) (hr : Rise k.fs) : Pl (n + 1) (some (commitL l k).2.1) (commitL l k).2.2 := by
 obtain ⟨g1, g2, g3, g4, g5, g6⟩ := h.lg l rfl
 have t1 := (tw_commit l k hr).2
 have t2 := rm_commit l k
 have t3 := z0_commit g6 k
 have h3 := h.fl
 have h4 := h.st
 have h5 := h.ro
 obtain ⟨s1, _, s3, s4⟩ := settle_gr l.ch l.dn k
 have s5 := settle_sz l.ch l.dn k
 refine ⟨by rw [t2]; exact h5, by omega, ?_, fun l' e' => ?_⟩
 ·show (settleL l.ch l.dn k).2.2.2.steps ≤ _; omega
 ·have e' := Option.some.inj e'
  subst e'
  refine ⟨?_, ?_, ?_, g4, by show l.recs.length ≤ _; omega, t3⟩
  ·show (settleL l.ch l.dn k).2.1.g < _; omega
  ·show (settleL l.ch l.dn k).2.1.cnt ≤ _; omega
  ·show (settleL l.ch l.dn k).2.1.size ≤ _; omega
theorem Pl.rebase (h : Pl n (some l) k) (hn : n ≤ 200) (hr : Rise k.fs) (rs : List (List Int)) (hx : ∀ r ∈ rs, r.length ≤ 200) (hl : rs.length ≤ 12) : Pl (n + 1) (some (rebaseT l k rs).2.1) (rebaseT l k rs).2.2 := by
 obtain ⟨g1, g2, g3, g4, g5, g6⟩ := h.lg l rfl
 have t1 := (tw_rebase l k rs hr).2
 have t2 := rm_rebase l k rs
 have t3 := z0_rebase g6 k rs
 have h3 := h.fl
 have h4 := h.st
 have h5 := h.ro
 have q1 := rebase_st l k rs
 refine ⟨by rw [t2]; exact h5, by omega, ?_, fun l' e' => ?_⟩
 ·unfold rebaseT
  split
  ·dsimp only; omega
  ·split
   ·dsimp only; omega
   ·omega
 ·have e' := Option.some.inj e'
  subst e'
  unfold rebaseT at t3 ⊢
  split
  ·exact (h.lg l rfl).next
  ·split
   ·exact (h.lg l rfl).next
   ·rename_i b1 b2
    rw [if_neg b1, if_neg b2] at t3
    obtain ⟨dn, e | e⟩ := rebase_cases l k rs
    ·rw [e]; exact ⟨g1, by show l.ch.cnt ≤ _; omega, by show l.ch.size ≤ _; omega, g4, by show l.recs.length ≤ _; omega, g6⟩
    ·obtain ⟨_, _, a3, a4⟩ := layAll_gr l.most rs ⟨l.ch.g + 1, 0, 0, false⟩ l.dn k
     have a5 := layAll_sz l.most rs ⟨l.ch.g + 1, 0, 0, false⟩ l.dn k hx
     rw [e] at t3 ⊢
     dsimp only at a3 a4 a5
     exact ⟨by dsimp only; omega, by dsimp only; omega, by dsimp only; omega, g4, by dsimp only; omega, t3⟩
theorem Pl.opens (h : Pl n o k) (hn : n ≤ 120) (most : Nat) (hm : most ≤ 1048576) (hg : k.Good) : Pl (n + 1) (some (openL most k).2.1) (openL most k).2.2 := by
 have h3 := h.fl
 have h4 := h.st
 have h5 := h.ro
 have hu := hg.used
 have t1 := (tw_open most k hg.rise).2
 have t2 := rm_open most k
 obtain ⟨o1, o2, o3⟩ := open_gr most k
 obtain ⟨b1, b2, b3⟩ := open_bd most k hg.rise hg.rbd
 refine ⟨by rw [t2]; exact h5, by omega, by omega, fun l' e' => ?_⟩
 have e' := Option.some.inj e'
 subst e'
 exact ⟨b3, by omega, by omega, by omega, by omega, z0_open most k⟩
end
end Go.Proofs.YtikkieaokfailaaGreatDoor

namespace Go.Proofs.YtikkieaokfailaaGreatDoor
open Go.RowKit Go.Joins
theorem Rp.then {w w1 w2 : World} {G : Nat → Prop} {rd : Nat} {k : Dk} (h : Rp w G rd k w1) (hb : Below w1.heap.size w1 w2) : Rp w G rd k w2 := by
 obtain ⟨G', h1, h2, h3⟩ := h
 exact ⟨G', h1.below hb, h2.trans (Keep.ofBelow hb), h3⟩
theorem headD_drop (l : List Int) (n : Nat) : (l.drop n).headD 0 = l.getD n 0 := by
 induction l generalizing n with
 | nil => cases n <;> rfl
 | cons x r ih => cases n with | zero => rfl | succ n => exact ih n
theorem tail_drop (l : List Int) (n : Nat) : (l.drop n).tail = l.drop (n + 1) := by rw [List.tail_drop]
theorem mid_at (dn post : Fls) (x : Nm × Fle) : (dn ++ x :: post)[dn.length]? = some x := by simp
theorem rest_zero (f : Fle) (z : Int) (h : max z 0 = 0) : restF f z = ⟨f.b.take f.safe, f.safe⟩ := by
 have h2 : ((max z 0) % (((f.b.length - f.safe : Nat) : Int) + 1)).toNat = 0 := by rw [h, Int.zero_emod]; rfl
 unfold restF
 rw [h2, Nat.add_zero]
theorem rest_pos (f : Fle) (z : Int) (h : 0 < z) (hs : f.safe ≤ f.b.length) : ∃ kq : Nat, z % ((f.b.length : Int) - (f.safe : Int) + 1) = (kq : Int) ∧ f.safe + kq ≤ f.b.length ∧ restF f z = ⟨f.b.take (f.safe + kq), f.safe + kq⟩ := by
 have e1 : ((f.b.length - f.safe : Nat) : Int) = (f.b.length : Int) - (f.safe : Int) := Int.ofNat_sub hs
 have e2 : max z 0 = z := Int.max_eq_left (Int.le_of_lt h)
 have h1 := Int.emod_nonneg z (show ((f.b.length : Int) - (f.safe : Int)) + 1 ≠ 0 by omega)
 have h2 := Int.emod_lt_of_pos z (show 0 < ((f.b.length : Int) - (f.safe : Int)) + 1 by omega)
 obtain ⟨m, hm⟩ := Int.eq_ofNat_of_zero_le h1
 rw [hm] at h2
 refine ⟨m, hm, by omega, ?_⟩
 unfold restF
 rw [e2, e1, hm]
 rfl
end Go.Proofs.YtikkieaokfailaaGreatDoor

namespace Go.Proofs.YtikkieaokfailaaGreatDoor
open Go.RowKit Go.Joins
set_option maxRecDepth 100000 in
set_option maxHeartbeats 8000000 in
theorem refRestart_any (rd : Nat) (G : Nat → Prop) (k : Dk) (bk : Nat) (v : Value) (keep : List Int) (hfl : k.fs.length < 1000000) (w : World) (hR : RefAt w G rd k) (hI : IRd w bk v keep) (hbk : keep ≠ [] → ¬ G bk) :
  Calls Tryz.prog 40 #[.pointer (some ⟨rd, 0, none⟩), v] w fun e w' => e = .returned (.tuple #[]) ∧ Rp w G rd (restK k keep) w' := by
 obtain ⟨R, HRe⟩ : ∃ R, Hid (restL k.fs keep = R) := ⟨_, rfl⟩
 have hrk : restK k keep = { k with fs := R, off := false, fu := none } := by unfold restK; rw [HRe.out]
 rw [hrk]
 obtain ⟨N, HN⟩ : ∃ N, Hid (k.fs.length = N) := ⟨_, rfl⟩
 rw [HN.out] at hfl
 obtain ⟨ka, kc, rfl, hkl, hkm, hkcell⟩ := hI
 obtain ⟨K, HK⟩ : ∃ K, Hid (keep.length = K) := ⟨_, rfl⟩
 rw [HK.out] at hkl hkcell ⊢
 clear hrk
 go_enter Tryz.func40, Tryz.ntmps40
 go_wp2_with fail
 go_loopw [4, 5, 6, 7, 8] (fun s4 s5 _ _ _ wr => ∃ (i n : Nat) (dn rest : Fls), s5 = .int .i64 i ∧ s4 = .int .i64 n ∧ n ≤ i ∧ dn.length = i ∧ Hid (dn ++ restL rest (keep.drop n) = R) ∧ Hid ((dn ++ rest).map Prod.fst = k.fs.map Prod.fst) ∧ Rp w G rd { k with fs := dn ++ rest } wr) (fun _ s5 _ _ _ _ => N - (intOf s5).toNat)
 case atStart => exact ⟨0, 0, [], k.fs, rfl, rfl, Nat.le_refl _, rfl, by show [] ++ restL k.fs (keep.drop 0) = R; rw [List.drop_zero]; exact HRe.out, rfl, Rp.refl hR⟩
 case round =>
  obtain ⟨i, n, dn, rest, rfl, rfl, hni, hdn, HR, HNm, Gi, hRi, hki, hGi⟩ := hrel
  have hlenN : dn.length + rest.length = N := by
   have h := congrArg List.length HNm.out
   simp only [List.length_map, List.length_append] at h
   rw [h]; exact HN.out
  cases rest with
  | nil =>
   simp only [List.length_nil] at hlenN
   obtain rfl : i = N := by omega
   have hcl : ¬ (i : Int) < (i : Int) := by omega
   have hRR : dn = R := by have h := HR.out; simpa [restL] using h
   rw [List.append_nil] at hRi
   have hg := hRi.good
   have hfl0 : dn.length = i := by omega
   obtain ⟨v9, hblk, hT⟩ := hRi.turn
   have q0 : wr.cell? ⟨rd, 0, none⟩ = some v9 := by rw [cell_of_block hblk]; rfl
   obtain ⟨va, vc, hvf⟩ : ∃ a c, v9 = .slice a i c := by
    obtain ⟨⟨v8, sl, hb8, hr8, _⟩, _⟩ := hRi
    obtain ⟨a, c, e, _⟩ := row_form hr8
    have h2 : wr.cell? ⟨rd, 0, none⟩ = some v8 := by rw [cell_of_block hb8]; rfl
    rw [q0] at h2
    injection h2 with h2
    exact ⟨a, c, by rw [h2, e, ← hfl0]⟩
   subst hvf
   have q3 : wr.cell? ⟨rd, 3, none⟩ = some (.bool k.off) := by rw [cell_of_block hblk]; rfl
   have z3 := unfrozen_of_block hblk 3
   have hb3 := block_setCell (i := 3) hblk (.bool false)
   have q4 : (wr.setCell ⟨rd, 3, none⟩ (.bool false)).cell? ⟨rd, 4, none⟩ = some (.int .i64 (leftK k)) := by rw [cell_of_block hb3]; rfl
   have z4 := unfrozen_of_block hb3 4
   have hb4 := block_setCell (i := 4) hb3 (.int .i64 (-1))
   have hkk : Keep (fun i => i = rd) wr ((wr.setCell ⟨rd, 3, none⟩ (.bool false)).setCell ⟨rd, 4, none⟩ (.int .i64 (-1))) := ((Keep.refl (fun i => i = rd) wr).setCell (p := ⟨rd, 3, none⟩) rfl _).setCell (p := ⟨rd, 4, none⟩) rfl _
   clear HNm hblk hb3
   go_wp2
   go_end0
   refine ⟨rfl, ?_⟩
   rw [← hRR]
   exact Rp.next hki hGi (hT _ { k with fs := dn, off := false, fu := none } rfl ⟨hg.room, hg.rise, hg.used, hg.each, fun j e => by cases e⟩ (by rw [hb4]; rfl) hkk)
  | cons q post =>
   obtain ⟨nm, f⟩ := q
   simp only [List.length_cons] at hlenN
   have hcl : (i : Int) < (N : Int) := by omega
   have hg := hRi.good
   have hlkm := look_mid (f := f) hg.rise
   obtain ⟨hnm, hsf, hbd⟩ := look_good hg hlkm
   have hfu : f.b.length ≤ 16777216 := by
    have h1 := lenO_used (dn ++ (nm, f) :: post) nm
    rw [hlkm] at h1
    have h2 := hg.used
    have h3 := hg.room
    have h4 : lenO (some f) = f.b.length := rfl
    have h5 : ({ k with fs := dn ++ (nm, f) :: post } : Dk).fs = dn ++ (nm, f) :: post := rfl
    rw [h5] at h2
    omega
   have hix0 : ({ k with fs := dn ++ (nm, f) :: post } : Dk).fs[i]? = some (nm, f) := by rw [← hdn]; exact mid_at dn post (nm, f)
   have Hix : Hid (({ k with fs := dn ++ (nm, f) :: post } : Dk).fs[i]? = some (nm, f)) := hix0
   have hflN : (dn ++ (nm, f) :: post).length = N := by simp; omega
   obtain ⟨ki, hkie⟩ : ∃ ki : Dk, ({ k with fs := dn ++ (nm, f) :: post } : Dk) = ki := ⟨_, rfl⟩
   have Hki : Hid (({ k with fs := dn ++ (nm, f) :: post } : Dk) = ki) := hkie
   have HNf : Hid (ki.fs.length = N) := by show _ = _; rw [← hkie]; exact hflN
   have Hput : Hid (∀ g, ({ ki with fs := putL ki.fs nm g } : Dk) = { k with fs := dn ++ (nm, g) :: post }) := fun g => by rw [← hkie]; show ({ k with fs := putL (dn ++ (nm, f) :: post) nm g } : Dk) = _; rw [put_mid hg.rise]
   have HgC : Hid (∀ z n, z ≤ f.b.length → n ≤ z → ({ ki with fs := putL ki.fs nm ⟨f.b.take z, n⟩ } : Dk).Good) := fun z n hz hn => by
    have hlk : look ki.fs nm = some f := by rw [← hkie]; exact hlkm
    have hgk : ki.Good := by rw [← hkie]; exact hg
    have hup := used_put ki.fs hgk.rise nm ⟨f.b.take z, n⟩
    rw [hlk] at hup
    have hle : lenO (some f) = f.b.length := rfl
    have hcl : (⟨f.b.take z, n⟩ : Fle).b.length = z := by show (f.b.take z).length = z; rw [List.length_take]; omega
    rw [hle, hcl] at hup
    have h := hgk.used
    exact good_put hgk hnm (by rw [hcl]; exact hn) (hbd.take z) (by omega)
   rw [hkie] at hRi
   rw [hkie] at hix0
   obtain ⟨g0, cap0, aj, cj, q0, hcap0, qs, q1, q2, _, hRj, _, _⟩ := hRi.rowj hix0
   obtain ⟨ln, HLn⟩ : ∃ ln, Hid (f.b.length = ln) := ⟨_, rfl⟩
   rw [HNf.out] at q0 hcap0
   rw [HLn.out] at q1 hRj hsf hfu
   have hlenB := fun w => len_slice aj ln cj 29 3 w Tryz.underlying29
   have hi0 : (0 : Int) ≤ (i : Int) := by omega
   have hwm : wrap64 ((ln : Int) - (f.safe : Int)) = (ln : Int) - (f.safe : Int) := by unfold wrap64; omega
   have hbw : ∀ o : Obj, Below wr.heap.size wr (wr.alloc o) := fun o => (Below.refl _ _).alloc (Nat.le_refl _) _
   clear hkie hix0 hlkm hflN hg
   by_cases hmore : ln = f.safe
   ·-- nothing is loose
    have hm0 : ¬ (0 : Int) < (ln : Int) - (f.safe : Int) := by omega
    have hgA := HgC.out ln f.safe (by rw [HLn.out]; exact Nat.le_refl _) hsf
    have htk : f.b.take ln = f.b := by rw [← HLn.out]; exact List.take_length
    rw [htk] at hgA
    go_upto_region 12 with fail
    generalize hZe : wr.alloc _ = Z
    have hbe : Below wr.heap.size wr Z := by rw [← hZe]; exact hbw _
    refine wp_region_lx (fun w' => w' = Z.drew) [16] 17 (by kernel_rfl) (by kernel_rfl) ?_
    have hbX : Below wr.heap.size wr Z.drew := hbe.drew
    clear hZe
    generalize Z.drew = X2 at *
    have hRX := hRi.below hbX
    have Q0 := (hbX.cell (World.block_lt_of_cell? _ _ q0)).trans q0
    have Q1 := (hbX.cell (World.block_lt_of_cell? _ _ q1)).trans q1
    have Q2 := (hbX.cell (World.block_lt_of_cell? _ _ q2)).trans q2
    obtain ⟨g1, cap1, aj1, cj1, e0, _, _, _, _, _, _, zz, hset⟩ := hRX.rowj (by have h := Hix.out; rw [Hki.out] at h; exact h)
    have hgg : g1 = g0 := by rw [Q0] at e0; injection e0 with h; injection h with h _ _; injection h with h; injection h with h; exact h.symm
    have hRp := hset f.safe hgA
    rw [hgg] at hRp zz
    rw [Hput.out] at hRp
    have hls : (ln : Int) = (f.safe : Int) := by omega
    clear e0 hset hgg
    have HSwa : X2 = X2 := rfl
    refine lx_r 0 _ HSwa ?_; simp only [lxa, lxb, lxc]
    refine lx_r 1 _ HSwa ?_; simp only [lxa, lxb, lxc]
    refine lx_r 2 _ HSwa ?_; simp only [lxa, lxb, lxc]
    refine lx_r 3 (.slice (some ⟨g0, 0, none⟩) N cap0) HSwa ?_ (hv := fun w' hS => by subst hS; first | (go_simp; rfl) | go_simp); simp only [lxa, lxb, lxc]
    refine lx_r 4 _ HSwa ?_; simp only [lxa, lxb, lxc]
    refine lx_r 5 _ HSwa ?_; simp only [lxa, lxb, lxc]
    refine lx_r 6 _ HSwa ?_; simp only [lxa, lxb, lxc]
    refine lx_r 7 _ HSwa ?_; simp only [lxa, lxb, lxc]
    refine lx_r 8 (.slice (some ⟨g0, 0, none⟩) N cap0) HSwa ?_ (hv := fun w' hS => by subst hS; first | (go_simp; rfl) | go_simp); simp only [lxa, lxb, lxc]
    refine lx_r 9 _ HSwa ?_; simp only [lxa, lxb, lxc]
    refine lx_r 10 (.pointer (some ⟨g0, i * 3, none⟩)) HSwa ?_; simp only [lxa, lxb, lxc]
    refine lx_r 11 (.pointer (some ⟨g0, i * 3 + 1, none⟩)) HSwa ?_; simp only [lxa, lxb, lxc]
    refine lx_r 12 (.slice aj ln cj) HSwa ?_ (hv := fun w' hS => by subst hS; first | (go_simp; rfl) | go_simp); simp only [lxa, lxb, lxc]
    refine lx_r 13 (.int .i64 ln) HSwa ?_; simp only [lxa, lxb, lxc]
    refine lx_one 14 (by kernel_rfl) (stepT_val (w' := X2) (.pointer (some ⟨g0, i * 3, none⟩)) rfl rfl rfl ?r14wa (fun _ => rfl) ?_)
    case r14wa => first | (go_simp; rfl) | go_simp
    simp only [lxa, lxb, lxc]
    refine lx_one 15 (by kernel_rfl) (stepT_val (w' := X2) (.pointer (some ⟨g0, i * 3 + 2, none⟩)) rfl rfl rfl ?r15wa (fun _ => rfl) ?_)
    case r15wa => first | (go_simp; rfl) | go_simp
    simp only [lxa, lxb, lxc]
    refine lx_one 16 (by kernel_rfl) (stepT_store (w' := X2.setCell ⟨g0, i * 3 + 2, none⟩ (.int .i64 (ln : Int))) rfl rfl rfl ?r16wa (fun h => by cases h) ?_)
    case r16wa => first | (go_simp; rfl) | go_simp
    refine lx_nil (by kernel_rfl) ?_
    go_wp2
    refine ⟨⟨i + 1, n, dn ++ [(nm, f)], post, by go_num, rfl, by omega, by simp [hdn], ?_, ?_, ?_⟩, by simp [intOf]; omega⟩
    ·show (dn ++ [(nm, f)]) ++ restL post (keep.drop n) = R
     rw [← HR.out, List.append_assoc]
     show _ = dn ++ restL ((nm, f) :: post) (keep.drop n)
     conv => rhs; unfold restL
     rw [if_pos (by rw [HLn.out]; exact hmore)]
     rfl
    ·show List.map Prod.fst _ = _
     rw [← HNm.out]; simp
    ·rw [List.append_assoc]
     exact Rp.next hki hGi (Rp.next (Keep.ofBelow hbX) (fun i hi => Or.inl hi) hRp)
   ·-- some are
    have hm0 : (0 : Int) < (ln : Int) - (f.safe : Int) := by omega
    have hHR : Hid (dn ++ (nm, restF f (keep.getD n 0)) :: restL post (keep.drop (n + 1)) = R) := by
     have h := HR.out
     have h2 : restL ((nm, f) :: post) (keep.drop n) = (nm, restF f ((keep.drop n).headD 0)) :: restL post (keep.drop n).tail := by
      conv => lhs; unfold restL
      rw [if_neg (by rw [HLn.out]; exact hmore)]
     rw [h2, headD_drop, tail_drop] at h
     exact h
    clear HR
    by_cases hnK : n < K
    ·have hcn : (n : Int) < (K : Int) := by omega
     have hkne : keep ≠ [] := fun e => by have h := HK.out; rw [e] at h; simp at h; omega
     obtain ⟨off, rfl, hkc⟩ := hkcell hkne
     have hzc := hki.cell (hkc n hnK) (hbk hkne)
     have hn0 : (0 : Int) ≤ (n : Int) := by omega
     obtain ⟨zv, hzv⟩ : ∃ zv, keep.getD n 0 = zv := ⟨_, rfl⟩
     rw [hzv] at hzc hHR
     have hzcA := fun (o : Obj) => ((Keep.refl (fun _ => False) wr).alloc o).cell hzc (fun h => h)
     by_cases hzp : 0 < zv
     ·obtain ⟨kq, hkq, hkl, hrf⟩ := rest_pos f zv hzp (by rw [HLn.out]; exact hsf)
      rw [HLn.out] at hkq hkl
      obtain ⟨lk, HL⟩ : ∃ lk : Nat, Hid (lk = f.safe + kq) := ⟨f.safe + kq, rfl⟩
      have HRF : Hid (restF f zv = ⟨f.b.take lk, lk⟩) := by show _ = _; rw [HL.out]; exact hrf
      have hlkl : lk ≤ ln := by rw [HL.out]; exact hkl
      have hlk9 : lk ≤ 16777216 := Nat.le_trans hlkl hfu
      have hwk0 : wrap64 (lk : Int) = (lk : Int) := by clear hwm hkq; unfold wrap64; omega
      have hsk : (f.safe : Int) + (kq : Int) = (lk : Int) := by rw [HL.out]; exact (Int.natCast_add _ _).symm
      have hwk : wrap64 ((f.safe : Int) + (kq : Int)) = (lk : Int) := by rw [hsk]; exact hwk0
      have hwk2 : IntKind.i64.wrap ((f.safe : Int) + (kq : Int)) = (lk : Int) := by clear hwm hwk hwk0 hkq; rw [IntKind.wrap_i64, hsk]; omega
      have Hwk : Hid (wrap64 ((f.safe : Int) + (kq : Int)) = (lk : Int)) := hwk
      have Hwk2 : Hid (IntKind.i64.wrap ((f.safe : Int) + (kq : Int)) = (lk : Int)) := hwk2
      clear hsk hrf hwk hwk2 hwk0
      have hkq9 : kq ≤ 16777216 := Nat.le_trans (Nat.le_add_left _ _) (Nat.le_trans hkl hfu)
      have hne1 : ¬ ((ln : Int) - (f.safe : Int) + 1 = 0) := by clear hwm; omega
      have hw1 : wrap64 ((ln : Int) - (f.safe : Int) + 1) = (ln : Int) - (f.safe : Int) + 1 := by clear hwm hkq; unfold wrap64; omega
      have hwq : wrap64 (kq : Int) = (kq : Int) := by clear hwm hkq hw1; unfold wrap64; omega
      have hne2 : ((ln : Int) - (f.safe : Int) + 1 == 0) = false := by rw [beq_eq_false_iff_ne]; exact hne1
      have htm : Int.tmod zv ((ln : Int) - (f.safe : Int) + 1) = (kq : Int) := by rw [Int.tmod_eq_emod_of_nonneg (Int.le_of_lt hzp)]; exact hkq
      have hgN := HgC.out lk lk (by rw [HLn.out]; exact hlkl) (Nat.le_refl _)
      go_upto_region 11 with fail
      clear hwm hw1 hwq
      have hbe := hbw (.cells #[.string nm, .slice aj ln cj, .int .i64 (f.safe : Int)] 113)
      have hfil := alloc_at wr (.cells #[.string nm, .slice aj ln cj, .int .i64 (f.safe : Int)] 113)
      obtain ⟨bf, hbf⟩ : ∃ bf, wr.heap.size = bf := ⟨_, rfl⟩
      rw [hbf] at hfil ⊢
      generalize wr.alloc (.cells #[.string nm, .slice aj ln cj, .int .i64 (f.safe : Int)] 113) = Z at *
      refine wp_region_lx (fun w' => Below Z.drew.heap.size Z.drew w') [16] 17 (by kernel_rfl) (by kernel_rfl) ?_
      have hbX : Below wr.heap.size wr Z.drew := hbe.drew
      have hfX : Z.drew.heap[bf]? = some (.cells #[.string nm, .slice aj ln cj, .int .i64 (f.safe : Int)] 113 (0, 0)) := hfil
      clear hbe hfil
      generalize Z.drew = X at *
      have hRX := hRi.below hbX
      have hRjX := hRj.carry (Nat.le_refl _) hbX
      have Q0 := (hbX.cell (World.block_lt_of_cell? _ _ q0)).trans q0
      have hcF : ∀ w', Below X.heap.size X w' → w'.cell? ⟨rd, 0, none⟩ = some (.slice (some ⟨g0, 0, none⟩) N cap0) := fun w' hb => (hb.cell (World.block_lt_of_cell? _ _ Q0)).trans Q0
      have hf1 : ∀ w', Below X.heap.size X w' → w'.cell? ⟨bf, 1, none⟩ = some (.slice aj ln cj) := fun w' hb => by rw [cell_of_block (box_below hfX hb)]; rfl
      have hf2 : ∀ w', Below X.heap.size X w' → w'.cell? ⟨bf, 2, none⟩ = some (.int .i64 (f.safe : Int)) := fun w' hb => by rw [cell_of_block (box_below hfX hb)]; rfl
      have hcj := hRj.cap
      have hlk1 : (lk : Int) ≤ (cj : Int) := Int.ofNat_le.2 (Nat.le_trans hlkl hcj)
      have hlk0 : (0 : Int) ≤ (lk : Int) := Int.natCast_nonneg lk
      clear Q0 q0 q1 q2 qs
      have HSX : Below X.heap.size X X := Below.refl _ _
      refine lx_r 0 _ HSX ?_; simp only [lxa, lxb, lxc]
      refine lx_r 1 _ HSX ?_; simp only [lxa, lxb, lxc]
      refine lx_r 2 _ HSX ?_; simp only [lxa, lxb, lxc]
      refine lx_r 3 (.slice (some ⟨g0, 0, none⟩) N cap0) HSX ?_ (hv := fun w' hS => by have q := hcF _ hS; first | (go_simp; rfl) | go_simp); simp only [lxa, lxb, lxc]
      refine lx_r 4 _ HSX ?_; simp only [lxa, lxb, lxc]
      refine lx_r 6 _ HSX ?_; simp only [lxa, lxb, lxc]
      refine lx_r 7 (.slice aj ln cj) HSX ?_ (hv := fun w' hS => by have q := hf1 _ hS; first | (go_simp; rfl) | go_simp); simp only [lxa, lxb, lxc]
      refine lx_r 8 _ HSX ?_; simp only [lxa, lxb, lxc]
      refine lx_r 9 (.int .i64 (f.safe : Int)) HSX ?_ (hv := fun w' hS => by have q := hf2 _ hS; first | (go_simp; rfl) | go_simp); simp only [lxa, lxb, lxc]
      refine lx_r 10 _ HSX ?_; simp only [lxa, lxb, lxc]
      refine lx_r 11 (.int .i64 (lk : Int)) HSX ?_ (hv := fun w' hS => by have hq1 := Hwk.out; have hq2 := Hwk2.out; first | (go_simp; rfl) | go_simp); simp only [lxa, lxb, lxc]
      refine lx_r 12 (.slice aj lk cj) HSX ?_; simp only [lxa, lxb, lxc]
      have hX0 : Below X.heap.size X (X.alloc (.cells #[] 5)) := (Below.refl _ _).alloc (Nat.le_refl _) _
      have hemp : (X.alloc (.cells #[] 5)).ownsRow X.heap.size 5 1 (.slice (some ⟨X.heap.size, 0, none⟩) 0 0) 0 (bc []) := World.ownsRow_made X #[] 0 (Nat.le_refl _) (by unfold maxLen; omega) rfl
      refine lx_one 5 (by kernel_rfl) (stepT_val (w' := X.alloc (.cells #[] 5)) (.slice (some ⟨X.heap.size, 0, none⟩) 0 0) rfl rfl rfl ?r5a (fun _ => hX0) ?_)
      case r5a => first | (go_simp; rfl) | go_simp
      simp only [lxa, lxb, lxc]
      obtain ⟨v5, w5, hrun5, o5, hb5⟩ := run_appJ 29 hemp ((hRjX.takeK hlkl).carry (Nat.le_refl _) hX0) (by omega) hX0.size
      have hb5' := hX0.trans hb5
      refine lx_one 13 (by kernel_rfl) (stepT_val (w' := w5) v5 rfl rfl rfl (exec_appJ rfl rfl rfl hrun5) (fun _ => hb5') ?_)
      simp only [lxa, lxb, lxc]
      rw [Nat.zero_add, List.nil_append] at o5
      obtain ⟨a6, c6, rfl, hn6⟩ := Rd.ofRowE o5
      have hbl : (f.b.take lk).length = lk := by rw [List.length_take, HLn.out]; omega
      have o6' : w5.ownsRow X.heap.size 5 1 (.slice a6 lk c6) (f.b.take lk).length (bc (f.b.take lk)) := by rw [hbl]; exact o5
      obtain ⟨g, cap, r0, hcap, ⟨u, r1⟩, r2, t0, t1, t2, t3, hRp⟩ := hRX.setBS hb5' (by have h := Hix.out; rw [Hki.out] at h; exact h) o6' hgN
      have R0 := hcF _ hb5'
      rw [r0] at R0
      have hgg : g = g0 := by injection R0 with h; injection h with h _ _; injection h with h; injection h
      have hcc : cap = cap0 := by injection R0 with h; injection h
      rw [hgg] at r0 r1 r2 t0 t1 t2 t3 hRp
      rw [HNf.out, hcc] at t0
      rw [Hput.out] at hRp
      clear R0 hgg hcc
      refine lx_one 14 (by kernel_rfl) (stepT_val (w' := w5) (.pointer (some ⟨g0, i * 3, none⟩)) rfl rfl rfl ?r14a (fun _ => hb5') ?_)
      case r14a => first | (go_simp; rfl) | go_simp
      simp only [lxa, lxb, lxc]
      refine lx_one 15 (by kernel_rfl) (stepT_val (w' := w5) (.pointer (some ⟨g0, i * 3 + 1, none⟩)) rfl rfl rfl ?r15a (fun _ => hb5') ?_)
      case r15a => first | (go_simp; rfl) | go_simp
      simp only [lxa, lxb, lxc]
      refine lx_one 16 (by kernel_rfl) (stepT_store (w' := w5.setCell ⟨g0, i * 3 + 1, none⟩ (.slice a6 lk c6)) rfl rfl rfl ?r16a (fun h => by cases h) ?_)
      case r16a => first | (go_simp; rfl) | go_simp
      refine lx_nil (by kernel_rfl) ?_
      generalize w5.setCell ⟨g0, i * 3 + 1, none⟩ (.slice a6 lk c6) = Y at *
      clear r0 r1 r2 hcF hf1 hf2 hlenB
      go_upto_region 12 with fail
      have hlenC := fun w => len_slice a6 lk c6 29 3 w Tryz.underlying29
      refine wp_region_lx (fun w' => w' = Y.drew) [16] 17 (by kernel_rfl) (by kernel_rfl) ?_
      have hRp2 : Rp X Gi rd { k with fs := dn ++ (nm, ⟨f.b.take lk, lk⟩) :: post } (Y.drew.setCell ⟨g0, i * 3 + 2, none⟩ (.int .i64 (lk : Int))) := hRp.then (Below.refl _ _).drew
      have T0 : Y.drew.cell? ⟨rd, 0, none⟩ = some (.slice (some ⟨g0, 0, none⟩) N cap0) := t0
      have T1 : Y.drew.cell? ⟨g0, i * 3 + 1, none⟩ = some (.slice a6 lk c6) := t1
      have T2 : Y.drew.cell? ⟨g0, i * 3 + 2, none⟩ = some (.int .i64 (f.safe : Int)) := t2
      have T3 : Y.drew.frozen? ⟨g0, i * 3 + 2, none⟩ = false := t3
      clear t0 t1 t2 t3 hRp
      generalize Y.drew = X2 at *
      have HSwa : X2 = X2 := rfl
      refine lx_r 0 _ HSwa ?_; simp only [lxa, lxb, lxc]
      refine lx_r 1 _ HSwa ?_; simp only [lxa, lxb, lxc]
      refine lx_r 2 _ HSwa ?_; simp only [lxa, lxb, lxc]
      refine lx_r 3 (.slice (some ⟨g0, 0, none⟩) N cap0) HSwa ?_ (hv := fun w' hS => by subst hS; first | (go_simp; rfl) | go_simp); simp only [lxa, lxb, lxc]
      refine lx_r 4 _ HSwa ?_; simp only [lxa, lxb, lxc]
      refine lx_r 5 _ HSwa ?_; simp only [lxa, lxb, lxc]
      refine lx_r 6 _ HSwa ?_; simp only [lxa, lxb, lxc]
      refine lx_r 7 _ HSwa ?_; simp only [lxa, lxb, lxc]
      refine lx_r 8 (.slice (some ⟨g0, 0, none⟩) N cap0) HSwa ?_ (hv := fun w' hS => by subst hS; first | (go_simp; rfl) | go_simp); simp only [lxa, lxb, lxc]
      refine lx_r 9 _ HSwa ?_; simp only [lxa, lxb, lxc]
      refine lx_r 10 (.pointer (some ⟨g0, i * 3, none⟩)) HSwa ?_; simp only [lxa, lxb, lxc]
      refine lx_r 11 (.pointer (some ⟨g0, i * 3 + 1, none⟩)) HSwa ?_; simp only [lxa, lxb, lxc]
      refine lx_r 12 (.slice a6 lk c6) HSwa ?_ (hv := fun w' hS => by subst hS; first | (go_simp; rfl) | go_simp); simp only [lxa, lxb, lxc]
      refine lx_r 13 (.int .i64 lk) HSwa ?_; simp only [lxa, lxb, lxc]
      refine lx_one 14 (by kernel_rfl) (stepT_val (w' := X2) (.pointer (some ⟨g0, i * 3, none⟩)) rfl rfl rfl ?r14wa (fun _ => rfl) ?_)
      case r14wa => first | (go_simp; rfl) | go_simp
      simp only [lxa, lxb, lxc]
      refine lx_one 15 (by kernel_rfl) (stepT_val (w' := X2) (.pointer (some ⟨g0, i * 3 + 2, none⟩)) rfl rfl rfl ?r15wa (fun _ => rfl) ?_)
      case r15wa => first | (go_simp; rfl) | go_simp
      simp only [lxa, lxb, lxc]
      refine lx_one 16 (by kernel_rfl) (stepT_store (w' := X2.setCell ⟨g0, i * 3 + 2, none⟩ (.int .i64 (lk : Int))) rfl rfl rfl ?r16wa (fun h => by cases h) ?_)
      case r16wa => first | (go_simp; rfl) | go_simp
      refine lx_nil (by kernel_rfl) ?_
      go_wp2
      refine ⟨⟨i + 1, n + 1, dn ++ [(nm, ⟨f.b.take lk, lk⟩)], post, by go_num, by go_num, by omega, by simp [hdn], ?_, ?_, ?_⟩, by simp [intOf]; omega⟩
      ·show (dn ++ [(nm, (⟨f.b.take lk, lk⟩ : Fle))]) ++ restL post (keep.drop (n + 1)) = R
       rw [← hHR.out, HRF.out, List.append_assoc]
       rfl
      ·show List.map Prod.fst _ = _
       rw [← HNm.out]; simp
      ·rw [List.append_assoc]
       exact Rp.next hki hGi (Rp.next (Keep.ofBelow hbX) (fun i hi => Or.inl hi) hRp2)
     ·rw [← hzv] at hHR
      have hRF0 := rest_zero f (keep.getD n 0) (by rw [hzv]; exact Int.max_eq_right (Int.not_lt.1 hzp))
      obtain ⟨lk, HL⟩ : ∃ lk : Nat, Hid (lk = f.safe) := ⟨f.safe, rfl⟩
      have HRF : Hid (restF f (keep.getD n 0) = ⟨f.b.take lk, lk⟩) := by show _ = _; rw [HL.out]; exact hRF0
      have hlkl : lk ≤ ln := by rw [HL.out]; exact hsf
      have hlk9 : lk ≤ 16777216 := Nat.le_trans hlkl hfu
      have hwk0 : wrap64 (lk : Int) = (lk : Int) := by clear hwm; unfold wrap64; omega
      have hwk : wrap64 (f.safe : Int) = (lk : Int) := by rw [← HL.out]; exact hwk0
      have hwk2 : IntKind.i64.wrap (f.safe : Int) = (lk : Int) := by have h9 := HL.out; clear hwm hwk hwk0; rw [IntKind.wrap_i64]; omega
      have Hwk : Hid (wrap64 (f.safe : Int) = (lk : Int)) := hwk
      have Hwk2 : Hid (IntKind.i64.wrap (f.safe : Int) = (lk : Int)) := hwk2
      clear hRF0 hwk hwk2 hwk0
      have hgN := HgC.out lk lk (by rw [HLn.out]; exact hlkl) (Nat.le_refl _)
      go_upto_region 11 with fail
      clear hwm
      have hbe := hbw (.cells #[.string nm, .slice aj ln cj, .int .i64 (f.safe : Int)] 113)
      have hfil := alloc_at wr (.cells #[.string nm, .slice aj ln cj, .int .i64 (f.safe : Int)] 113)
      obtain ⟨bf, hbf⟩ : ∃ bf, wr.heap.size = bf := ⟨_, rfl⟩
      rw [hbf] at hfil ⊢
      generalize wr.alloc (.cells #[.string nm, .slice aj ln cj, .int .i64 (f.safe : Int)] 113) = Z at *
      refine wp_region_lx (fun w' => Below Z.drew.heap.size Z.drew w') [16] 17 (by kernel_rfl) (by kernel_rfl) ?_
      have hbX : Below wr.heap.size wr Z.drew := hbe.drew
      have hfX : Z.drew.heap[bf]? = some (.cells #[.string nm, .slice aj ln cj, .int .i64 (f.safe : Int)] 113 (0, 0)) := hfil
      clear hbe hfil
      generalize Z.drew = X at *
      have hRX := hRi.below hbX
      have hRjX := hRj.carry (Nat.le_refl _) hbX
      have Q0 := (hbX.cell (World.block_lt_of_cell? _ _ q0)).trans q0
      have hcF : ∀ w', Below X.heap.size X w' → w'.cell? ⟨rd, 0, none⟩ = some (.slice (some ⟨g0, 0, none⟩) N cap0) := fun w' hb => (hb.cell (World.block_lt_of_cell? _ _ Q0)).trans Q0
      have hf1 : ∀ w', Below X.heap.size X w' → w'.cell? ⟨bf, 1, none⟩ = some (.slice aj ln cj) := fun w' hb => by rw [cell_of_block (box_below hfX hb)]; rfl
      have hf2 : ∀ w', Below X.heap.size X w' → w'.cell? ⟨bf, 2, none⟩ = some (.int .i64 (f.safe : Int)) := fun w' hb => by rw [cell_of_block (box_below hfX hb)]; rfl
      have hcj := hRj.cap
      have hlk1 : (lk : Int) ≤ (cj : Int) := Int.ofNat_le.2 (Nat.le_trans hlkl hcj)
      have hlk0 : (0 : Int) ≤ (lk : Int) := Int.natCast_nonneg lk
      clear Q0 q0 q1 q2 qs
      have HSX : Below X.heap.size X X := Below.refl _ _
      refine lx_r 0 _ HSX ?_; simp only [lxa, lxb, lxc]
      refine lx_r 1 _ HSX ?_; simp only [lxa, lxb, lxc]
      refine lx_r 2 _ HSX ?_; simp only [lxa, lxb, lxc]
      refine lx_r 3 (.slice (some ⟨g0, 0, none⟩) N cap0) HSX ?_ (hv := fun w' hS => by have q := hcF _ hS; first | (go_simp; rfl) | go_simp); simp only [lxa, lxb, lxc]
      refine lx_r 4 _ HSX ?_; simp only [lxa, lxb, lxc]
      refine lx_r 6 _ HSX ?_; simp only [lxa, lxb, lxc]
      refine lx_r 7 (.slice aj ln cj) HSX ?_ (hv := fun w' hS => by have q := hf1 _ hS; first | (go_simp; rfl) | go_simp); simp only [lxa, lxb, lxc]
      refine lx_r 8 _ HSX ?_; simp only [lxa, lxb, lxc]
      refine lx_r 9 (.int .i64 (f.safe : Int)) HSX ?_ (hv := fun w' hS => by have q := hf2 _ hS; first | (go_simp; rfl) | go_simp); simp only [lxa, lxb, lxc]
      refine lx_r 10 _ HSX ?_; simp only [lxa, lxb, lxc]
      refine lx_r 11 (.int .i64 (lk : Int)) HSX ?_ (hv := fun w' hS => by have hq1 := Hwk.out; have hq2 := Hwk2.out; first | (go_simp; rfl) | go_simp); simp only [lxa, lxb, lxc]
      refine lx_r 12 (.slice aj lk cj) HSX ?_; simp only [lxa, lxb, lxc]
      have hX0 : Below X.heap.size X (X.alloc (.cells #[] 5)) := (Below.refl _ _).alloc (Nat.le_refl _) _
      have hemp : (X.alloc (.cells #[] 5)).ownsRow X.heap.size 5 1 (.slice (some ⟨X.heap.size, 0, none⟩) 0 0) 0 (bc []) := World.ownsRow_made X #[] 0 (Nat.le_refl _) (by unfold maxLen; omega) rfl
      refine lx_one 5 (by kernel_rfl) (stepT_val (w' := X.alloc (.cells #[] 5)) (.slice (some ⟨X.heap.size, 0, none⟩) 0 0) rfl rfl rfl ?r5b (fun _ => hX0) ?_)
      case r5b => first | (go_simp; rfl) | go_simp
      simp only [lxa, lxb, lxc]
      obtain ⟨v5, w5, hrun5, o5, hb5⟩ := run_appJ 29 hemp ((hRjX.takeK hlkl).carry (Nat.le_refl _) hX0) (by omega) hX0.size
      have hb5' := hX0.trans hb5
      refine lx_one 13 (by kernel_rfl) (stepT_val (w' := w5) v5 rfl rfl rfl (exec_appJ rfl rfl rfl hrun5) (fun _ => hb5') ?_)
      simp only [lxa, lxb, lxc]
      rw [Nat.zero_add, List.nil_append] at o5
      obtain ⟨a6, c6, rfl, hn6⟩ := Rd.ofRowE o5
      have hbl : (f.b.take lk).length = lk := by rw [List.length_take, HLn.out]; omega
      have o6' : w5.ownsRow X.heap.size 5 1 (.slice a6 lk c6) (f.b.take lk).length (bc (f.b.take lk)) := by rw [hbl]; exact o5
      obtain ⟨g, cap, r0, hcap, ⟨u, r1⟩, r2, t0, t1, t2, t3, hRp⟩ := hRX.setBS hb5' (by have h := Hix.out; rw [Hki.out] at h; exact h) o6' hgN
      have R0 := hcF _ hb5'
      rw [r0] at R0
      have hgg : g = g0 := by injection R0 with h; injection h with h _ _; injection h with h; injection h
      have hcc : cap = cap0 := by injection R0 with h; injection h
      rw [hgg] at r0 r1 r2 t0 t1 t2 t3 hRp
      rw [HNf.out, hcc] at t0
      rw [Hput.out] at hRp
      clear R0 hgg hcc
      refine lx_one 14 (by kernel_rfl) (stepT_val (w' := w5) (.pointer (some ⟨g0, i * 3, none⟩)) rfl rfl rfl ?r14b (fun _ => hb5') ?_)
      case r14b => first | (go_simp; rfl) | go_simp
      simp only [lxa, lxb, lxc]
      refine lx_one 15 (by kernel_rfl) (stepT_val (w' := w5) (.pointer (some ⟨g0, i * 3 + 1, none⟩)) rfl rfl rfl ?r15b (fun _ => hb5') ?_)
      case r15b => first | (go_simp; rfl) | go_simp
      simp only [lxa, lxb, lxc]
      refine lx_one 16 (by kernel_rfl) (stepT_store (w' := w5.setCell ⟨g0, i * 3 + 1, none⟩ (.slice a6 lk c6)) rfl rfl rfl ?r16b (fun h => by cases h) ?_)
      case r16b => first | (go_simp; rfl) | go_simp
      refine lx_nil (by kernel_rfl) ?_
      generalize w5.setCell ⟨g0, i * 3 + 1, none⟩ (.slice a6 lk c6) = Y at *
      clear r0 r1 r2 hcF hf1 hf2 hlenB
      go_upto_region 12 with fail
      have hlenC := fun w => len_slice a6 lk c6 29 3 w Tryz.underlying29
      refine wp_region_lx (fun w' => w' = Y.drew) [16] 17 (by kernel_rfl) (by kernel_rfl) ?_
      have hRp2 : Rp X Gi rd { k with fs := dn ++ (nm, ⟨f.b.take lk, lk⟩) :: post } (Y.drew.setCell ⟨g0, i * 3 + 2, none⟩ (.int .i64 (lk : Int))) := hRp.then (Below.refl _ _).drew
      have T0 : Y.drew.cell? ⟨rd, 0, none⟩ = some (.slice (some ⟨g0, 0, none⟩) N cap0) := t0
      have T1 : Y.drew.cell? ⟨g0, i * 3 + 1, none⟩ = some (.slice a6 lk c6) := t1
      have T2 : Y.drew.cell? ⟨g0, i * 3 + 2, none⟩ = some (.int .i64 (f.safe : Int)) := t2
      have T3 : Y.drew.frozen? ⟨g0, i * 3 + 2, none⟩ = false := t3
      clear t0 t1 t2 t3 hRp
      generalize Y.drew = X2 at *
      have HSwb : X2 = X2 := rfl
      refine lx_r 0 _ HSwb ?_; simp only [lxa, lxb, lxc]
      refine lx_r 1 _ HSwb ?_; simp only [lxa, lxb, lxc]
      refine lx_r 2 _ HSwb ?_; simp only [lxa, lxb, lxc]
      refine lx_r 3 (.slice (some ⟨g0, 0, none⟩) N cap0) HSwb ?_ (hv := fun w' hS => by subst hS; first | (go_simp; rfl) | go_simp); simp only [lxa, lxb, lxc]
      refine lx_r 4 _ HSwb ?_; simp only [lxa, lxb, lxc]
      refine lx_r 5 _ HSwb ?_; simp only [lxa, lxb, lxc]
      refine lx_r 6 _ HSwb ?_; simp only [lxa, lxb, lxc]
      refine lx_r 7 _ HSwb ?_; simp only [lxa, lxb, lxc]
      refine lx_r 8 (.slice (some ⟨g0, 0, none⟩) N cap0) HSwb ?_ (hv := fun w' hS => by subst hS; first | (go_simp; rfl) | go_simp); simp only [lxa, lxb, lxc]
      refine lx_r 9 _ HSwb ?_; simp only [lxa, lxb, lxc]
      refine lx_r 10 (.pointer (some ⟨g0, i * 3, none⟩)) HSwb ?_; simp only [lxa, lxb, lxc]
      refine lx_r 11 (.pointer (some ⟨g0, i * 3 + 1, none⟩)) HSwb ?_; simp only [lxa, lxb, lxc]
      refine lx_r 12 (.slice a6 lk c6) HSwb ?_ (hv := fun w' hS => by subst hS; first | (go_simp; rfl) | go_simp); simp only [lxa, lxb, lxc]
      refine lx_r 13 (.int .i64 lk) HSwb ?_; simp only [lxa, lxb, lxc]
      refine lx_one 14 (by kernel_rfl) (stepT_val (w' := X2) (.pointer (some ⟨g0, i * 3, none⟩)) rfl rfl rfl ?r14wb (fun _ => rfl) ?_)
      case r14wb => first | (go_simp; rfl) | go_simp
      simp only [lxa, lxb, lxc]
      refine lx_one 15 (by kernel_rfl) (stepT_val (w' := X2) (.pointer (some ⟨g0, i * 3 + 2, none⟩)) rfl rfl rfl ?r15wb (fun _ => rfl) ?_)
      case r15wb => first | (go_simp; rfl) | go_simp
      simp only [lxa, lxb, lxc]
      refine lx_one 16 (by kernel_rfl) (stepT_store (w' := X2.setCell ⟨g0, i * 3 + 2, none⟩ (.int .i64 (lk : Int))) rfl rfl rfl ?r16wb (fun h => by cases h) ?_)
      case r16wb => first | (go_simp; rfl) | go_simp
      refine lx_nil (by kernel_rfl) ?_
      go_wp2
      refine ⟨⟨i + 1, n + 1, dn ++ [(nm, ⟨f.b.take lk, lk⟩)], post, by go_num, by go_num, by omega, by simp [hdn], ?_, ?_, ?_⟩, by simp [intOf]; omega⟩
      ·show (dn ++ [(nm, (⟨f.b.take lk, lk⟩ : Fle))]) ++ restL post (keep.drop (n + 1)) = R
       rw [← hHR.out, HRF.out, List.append_assoc]
       rfl
      ·show List.map Prod.fst _ = _
       rw [← HNm.out]; simp
      ·rw [List.append_assoc]
       exact Rp.next hki hGi (Rp.next (Keep.ofBelow hbX) (fun i hi => Or.inl hi) hRp2)
    ·have hcn : ¬ (n : Int) < (K : Int) := by omega
     have hRF0 := rest_zero f (keep.getD n 0) (by have h9 : keep.getD n 0 = 0 := (by rw [List.getD_eq_getElem?_getD, List.getElem?_eq_none (by rw [HK.out]; exact Nat.le_of_not_lt hnK)]; rfl); rw [h9]; exact Int.max_self 0)
     obtain ⟨lk, HL⟩ : ∃ lk : Nat, Hid (lk = f.safe) := ⟨f.safe, rfl⟩
     have HRF : Hid (restF f (keep.getD n 0) = ⟨f.b.take lk, lk⟩) := by show _ = _; rw [HL.out]; exact hRF0
     have hlkl : lk ≤ ln := by rw [HL.out]; exact hsf
     have hlk9 : lk ≤ 16777216 := Nat.le_trans hlkl hfu
     have hwk0 : wrap64 (lk : Int) = (lk : Int) := by clear hwm; unfold wrap64; omega
     have hwk : wrap64 (f.safe : Int) = (lk : Int) := by rw [← HL.out]; exact hwk0
     have hwk2 : IntKind.i64.wrap (f.safe : Int) = (lk : Int) := by have h9 := HL.out; clear hwm hwk hwk0; rw [IntKind.wrap_i64]; omega
     have Hwk : Hid (wrap64 (f.safe : Int) = (lk : Int)) := hwk
     have Hwk2 : Hid (IntKind.i64.wrap (f.safe : Int) = (lk : Int)) := hwk2
     clear hRF0 hwk hwk2 hwk0
     have hgN := HgC.out lk lk (by rw [HLn.out]; exact hlkl) (Nat.le_refl _)
     go_upto_region 11 with fail
     clear hwm
     have hbe := hbw (.cells #[.string nm, .slice aj ln cj, .int .i64 (f.safe : Int)] 113)
     have hfil := alloc_at wr (.cells #[.string nm, .slice aj ln cj, .int .i64 (f.safe : Int)] 113)
     obtain ⟨bf, hbf⟩ : ∃ bf, wr.heap.size = bf := ⟨_, rfl⟩
     rw [hbf] at hfil ⊢
     generalize wr.alloc (.cells #[.string nm, .slice aj ln cj, .int .i64 (f.safe : Int)] 113) = Z at *
     refine wp_region_lx (fun w' => Below Z.drew.heap.size Z.drew w') [16] 17 (by kernel_rfl) (by kernel_rfl) ?_
     have hbX : Below wr.heap.size wr Z.drew := hbe.drew
     have hfX : Z.drew.heap[bf]? = some (.cells #[.string nm, .slice aj ln cj, .int .i64 (f.safe : Int)] 113 (0, 0)) := hfil
     clear hbe hfil
     generalize Z.drew = X at *
     have hRX := hRi.below hbX
     have hRjX := hRj.carry (Nat.le_refl _) hbX
     have Q0 := (hbX.cell (World.block_lt_of_cell? _ _ q0)).trans q0
     have hcF : ∀ w', Below X.heap.size X w' → w'.cell? ⟨rd, 0, none⟩ = some (.slice (some ⟨g0, 0, none⟩) N cap0) := fun w' hb => (hb.cell (World.block_lt_of_cell? _ _ Q0)).trans Q0
     have hf1 : ∀ w', Below X.heap.size X w' → w'.cell? ⟨bf, 1, none⟩ = some (.slice aj ln cj) := fun w' hb => by rw [cell_of_block (box_below hfX hb)]; rfl
     have hf2 : ∀ w', Below X.heap.size X w' → w'.cell? ⟨bf, 2, none⟩ = some (.int .i64 (f.safe : Int)) := fun w' hb => by rw [cell_of_block (box_below hfX hb)]; rfl
     have hcj := hRj.cap
     have hlk1 : (lk : Int) ≤ (cj : Int) := Int.ofNat_le.2 (Nat.le_trans hlkl hcj)
     have hlk0 : (0 : Int) ≤ (lk : Int) := Int.natCast_nonneg lk
     clear Q0 q0 q1 q2 qs
     have HSX : Below X.heap.size X X := Below.refl _ _
     refine lx_r 0 _ HSX ?_; simp only [lxa, lxb, lxc]
     refine lx_r 1 _ HSX ?_; simp only [lxa, lxb, lxc]
     refine lx_r 2 _ HSX ?_; simp only [lxa, lxb, lxc]
     refine lx_r 3 (.slice (some ⟨g0, 0, none⟩) N cap0) HSX ?_ (hv := fun w' hS => by have q := hcF _ hS; first | (go_simp; rfl) | go_simp); simp only [lxa, lxb, lxc]
     refine lx_r 4 _ HSX ?_; simp only [lxa, lxb, lxc]
     refine lx_r 6 _ HSX ?_; simp only [lxa, lxb, lxc]
     refine lx_r 7 (.slice aj ln cj) HSX ?_ (hv := fun w' hS => by have q := hf1 _ hS; first | (go_simp; rfl) | go_simp); simp only [lxa, lxb, lxc]
     refine lx_r 8 _ HSX ?_; simp only [lxa, lxb, lxc]
     refine lx_r 9 (.int .i64 (f.safe : Int)) HSX ?_ (hv := fun w' hS => by have q := hf2 _ hS; first | (go_simp; rfl) | go_simp); simp only [lxa, lxb, lxc]
     refine lx_r 10 _ HSX ?_; simp only [lxa, lxb, lxc]
     refine lx_r 11 (.int .i64 (lk : Int)) HSX ?_ (hv := fun w' hS => by have hq1 := Hwk.out; have hq2 := Hwk2.out; first | (go_simp; rfl) | go_simp); simp only [lxa, lxb, lxc]
     refine lx_r 12 (.slice aj lk cj) HSX ?_; simp only [lxa, lxb, lxc]
     have hX0 : Below X.heap.size X (X.alloc (.cells #[] 5)) := (Below.refl _ _).alloc (Nat.le_refl _) _
     have hemp : (X.alloc (.cells #[] 5)).ownsRow X.heap.size 5 1 (.slice (some ⟨X.heap.size, 0, none⟩) 0 0) 0 (bc []) := World.ownsRow_made X #[] 0 (Nat.le_refl _) (by unfold maxLen; omega) rfl
     refine lx_one 5 (by kernel_rfl) (stepT_val (w' := X.alloc (.cells #[] 5)) (.slice (some ⟨X.heap.size, 0, none⟩) 0 0) rfl rfl rfl ?r5c (fun _ => hX0) ?_)
     case r5c => first | (go_simp; rfl) | go_simp
     simp only [lxa, lxb, lxc]
     obtain ⟨v5, w5, hrun5, o5, hb5⟩ := run_appJ 29 hemp ((hRjX.takeK hlkl).carry (Nat.le_refl _) hX0) (by omega) hX0.size
     have hb5' := hX0.trans hb5
     refine lx_one 13 (by kernel_rfl) (stepT_val (w' := w5) v5 rfl rfl rfl (exec_appJ rfl rfl rfl hrun5) (fun _ => hb5') ?_)
     simp only [lxa, lxb, lxc]
     rw [Nat.zero_add, List.nil_append] at o5
     obtain ⟨a6, c6, rfl, hn6⟩ := Rd.ofRowE o5
     have hbl : (f.b.take lk).length = lk := by rw [List.length_take, HLn.out]; omega
     have o6' : w5.ownsRow X.heap.size 5 1 (.slice a6 lk c6) (f.b.take lk).length (bc (f.b.take lk)) := by rw [hbl]; exact o5
     obtain ⟨g, cap, r0, hcap, ⟨u, r1⟩, r2, t0, t1, t2, t3, hRp⟩ := hRX.setBS hb5' (by have h := Hix.out; rw [Hki.out] at h; exact h) o6' hgN
     have R0 := hcF _ hb5'
     rw [r0] at R0
     have hgg : g = g0 := by injection R0 with h; injection h with h _ _; injection h with h; injection h
     have hcc : cap = cap0 := by injection R0 with h; injection h
     rw [hgg] at r0 r1 r2 t0 t1 t2 t3 hRp
     rw [HNf.out, hcc] at t0
     rw [Hput.out] at hRp
     clear R0 hgg hcc
     refine lx_one 14 (by kernel_rfl) (stepT_val (w' := w5) (.pointer (some ⟨g0, i * 3, none⟩)) rfl rfl rfl ?r14c (fun _ => hb5') ?_)
     case r14c => first | (go_simp; rfl) | go_simp
     simp only [lxa, lxb, lxc]
     refine lx_one 15 (by kernel_rfl) (stepT_val (w' := w5) (.pointer (some ⟨g0, i * 3 + 1, none⟩)) rfl rfl rfl ?r15c (fun _ => hb5') ?_)
     case r15c => first | (go_simp; rfl) | go_simp
     simp only [lxa, lxb, lxc]
     refine lx_one 16 (by kernel_rfl) (stepT_store (w' := w5.setCell ⟨g0, i * 3 + 1, none⟩ (.slice a6 lk c6)) rfl rfl rfl ?r16c (fun h => by cases h) ?_)
     case r16c => first | (go_simp; rfl) | go_simp
     refine lx_nil (by kernel_rfl) ?_
     generalize w5.setCell ⟨g0, i * 3 + 1, none⟩ (.slice a6 lk c6) = Y at *
     clear r0 r1 r2 hcF hf1 hf2 hlenB
     go_upto_region 12 with fail
     have hlenC := fun w => len_slice a6 lk c6 29 3 w Tryz.underlying29
     refine wp_region_lx (fun w' => w' = Y.drew) [16] 17 (by kernel_rfl) (by kernel_rfl) ?_
     have hRp2 : Rp X Gi rd { k with fs := dn ++ (nm, ⟨f.b.take lk, lk⟩) :: post } (Y.drew.setCell ⟨g0, i * 3 + 2, none⟩ (.int .i64 (lk : Int))) := hRp.then (Below.refl _ _).drew
     have T0 : Y.drew.cell? ⟨rd, 0, none⟩ = some (.slice (some ⟨g0, 0, none⟩) N cap0) := t0
     have T1 : Y.drew.cell? ⟨g0, i * 3 + 1, none⟩ = some (.slice a6 lk c6) := t1
     have T2 : Y.drew.cell? ⟨g0, i * 3 + 2, none⟩ = some (.int .i64 (f.safe : Int)) := t2
     have T3 : Y.drew.frozen? ⟨g0, i * 3 + 2, none⟩ = false := t3
     clear t0 t1 t2 t3 hRp
     generalize Y.drew = X2 at *
     have HSwc : X2 = X2 := rfl
     refine lx_r 0 _ HSwc ?_; simp only [lxa, lxb, lxc]
     refine lx_r 1 _ HSwc ?_; simp only [lxa, lxb, lxc]
     refine lx_r 2 _ HSwc ?_; simp only [lxa, lxb, lxc]
     refine lx_r 3 (.slice (some ⟨g0, 0, none⟩) N cap0) HSwc ?_ (hv := fun w' hS => by subst hS; first | (go_simp; rfl) | go_simp); simp only [lxa, lxb, lxc]
     refine lx_r 4 _ HSwc ?_; simp only [lxa, lxb, lxc]
     refine lx_r 5 _ HSwc ?_; simp only [lxa, lxb, lxc]
     refine lx_r 6 _ HSwc ?_; simp only [lxa, lxb, lxc]
     refine lx_r 7 _ HSwc ?_; simp only [lxa, lxb, lxc]
     refine lx_r 8 (.slice (some ⟨g0, 0, none⟩) N cap0) HSwc ?_ (hv := fun w' hS => by subst hS; first | (go_simp; rfl) | go_simp); simp only [lxa, lxb, lxc]
     refine lx_r 9 _ HSwc ?_; simp only [lxa, lxb, lxc]
     refine lx_r 10 (.pointer (some ⟨g0, i * 3, none⟩)) HSwc ?_; simp only [lxa, lxb, lxc]
     refine lx_r 11 (.pointer (some ⟨g0, i * 3 + 1, none⟩)) HSwc ?_; simp only [lxa, lxb, lxc]
     refine lx_r 12 (.slice a6 lk c6) HSwc ?_ (hv := fun w' hS => by subst hS; first | (go_simp; rfl) | go_simp); simp only [lxa, lxb, lxc]
     refine lx_r 13 (.int .i64 lk) HSwc ?_; simp only [lxa, lxb, lxc]
     refine lx_one 14 (by kernel_rfl) (stepT_val (w' := X2) (.pointer (some ⟨g0, i * 3, none⟩)) rfl rfl rfl ?r14wc (fun _ => rfl) ?_)
     case r14wc => first | (go_simp; rfl) | go_simp
     simp only [lxa, lxb, lxc]
     refine lx_one 15 (by kernel_rfl) (stepT_val (w' := X2) (.pointer (some ⟨g0, i * 3 + 2, none⟩)) rfl rfl rfl ?r15wc (fun _ => rfl) ?_)
     case r15wc => first | (go_simp; rfl) | go_simp
     simp only [lxa, lxb, lxc]
     refine lx_one 16 (by kernel_rfl) (stepT_store (w' := X2.setCell ⟨g0, i * 3 + 2, none⟩ (.int .i64 (lk : Int))) rfl rfl rfl ?r16wc (fun h => by cases h) ?_)
     case r16wc => first | (go_simp; rfl) | go_simp
     refine lx_nil (by kernel_rfl) ?_
     go_wp2
     refine ⟨⟨i + 1, n + 1, dn ++ [(nm, ⟨f.b.take lk, lk⟩)], post, by go_num, by go_num, by omega, by simp [hdn], ?_, ?_, ?_⟩, by simp [intOf]; omega⟩
     ·show (dn ++ [(nm, (⟨f.b.take lk, lk⟩ : Fle))]) ++ restL post (keep.drop (n + 1)) = R
      rw [← hHR.out, HRF.out, List.append_assoc]
      rfl
     ·show List.map Prod.fst _ = _
      rw [← HNm.out]; simp
     ·rw [List.append_assoc]
      exact Rp.next hki hGi (Rp.next (Keep.ofBelow hbX) (fun i hi => Or.inl hi) hRp2)
end Go.Proofs.YtikkieaokfailaaGreatDoor

namespace Go.Proofs.YtikkieaokfailaaGreatDoor
open Go.RowKit Go.Joins
structure ShG (g : Nat) (O : Nm → Option Fle) (k : Dk) (n : Nat) (B : Nat → List Int) (Z : Nat → Nat) : Prop where
 good : k.Good
 few : n ≤ 1000
 yes : ∀ j, j < n → look k.fs (segN g (j + 1)) = some ⟨B j, Z j⟩
 gap : ∀ j, n ≤ j → look k.fs (segN g (j + 1)) = none
 rest : ∀ s, (∀ j, s ≠ segN g (j + 1)) → look k.fs s = O s
section
variable {g : Nat} {O : Nm → Option Fle} {k : Dk} {n : Nat} {B : Nat → List Int} {Z : Nat → Nat}
theorem ShG.congr {B' : Nat → List Int} {Z' : Nat → Nat} (h : ShG g O k n B Z) (e : ∀ j, j < n → B j = B' j ∧ Z j = Z' j) : ShG g O k n B' Z' :=
 ⟨h.good, h.few, fun j hj => by rw [← (e j hj).1, ← (e j hj).2]; exact h.yes j hj, h.gap, h.rest⟩
theorem ShG.put {k' : Dk} (h : ShG g O k n B Z) (j : Nat) (hj : j ≤ n) (hj9 : j < 1000) (f : Fle) (hfs : k'.fs = putL k.fs (segN g (j + 1)) f) (hg : k'.Good) {m : Nat} (hm : m = max n (j + 1)) {B' : Nat → List Int} {Z' : Nat → Nat} (hB : ∀ i, i < m → B' i = if i = j then f.b else B i) (hZ : ∀ i, i < m → Z' i = if i = j then f.safe else Z i) : ShG g O k' m B' Z' := by
 refine ⟨hg, by have := h.few; omega, fun i hi => ?_, fun i hi => ?_, fun s hs => ?_⟩
 ·rw [hfs, look_put _ h.good.rise, hB i hi, hZ i hi]
  by_cases e : i = j
  ·subst e
   rw [if_pos rfl, if_pos rfl, if_pos rfl]
  ·rw [if_neg (fun e4 => e (by have := segN_inj e4; omega)), if_neg e, if_neg e]
   exact h.yes i (by omega)
 ·rw [hfs, look_put _ h.good.rise, if_neg (fun e4 => by have := segN_inj e4; omega)]
  exact h.gap i (by omega)
 ·rw [hfs, look_put _ h.good.rise, if_neg (hs j)]
  exact h.rest s hs
theorem ShG.nm (hg : g < 18446744073709551616) (j : Nat) (h : j ≤ 1000) : isNm (segN g (j + 1)) = true := isNm_seg g (j + 1) hg (by omega)
theorem ShG.app (h : ShG g O k n B Z) (hg : g < 18446744073709551616) (on : k.off = false) (j : Nat) (hj : j ≤ n) (hj9 : j < 1000) (ys : List Int) (hb : Bd ys) (hro : ys.length + used k.fs ≤ k.room) :
  ∃ en k', appK k (segN g (j + 1)) ys = (en, k') ∧ ((en = 0 ∧ k'.off = false) ∨ (en = 13 ∧ k.fu ≠ none)) ∧ ShG g O k' (max n (j + 1)) (fun i => if i = j then (if j < n then B j ++ ys else ys) else B i) (fun i => if i = j then (if j < n then Z j else 0) else Z i) ∧ k'.room = k.room ∧ k'.steps ≤ k.steps + 1 ∧ used k'.fs = used k.fs + ys.length := by
 have hnm := ShG.nm hg j (by omega)
 obtain ⟨o, ho⟩ : ∃ o, look k.fs (segN g (j + 1)) = o := ⟨_, rfl⟩
 have hob : o = if j < n then some ⟨B j, Z j⟩ else none := by
  rw [← ho]
  by_cases hjn : j < n
  ·rw [if_pos hjn]; exact h.yes j hjn
  ·rw [if_neg hjn]; exact h.gap j (by omega)
 have hbo : (o.map Fle.b).getD [] ++ ys = (if j < n then B j ++ ys else ys) ∧ (o.map Fle.safe).getD 0 = (if j < n then Z j else 0) ∧ lenO o + ys.length = ((o.map Fle.b).getD [] ++ ys).length := by
  rw [hob]
  split
  ·exact ⟨rfl, rfl, by show (B j).length + ys.length = (B j ++ ys).length; rw [List.length_append]⟩
  ·exact ⟨rfl, rfl, by show 0 + ys.length = ([] ++ ys).length; simp⟩
 have hup := used_put k.fs h.good.rise (segN g (j + 1)) ⟨(o.map Fle.b).getD [] ++ ys, (o.map Fle.safe).getD 0⟩
 rw [ho] at hup
 have e2 : (⟨(o.map Fle.b).getD [] ++ ys, (o.map Fle.safe).getD 0⟩ : Fle).b.length = ((o.map Fle.b).getD [] ++ ys).length := rfl
 rw [e2] at hup
 have hsb : (o.map Fle.safe).getD 0 ≤ ((o.map Fle.b).getD [] ++ ys).length ∧ Bd ((o.map Fle.b).getD [] ++ ys) := by
  cases o with
  | none => exact ⟨Nat.zero_le _, hb⟩
  | some f =>
   obtain ⟨g1, g2, g3⟩ := look_good h.good ho
   exact ⟨by show f.safe ≤ (f.b ++ ys).length; rw [List.length_append]; omega, g3.append hb⟩
 have hgp := good_put h.good hnm (f := ⟨(o.map Fle.b).getD [] ++ ys, (o.map Fle.safe).getD 0⟩) hsb.1 hsb.2 (by omega)
 obtain ⟨k2, hk2⟩ : ∃ k2 : Dk, ({ k with fs := putL k.fs (segN g (j + 1)) ⟨(o.map Fle.b).getD [] ++ ys, (o.map Fle.safe).getD 0⟩ } : Dk) = k2 := ⟨_, rfl⟩
 rw [hk2] at hgp
 have hgg := good_pass hgp
 have hf2 : k2.fs = putL k.fs (segN g (j + 1)) ⟨(o.map Fle.b).getD [] ++ ys, (o.map Fle.safe).getD 0⟩ := by rw [← hk2]
 have ho2 : k2.off = k.off := by rw [← hk2]
 have hr2 : k2.room = k.room := by rw [← hk2]
 have hs2 : k2.steps = k.steps := by rw [← hk2]
 have hu2 : k2.fu = k.fu := by rw [← hk2]
 have hap : appK k (segN g (j + 1)) ys = passK k2 := by
  unfold appK
  rw [on, if_neg (by decide), if_neg (by rw [hnm]; decide), if_neg (not_not_intro hro), ho, ← hk2, on]
 obtain ⟨k1, hp, hf, hr, hs, hn⟩ := pass_or k2
 have hsh : k1.Good → ShG g O k1 (max n (j + 1)) (fun i => if i = j then (if j < n then B j ++ ys else ys) else B i) (fun i => if i = j then (if j < n then Z j else 0) else Z i) := fun hg =>
  h.put j hj hj9 ⟨(o.map Fle.b).getD [] ++ ys, (o.map Fle.safe).getD 0⟩ (hf.trans hf2) hg rfl (fun i _ => by dsimp only; rw [hbo.1]) (fun i _ => by dsimp only; rw [hbo.2.1])
 rw [hap]
 rcases hp with ⟨hp, hoo⟩ | ⟨hp, hfu⟩
 ·rw [hp] at hgg
  exact ⟨0, k1, hp, Or.inl ⟨rfl, by rw [hoo, ho2, on]⟩, hsh hgg, hr.trans hr2, by omega, by rw [hf, hf2]; omega⟩
 ·rw [hp] at hgg
  exact ⟨13, k1, hp, Or.inr ⟨rfl, by rw [← hu2]; exact hfu⟩, hsh hgg, hr.trans hr2, by omega, by rw [hf, hf2]; omega⟩
end
section
variable {g : Nat} {O : Nm → Option Fle} {m u : Nat} {c : Ch} {k : Dk} {all : List (List Int)}
end
end Go.Proofs.YtikkieaokfailaaGreatDoor

namespace Go.Proofs.YtikkieaokfailaaGreatDoor
open Go.RowKit Go.Joins
structure Gn (k : Dk) (g : Nat) (S : List (List (List Int))) : Prop where
 good : k.Good
 gl : 0 < g ∧ g < 18446744073709551616
 base : (g = 1 ∧ look k.fs sBase = none) ∨ look k.fs sBase = some ⟨baseL g, 12⟩
 yes : ∀ j, j < S.length → look k.fs (segN g (j + 1)) = some ⟨forms (S.getD j []), (forms (S.getD j [])).length⟩
 no : look k.fs (segN g (S.length + 1)) = none
 rl : ∀ t ∈ S, ∀ r ∈ t, r.length ≤ 1048576
 few : S.length ≤ 1000
theorem Gn.of {k k' : Dk} {g : Nat} {S : List (List (List Int))} (h : Gn k g S) (hg : k'.Good) (e : ∀ s, (s = sBase ∨ ∃ j, s = segN g (j + 1)) → look k'.fs s = look k.fs s) : Gn k' g S :=
 ⟨hg, h.gl, by rw [e sBase (Or.inl rfl)]; exact h.base, fun j hj => by rw [e _ (Or.inr ⟨j, rfl⟩)]; exact h.yes j hj, by rw [e _ (Or.inr ⟨_, rfl⟩)]; exact h.no, h.rl, h.few⟩
theorem Gn.rest {k : Dk} {g : Nat} {S : List (List (List Int))} (h : Gn k g S) (keep : List Int) (hg : (restK k keep).Good) : Gn (restK k keep) g S := by
 have hsome : ∀ s b, look k.fs s = some ⟨b, b.length⟩ → look (restL k.fs keep) s = some ⟨b, b.length⟩ := fun s b hs => by
  rcases look_restG k.fs keep s with ⟨e, _⟩ | ⟨f, x, q1, q2⟩
  ·rw [hs] at e; cases e
  ·rw [hs] at q1
   cases q1
   rw [q2, if_pos rfl]
 have hnone : ∀ s, look k.fs s = none → look (restL k.fs keep) s = none := fun s hs => by
  rcases look_restG k.fs keep s with ⟨_, e⟩ | ⟨f, x, q1, _⟩
  ·exact e
  ·rw [hs] at q1; cases q1
 refine ⟨hg, h.gl, ?_, fun j hj => hsome _ _ (h.yes j hj), hnone _ h.no, h.rl, h.few⟩
 rcases h.base with ⟨e1, e2⟩ | e
 ·exact Or.inl ⟨e1, hnone _ e2⟩
 ·refine Or.inr ?_
  have hl := baseL_len g
  have e' : look k.fs sBase = some ⟨baseL g, (baseL g).length⟩ := by rw [hl]; exact e
  have := hsome _ _ e'
  rw [hl] at this
  exact this
theorem numL_big8 (n : Nat) (h : n < 18446744073709551616) : numL (bigL 8 n) = n := by
 show ((((((((0 * 256 + ((n / 72057594037927936 % 256 : Nat) : Int).toNat) * 256 + ((n / 281474976710656 % 256 : Nat) : Int).toNat) * 256 + ((n / 1099511627776 % 256 : Nat) : Int).toNat) * 256 + ((n / 4294967296 % 256 : Nat) : Int).toNat) * 256 + ((n / 16777216 % 256 : Nat) : Int).toNat) * 256 + ((n / 65536 % 256 : Nat) : Int).toNat) * 256 + ((n / 256 % 256 : Nat) : Int).toNat) * 256 + ((n / 1 % 256 : Nat) : Int).toNat) = n
 simp only [Int.toNat_natCast]
 omega
theorem remove_on {k : Dk} (on : k.off = false) (fu : k.fu = none) (hg : k.Good) {s : Nm} (hs : (look k.fs s).isSome = true) : ∃ k', removeK k s = (0, k') ∧ k'.off = false ∧ k'.fu = none ∧ k'.Good ∧ k'.fs = dropL k.fs s := by
 obtain ⟨f, hf⟩ := Option.isSome_iff_exists.1 hs
 have hnm := (look_good hg hf).1
 have hgp := good_pass hg
 rw [pass_on fu] at hgp
 refine ⟨{ k with steps := k.steps + 1, fs := dropL k.fs s }, ?_, on, fu, good_drop hgp s, rfl⟩
 unfold removeK stepK
 rw [on, if_neg (by decide), if_neg (by rw [hnm]; decide), hf]
 dsimp only
 rw [if_neg (by simp), pass_on fu, if_neg (by simp)]
 dsimp only
 rw [on]
theorem remAll_on : ∀ (ns : List Nm) (k : Dk), k.off = false → k.fu = none → k.Good → (∀ s ∈ ns, (look k.fs s).isSome = true) → ns.Nodup → ∃ k', remAll ns false k = (0, false, k') ∧ k'.off = false ∧ k'.fu = none ∧ k'.Good ∧ ∀ s, s ∉ ns → look k'.fs s = look k.fs s
 | [], k, on, fu, hg, _, _ => ⟨k, rfl, on, fu, hg, fun s _ => rfl⟩
 | s :: ns, k, on, fu, hg, hs, hn => by
  have hn' := List.pairwise_cons.1 hn
  obtain ⟨k1, r1, r2, r3, r4, r5⟩ := remove_on on fu hg (hs s (List.mem_cons_self ..))
  obtain ⟨k2, q1, q2, q3, q4, q5⟩ := remAll_on ns k1 r2 r3 r4 (fun t ht => by
   rw [r5, look_drop, if_neg (fun e => hn'.1 t ht e.symm)]
   exact hs t (List.mem_cons_of_mem _ ht)) hn'.2
  refine ⟨k2, ?_, q2, q3, q4, fun t ht => ?_⟩
  ·rw [remAll_ok (stp_ok r1)]
   exact q1
  ·rw [q5 t (fun h => ht (List.mem_cons_of_mem _ h)), r5, look_drop, if_neg (fun e => ht (by rw [e]; exact List.mem_cons_self ..))]
theorem rd_wholeG (g : Nat) (hg : g < 18446744073709551616) (k : Dk) (on : k.off = false) (Zs : Nat → Nat) : ∀ (U P : List (List (List Int))) (l : Lg), l.ch.g = g → (P ++ U).length ≤ 1000 → (∀ j, j < (P ++ U).length → look k.fs (segN g (j + 1)) = some ⟨forms ((P ++ U).getD j []), Zs j⟩) → (∀ t ∈ U, ∀ r ∈ t, r.length ≤ 1048576) →
  ∃ l2, rdSegs U.length P.length l k = (0, l2, k) ∧ l2.ch.g = g ∧ l2.ch.cnt = l.ch.cnt ∧ l2.dn = l.dn ∧ l2.most = l.most ∧ l2.recs = l.recs ++ U.flatten
 | [], P, l, hl, _, _, _ => ⟨l, rfl, hl, rfl, rfl, rfl, by simp⟩
 | t :: U, P, l, hl, hc, h, hr => by
  have hlt : P.length < (P ++ t :: U).length := by simp
  have h1 := h P.length hlt
  have e0 : (P ++ t :: U).getD P.length [] = t := by simp
  rw [e0] at h1
  have hrd : readK k (segN g (P.length + 1)) = (0, forms t) := by
   unfold readK
   rw [on, if_neg (by decide), if_neg (by rw [ShG.nm hg P.length (by omega)]; decide), h1]
  have hsc := scan_forms t (forms t).length (hr t (List.mem_cons_self ..)) (Nat.le_refl _)
  have hseg : readSegL l (P.length + 1) k = (0, true, ⟨l.most, l.recs ++ t, { l.ch with size := (forms t).length }, l.dn⟩, k) := by
   unfold readSegL readSegR
   rw [hl, hrd]
   dsimp only
   rw [if_neg (by simp), hsc, if_pos rfl]
  have hP : P ++ t :: U = (P ++ [t]) ++ U := by simp
  obtain ⟨l2, i1, i2, i3, i4, i5, i6⟩ := rd_wholeG g hg k on Zs U (P ++ [t]) ⟨l.most, l.recs ++ t, { l.ch with size := (forms t).length }, l.dn⟩ hl (by rw [← hP]; exact hc) (by rw [← hP]; exact h) (fun x hx => hr x (List.mem_cons_of_mem _ hx))
  refine ⟨l2, ?_, i2, i3, i4, i5, by rw [i6, List.flatten_cons, List.append_assoc]⟩
  rw [← i1]
  show rdSegs (U.length + 1) P.length l k = _
  conv => lhs; unfold rdSegs
  rw [hseg]
  dsimp only
  rw [if_neg (by simp), if_pos rfl, List.length_append]
  rfl
theorem Gn.opens {k : Dk} {g : Nat} {S : List (List (List Int))} (h : Gn k g S) (on : k.off = false) (fu : k.fu = none) (m : Nat) : (openL m k).1 = 0 ∧ (openL m k).2.1.recs = S.flatten := by
 have hgl := h.gl
 have hbase : baseR (readK k sBase) = (0, g) := by
  rcases h.base with ⟨e1, e2⟩ | e
  ·have : readK k sBase = (7, []) := by
    unfold readK
    rw [on, if_neg (by decide), if_neg (by decide), e2]
   rw [this, e1]
   rfl
  ·have hrd : readK k sBase = (0, baseL g) := by
    unfold readK
    rw [on, if_neg (by decide), if_neg (by decide), e]
   have ht : (baseL g).take 8 = bigL 8 g := by
    unfold baseL
    rw [List.take_append_of_le_length (by rw [bigL_len]; omega), List.take_of_length_le (by rw [bigL_len]; omega)]
   rw [hrd]
   unfold baseR
   dsimp only
   rw [if_neg (by decide), if_neg (by simp), if_neg (by rw [baseL_len]; simp), ht, numL_big8 g hgl.2, if_pos ⟨hgl.1, rfl⟩]
 have hls : listK k = (0, k.fs.map Prod.fst) := by unfold listK; rw [on]; rfl
 have hmem : ∀ s, s ∈ k.fs.map Prod.fst ↔ (look k.fs s).isSome = true := fun s => look_isSome.symm
 have hcnt : cntN (k.fs.map Prod.fst) g = S.length := cntN_is ⟨fun s hs => by
  obtain ⟨i, hi, e⟩ := mem_segs.1 hs
  rw [hmem, e, Nat.zero_add, h.yes i hi]
  rfl, fun hs => by
  rw [hmem, h.no] at hs
  cases hs⟩
 obtain ⟨ns, hns⟩ : ∃ ns, (k.fs.map Prod.fst).filter (left g S.length) = ns := ⟨_, rfl⟩
 have hnd : ns.Nodup := by
  rw [← hns]
  exact ((rise_pair h.good.rise).imp (fun {a b} hlt e => by subst e; exact ltN_irrefl _ hlt) : (k.fs.map Prod.fst).Nodup).filter _
 have hnp : ∀ s ∈ ns, (look k.fs s).isSome = true := fun s hs => by
  rw [← hns] at hs
  exact (hmem s).1 (List.mem_filter.1 hs).1
 have hseg : ∀ j, j < S.length → segN g (j + 1) ∉ ns := fun j hj hs => by
  rw [← hns] at hs
  have h2 := (List.mem_filter.1 hs).2
  unfold left at h2
  rw [inN_iff.2 (mem_segs.2 ⟨j, hj, by rw [Nat.zero_add]⟩)] at h2
  simp at h2
 obtain ⟨k1, r1, r2, r3, r4, r5⟩ := remAll_on ns k on fu h.good hnp hnd
 have hcl : cleanL ⟨g, 0, 0, false⟩ false k = (0, ⟨g, S.length, 0, false⟩, false, k1) := by
  unfold cleanL
  rw [hls]
  dsimp only
  rw [if_neg (by simp), hcnt, hns, r1]
 have hy1 : ∀ j, j < S.length → look k1.fs (segN g (j + 1)) = some ⟨forms (S.getD j []), (forms (S.getD j [])).length⟩ := fun j hj => by
  rw [r5 _ (hseg j hj)]
  exact h.yes j hj
 obtain ⟨l2, i1, i2, i3, i4, i5, i6⟩ := rd_wholeG g hgl.2 k1 r2 (fun j => (forms (S.getD j [])).length) S [] ⟨m, [], ⟨g, S.length, 0, false⟩, false⟩ rfl h.few hy1 h.rl
 have i1' : rdSegs S.length 0 ⟨m, [], ⟨g, S.length, 0, false⟩, false⟩ k1 = (0, l2, k1) := i1
 have i6' : l2.recs = S.flatten := i6
 have i3' : l2.ch.cnt = S.length := i3
 have i4' : l2.dn = false := i4
 have hop : openL m k = openR.openD (0, l2, k1) := by
  unfold openL
  rw [hbase]
  unfold openR
  rw [if_neg (by simp)]
  show openR.openC m (cleanL ⟨g, 0, 0, false⟩ false k) = _
  rw [hcl]
  unfold openR.openC
  rw [if_neg (by simp)]
  dsimp only
  rw [i1']
 rw [hop]
 unfold openR.openD
 rw [if_neg (by simp)]
 dsimp only
 unfold commitL
 refine ⟨?_, i6'⟩
 dsimp only
 unfold settleL
 rw [i3', i4']
 dsimp only
 by_cases h0 : 0 < S.length
 ·rw [if_pos (decide_eq_true h0), i2]
  have hsy : ∃ k', syncK k1 (segN g (S.length - 1 + 1)) = (0, k') := by
   unfold syncK stepK
   rw [r2, if_neg (by decide), if_neg (by rw [ShG.nm hgl.2 (S.length - 1) (by have := h.few; omega)]; decide), hy1 (S.length - 1) (by omega)]
   dsimp only
   rw [if_neg (by simp), pass_on r3, if_neg (by simp)]
   exact ⟨_, rfl⟩
  obtain ⟨k', hk'⟩ := hsy
  rw [show S.length - 1 + 1 = S.length from by omega] at hk'
  rw [stp_ok hk']
 ·rw [if_neg (by rw [decide_eq_false h0]; decide)]
end Go.Proofs.YtikkieaokfailaaGreatDoor

namespace Go.Proofs.YtikkieaokfailaaGreatDoor
open Go.RowKit Go.Joins
end Go.Proofs.YtikkieaokfailaaGreatDoor

namespace Go.Proofs.YtikkieaokfailaaGreatDoor
open Go.ChangeShapes Go.WideShapes Go.ChangeAt Go.RowKit Go.Joins
def tw (xs : List (List Int)) : List (List Int) := (xs.take 12).map (List.take 200)
theorem tw_len (xs : List (List Int)) : (tw xs).length ≤ 12 := by unfold tw; rw [List.length_map, List.length_take]; omega
theorem tw_rl (xs : List (List Int)) : ∀ r ∈ tw xs, r.length ≤ 200 := fun r hr => by
 obtain ⟨x, _, rfl⟩ := List.mem_map.1 hr
 rw [List.length_take]
 omega
set_option maxHeartbeats 2000000 in
theorem twins_any (a : Option Addr) (n c : Nat) (xs : List (List Int)) (w : World) (hR : RRd w a n xs) :
  Calls Tryz.prog 28 #[.slice a n c] w fun e w' => ∃ v, e = .returned v ∧ RcA w' (fun i => w.heap.size ≤ i ∧ i < w'.heap.size) v (tw xs) ∧ Below w.heap.size w w' := by
 have Hn : Hid (xs.length = n) := hR.len
 have hnm := hR.most
 go_enter Tryz.func28, Tryz.ntmps28
 go_upto_region 3 with fail
 go_loopw [3, 4] (fun s3 s4 wr => ∃ (j : Nat) (v : Value), s3 = v ∧ s4 = .int .i64 j ∧ j ≤ n ∧ j ≤ 12 ∧ Hid (RcA wr (fun i => w.heap.size ≤ i ∧ i < wr.heap.size) v ((xs.take j).map (List.take 200))) ∧ Hid (Below w.heap.size w wr)) (fun _ s4 _ => 12 - (intOf s4).toNat)
 case atStart =>
  refine ⟨0, _, rfl, rfl, by omega, by omega, ?_, Below.refl _ _⟩
  show RcA _ _ _ ((xs.take 0).map _)
  rw [List.take_zero]
  exact rcA_nil _ _
 case round =>
  obtain ⟨j, v, rfl, rfl, hjn, hj12, HR, HB⟩ := hrel
  by_cases hlt : j < n ∧ j < 12
  ·have hcl : (j : Int) < (n : Int) := by omega
   have hcl12 : (j : Int) < 12 := by omega
   have hRr := hR.below HB.out
   obtain ⟨bb, off, rfl, hce⟩ := hRr.flat (by omega)
   obtain ⟨aj, nj, cj, hcj, hrj⟩ := hce j hlt.1
   clear hce hRr
   have hfew := few200O aj nj cj _ wr hrj
   have hbd := hrj.bytes.take 200
   obtain ⟨x, hx⟩ : ∃ x, xs[j]? = some x := ⟨_, List.getElem?_eq_getElem (by rw [Hn.out]; exact hlt.1)⟩
   have hxd : xs.getD j [] = x := by rw [List.getD_eq_getElem?_getD, hx]; rfl
   rw [hxd] at hfew hbd
   have HTk : Hid ((xs.take (j + 1)).map (List.take 200) = (xs.take j).map (List.take 200) ++ [x.take 200]) := by
    show _ = _
    rw [List.take_add_one, hx, List.map_append]
    rfl
   obtain ⟨⟨vs, ov, hvs⟩, hvo⟩ := HR.out
   have hlj : ((xs.take j).map (List.take 200)).length = j := by rw [List.length_map, List.length_take, Hn.out]; omega
   have HLj : Hid (((xs.take j).map (List.take 200)).length = j) := hlj
   have ovj := ov
   rw [hlj] at ovj
   obtain ⟨av, cv, hv⟩ := own_sl ovj
   subst hv
   obtain ⟨r, Hr⟩ : ∃ r, Hid (x.take 200 = r) := ⟨_, rfl⟩
   rw [Hr.out] at hfew hbd
   have HTk2 : Hid ((xs.take (j + 1)).map (List.take 200) = (xs.take j).map (List.take 200) ++ [r]) := by show _ = _; rw [HTk.out, Hr.out]
   clear hrj hx hxd hlj HTk
   go_wp2_with (first
    | (go_at_call 17; refine hfew.mono ?_; rintro e w5 ⟨a5, n5, c5, rfl, hn5, o5, hr5, hg5, hb5⟩; have ov5 := own_keep (S := fun _ => False) ovj (Keep.ofBelow hb5) (fun _ _ h => h))
    | (at_builtin; refine wp_appRow rfl (.tmp 15) (.tmp 21) rfl 0 (.slice av j cv) j vs rfl ov5 a5 n5 c5 rfl (by omega) (Nat.zero_le _) ?_; intro v6 w6 o6 hk6 hwh6; obtain ⟨a6, c6, rfl⟩ := own_sl o6))
   have h0s := HB.out.size
   have h5s := hb5.size
   have h6s := hk6.size
   have hlen := hr5.len
   have hB5 : Below w.heap.size w w5 := HB.out.trans (hb5.mono h0s)
   have hB6 : Below w.heap.size w w6 := hB5.trans (hk6.low hB5.size (fun i hi => (hvo i hi).1))
   have hR6 : RcA w6 (fun i => w.heap.size ≤ i ∧ i < w6.heap.size) (.slice a6 (j + 1) c6) ((xs.take j).map (List.take 200) ++ [r]) := by
    refine RcA.app (w := w5) (vs := vs) (v := .slice av j cv) (u := .slice a5 n5 c5) (by rw [HLj.out]; exact ov5) (fun i r hr => ?_) (by rw [HLj.out]; exact o6) hk6 (by rw [hlen]; exact own_weak o5 (Nat.zero_le _)) (fun g hg => ?_) hbd (fun g hg => ?_)
    ·obtain ⟨u2, m1, m2, m3, m4⟩ := hvs i r hr
     exact ⟨u2, m1, own_keep (S := fun _ => False) m2 (Keep.ofBelow hb5) (fun _ _ h => h), fun g hg => by have := m3 g hg; exact ⟨this.1, by omega⟩, m4⟩
    ·have := o5.lt g hg
     exact ⟨by omega, by omega⟩
    ·rcases hwh6 with h9 | ⟨g9, h9, h10⟩
     ·have := hvo g (by rw [← h9]; exact hg)
      exact ⟨this.1, by omega⟩
     ·rw [h9] at hg
      injection hg with hg
      subst hg
      refine ⟨by omega, ?_⟩
      obtain ⟨cur, e⟩ := own_blkT o6 h9
      exact (Array.getElem?_eq_some_iff.1 e).1
   exact ⟨⟨j + 1, _, rfl, by go_num, by omega, by omega, by show RcA _ _ _ _; rw [HTk2.out]; exact hR6, hB6⟩, by simp [intOf]; omega⟩
  ·have hend : ¬ (j : Int) < (n : Int) ∨ ((j : Int) < (n : Int) ∧ ¬ (j : Int) < 12) := by omega
   have hR9 := HR.out
   have e12 : xs.take j = xs.take 12 := by
    by_cases h12 : j = 12
    ·rw [h12]
    ·rw [List.take_of_length_le (by rw [Hn.out]; omega), List.take_of_length_le (by rw [Hn.out]; omega)]
   rw [e12] at hR9
   clear e12
   rcases hend with hcl | ⟨hcl, hcl12⟩ <;> (
    go_wp2
    go_ret
    exact ⟨_, rfl, hR9, HB.out⟩)
theorem RcA.rrd {w : World} {A : Nat → Prop} {al : Option Addr} {N cl : Nat} {rs : List (List Int)} (h : RcA w A (.slice al N cl) rs) (hN : rs.length = N) (hm : N ≤ 9223372036854775807) : RRd w al N rs := by
 refine ⟨hN, hm, fun h0 => ?_⟩
 obtain ⟨g, _, _, _, e, _⟩ := h.cell hN 0 h0
 refine ⟨g, 0, e, fun j hj => ?_⟩
 obtain ⟨g', a, n, c, e', h1, h2⟩ := h.cell hN j hj
 rw [e] at e'
 injection e' with e'
 injection e' with e'
 subst e'
 rw [Nat.zero_add]
 exact ⟨a, n, c, h1, h2⟩
theorem RcA.rnot {w : World} {A S : Nat → Prop} {al : Option Addr} {N cl : Nat} {rs : List (List Int)} (h : RcA w A (.slice al N cl) rs) (hN : rs.length = N) (hS : ∀ i, A i → ¬ S i) : RNot w al N S := by
 obtain ⟨⟨vs, ov, hvs⟩, hvo⟩ := h
 refine ⟨fun ad e => ?_, fun b off e j hj aj nj cj hc ad ha => ?_⟩
 ·rcases ov.2 with ⟨e1, _⟩ | ⟨g, cap, cur, e1, _⟩
  ·injection e1 with e1
   rw [e1] at e; cases e
  ·injection e1 with e1
   rw [e1] at e
   injection e with e
   rw [← e]
   exact hS g (hvo g (by rw [e1]; rfl))
 ·rcases ov.2 with ⟨e1, _⟩ | ⟨g, cap, cur, e1, _⟩
  ·injection e1 with e1
   rw [e1] at e; cases e
  ·have e1' := e1
   injection e1 with e1
   rw [e1] at e
   injection e with e
   injection e with e2 e3
   subst e2 e3
   obtain ⟨r, hr⟩ : ∃ r, rs[j]? = some r := ⟨_, List.getElem?_eq_getElem (by omega)⟩
   obtain ⟨u, h1, h2, h3, h4⟩ := hvs j r hr
   have ov2 := ov
   rw [e1'] at ov2
   have hc2 := ov2.cells (g := g) rfl j _ h1
   rw [add_flat] at hc2
   rw [hc] at hc2
   injection hc2 with hc2
   subst hc2
   subst ha
   rcases h2.2 with ⟨e5, _⟩ | ⟨g2, cap2, cur2, e5, _⟩
   ·injection e5 with e5; cases e5
   ·have e6 := e5
    injection e5 with e5
    injection e5 with e5
    subst e5
    exact hS g2 (h3 g2 rfl)
end Go.Proofs.YtikkieaokfailaaGreatDoor
