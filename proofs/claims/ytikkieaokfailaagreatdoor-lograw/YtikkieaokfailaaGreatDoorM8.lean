/- Texts of one seat, one behind the other: LgT, LrA, LrB, LrC, LrD. -/
import Derived.Test.YtikkieaokfailaaGreatDoorM7
import Derived.Test.YtikkieaokfailaaGreatDoorM5
namespace Go.Proofs.YtikkieaokfailaaGreatDoor
open Go.RowKit Go.Joins
theorem scanF_le : ∀ (f : Nat) (xs : List Int), (scanF f xs).1.length ≤ xs.length ∧ (scanF f xs).2.1 ≤ xs.length
 | 0, _ => ⟨Nat.zero_le _, Nat.zero_le _⟩
 | f + 1, xs => by
  by_cases h : xs.length = 0
  ·rw [scanF_nil _ _ h]; exact ⟨Nat.zero_le _, Nat.zero_le _⟩
  ·cases hr : recO xs with
   | none => rw [scanF_no h hr]; exact ⟨Nat.zero_le _, Nat.zero_le _⟩
   | some r =>
    rw [scanF_some h hr]
    obtain ⟨h1, _, _⟩ := recO_len hr
    obtain ⟨h2, h3⟩ := scanF_le f (xs.drop (8 + r.length))
    rw [List.length_drop] at h2 h3
    exact ⟨by simp; omega, by dsimp only; omega⟩
def segTot (g : Nat) (k : Dk) : Nat → Nat → Nat
 | 0, _ => 0
 | m + 1, i => (readK k (segN g (i + 1))).2.length + segTot g k m (i + 1)
def rdSegs : Nat → Nat → Lg → Dk → Nat × Lg × Dk
 | 0, _, l, k => (0, l, k)
 | m + 1, i, l, k =>
  if (readSegL l (i + 1) k).1 ≠ 0 then ((readSegL l (i + 1) k).1, (readSegL l (i + 1) k).2.2.1, (readSegL l (i + 1) k).2.2.2)
  else if (readSegL l (i + 1) k).2.1 then rdSegs m (i + 1) (readSegL l (i + 1) k).2.2.1 (readSegL l (i + 1) k).2.2.2
  else rdEnd i (readSegL l (i + 1) k).2.2.1 (readSegL l (i + 1) k).2.2.2
 where
 rdEnd (i : Nat) (l : Lg) (k : Dk) : Nat × Lg × Dk :=
  ((remAll (segs l.ch.g (i + 1) (l.ch.cnt - (i + 1))) l.dn k).1, ⟨l.most, l.recs, (if (remAll (segs l.ch.g (i + 1) (l.ch.cnt - (i + 1))) l.dn k).1 = 0 then { l.ch with cnt := i + 1 } else l.ch), (remAll (segs l.ch.g (i + 1) (l.ch.cnt - (i + 1))) l.dn k).2.1⟩, (remAll (segs l.ch.g (i + 1) (l.ch.cnt - (i + 1))) l.dn k).2.2)
theorem cut_gr (k : Dk) (s : Nm) (z : Int) : (cutK k s z).2.steps ≤ k.steps + 1 ∧ (cutK k s z).2.fs.length ≤ k.fs.length + 1 := by
 unfold cutK stepK
 have h1 := pass_steps k
 have h2 := pass_fs k
 split
 ·exact ⟨Nat.le_succ _, Nat.le_succ _⟩
 ·split
  ·exact ⟨Nat.le_succ _, Nat.le_succ _⟩
  ·split
   ·exact ⟨Nat.le_succ _, Nat.le_succ _⟩
   ·split
    ·exact ⟨Nat.le_succ _, Nat.le_succ _⟩
    ·split
     ·exact ⟨h1, by rw [h2]; exact Nat.le_succ _⟩
     ·refine ⟨h1, ?_⟩
      show (putL _ _ _).length ≤ _
      rw [← h2]
      exact len_put _ _ _
theorem readSeg_same (l : Lg) (i : Nat) (k : Dk) : (readSegL l i k).2.2.1.most = l.most ∧ (readSegL l i k).2.2.1.ch.g = l.ch.g ∧ (readSegL l i k).2.2.1.ch.cnt = l.ch.cnt ∧ (readSegL l i k).2.2.2.steps ≤ k.steps + 1 ∧ (readSegL l i k).2.2.2.fs.length ≤ k.fs.length + 1 ∧ (readSegL l i k).2.2.1.recs.length ≤ l.recs.length + (readK k (segN l.ch.g i)).2.length ∧ (l.ch.size ≤ 1000000000 → (readK k (segN l.ch.g i)).2.length ≤ 1000000000 → (readSegL l i k).2.2.1.ch.size ≤ 1000000000) ∧ ((readSegL l i k).1 = 0 → (readSegL l i k).2.1 = true → (readSegL l i k).2.2.2 = k) := by
 unfold readSegL readSegR
 obtain ⟨P, HP⟩ : ∃ P, readK k (segN l.ch.g i) = P := ⟨_, rfl⟩
 rw [HP]
 obtain ⟨h1, h2⟩ := scanF_le P.2.length P.2
 split
 ·exact ⟨rfl, rfl, rfl, Nat.le_succ _, Nat.le_succ _, Nat.le_add_right _ _, fun h _ => h, fun _ h => by cases h⟩
 ·split
  ·exact ⟨rfl, rfl, rfl, Nat.le_succ _, Nat.le_succ _, by simp; exact h1, fun _ h => Nat.le_trans h2 h, fun _ _ => rfl⟩
  ·exact ⟨rfl, rfl, rfl, stp_gr _ _ _ (cut_gr _ _ _).1, stp_fl _ _ _ (cut_gr _ _ _).2, by simp; exact h1, fun _ h => Nat.le_trans h2 h, fun _ h => by cases h⟩
set_option maxHeartbeats 4000000 in
set_option maxRecDepth 100000 in
theorem readSegs_any (w : World) (F H : Nat → Prop) (lb d : Nat) (l : Lg) (k : Dk) (h : LogAt w F H lb d l k) (ok : l.Ok) (hc : l.ch.cnt ≤ 2500) (hz : l.ch.size ≤ 1000000000) (hst : k.steps < 900000) (hfl : k.fs.length ≤ 5000) (htot : l.recs.length + segTot l.ch.g k l.ch.cnt 0 ≤ 900000) :
  Calls Tryz.prog 100 #[.pointer (some ⟨lb, 0, none⟩)] w fun e w' => Gs (rdSegs l.ch.cnt 0 l k).1 e ∧ Lgp w F H lb d (rdSegs l.ch.cnt 0 l k).2.1 (rdSegs l.ch.cnt 0 l k).2.2 w' := by
 obtain ⟨v, hLD, hRc⟩ := h.ex
 have q4 := hLD.c4
 have hg := ok.g
 have hmo := ok.most
 obtain ⟨N, HN⟩ : ∃ N, Hid (l.ch.cnt = N) := ⟨_, rfl⟩
 obtain ⟨R, HR⟩ : ∃ R, Hid (rdSegs l.ch.cnt 0 l k = R) := ⟨_, rfl⟩
 rw [HR.out]
 obtain ⟨eR, lR, kR⟩ := R
 dsimp only
 have HQ0 : Hid (rdSegs N 0 l k = (eR, lR, kR)) := by
  have h9 := HR.out
  rw [HN.out] at h9
  exact h9
 rw [HN.out] at q4 hc htot
 clear HR
 go_enter Tryz.func100, Tryz.ntmps100
 go_upto_region 1 with fail
 go_loopw [2, 8] (fun _ s8 wr => ∃ (i : Nat) (F1 H1 : Nat → Prop) (l1 : Lg), s8 = .int .i64 i ∧ i ≤ N ∧ Hid (LogAt wr F1 H1 lb d l1 k) ∧ Hid (Keep (fun i => F i ∨ H i ∨ i = lb) w wr) ∧ Hid (∀ i, F1 i → F i ∨ w.heap.size ≤ i) ∧ Hid (∀ i, H1 i → H i ∨ w.heap.size ≤ i) ∧ Hid (l1.ch.g = l.ch.g ∧ l1.ch.cnt = N ∧ l1.most = l.most ∧ l1.ch.size ≤ 1000000000) ∧ Hid (l1.recs.length + segTot l.ch.g k (N - i) i ≤ 900000) ∧ Hid (rdSegs (N - i) i l1 k = (eR, lR, kR))) (fun _ s8 _ => N - (intOf s8).toNat)
 case atStart => exact ⟨0, F, H, l, rfl, by omega, h, Keep.refl _ _, fun i hi => Or.inl hi, fun i hi => Or.inl hi, ⟨rfl, HN.out, rfl, hz⟩, htot, HQ0.out⟩
 case round =>
  clear q4 HQ0 htot hLD hRc
  obtain ⟨i, F1, H1, l1, rfl, hiN, HL, HK, HF, HH, HS, HT, HQ⟩ := hrel
  by_cases hlt : i < N
  ·have hz1 : (i : Int) < (N : Int) := by omega
   have hNi : N - i = (N - (i + 1)) + 1 := by omega
   obtain ⟨m, Hm⟩ : ∃ m, Hid (N - (i + 1) = m) := ⟨_, rfl⟩
   have hT := HT.out
   rw [hNi, Hm.out] at hT
   have hT2 : l1.recs.length + ((readK k (segN l.ch.g (i + 1))).2.length + segTot l.ch.g k m (i + 1)) ≤ 900000 := hT
   have hS := HS.out
   have ok1 : l1.Ok := ⟨by rw [hS.1]; exact hg, by rw [hS.2.1]; omega, by have := hS.2.2.2; omega, by rw [hS.2.2.1]; exact hmo, by omega⟩
   have hrl : l1.recs.length + (readK k (segN l1.ch.g (i + 1))).2.length ≤ 900000 := by rw [hS.1]; omega
   have hrs := readSeg_any wr F1 H1 lb d l1 k (i + 1) HL.out ok1 (by omega) (by omega) (by omega) hrl
   have hsm := readSeg_same l1 (i + 1) k
   have hQ := HQ.out
   rw [hNi, Hm.out] at hQ
   unfold rdSegs at hQ
   rw [hS.1] at hsm
   obtain ⟨Q, HQ9⟩ : ∃ Q, Hid (readSegL l1 (i + 1) k = Q) := ⟨_, rfl⟩
   rw [HQ9.out] at hrs hsm hQ
   obtain ⟨en, bb, l2, k2⟩ := Q
   dsimp only at hrs hsm hQ
   obtain ⟨s1, s2, s3, s4, s5, s6, s7, s8⟩ := hsm
   have hi1 : ((i + 1 : Nat) : Int) = (i : Int) + 1 := by omega
   rw [hi1] at hrs
   have Hall : Hid (l2.ch.g = l.ch.g ∧ l2.ch.cnt = N ∧ l2.most = l.most ∧ l2.ch.size ≤ 1000000000) := ⟨by rw [s2], by rw [s3]; exact hS.2.1, by rw [s1]; exact hS.2.2.1, s7 hS.2.2.2 (by omega)⟩
   have HT2 : Hid (l2.recs.length + segTot l.ch.g k m (i + 1) ≤ 900000) := by show _ ≤ _; omega
   have hk2s : k2.steps ≤ 900001 := by omega
   clear HQ HT hT hT2 hrl hS HS s1 s2 s3 s6 s7
   by_cases h0 : en = 0
   ·subst h0
    rw [if_neg (by simp)] at hQ
    cases bb with
    | true =>
     rw [if_pos rfl] at hQ
     have hkk := s8 rfl rfl
     subst hkk
     have HQn : Hid (rdSegs m (i + 1) l2 k2 = (eR, lR, kR)) := hQ
     clear hQ s4 s5 s8
     go_wp2_with (first
      | (go_at_call 135; refine (hrs.mono (fun e w' h => And.intro (h.1.elim (fun k => k.2) (fun k => absurd rfl k.1)) h.2 : ∀ e w', _ → (e = .returned (.bool true) ∧ _))).mono ?_; rintro e w6 ⟨rfl, F2, H2, hL2, hk2, hF2, hH2⟩))
     have hsw := HK.out.size
     refine ⟨⟨i + 1, F2, H2, l2, by go_num, by omega, hL2, HK.out.andThen hk2 (fun q hq hs => ?_), fun q hq => (hF2 q hq).elim (HF.out q) (fun h9 => Or.inr (Nat.le_trans hsw h9)), fun q hq => (hH2 q hq).elim (HH.out q) (fun h9 => Or.inr (Nat.le_trans hsw h9)), Hall.out, ?_, ?_⟩, by simp [intOf]; omega⟩
     ·rcases hs with hs | hs | hs
      ·rcases HF.out q hs with h9 | h9
       ·exact Or.inl h9
       ·omega
      ·rcases HH.out q hs with h9 | h9
       ·exact Or.inr (Or.inl h9)
       ·omega
      ·exact Or.inr (Or.inr hs)
     ·show _ + segTot l.ch.g k2 (N - (i + 1)) (i + 1) ≤ 900000
      rw [Hm.out]; exact HT2.out
     ·show rdSegs (N - (i + 1)) (i + 1) l2 k2 = _
      rw [Hm.out]; exact HQn.out
    | false =>
     rw [if_neg (by simp)] at hQ
     have HQn : Hid (rdSegs.rdEnd i l2 k2 = (eR, lR, kR)) := hQ
     clear hQ s8
     have hAl := Hall.out
     have hpu := fun F9 w9 v9 (h9 : LD w9 F9 lb d l2.most v9 l2.ch l2.dn k2) hP9 => remSegs_any w9 F9 lb d l2.most v9 l2.ch l2.dn k2 l2.ch (i + 1) h9 hP9 (by rw [hAl.1]; exact hg) (by rw [hAl.2.1]; omega) (by rw [hAl.2.1]; omega)
     unfold rdSegs.rdEnd at HQn
     obtain ⟨P, HP9⟩ : ∃ P, Hid (remAll (segs l2.ch.g (i + 1) (l2.ch.cnt - (i + 1))) l2.dn k2 = P) := ⟨_, rfl⟩
     simp only [HP9.out] at hpu
     have hQ9 := HQn.out
     rw [HP9.out] at hQ9
     obtain ⟨e9, dn9, k9⟩ := P
     dsimp only at hpu hQ9
     simp only [Prod.mk.injEq] at hQ9
     have HG : Hid (e9 = eR ∧ (⟨l2.most, l2.recs, (if e9 = 0 then { l2.ch with cnt := i + 1 } else l2.ch), dn9⟩ : Lg) = lR ∧ k9 = kR) := hQ9
     clear hQ9
     have hi2 : ((i + 1 + 1 : Nat) : Int) = (i : Int) + 2 := by omega
     have hch : chs l2.ch = #[.int .u64 (l2.ch.g : Int), .int .i64 (l2.ch.cnt : Int), .int .i64 (l2.ch.size : Int), .bool l2.ch.loose] := rfl
     rw [hi2, hch] at hpu
     clear HQn hAl
     go_upto_region 4 with (first
      | (go_at_call 135; refine (hrs.mono (fun e w' h => And.intro (h.1.elim (fun k => k.2) (fun k => absurd rfl k.1)) h.2 : ∀ e w', _ → (e = .returned (.bool false) ∧ _))).mono ?_; rintro e w6 ⟨rfl, F2, H2, hL2, hk2, hF2, hH2⟩))
     obtain ⟨v6, hLD6, hRc6⟩ := hL2.ex
     have y3 := hLD6.c3
     have y4 := hLD6.c4
     have y5 := hLD6.c5
     have y6 := hLD6.c6
     have hrem := hpu F2 w6 v6 hLD6 hL2.pf
     have hdone : ∀ w7, Lp w6 F2 lb d l2.most v6 l2.ch dn9 k9 w7 → Lgp w F H lb d ⟨l2.most, l2.recs, l2.ch, dn9⟩ k9 w7 := fun w7 hp =>
      Lgp.next HK.out HF.out HH.out (Lgp.next hk2 hF2 hH2 (LogAt.stepd hL2 hRc6 hp))
     by_cases h0 : e9 = 0
     ·subst h0
      obtain ⟨g1, g2, g3⟩ := HG.out
      rw [if_pos rfl] at g2
      subst eR lR kR
      clear HG
      go_upto_region 5 with (first
       | (go_at_call 112; refine (hrem.mono (fun e w' h => And.intro (h.1.elim (fun k => k.2) (fun k => absurd rfl k.1)) h.2 : ∀ e w', _ → (e = .returned (.tuple #[]) ∧ _))).mono ?_; rintro e w7 ⟨rfl, hp⟩))
      obtain ⟨F7, H7, hA7, hk7, hF7, hH7⟩ := hdone w7 hp
      obtain ⟨v7, hL7, hR7⟩ := hA7.ex
      dsimp only at hL7 hR7
      have x4 := hL7.c4
      have z4 := hL7.fz 4
      have hkS : Keep (fun i => i = lb) w7 (w7.setCell ⟨lb, 4, none⟩ (.int .i64 ((i : Int) + 1))) := (Keep.refl (fun i => i = lb) w7).setCell (p := ⟨lb, 4, none⟩) rfl _
      have hL8 : LD (w7.setCell ⟨lb, 4, none⟩ (.int .i64 ((i : Int) + 1))) F7 lb d l2.most v7 { l2.ch with cnt := i + 1 } dn9 k9 := hL7.set 4 _ rfl
      have hR8 := hR7.keep (H' := H7) hkS (fun j hj e => hA7.hl (by rw [← e]; exact hj)) (fun _ h => h)
      go_wp2
      refine bodyPost_ret (results_none Tryz.results100 _ _ _) rfl ?_
      exact ⟨Or.inl ⟨rfl, rfl⟩, F7, H7, ⟨⟨v7, hL8, hR8⟩, hA7.hf, hA7.hl, fun j hj => Nat.lt_of_lt_of_le (hA7.lt j hj) hkS.size, ⟨hA7.pf.pw.keep hkS (by have := hA7.pf.ll; omega), hA7.pf.fl, hA7.pf.ll⟩, hA7.ph⟩, hk7.trans (hkS.mono (fun j e => Or.inr (Or.inr e))), hF7, hH7⟩
     ·obtain ⟨g1, g2, g3⟩ := HG.out
      rw [if_neg h0] at g2
      subst eR lR kR
      clear HG
      go_wp2_with (first
       | (go_at_call 112; refine (hrem.mono (fun e w' h => And.intro (h.1.elim (fun k => absurd k.1 h0) (fun k => k.2)) h.2 : ∀ e w', _ → (e = .panicked (gaveS e9) ∧ _))).mono ?_; rintro e w7 ⟨rfl, hp⟩))
      exact ⟨rfl, gs_no h0 rfl, hdone w7 hp⟩
   ·rw [if_pos h0] at hQ
    simp only [Prod.mk.injEq] at hQ
    obtain ⟨e1, e2, e3⟩ := hQ
    subst eR lR kR
    go_wp2_with (first
     | (go_at_call 135; refine (hrs.mono (fun e w' h => And.intro (h.1.elim (fun k => absurd k.1 h0) (fun k => k.2)) h.2 : ∀ e w', _ → (e = .panicked (gaveS en) ∧ _))).mono ?_; rintro e w6 ⟨rfl, hp⟩))
    exact ⟨rfl, gs_no h0 rfl, Lgp.next HK.out HF.out HH.out hp⟩
  ·obtain rfl : i = N := by omega
   have hz1 : ¬ (i : Int) < (i : Int) := by omega
   have hQ := HQ.out
   rw [Nat.sub_self] at hQ
   have hQ2 : (0, l1, k) = (eR, lR, kR) := hQ
   simp only [Prod.mk.injEq] at hQ2
   obtain ⟨e1, e2, e3⟩ := hQ2
   subst eR lR kR
   clear hQ HQ
   go_wp2
   go_end0
   exact ⟨Or.inl ⟨rfl, rfl⟩, F1, H1, HL.out, HK.out, HF.out, HH.out⟩
end Go.Proofs.YtikkieaokfailaaGreatDoor
namespace Go.Proofs.YtikkieaokfailaaGreatDoor
open Go.RowKit Go.Joins
theorem cntF_le (ns : List Nm) (g : Nat) : ∀ f i, cntF ns g f i ≤ i + f
 | 0, i => Nat.le_refl _
 | f + 1, i => by
  unfold cntF
  split
  ·have := cntF_le ns g f (i + 1); omega
  ·omega
theorem cntN_le (ns : List Nm) (g : Nat) : cntN ns g ≤ ns.length := by have := cntF_le ns g ns.length 0; unfold cntN; omega
theorem list_len (k : Dk) : (listK k).2.length ≤ k.fs.length := by
 unfold listK
 split
 ·exact Nat.zero_le _
 ·rw [List.length_map]; exact Nat.le_refl _
theorem used_drop_le (l : Fls) (s : Nm) : used (dropL l s) ≤ used l := by
 induction l with
 | nil => exact Nat.le_refl _
 | cons p r ih =>
  obtain ⟨n, f⟩ := p
  unfold dropL
  split
  ·simp only [used]; omega
  ·simp only [used]; omega
theorem remove_used (k : Dk) (s : Nm) : used (removeK k s).2.fs ≤ used k.fs := by
 unfold removeK stepK
 have h2 := pass_fs k
 split
 ·exact Nat.le_refl _
 ·split
  ·exact Nat.le_refl _
  ·split
   ·exact Nat.le_refl _
   ·split
    ·exact Nat.le_refl _
    ·split
     ·rw [h2]; exact Nat.le_refl _
     ·show used (dropL _ _) ≤ _
      rw [h2]
      exact used_drop_le _ _
theorem remAll_used : ∀ (l : List Nm) (dn : Bool) (k : Dk), used (remAll l dn k).2.2.fs ≤ used k.fs
 | [], _, _ => Nat.le_refl _
 | s :: r, dn, k => by
  have h1 : used (stp dn k (removeK k s)).2.2.fs ≤ used k.fs := by
   unfold stp
   cases dn
   ·exact remove_used k s
   ·exact Nat.le_refl _
  unfold remAll
  split
  ·exact h1
  ·exact Nat.le_trans (remAll_used r _ _) h1
theorem sum_used : ∀ (L : List Nm) (l : Fls), Rise l → L.Nodup → (L.map fun s => lenO (look l s)).sum ≤ used l
 | [], _, _, _ => Nat.zero_le _
 | s :: r, l, hr, hn => by
  have hn' := List.pairwise_cons.1 hn
  have h1 := used_drop l hr s
  have h2 := sum_used r (dropL l s) (rise_drop hr s) hn'.2
  have h3 : (r.map fun t => lenO (look l t)) = r.map fun t => lenO (look (dropL l s) t) := by
   apply List.map_congr_left
   intro t ht
   rw [look_drop, if_neg (fun e => hn'.1 t ht e.symm)]
  simp only [List.map_cons, List.sum_cons]
  rw [h3]
  omega
theorem read_lenO (k : Dk) (s : Nm) : (readK k s).2.length ≤ lenO (look k.fs s) := by
 rcases readK_cases' k s with ⟨f, hl, e⟩ | e
 ·rw [e, hl]; exact Nat.le_refl _
 ·rw [e]; exact Nat.zero_le _
theorem segTot_sum (g : Nat) (k : Dk) : ∀ m i, segTot g k m i ≤ ((segs g i m).map fun s => lenO (look k.fs s)).sum
 | 0, _ => Nat.zero_le _
 | m + 1, i => by
  rw [segs_cons]
  simp only [List.map_cons, List.sum_cons]
  have h1 := read_lenO k (segN g (i + 1))
  have h2 := segTot_sum g k m (i + 1)
  show (readK k (segN g (i + 1))).2.length + segTot g k m (i + 1) ≤ _
  omega
theorem segTot_used (g : Nat) (k : Dk) (hr : Rise k.fs) (m i : Nat) : segTot g k m i ≤ used k.fs := Nat.le_trans (segTot_sum g k m i) (sum_used _ _ hr (segs_nodup g i m))
theorem rd_gr : ∀ (m i : Nat) (l : Lg) (k : Dk), (rdSegs m i l k).2.1.ch.g = l.ch.g ∧ (rdSegs m i l k).2.1.most = l.most ∧ (rdSegs m i l k).2.1.ch.cnt ≤ max l.ch.cnt (i + m) ∧ (rdSegs m i l k).2.2.steps ≤ k.steps + m + l.ch.cnt ∧ (rdSegs m i l k).2.2.fs.length ≤ k.fs.length + m
 | 0, i, l, k => ⟨rfl, rfl, Nat.le_max_left _ _, Nat.le_add_right _ _, Nat.le_refl _⟩
 | m + 1, i, l, k => by
  obtain ⟨s1, s2, s3, s4, s5, _⟩ := readSeg_same l (i + 1) k
  unfold rdSegs
  split
  ·exact ⟨s2, s1, by rw [s3]; exact Nat.le_max_left _ _, by dsimp only; omega, by dsimp only; omega⟩
  ·split
   ·obtain ⟨h1, h2, h3, h4, h5⟩ := rd_gr m (i + 1) (readSegL l (i + 1) k).2.2.1 (readSegL l (i + 1) k).2.2.2
    rw [s2] at h1
    rw [s1] at h2
    rw [s3] at h3 h4
    exact ⟨h1, h2, by omega, by omega, by omega⟩
   ·unfold rdSegs.rdEnd
    obtain ⟨h1, h2⟩ := remAll_gr (segs (readSegL l (i + 1) k).2.2.1.ch.g (i + 1) ((readSegL l (i + 1) k).2.2.1.ch.cnt - (i + 1))) (readSegL l (i + 1) k).2.2.1.dn (readSegL l (i + 1) k).2.2.2
    rw [segs_len] at h1
    refine ⟨?_, s1, ?_, ?_, ?_⟩
    ·dsimp only; split <;> exact s2
    ·dsimp only; split
     ·dsimp only; omega
     ·rw [s3]; exact Nat.le_max_left _ _
    ·dsimp only; omega
    ·dsimp only; omega
def ch0 : Ch := ⟨0, 0, 0, false⟩
def lg0 (most : Nat) : Lg := ⟨most, [], ch0, false⟩
def openR (most : Nat) (b : Nat × Nat) (k : Dk) : Nat × Lg × Dk :=
 if b.1 ≠ 0 then (b.1, lg0 most, k) else openC most (cleanL ⟨b.2, 0, 0, false⟩ false k)
 where
 openC (most : Nat) (q : Nat × Ch × Bool × Dk) : Nat × Lg × Dk :=
  if q.1 ≠ 0 then (q.1, ⟨most, [], q.2.1, q.2.2.1⟩, q.2.2.2) else openD (rdSegs q.2.1.cnt 0 ⟨most, [], q.2.1, q.2.2.1⟩ q.2.2.2)
 openD (r : Nat × Lg × Dk) : Nat × Lg × Dk :=
  if r.1 ≠ 0 then r else commitL ⟨r.2.1.most, r.2.1.recs, { r.2.1.ch with loose := decide (0 < r.2.1.ch.cnt) }, r.2.1.dn⟩ r.2.2
def openL (most : Nat) (k : Dk) : Nat × Lg × Dk := openR most (baseR (readK k sBase)) k
theorem baseR_lt (r : Nat × List Int) (hb : Bd r.2) : (baseR r).2 < 18446744073709551616 := by
 have h0 : (0 : Nat) < 18446744073709551616 := by decide
 have h1 : (1 : Nat) < 18446744073709551616 := by decide
 unfold baseR
 split
 ·exact h1
 ·split
  ·exact h0
  ·split
   ·exact h0
   ·split
    ·exact numL_lt8 (hb.take 8) (by rw [List.length_take]; omega)
    ·exact h0
theorem LogAt.stepc {w w' : World} {F H : Nat → Prop} {lb d : Nat} {l : Lg} {k k' : Dk} {v : Value} {c' : Ch} {dn' : Bool} (h : LogAt w F H lb d l k) (hRc : RcA w H v l.recs) (hp : Lp w F lb d l.most v c' dn' k' w') : Lgp w F H lb d ⟨l.most, l.recs, c', dn'⟩ k' w' := by
 obtain ⟨F', h1, h2, h3⟩ := hp
 refine ⟨F', H, ⟨⟨v, h1, hRc.keep h2 (fun i hi hs => hs.elim (h.hf i hi) (fun e => h.hl (by rw [← e]; exact hi))) (fun _ h => h)⟩, fun i hi hf => ?_, h.hl, fun i hi => Nat.lt_of_lt_of_le (h.lt i hi) h2.size, h.pf.next h2 h3, h.ph⟩, h2.mono (fun i hi => hi.elim Or.inl (fun h => Or.inr (Or.inr h))), h3, fun i hi => Or.inl hi⟩
 rcases h3 i hf with h4 | h4
 ·exact h.hf i hi h4
 ·have := h.lt i hi; omega
theorem Lcp.own {w w' : World} {F : Nat → Prop} {lb d most : Nat} {v : Value} {dn : Bool} {k : Dk} {off : Nat} {c0 c : Ch} (hp : Lcp w F lb d most v dn k lb off c0 c w') : Lp w F lb d most v c dn k w' := by
 obtain ⟨F', h1, h2, h3⟩ := hp
 have hL := h1.L
 rw [if_pos rfl] at hL
 exact ⟨F', hL, h2.mono (fun i hi => hi.elim Or.inl (fun h => Or.inr (h.elim id id))), h3⟩
theorem LogAt.put {w : World} {F H : Nat → Prop} {lb d : Nat} {l : Lg} {k : Dk} {v : Value} (h : LogAt w F H lb d l k) (hLD : LD w F lb d l.most v l.ch l.dn k) (hRc : RcA w H v l.recs) (j : Nat) (u : Value) {c' : Ch} (e : (lcs d l.most v l.ch l.dn).setIfInBounds j u = lcs d l.most v c' l.dn) : LogAt (w.setCell ⟨lb, j, none⟩ u) F H lb d ⟨l.most, l.recs, c', l.dn⟩ k ∧ LD (w.setCell ⟨lb, j, none⟩ u) F lb d l.most v c' l.dn k ∧ RcA (w.setCell ⟨lb, j, none⟩ u) H v l.recs ∧ Keep (fun i => F i ∨ H i ∨ i = lb) w (w.setCell ⟨lb, j, none⟩ u) := by
 have hkS : Keep (fun i => i = lb) w (w.setCell ⟨lb, j, none⟩ u) := (Keep.refl (fun i => i = lb) w).setCell (p := ⟨lb, j, none⟩) rfl _
 have h1 := hLD.set j u e
 have h2 := hRc.keep (H' := H) hkS (fun i hi e => h.hl (by rw [← e]; exact hi)) (fun _ h => h)
 exact ⟨⟨⟨v, h1, h2⟩, h.hf, h.hl, fun i hi => Nat.lt_of_lt_of_le (h.lt i hi) hkS.size, ⟨h.pf.pw.keep hkS (by have := h.pf.ll; omega), h.pf.fl, h.pf.ll⟩, h.ph⟩, h1, h2, hkS.mono (fun i e => Or.inr (Or.inr e))⟩
set_option maxHeartbeats 4000000 in
set_option maxRecDepth 100000 in
theorem open_any (w : World) (F : Nat → Prop) (lb d most : Nat) (k : Dk) (hmo : most ≤ 1000000000000) (h : LogAt w F (fun _ => False) lb d (lg0 most) k) (hfl : k.fs.length ≤ 2500) (hst : k.steps < 800000) (hu : used k.fs ≤ 900000) :
  Calls Tryz.prog 61 #[.pointer (some ⟨lb, 0, none⟩)] w fun e w' => Gs (openL most k).1 e ∧ Lgp w F (fun _ => False) lb d (openL most k).2.1 (openL most k).2.2 w' := by
 obtain ⟨v, hLD, hRc⟩ := h.ex
 have hba := base_any w F lb d most v ch0 false k hLD
 have hbd : Bd (readK k sBase).2 := by
  rcases readK_cases' k sBase with ⟨f, hl, e⟩ | e
  ·rw [e]; dsimp only; exact (look_good hLD.D.good hl).2.2
  ·rw [e]; exact Bd.nil
 have hblt := baseR_lt _ hbd
 unfold openL
 obtain ⟨B, HB⟩ : ∃ B, Hid (baseR (readK k sBase) = B) := ⟨_, rfl⟩
 rw [HB.out] at hba hblt ⊢
 obtain ⟨eb, g⟩ := B
 dsimp only at hblt
 obtain ⟨R, HR⟩ : ∃ R, Hid (openR most (eb, g) k = R) := ⟨_, rfl⟩
 rw [HR.out]
 obtain ⟨eR, lR, kR⟩ := R
 dsimp only
 by_cases h0 : eb = 0
 ·subst h0
  have hba' := hba.mono (fun e w' h => And.intro (h.1.elim (fun k => k.2) (fun k => absurd rfl k.1)) h.2 : ∀ e w', _ → (e = .returned (.int .u64 (g : Int)) ∧ _))
  clear hba
  have HR2 : Hid (openR.openC most (cleanL ⟨g, 0, 0, false⟩ false k) = (eR, lR, kR)) := by
   have h9 := HR.out
   unfold openR at h9
   rw [if_neg (by simp)] at h9
   exact h9
  clear HR
  have hcl := fun w' F' (h' : LD w' F' lb d most v ⟨g, 0, 0, false⟩ false k) hP' => clean_any w' F' lb d most v ⟨g, 0, 0, false⟩ false k h' hP' hblt hfl (by omega)
  have hccl : (cleanL ⟨g, 0, 0, false⟩ false k).2.1.g = g ∧ (cleanL ⟨g, 0, 0, false⟩ false k).2.1.cnt ≤ 2500 ∧ (cleanL ⟨g, 0, 0, false⟩ false k).2.1.size = 0 ∧ (cleanL ⟨g, 0, 0, false⟩ false k).2.2.2.steps ≤ k.steps + 2500 ∧ (cleanL ⟨g, 0, 0, false⟩ false k).2.2.2.fs.length ≤ k.fs.length ∧ used (cleanL ⟨g, 0, 0, false⟩ false k).2.2.2.fs ≤ used k.fs := by
   unfold cleanL
   split
   ·exact ⟨rfl, Nat.zero_le _, rfl, Nat.le_add_right _ _, Nat.le_refl _, Nat.le_refl _⟩
   ·dsimp only
    have h1 := cntN_le (listK k).2 g
    have h2 := list_len k
    obtain ⟨h3, h4⟩ := remAll_gr ((listK k).2.filter (left g (cntN (listK k).2 g))) false k
    have h5 := List.length_filter_le (left g (cntN (listK k).2 g)) (listK k).2
    exact ⟨rfl, by omega, rfl, by omega, h4, remAll_used _ _ _⟩
  obtain ⟨Q, HQ⟩ : ∃ Q, Hid (cleanL ⟨g, 0, 0, false⟩ false k = Q) := ⟨_, rfl⟩
  simp only [HQ.out] at hcl
  rw [HQ.out] at hccl HR2
  obtain ⟨eq, cq, dnq, kq⟩ := Q
  dsimp only at hcl hccl
  obtain ⟨c1, c2, c3, c4, c5, c6⟩ := hccl
  have q3 : w.cell? ⟨lb, 3, none⟩ = some (.int .u64 0) := hLD.c3
  have z3 := hLD.fz 3
  go_enter Tryz.func61, Tryz.ntmps61
  go_upto_region 1 with (first
   | (go_at_call 98; refine hba'.mono ?_; rintro e w1 ⟨rfl, hb1⟩; have q31 := (hLD.below hb1).c3; have z31 := (hLD.below hb1).fz 3))
  obtain ⟨hA2, hL2, hR2, hk2⟩ := (h.below hb1).put (hLD.below hb1) (hRc.keep (S := fun _ => False) (H' := fun _ => False) (Keep.ofBelow hb1) (fun _ _ h => h) (fun _ h => h)) 3 (.int .u64 (g : Int)) (c' := ⟨g, 0, 0, false⟩) rfl
  have kp2 := (Keep.ofBelow (S := fun i => F i ∨ False ∨ i = lb) hb1).trans hk2
  have hcl2 := hcl _ F hL2 hA2.pf
  clear q3 z3 q31 z31 hcl hLD hRc hba'
  generalize w1.setCell ⟨lb, 3, none⟩ (.int .u64 (g : Int)) = w2 at *
  by_cases hq0 : eq = 0
  ·subst hq0
   have HR3 : Hid (openR.openD (rdSegs cq.cnt 0 ⟨most, [], cq, dnq⟩ kq) = (eR, lR, kR)) := by
    have h9 := HR2.out
    unfold openR.openC at h9
    rw [if_neg (by simp)] at h9
    exact h9
   clear HR2
   go_upto_region 2 with (first
    | (go_at_call 99; refine (hcl2.mono (fun e w' h => And.intro (h.1.elim (fun k => k.2) (fun k => absurd rfl k.1)) h.2 : ∀ e w', _ → (e = .returned (.tuple #[]) ∧ _))).mono ?_; rintro e w3 ⟨rfl, hp3⟩))
   obtain ⟨F3, H3, hA3, hk3, hF3, hH3⟩ := hA2.stepc hR2 hp3
   obtain ⟨v3, hL3, hR3⟩ := hA3.ex
   have hgood := hL3.D.good
   have hto : (⟨most, [], cq, dnq⟩ : Lg).recs.length + segTot cq.g kq cq.cnt 0 ≤ 900000 := by
    have := segTot_used cq.g kq hgood.rise cq.cnt 0
    show 0 + _ ≤ _
    omega
   have hrs := readSegs_any w3 F3 H3 lb d ⟨most, [], cq, dnq⟩ kq hA3 ⟨by show cq.g < _; rw [c1]; exact hblt, by show cq.cnt ≤ _; omega, by show cq.size ≤ _; omega, hmo, Nat.zero_le _⟩ c2 (by dsimp only; omega) (by omega) (by omega) hto
   have hgr := rd_gr cq.cnt 0 ⟨most, [], cq, dnq⟩ kq
   have kp3 : Keep (fun i => F i ∨ False ∨ i = lb) w w3 := kp2.trans hk3
   have hsw2 := kp2.size
   have hF30 : ∀ i, F3 i → F i ∨ w.heap.size ≤ i := fun i hi => (hF3 i hi).imp id (fun h9 => Nat.le_trans hsw2 h9)
   have hH30 : ∀ i, H3 i → False ∨ w.heap.size ≤ i := fun i hi => (hH3 i hi).imp id (fun h9 => Nat.le_trans hsw2 h9)
   dsimp only at hrs hgr
   obtain ⟨P, HP⟩ : ∃ P, Hid (rdSegs cq.cnt 0 ⟨most, [], cq, dnq⟩ kq = P) := ⟨_, rfl⟩
   rw [HP.out] at hrs hgr HR3
   obtain ⟨er, lr, kr⟩ := P
   dsimp only at hrs hgr
   obtain ⟨g1, g2, g3, g4, g5⟩ := hgr
   clear hcl2 hA2 hL2 hR2 hk2 kp2 hp3 hk3 hF3 hH3 hto hgood hL3 hR3 hA3
   by_cases hr0 : er = 0
   ·subst hr0
    have HR4 : Hid (commitL ⟨lr.most, lr.recs, { lr.ch with loose := decide (0 < lr.ch.cnt) }, lr.dn⟩ kr = (eR, lR, kR)) := by
     have h9 := HR3.out
     unfold openR.openD at h9
     rw [if_neg (by simp)] at h9
     exact h9
    clear HR3
    go_upto_region 3 with (first
     | (go_at_call 100; refine (hrs.mono (fun e w' h => And.intro (h.1.elim (fun k => k.2) (fun k => absurd rfl k.1)) h.2 : ∀ e w', _ → (e = .returned (.tuple #[]) ∧ _))).mono ?_; rintro e w4 ⟨rfl, F4, H4, hA4, hk4, hF4, hH4⟩))
    obtain ⟨v4, hL4, hR4⟩ := hA4.ex
    have p4 := hL4.c4
    have p6 := hL4.c6
    have z6 := hL4.fz 6
    obtain ⟨bo, Hbo⟩ : ∃ bo, Hid (decide (0 < lr.ch.cnt) = bo) := ⟨_, rfl⟩
    have hbo : decide ((0 : Int) < (lr.ch.cnt : Int)) = bo := by
     rw [← Hbo.out]
     by_cases h9 : 0 < lr.ch.cnt
     ·rw [decide_eq_true h9]; exact decide_eq_true (by omega)
     ·rw [decide_eq_false h9]; exact decide_eq_false (by omega)
    have hbo2 := Hbo.out
    obtain ⟨hA5, hL5, hR5, hk5⟩ := hA4.put hL4 hR4 6 (.bool bo) (c' := { lr.ch with loose := bo }) rfl
    have hse := settle_any (w4.setCell ⟨lb, 6, none⟩ (.bool bo)) F4 lb d lr.most v4 lr.dn kr lb 3 { lr.ch with loose := bo } { lr.ch with loose := bo } ⟨by rw [if_pos rfl]; exact hL5, fun _ => rfl, fun e => absurd rfl e⟩ hA5.pf (by show lr.ch.g < _; rw [g1, c1]; exact hblt) (by show lr.ch.cnt ≤ _; omega) (by omega) (by omega)
    have h9 := HR4.out
    unfold commitL at h9
    rw [Hbo.out] at h9
    dsimp only at h9
    obtain ⟨T, HT⟩ : ∃ T, Hid (settleL { lr.ch with loose := bo } lr.dn kr = T) := ⟨_, rfl⟩
    rw [HT.out] at hse h9
    obtain ⟨es, cs, dns, ks⟩ := T
    dsimp only at hse h9
    simp only [Prod.mk.injEq] at h9
    obtain ⟨e1, e2, e3⟩ := h9
    subst eR lR kR
    clear HR4
    have hdone : ∀ w7, Lcp (w4.setCell ⟨lb, 6, none⟩ (.bool bo)) F4 lb d lr.most v4 dns ks lb 3 { lr.ch with loose := bo } cs w7 → Lgp w F (fun _ => False) lb d ⟨lr.most, lr.recs, cs, dns⟩ ks w7 := fun w7 hp =>
     Lgp.next kp3 hF30 hH30 (Lgp.next hk4 hF4 hH4 (Lgp.next hk5 (fun i hi => Or.inl hi) (fun i hi => Or.inl hi) (hA5.stepc hR5 hp.own)))
    by_cases hs0 : es = 0
    ·subst hs0
     go_wp2_with (first
      | (go_at_call 68; refine (hse.mono (fun e w' h => And.intro (h.1.elim (fun k => k.2) (fun k => absurd rfl k.1)) h.2 : ∀ e w', _ → (e = .returned (.tuple #[]) ∧ _))).mono ?_; rintro e w6 ⟨rfl, hp6⟩))
     go_end0
     exact ⟨Or.inl ⟨rfl, rfl⟩, hdone w6 hp6⟩
    ·go_wp2_with (first
      | (go_at_call 68; refine (hse.mono (fun e w' h => And.intro (h.1.elim (fun k => absurd k.1 hs0) (fun k => k.2)) h.2 : ∀ e w', _ → (e = .panicked (gaveS es) ∧ _))).mono ?_; rintro e w6 ⟨rfl, hp6⟩))
     exact ⟨rfl, gs_no hs0 rfl, hdone w6 hp6⟩
   ·have h9 := HR3.out
    unfold openR.openD at h9
    rw [if_pos hr0] at h9
    simp only [Prod.mk.injEq] at h9
    obtain ⟨e1, e2, e3⟩ := h9
    subst eR lR kR
    clear HR3
    go_wp2_with (first
     | (go_at_call 100; refine (hrs.mono (fun e w' h => And.intro (h.1.elim (fun k => absurd k.1 hr0) (fun k => k.2)) h.2 : ∀ e w', _ → (e = .panicked (gaveS er) ∧ _))).mono ?_; rintro e w4 ⟨rfl, hp4⟩))
    exact ⟨rfl, gs_no hr0 rfl, Lgp.next kp3 hF30 hH30 hp4⟩
  ·have h9 := HR2.out
   unfold openR.openC at h9
   rw [if_pos hq0] at h9
   simp only [Prod.mk.injEq] at h9
   obtain ⟨e1, e2, e3⟩ := h9
   subst eR lR kR
   clear HR2
   go_wp2_with (first
    | (go_at_call 99; refine (hcl2.mono (fun e w' h => And.intro (h.1.elim (fun k => absurd k.1 hq0) (fun k => k.2)) h.2 : ∀ e w', _ → (e = .panicked (gaveS eq) ∧ _))).mono ?_; rintro e w3 ⟨rfl, hp3⟩))
   exact ⟨rfl, gs_no hq0 rfl, Lgp.next kp2 (fun i hi => Or.inl hi) (fun i hi => Or.inl hi) (hA2.stepc hR2 hp3)⟩
 ·have hba' := hba.mono (fun e w' h => And.intro (h.1.elim (fun k => absurd k.1 h0) (fun k => k.2)) h.2 : ∀ e w', _ → (e = .panicked (gaveS eb) ∧ _))
  clear hba
  have h9 := HR.out
  unfold openR at h9
  rw [if_pos h0] at h9
  simp only [Prod.mk.injEq] at h9
  obtain ⟨e1, e2, e3⟩ := h9
  subst eR lR kR
  clear HR
  go_enter Tryz.func61, Tryz.ntmps61
  go_wp2_with (go_at_call 98; refine hba'.mono ?_; rintro e w1 ⟨rfl, hb1⟩)
  exact ⟨rfl, gs_no h0 rfl, Lgp.from hb1 (Lgp.refl (h.below hb1))⟩
end Go.Proofs.YtikkieaokfailaaGreatDoor
namespace Go.Proofs.YtikkieaokfailaaGreatDoor
open Go.RowKit Go.Joins
theorem sopen_bad (d most : Int) (p : Value) (hp : p = .pointer (some ⟨d.toNat, 0, none⟩)) (h : most < 16 ∨ 1048576 < most) (w : World) : Calls Tryz.prog 20 #[p, .int .i64 most] w fun e w' => e = .returned (.tuple #[.pointer none, .int .i64 1]) ∧ w' = w := by
 subst hp
 by_cases h1 : most < 16
 ·clear h
  go_enter Tryz.func20, Tryz.ntmps20
  go_wp2
  go_ret2
  exact ⟨rfl, rfl⟩
 ·have h2 : 1048576 < most := by omega
  clear h
  go_enter Tryz.func20, Tryz.ntmps20
  go_wp2
  go_ret2
  exact ⟨rfl, rfl⟩
structure Opened (w w' : World) (F : Nat → Prop) (d : Nat) (r : Nat × Lg × Dk) (e : Ending) : Prop where
 no : r.1 ≠ 0 → e = .returned (.tuple #[.pointer none, .int .i64 (r.1 : Int)]) ∧ Dp w F d r.2.2 w'
 yes : r.1 = 0 → ∃ lb, e = .returned (.tuple #[.pointer (some ⟨lb, 0, none⟩), .int .i64 0]) ∧ w.heap.size ≤ lb ∧ ∃ F' H', LogAt w' F' H' lb d r.2.1 r.2.2 ∧ Keep F w w' ∧ (∀ i, F' i → F i ∨ w.heap.size ≤ i) ∧ (∀ i, H' i → w.heap.size ≤ i)
set_option maxHeartbeats 2000000 in
theorem sopen_any (w : World) (F : Nat → Prop) (d most : Nat) (k : Dk) (h1 : 16 ≤ most) (h2 : most ≤ 1048576) (hD : DiskAt w F d k) (hP : Pw w) (hFP : ∀ i, F i → 0 < i) (hfl : k.fs.length ≤ 2500) (hst : k.steps < 800000) (hu : used k.fs ≤ 900000) :
  Calls Tryz.prog 20 #[.pointer (some ⟨d, 0, none⟩), .int .i64 (most : Int)] w fun e w' => Opened w w' F d (openL most k) e := by
 have hmf : ∀ (fn : Fn) (first cap : Array Value) (w : World), (Instr.makeFunc fn first cap).run Tryz.prog w = .ok (.func fn first cap) w := fun _ _ _ _ => rfl
 have hlt := hD.lt
 have hpl := hP.at
 obtain ⟨W, hW⟩ : ∃ W, w.alloc (.cells (lcs d most (.slice none 0 0) ch0 false) 119) = W := ⟨_, rfl⟩
 have hB : Below w.heap.size w W := by rw [← hW]; exact (Below.refl _ _).alloc (Nat.le_refl _) _
 have q0 : W.heap[w.heap.size]? = some (.cells (lcs d most (.slice none 0 0) ch0 false) 119 (0, 0)) := by rw [← hW]; exact alloc_at w _
 have hLW : LogAt W F (fun _ => False) w.heap.size d (lg0 most) k := ⟨⟨_, ⟨q0, hD.below hB, fun hf => by have := hlt _ hf; omega⟩, rcA_nil W _⟩, fun i h => h.elim, fun h => h, fun i h => h.elim, ⟨hP.below hB, hFP, hpl⟩, fun i h => h.elim⟩
 have hop : Calls Tryz.prog 60 #[.func (.func 61) #[.pointer (some ⟨w.heap.size, 0, none⟩)] #[]] W fun e w' => e = .returned (.int .i64 (openL most k).1) ∧ Lgp W F (fun _ => False) w.heap.size d (openL most k).2.1 (openL most k).2.2 w' := by
  have hb0 : Below W.heap.size W (W.alloc (.cells #[.int .i64 0] 37)) := (Below.refl _ _).alloc (Nat.le_refl _) _
  have hbs := hB.size
  have hwW : w.heap.size < W.heap.size := (Array.getElem?_eq_some_iff.1 q0).1
  refine (attemptM 61 _ (openL most k).1 (fun w' => Lgp (W.alloc (.cells #[.int .i64 0] 37)) F (fun _ => False) w.heap.size d (openL most k).2.1 (openL most k).2.2 w') W (enters_of Tryz.func61 (by kernel_rfl) rfl) ((open_any _ F w.heap.size d most k (by omega) (hLW.below hb0) hfl hst hu).mono ?_)).mono ?_
  ·rintro e w' ⟨g1, g2⟩
   refine ⟨g1, g2, ?_⟩
   obtain ⟨F', H', _, hk, _⟩ := g2
   exact box_keep (alloc_at W _) hk (fun e => by
    rcases e with e | e | e
    ·have := hlt _ e; omega
    ·exact e
    ·omega)
  ·rintro e w' ⟨rfl, w1, g1, rfl⟩
   exact ⟨rfl, g1.err (fun i hi => by have := hlt i hi; omega) (fun i hi => hi.elim) hwW (by omega) _⟩
 obtain ⟨P, hPe⟩ : ∃ P, openL most k = P := ⟨_, rfl⟩
 rw [hPe] at hop ⊢
 clear hPe
 obtain ⟨en, l', k'⟩ := P
 dsimp only at hop
 have z1 : ¬ (most : Int) < 16 := by omega
 have z2 : ¬ (1048576 : Int) < (most : Int) := by omega
 have hbs := hB.size
 have hkeep : ∀ w1, Keep (fun i => F i ∨ False ∨ i = w.heap.size) W w1 → Keep F w w1 := fun w1 hk => (Keep.ofBelow hB).andThen hk (fun i hi hs => by
  rcases hs with hs | hs | hs
  ·exact hs
  ·exact hs.elim
  ·omega)
 have hWd : W = w.alloc (.cells #[.pointer (some ⟨d, 0, none⟩), .int .i64 (most : Int), .slice none 0 0, .int .u64 0, .int .i64 0, .int .i64 0, .bool false, .bool false] 119) := by rw [← hW]; rfl
 by_cases h0 : en = 0
 ·subst h0
  clear hLW q0 hW
  go_enter Tryz.func20, Tryz.ntmps20
  go_upto_region 4 with fail
  rw [← hWd]
  clear hWd
  go_wp2_with (first
   | (go_at_call 60; refine hop.mono ?_; rintro e w1 ⟨rfl, F1, H1, hA1, hk1, hF1, hH1⟩))
  go_ret2
  exact ⟨fun hne => absurd rfl hne, fun _ => ⟨w.heap.size, rfl, Nat.le_refl _, F1, H1, hA1, hkeep w1 hk1, fun i hi => (hF1 i hi).imp id (fun h9 => Nat.le_trans hbs h9), fun i hi => (hH1 i hi).elim (fun h9 => h9.elim) (fun h9 => Nat.le_trans hbs h9)⟩⟩
 ·have hne : ((en : Int) != 0) = true := by simp; exact h0
  have hne2 : ((en : Int) == 0) = false := by rw [beq_eq_false_iff_ne]; omega
  clear hLW q0 hW
  go_enter Tryz.func20, Tryz.ntmps20
  go_upto_region 4 with fail
  rw [← hWd]
  clear hWd
  go_wp2_with (first
   | (go_at_call 60; refine hop.mono ?_; rintro e w1 ⟨rfl, F1, H1, hA1, hk1, hF1, hH1⟩))
  go_ret2
  obtain ⟨v1, hL1, _⟩ := hA1.ex
  exact ⟨fun _ => ⟨rfl, F1, hL1.D, hkeep w1 hk1, fun i hi => (hF1 i hi).imp id (fun h9 => Nat.le_trans hbs h9)⟩, fun e => absurd e h0⟩
end Go.Proofs.YtikkieaokfailaaGreatDoor

namespace Go.Proofs.YtikkieaokfailaaGreatDoor
open Go.RowKit Go.Joins
theorem app_gr (k : Dk) (s : Nm) (xs : List Int) : (appK k s xs).2.steps ≤ k.steps + 1 ∧ (appK k s xs).2.fs.length ≤ k.fs.length + 1 := by
 unfold appK
 split
 ·exact ⟨Nat.le_succ _, Nat.le_succ _⟩
 ·split
  ·exact ⟨Nat.le_succ _, Nat.le_succ _⟩
  ·split
   ·exact ⟨Nat.le_succ _, Nat.le_succ _⟩
   ·unfold passK
    split
    ·exact ⟨Nat.le_refl _, len_put _ _ _⟩
    ·exact ⟨Nat.le_succ _, len_put _ _ _⟩
    ·exact ⟨Nat.le_refl _, len_put _ _ _⟩
theorem putS_gr (i sz : Nat) (c : Ch) (b : List Int) (dn : Bool) (k : Dk) : (putS i sz c b dn k).2.2.2.steps ≤ k.steps + 1 ∧ (putS i sz c b dn k).2.2.2.fs.length ≤ k.fs.length + 1 ∧ (putS i sz c b dn k).2.1.g = c.g ∧ (putS i sz c b dn k).2.1.cnt ≤ max c.cnt i ∧ (putS i sz c b dn k).2.1.size ≤ max c.size (sz + b.length) := by
 have h1 := stp_gr dn k (appK k (segN c.g i) b) (app_gr k _ _).1
 have h2 := stp_fl dn k (appK k (segN c.g i) b) (app_gr k _ _).2
 unfold putS
 dsimp only
 refine ⟨h1, h2, ?_, ?_, ?_⟩
 ·split <;> rfl
 ·split
  ·exact Nat.le_max_right _ _
  ·exact Nat.le_max_left _ _
 ·split
  ·exact Nat.le_max_right _ _
  ·exact Nat.le_max_left _ _
theorem settle_sz (c : Ch) (dn : Bool) (k : Dk) : (settleL c dn k).2.1.size = c.size := by
 unfold settleL
 split
 ·dsimp only
  split <;> rfl
 ·rfl
theorem lay_gr (most : Nat) (c : Ch) (b : List Int) (dn : Bool) (k : Dk) : (layL most c b dn k).2.2.2.steps ≤ k.steps + 2 ∧ (layL most c b dn k).2.2.2.fs.length ≤ k.fs.length + 2 ∧ (layL most c b dn k).2.1.g = c.g ∧ (layL most c b dn k).2.1.cnt ≤ max c.cnt 1 + 1 ∧ (layL most c b dn k).2.1.size ≤ c.size + b.length := by
 unfold layL
 obtain ⟨s1, s2, s3, s4⟩ := settle_gr c dn k
 have s5 := settle_sz c dn k
 split
 ·split
  ·exact ⟨by omega, by omega, s3, by omega, by omega⟩
  ·obtain ⟨p1, p2, p3, p4, p5⟩ := putS_gr (max c.cnt 1 + 1) 0 (settleL c dn k).2.1 b (settleL c dn k).2.2.1 (settleL c dn k).2.2.2
   exact ⟨by omega, by omega, p3.trans s3, by omega, by omega⟩
 ·obtain ⟨p1, p2, p3, p4, p5⟩ := putS_gr (max c.cnt 1) c.size c b dn k
  exact ⟨by omega, by omega, p3, by omega, by omega⟩
def layAllL (most : Nat) : List (List Int) → Ch → Bool → Dk → Nat × Ch × Bool × Dk
 | [], c, dn, k => settleL c dn k
 | r :: rs, c, dn, k => if (layL most c (formL r) dn k).1 ≠ 0 then layL most c (formL r) dn k else layAllL most rs (layL most c (formL r) dn k).2.1 (layL most c (formL r) dn k).2.2.1 (layL most c (formL r) dn k).2.2.2
theorem layAll_no {most : Nat} {r : List Int} {rs : List (List Int)} {c c' : Ch} {dn dn' : Bool} {k k' : Dk} {en : Nat} (h : layL most c (formL r) dn k = (en, c', dn', k')) (h0 : en ≠ 0) : layAllL most (r :: rs) c dn k = (en, c', dn', k') := by
 unfold layAllL
 rw [h, if_pos h0]
theorem layAll_ok {most : Nat} {r : List Int} {rs : List (List Int)} {c c' : Ch} {dn dn' : Bool} {k k' : Dk} (h : layL most c (formL r) dn k = (0, c', dn', k')) : layAllL most (r :: rs) c dn k = layAllL most rs c' dn' k' := by
 conv => lhs; unfold layAllL
 rw [h, if_neg (by simp)]
theorem layAll_gr (most : Nat) : ∀ (rs : List (List Int)) (c : Ch) (dn : Bool) (k : Dk), (layAllL most rs c dn k).2.2.2.steps ≤ k.steps + 2 * rs.length + 1 ∧ (layAllL most rs c dn k).2.2.2.fs.length ≤ k.fs.length + 2 * rs.length + 1 ∧ (layAllL most rs c dn k).2.1.g = c.g ∧ (layAllL most rs c dn k).2.1.cnt ≤ max c.cnt 1 + rs.length
 | [], c, dn, k => by
  obtain ⟨s1, s2, s3, s4⟩ := settle_gr c dn k
  exact ⟨s1, s2, s3, by show (settleL c dn k).2.1.cnt ≤ max c.cnt 1 + 0; omega⟩
 | r :: rs, c, dn, k => by
  obtain ⟨l1, l2, l3, l4, _⟩ := lay_gr most c (formL r) dn k
  unfold layAllL
  split
  ·exact ⟨by simp only [List.length_cons]; omega, by simp only [List.length_cons]; omega, l3, by simp only [List.length_cons]; omega⟩
  ·obtain ⟨i1, i2, i3, i4⟩ := layAll_gr most rs (layL most c (formL r) dn k).2.1 (layL most c (formL r) dn k).2.2.1 (layL most c (formL r) dn k).2.2.2
   exact ⟨by simp only [List.length_cons]; omega, by simp only [List.length_cons]; omega, i3.trans l3, by simp only [List.length_cons]; omega⟩
def RNot (w : World) (a : Option Addr) (n : Nat) (S : Nat → Prop) : Prop := (∀ ad, a = some ad → ¬ S ad.block) ∧ ∀ b off, a = some ⟨b, off, none⟩ → ∀ j, j < n → ∀ aj nj cj, w.cell? ⟨b, off + j, none⟩ = some (.slice aj nj cj) → ∀ ad, aj = some ad → ¬ S ad.block
theorem RRd.keepS {w w' : World} {a : Option Addr} {n : Nat} {xs : List (List Int)} {S : Nat → Prop} (h : RRd w a n xs) (hn : RNot w a n S) (hk : Keep S w w') : RRd w' a n xs := by
 refine ⟨h.len, h.most, fun h0 => ?_⟩
 obtain ⟨b, off, rfl, hc⟩ := h.flat h0
 refine ⟨b, off, rfl, fun j hj => ?_⟩
 obtain ⟨aj, nj, cj, c1, c2⟩ := hc j hj
 exact ⟨aj, nj, cj, hk.cell c1 (show ¬ S b from hn.1 ⟨b, off, none⟩ rfl), c2.keep hk (hn.2 b off rfl j hj aj nj cj c1)⟩
theorem RNot.keep {w w' : World} {a : Option Addr} {n : Nat} {xs : List (List Int)} {S T : Nat → Prop} (h : RRd w a n xs) (hn : RNot w a n S) (hk : Keep T w w') (hT : RNot w a n T) : RNot w' a n S := by
 refine ⟨hn.1, fun b off e j hj aj nj cj hc => ?_⟩
 obtain ⟨b', off', e', hce⟩ := h.flat (by omega)
 rw [e] at e'
 injection e' with e'
 injection e' with e1 e2
 subst e1 e2
 obtain ⟨aj', nj', cj', c1, _⟩ := hce j hj
 have c1' := hk.cell c1 (show ¬ T b from hT.1 ⟨b, off, none⟩ e)
 rw [hc] at c1'
 injection c1' with c1'
 injection c1' with q1 q2 q3
 subst q1 q2 q3
 exact hn.2 b off e j hj _ _ _ c1
set_option maxHeartbeats 2000000 in
theorem layAll_any (w : World) (F : Nat → Prop) (lb d most : Nat) (v : Value) (dn : Bool) (k : Dk) (b : Nat) (c0 c : Ch) (h : LC w F lb d most v dn k b 0 c0 c) (hP : Pf w F lb) (hPb : 0 < b) (hg : c.g < 18446744073709551616) (hi : c.cnt ≤ 1000000000) (hz : c.size ≤ 1000000000) (hmo : most ≤ 1000000000)
  (a : Option Addr) (n cc : Nat) (rs : List (List Int)) (hR : RRd w a n rs) (hnS : RNot w a n (fun i => F i ∨ i = lb ∨ i = b)) (hn : n ≤ 10000) (hrl : ∀ r ∈ rs, r.length ≤ 1048576) (hst : k.steps + 2 * n < 999990) (hfl : k.fs.length + 2 * n < 999990) :
  Calls Tryz.prog 110 #[.pointer (some ⟨lb, 0, none⟩), .pointer (some ⟨b, 0, none⟩), .slice a n cc] w fun e w' => Gs (layAllL most rs c dn k).1 e ∧ Lcp w F lb d most v (layAllL most rs c dn k).2.2.1 (layAllL most rs c dn k).2.2.2 b 0 c0 (layAllL most rs c dn k).2.1 w' := by
 obtain ⟨R, HR⟩ : ∃ R, Hid (layAllL most rs c dn k = R) := ⟨_, rfl⟩
 rw [HR.out]
 obtain ⟨eR, cR, dnR, kR⟩ := R
 dsimp only
 have hnm := hR.most
 have Hn : Hid (rs.length = n) := hR.len
 have hpl := hP.pw.at
 go_enter Tryz.func110, Tryz.ntmps110
 go_upto_region 1 with fail
 go_loopw [7, 10] (fun _ s10 wr => ∃ (j : Nat) (F1 : Nat → Prop) (dn1 : Bool) (k1 : Dk) (c1 : Ch), s10 = .int .i64 j ∧ j ≤ n ∧ k1.steps + 2 * (n - j) < 999990 ∧ k1.fs.length + 2 * (n - j) < 999990 ∧ c1.cnt ≤ 1000000001 + j ∧ c1.size ≤ 1000000000 + j * 1048584 ∧ c1.g < 18446744073709551616 ∧ Hid (LC wr F1 lb d most v dn1 k1 b 0 c0 c1) ∧ Hid (Pf wr F1 lb) ∧ Hid (Keep (fun i => F i ∨ i = lb ∨ i = b) w wr) ∧ Hid (∀ i, F1 i → F i ∨ w.heap.size ≤ i) ∧ Hid (layAllL most (rs.drop j) c1 dn1 k1 = (eR, cR, dnR, kR))) (fun _ s10 _ => n - (intOf s10).toNat)
 case atStart => exact ⟨0, F, dn, k, c, rfl, by omega, by omega, by omega, by omega, by omega, hg, h, hP, Keep.refl _ _, fun i hi => Or.inl hi, HR.out⟩
 case round =>
  obtain ⟨j, F1, dn1, k1, c1, rfl, hjn, hs1, hf1, hc1, hz1, hg1, HL, HP, HK, HF, HQ⟩ := hrel
  have hws := HK.out.size
  by_cases hlt : j < n
  ·have hcl : (j : Int) < (n : Int) := by omega
   have hRr := hR.keepS hnS HK.out
   obtain ⟨bb, off, rfl, hce⟩ := hRr.flat (by omega)
   obtain ⟨aj, nj, cj, hcj, hrj⟩ := hce j hlt
   clear hce hRr
   obtain ⟨r, hr⟩ : ∃ r, rs[j]? = some r := ⟨_, List.getElem?_eq_getElem (by rw [Hn.out]; exact hlt)⟩
   have hrd : rs.getD j [] = r := by rw [List.getD_eq_getElem?_getD, hr]; rfl
   rw [hrd] at hrj
   have hrm := hrl r (List.mem_of_getElem? hr)
   have hdr : rs.drop j = r :: rs.drop (j + 1) := by
    rw [List.drop_eq_getElem_cons (by rw [Hn.out]; exact hlt)]
    congr 1
    rw [List.getElem?_eq_getElem (by rw [Hn.out]; exact hlt)] at hr
    exact Option.some.inj hr
   have HQn : Hid (layAllL most (r :: rs.drop (j + 1)) c1 dn1 k1 = (eR, cR, dnR, kR)) := by
    have h9 := HQ.out
    rw [hdr] at h9
    exact h9
   have hla := lay_any wr F1 lb d most v dn1 k1 b 0 c0 c1 HL.out HP.out hPb hg1 (by omega) (by omega) (by omega) (by omega) (by omega) aj nj cj r hrj (by rw [← hrj.len]; exact hrm)
   obtain ⟨g1, g2, g3, g4, g5⟩ := lay_gr most c1 (formL r) dn1 k1
   have hfln := formL_len r
   obtain ⟨P, HP2⟩ : ∃ P, Hid (layL most c1 (formL r) dn1 k1 = P) := ⟨_, rfl⟩
   rw [HP2.out] at hla g1 g2 g3 g4 g5
   obtain ⟨en, c2, dn2, k2⟩ := P
   dsimp only at hla g1 g2 g3 g4 g5
   clear HQ hr hrd hdr
   by_cases h0 : en = 0
   ·subst h0
    have HQ2 : Hid (layAllL most (rs.drop (j + 1)) c2 dn2 k2 = (eR, cR, dnR, kR)) := by
     show _ = _
     rw [← layAll_ok HP2.out]
     exact HQn.out
    clear HQn
    go_wp2_with (first
     | (go_at_call 65; refine (hla.mono (fun e w' h => And.intro (h.1.elim (fun k => k.2) (fun k => absurd rfl k.1)) h.2 : ∀ e w', _ → (e = .returned (.tuple #[]) ∧ _))).mono ?_; rintro e w6 ⟨rfl, hp⟩))
    obtain ⟨F2, hL2, hk2, hF2⟩ := hp
    have hkall : Keep (fun i => F i ∨ i = lb ∨ i = b) w w6 := HK.out.andThen hk2 (fun q hq hs => by
     rcases hs with hs | hs
     ·rcases HF.out q hs with h9 | h9
      ·exact Or.inl h9
      ·omega
     ·exact Or.inr hs)
    exact ⟨⟨j + 1, F2, dn2, k2, c2, by go_num, by omega, by omega, by omega, by omega, by omega, by omega, hL2, HP.out.next3 hPb hk2 hF2, hkall, fun q hq => (hF2 q hq).elim (HF.out q) (fun h9 => Or.inr (Nat.le_trans hws h9)), HQ2.out⟩, by simp [intOf]; omega⟩
   ·have hres := HQn.out.symm.trans (layAll_no HP2.out h0)
    simp only [Prod.mk.injEq] at hres
    obtain ⟨e1, e2, e3, e4⟩ := hres
    subst eR cR dnR kR
    clear HQn
    go_wp2_with (first
     | (go_at_call 65; refine (hla.mono (fun e w' h => And.intro (h.1.elim (fun k => absurd k.1 h0) (fun k => k.2)) h.2 : ∀ e w', _ → (e = .panicked (gaveS en) ∧ _))).mono ?_; rintro e w6 ⟨rfl, hp⟩))
    exact ⟨rfl, gs_no h0 rfl, Lcp.next HK.out HF.out hp⟩
  ·have hcl : ¬ (j : Int) < (n : Int) := by omega
   have hQ := HQ.out
   rw [List.drop_eq_nil_of_le (by rw [Hn.out]; omega)] at hQ
   have HQ2 : Hid (settleL c1 dn1 k1 = (eR, cR, dnR, kR)) := hQ
   have hse := settle_any wr F1 lb d most v dn1 k1 b 0 c0 c1 HL.out HP.out hg1 (by omega) (by omega) (by omega)
   rw [HQ2.out] at hse
   dsimp only at hse
   clear hQ HQ
   by_cases h0 : eR = 0
   ·subst h0
    go_wp2_with (first
     | (go_at_call 68; refine (hse.mono (fun e w' h => And.intro (h.1.elim (fun k => k.2) (fun k => absurd rfl k.1)) h.2 : ∀ e w', _ → (e = .returned (.tuple #[]) ∧ _))).mono ?_; rintro e w6 ⟨rfl, hp⟩))
    go_end0
    exact ⟨Or.inl ⟨rfl, rfl⟩, Lcp.next HK.out HF.out hp⟩
   ·go_wp2_with (first
     | (go_at_call 68; refine (hse.mono (fun e w' h => And.intro (h.1.elim (fun k => absurd k.1 h0) (fun k => k.2)) h.2 : ∀ e w', _ → (e = .panicked (gaveS eR) ∧ _))).mono ?_; rintro e w6 ⟨rfl, hp⟩))
    exact ⟨rfl, gs_no h0 rfl, Lcp.next HK.out HF.out hp⟩
end Go.Proofs.YtikkieaokfailaaGreatDoor

namespace Go.Proofs.YtikkieaokfailaaGreatDoor
open Go.RowKit Go.Joins
theorem Lcp.err {w0 w1 : World} {o : Obj} {F : Nat → Prop} {lb d most : Nat} {v : Value} {dn : Bool} {k : Dk} {b off : Nat} {c0 c : Ch} (h : Lcp (w0.alloc o) F lb d most v dn k b off c0 c w1) (hF : ∀ i, F i → i < w0.heap.size) (hlb : lb < w0.heap.size) (hb : b < w0.heap.size) (u : Value) : Lcp w0 F lb d most v dn k b off c0 c (w1.setCell ⟨w0.heap.size, 0, none⟩ u) := by
 obtain ⟨F', h1, h2, h3⟩ := h
 have hs : (w0.alloc o).heap.size = w0.heap.size + 1 := by simp
 have hk : Keep (fun k => k = w0.heap.size) w1 (w1.setCell ⟨w0.heap.size, 0, none⟩ u) := (Keep.refl (fun k => k = w0.heap.size) w1).setCell (p := ⟨w0.heap.size, 0, none⟩) rfl u
 have hnF : ∀ i, F' i → i ≠ w0.heap.size := fun i hi e => by
  rcases h3 i hi with h | h
  ·have := hF i h; omega
  ·omega
 exact ⟨F', h1.keep hk hnF (by omega) (by omega), (((Keep.refl _ w0).alloc o).trans h2).setNew (Nat.le_refl _) u, fun i hi => (h3 i hi).imp id (fun h => by omega)⟩
theorem attempt_C (f : Nat) (caps : Array Value) (en : Nat) (W : World) (F : Nat → Prop) (lb d most : Nat) (v : Value) (dn dn' : Bool) (k k' : Dk) (b : Nat) (c0 c c' : Ch) (h : LC W F lb d most v dn k b 0 c0 c) (hent : ∀ args w, (callFunc f args).run Tryz.prog w = .ok (.enter f args) w)
  (hC : LC (W.alloc (.cells #[.int .i64 0] 37)) F lb d most v dn k b 0 c0 c → Below W.heap.size W (W.alloc (.cells #[.int .i64 0] 37)) → Calls Tryz.prog f caps (W.alloc (.cells #[.int .i64 0] 37)) fun e w' => Gs en e ∧ Lcp (W.alloc (.cells #[.int .i64 0] 37)) F lb d most v dn' k' b 0 c0 c' w') :
  Calls Tryz.prog 60 #[.func (.func f) #[] caps] W fun e w' => e = .returned (.int .i64 en) ∧ Lcp W F lb d most v dn' k' b 0 c0 c' w' := by
 have hb0 : Below W.heap.size W (W.alloc (.cells #[.int .i64 0] 37)) := (Below.refl _ _).alloc (Nat.le_refl _) _
 have hF := h.L.D.lt
 have hlb := h.L.lt
 have hb := h.ltb
 refine (attemptS f caps en (fun w' => Lcp (W.alloc (.cells #[.int .i64 0] 37)) F lb d most v dn' k' b 0 c0 c' w') W hent ((hC (h.below hb0) hb0).mono ?_)).mono ?_
 ·rintro e w' ⟨h1, h2⟩
  refine ⟨h1, h2, ?_⟩
  obtain ⟨F', _, hk, _⟩ := h2
  exact box_keep (alloc_at W _) hk (fun e => by
   rcases e with e | e | e
   ·have := hF _ e; omega
   ·omega
   ·omega)
 ·rintro e w' ⟨rfl, w1, h1, rfl⟩
  exact ⟨rfl, h1.err hF hlb hb _⟩
theorem ifRoom_any (x : Value) (f1 f2 : Nat) (caps1 caps2 : Array Value) (e1 e2 : Nat) (P1 P2 : World → Prop) (w : World) (hent : ∀ args w, (callFunc f2 args).run Tryz.prog w = .ok (.enter f2 args) w)
  (h1 : Calls Tryz.prog 60 #[.func (.func f1) #[] caps1] w fun e w' => e = .returned (.int .i64 e1) ∧ P1 w')
  (h2 : e1 = 8 → ∀ w1, P1 w1 → Calls Tryz.prog f2 caps2 w1 fun e w' => Gs e2 e ∧ P2 w') :
  Calls Tryz.prog 108 #[x, .func (.func f1) #[] caps1, .func (.func f2) #[] caps2] w fun e w' => Gs (if e1 = 8 then (if e2 ≠ 0 then e2 else 8) else e1) e ∧ (if e1 = 8 then P2 w' else P1 w') := by
 by_cases h8 : e1 = 8
 ·subst h8
  rw [if_pos rfl]
  have h2' := h2 rfl
  have z8 : ((8 : Nat) : Int) = 8 := rfl
  by_cases h0 : e2 = 0
  ·subst h0
   rw [if_neg (by simp)]
   have h2c := fun w1 hp => (h2' w1 hp).mono (fun e w' h => And.intro (h.1.elim (fun k => k.2) (fun k => absurd rfl k.1)) h.2 : ∀ e w', _ → (e = .returned (.tuple #[]) ∧ _))
   clear h2' h2
   go_enter Tryz.func108, Tryz.ntmps108
   go_wp2_with (first
    | (go_at_call 60; refine h1.mono ?_; rintro e w1 ⟨rfl, hp1⟩)
    | (go_at_fn f2; refine (h2c w1 hp1).mono ?_; rintro e w2 ⟨rfl, hp2⟩)
    | (go_at_call 129; refine (sask_no 8 _).mono ?_; rintro e w3 ⟨rfl, h3⟩; replace h3 := h3.symm; subst h3))
   exact ⟨rfl, gs_no (by decide) rfl, hp2⟩
  ·rw [if_pos h0]
   have h2c := fun w1 hp => (h2' w1 hp).mono (fun e w' h => And.intro (h.1.elim (fun k => absurd k.1 h0) (fun k => k.2)) h.2 : ∀ e w', _ → (e = .panicked (gaveS e2) ∧ _))
   clear h2' h2
   go_enter Tryz.func108, Tryz.ntmps108
   go_wp2_with (first
    | (go_at_call 60; refine h1.mono ?_; rintro e w1 ⟨rfl, hp1⟩)
    | (go_at_fn f2; refine (h2c w1 hp1).mono ?_; rintro e w2 ⟨rfl, hp2⟩))
   exact ⟨rfl, gs_no h0 rfl, hp2⟩
 ·rw [if_neg h8]
  have z8 : ((e1 : Int) == 8) = false := by rw [beq_eq_false_iff_ne]; omega
  clear h2
  by_cases h0 : e1 = 0
  ·subst h0
   go_enter Tryz.func108, Tryz.ntmps108
   go_wp2_with (first
    | (go_at_call 60; refine h1.mono ?_; rintro e w1 ⟨rfl, hp1⟩)
    | (go_at_call 129; refine (sask_ok 0 _).mono ?_; rintro e w3 ⟨rfl, h3⟩; replace h3 := h3.symm; subst h3))
   go_end0
   exact ⟨Or.inl ⟨rfl, rfl⟩, hp1⟩
  ·have z0 : ((e1 : Int) == 0) = false := by rw [beq_eq_false_iff_ne]; omega
   go_enter Tryz.func108, Tryz.ntmps108
   go_wp2_with (first
    | (go_at_call 60; refine h1.mono ?_; rintro e w1 ⟨rfl, hp1⟩)
    | (go_at_call 129; refine (sask_no e1 _).mono ?_; rintro e w3 ⟨rfl, h3⟩; replace h3 := h3.symm; subst h3))
   exact ⟨rfl, gs_no h0 rfl, hp1⟩
theorem mk0R (w : World) (M : Nat) (hM : M ≤ 10000000) : ∃ w', (Instr.makeSlice 30 (.int .i64 0) (.int .i64 M)).run Tryz.prog w = .ok (.slice (some ⟨w.heap.size, 0, none⟩) 0 M) w' ∧ w'.ownsRow w.heap.size 29 1 (.slice (some ⟨w.heap.size, 0, none⟩) 0 M) 0 [] ∧ Below w.heap.size w w' := by
 obtain ⟨i0, hi, hz0, hz1, hz2⟩ := info_parts infoRow
 obtain ⟨w', h1, h2, h3⟩ := run_make_own w w.heap.size 30 29 i0 (.slice none 0 0) 1 Tryz.underlying30 hi hz0 hz1 .i64 .i64 M (by rw [hz2]; omega) (by unfold maxLen; omega) (Nat.le_refl _)
 exact ⟨w', h1, h2, (Below.refl _ _).grown h3 (Nat.le_refl _) (fun k hk => by cases hk)⟩
theorem wp_appRow {w : World} {ops : Array Oper} {rest : List Oper} {o : Oper} {a : Act} {Q : Exit → Act → World → Prop} (hgd : o.guard = none) (s x : Operand)
  (ho : o.op = .call { callee := .builtin .append, args := #[s, x], argTypes := #[30, 30] })
  (base : Nat) (v : Value) (n : Nat) (xs : List Value) (hs : a.eval s = v) (hown : w.ownsRow base 29 1 v n xs) (ao : Option Addr) (m c : Nat)
  (hx : a.eval x = .slice (some ⟨w.heap.size, 0, none⟩) 1 1) (hn : n ≤ 1000000) (hbase : base ≤ w.heap.size)
  (h : ∀ v' w', w'.ownsRow base 29 1 v' (n + 1) (xs ++ [.slice ao m c]) → Keep (fun k => v.ownBlock = some k) w w' → (v'.ownBlock = v.ownBlock ∨ ∃ g, v'.ownBlock = some g ∧ w.heap.size ≤ g) → wpList Tryz.prog ops Q rest (a.put o.dst v') w') : wpList Tryz.prog ops Q (o :: rest) a (w.alloc (.cells #[.slice ao m c] 29)) := by
 refine wpList_plain hgd fun K hK => ?_
 obtain ⟨v', w', hrun, h2, h3, h4⟩ := run_appW o.type hown ao m c hn hbase
 unfold Oper.wp
 simp only [execOp, ho, resolve, invoke, builtin, Sem.run_bind, Sem.run_pure, Result.andThen_ok, List.map_toArray, List.map_cons, List.map_nil, hs, hx, hrun]
 exact hK _ _ (h v' w' h2 h3 h4)
set_option maxHeartbeats 2000000 in
theorem clones_any (a : Option Addr) (n c : Nat) (rs : List (List Int)) (w : World) (hR : RRd w a n rs) (hn : n ≤ 100000) (hrl : ∀ r ∈ rs, r.length ≤ 1048576) :
  Calls Tryz.prog 120 #[.slice a n c] w fun e w' => ∃ v, e = .returned v ∧ RcA w' (fun i => w.heap.size ≤ i ∧ i < w'.heap.size) v rs ∧ Below w.heap.size w w' := by
 obtain ⟨w1, hmk, ho1, hb1⟩ := mk0R w n (by omega)
 have Hn : Hid (rs.length = n) := hR.len
 have hnm := hR.most
 go_enter Tryz.func120, Tryz.ntmps120
 go_upto_region 3 with fail
 go_loopw [3, 5, 11] (fun s3 _ s11 wr => ∃ (j : Nat) (v : Value), s3 = v ∧ s11 = .int .i64 j ∧ j ≤ n ∧ Hid (RcA wr (fun i => w.heap.size ≤ i ∧ i < wr.heap.size) v (rs.take j)) ∧ Hid (Below w.heap.size w wr)) (fun _ _ s11 _ => n - (intOf s11).toNat)
 case atStart =>
  refine ⟨0, _, rfl, rfl, by omega, ?_, hb1⟩
  show RcA _ _ _ (rs.take 0)
  rw [List.take_zero]
  exact ⟨⟨[], own_weak ho1 (Nat.zero_le _), fun i r hr => by simp at hr⟩, fun g hg => by
   have := ho1.lt g hg
   exact ⟨this.1, this.2⟩⟩
 case round =>
  obtain ⟨j, v, rfl, rfl, hjn, HR, HB⟩ := hrel
  by_cases hlt : j < n
  ·have hcl : (j : Int) < (n : Int) := by omega
   have hRr := hR.below HB.out
   obtain ⟨bb, off, rfl, hce⟩ := hRr.flat (by omega)
   obtain ⟨aj, nj, cj, hcj, hrj⟩ := hce j hlt
   clear hce hRr
   obtain ⟨r, hr⟩ : ∃ r, rs[j]? = some r := ⟨_, List.getElem?_eq_getElem (by rw [Hn.out]; exact hlt)⟩
   have hrd : rs.getD j [] = r := by rw [List.getD_eq_getElem?_getD, hr]; rfl
   rw [hrd] at hrj
   have hrm := hrl r (List.mem_of_getElem? hr)
   have htk : rs.take (j + 1) = rs.take j ++ [r] := by
    rw [List.take_add_one, hr]
    rfl
   have hbc := bcloneO aj nj cj r wr hrj (by rw [← hrj.len]; omega)
   obtain ⟨⟨vs, ov, hvs⟩, hvo⟩ := HR.out
   have hlj : (rs.take j).length = j := by rw [List.length_take, Hn.out]; omega
   have HLj : Hid ((rs.take j).length = j) := hlj
   have ovj := ov
   rw [hlj] at ovj
   obtain ⟨av, cv, hv⟩ := own_sl ovj
   subst hv
   have HTk : Hid (rs.take (j + 1) = rs.take j ++ [r]) := htk
   have hbd := hrj.bytes
   have hlen := hrj.len
   clear hrj hr hrd htk hlj
   go_wp2_with (first
    | (go_at_call 66; refine hbc.mono ?_; rintro e w5 ⟨u5, rfl, o5, hb5⟩; obtain ⟨a5, c5, rfl, _⟩ := Rd.ofOwn o5 hbd; have ov5 := own_keep (S := fun _ => False) ovj (Keep.ofBelow hb5) (fun _ _ h => h))
    | (at_builtin; refine wp_appRow rfl (.tmp 15) (.tmp 18) rfl 0 (.slice av j cv) j vs rfl ov5 a5 nj c5 rfl (by omega) (Nat.zero_le _) ?_; intro v6 w6 o6 hk6 hwh6; obtain ⟨a6, c6, rfl⟩ := own_sl o6))
   have h0s := HB.out.size
   have h5s := hb5.size
   have h6s := hk6.size
   have hB5 : Below w.heap.size w w5 := HB.out.trans (hb5.mono h0s)
   have hB6 : Below w.heap.size w w6 := hB5.trans (hk6.low hB5.size (fun i hi => (hvo i hi).1))
   have hR6 : RcA w6 (fun i => w.heap.size ≤ i ∧ i < w6.heap.size) (.slice a6 (j + 1) c6) (rs.take j ++ [r]) := by
    refine RcA.app (w := w5) (vs := vs) (v := .slice av j cv) (u := .slice a5 nj c5) (by rw [HLj.out]; exact ov5) (fun i r hr => ?_) (by rw [HLj.out]; exact o6) hk6 (by rw [hlen]; exact own_weak o5 (Nat.zero_le _)) (fun g hg => ?_) hbd (fun g hg => ?_)
    ·obtain ⟨u2, m1, m2, m3, m4⟩ := hvs i r hr
     exact ⟨u2, m1, own_keep (S := fun _ => False) m2 (Keep.ofBelow hb5) (fun _ _ h => h), fun g hg => by have := m3 g hg; exact ⟨this.1, by omega⟩, m4⟩
    ·have := o5.lt g hg
     exact ⟨by omega, by omega⟩
    ·rcases hwh6 with h9 | ⟨g9, h9, h10⟩
     ·have := hvo g (by rw [← h9]; exact hg)
      exact ⟨this.1, by omega⟩
     ·rw [h9] at hg
      injection hg with hg
      subst hg
      refine ⟨by omega, ?_⟩
      obtain ⟨cur, e⟩ := own_blkT o6 h9
      exact (Array.getElem?_eq_some_iff.1 e).1
   exact ⟨⟨j + 1, _, rfl, by go_num, by omega, by show RcA _ _ _ _; rw [HTk.out]; exact hR6, hB6⟩, by simp [intOf]; omega⟩
  ·have hcl : ¬ (j : Int) < (n : Int) := by omega
   have hR9 := HR.out
   rw [List.take_of_length_le (by rw [Hn.out]; omega)] at hR9
   go_wp2
   go_ret
   exact ⟨_, rfl, hR9, HB.out⟩
end Go.Proofs.YtikkieaokfailaaGreatDoor

namespace Go.Proofs.YtikkieaokfailaaGreatDoor
open Go.RowKit Go.Joins
def remC (c : Ch) (dn : Bool) (k : Dk) : Nat × Bool × Dk := remAll (segs c.g 0 c.cnt) dn k
def remNewL (dn : Bool) (k : Dk) : Nat × Bool × Dk := if (readK k sNew).1 = 0 then stp dn k (removeK k sNew) else (0, dn, k)
def back2 (c : Ch) (dn : Bool) (k : Dk) : Nat × Bool × Dk := if (remC c dn k).1 ≠ 0 then remC c dn k else remNewL (remC c dn k).2.1 (remC c dn k).2.2
def wrB (c : Ch) (dn : Bool) (k : Dk) : Nat × Ch × Bool × Dk := ((stp dn k (appK k sNew (baseL c.g))).1, c, (stp dn k (appK k sNew (baseL c.g))).2)
theorem baseL_bd (g : Nat) : Bd (baseL g) := by
 unfold baseL
 exact (bigL_bd _ _).append (bigL_bd _ _)
theorem remNew_any (w : World) (F : Nat → Prop) (lb d most : Nat) (v : Value) (c : Ch) (dn : Bool) (k : Dk) (h : LD w F lb d most v c dn k) (hst : k.steps < 1000000) :
  Calls Tryz.prog 116 #[.pointer (some ⟨lb, 0, none⟩)] w fun e w' => Gs (remNewL dn k).1 e ∧ Lp w F lb d most v c (remNewL dn k).2.1 (remNewL dn k).2.2 w' := by
 have q0 := h.c0
 have hrd := read_any d F k sNew w h.D
 have hrm := fun w' (hb : Below w.heap.size w w') => sremove_any lb d most F v c dn k sNew hst w' (h.below hb)
 unfold remNewL
 unfold sNew at *
 obtain ⟨P, HP⟩ : ∃ P, Hid (readK k ⟨#[98, 97, 115, 101, 46, 110, 101, 119]⟩ = P) := ⟨_, rfl⟩
 rw [HP.out] at hrd ⊢
 obtain ⟨er, xs⟩ := P
 dsimp only at hrd ⊢
 by_cases h7 : er = 0
 ·subst h7
  rw [if_pos rfl]
  obtain ⟨Q, HQ⟩ : ∃ Q, Hid (stp dn k (removeK k ⟨#[98, 97, 115, 101, 46, 110, 101, 119]⟩) = Q) := ⟨_, rfl⟩
  rw [HQ.out]
  simp only [HQ.out] at hrm
  obtain ⟨en, dn2, k2⟩ := Q
  dsimp only at hrm ⊢
  by_cases h0 : en = 0
  ·subst h0
   go_enter Tryz.func116, Tryz.ntmps116
   go_wp2_with (first
    | (go_at_call 38; refine hrd.mono ?_; rintro e w1 ⟨v1, rfl, o1, hb1⟩)
    | (go_at_call 134; refine ((hrm w1 hb1).mono (fun e w' h => And.intro (h.1.elim (fun k => k.2) (fun k => absurd rfl k.1)) h.2 : ∀ e w', _ → (e = .returned (.tuple #[]) ∧ _))).mono ?_; rintro e w2 ⟨rfl, hp⟩))
   go_end0
   exact ⟨Or.inl ⟨rfl, rfl⟩, hp.from hb1⟩
  ·go_enter Tryz.func116, Tryz.ntmps116
   go_wp2_with (first
    | (go_at_call 38; refine hrd.mono ?_; rintro e w1 ⟨v1, rfl, o1, hb1⟩)
    | (go_at_call 134; refine ((hrm w1 hb1).mono (fun e w' h => And.intro (h.1.elim (fun k => absurd k.1 h0) (fun k => k.2)) h.2 : ∀ e w', _ → (e = .panicked (gaveS en) ∧ _))).mono ?_; rintro e w2 ⟨rfl, hp⟩))
   exact ⟨rfl, gs_no h0 rfl, hp.from hb1⟩
 ·rw [if_neg h7]
  have z0 : ((er : Int) == 0) = false := by rw [beq_eq_false_iff_ne]; omega
  clear hrm
  go_enter Tryz.func116, Tryz.ntmps116
  go_wp2_with (first
   | (go_at_call 38; refine hrd.mono ?_; rintro e w1 ⟨v1, rfl, o1, hb1⟩))
  go_end0
  exact ⟨Or.inl ⟨rfl, rfl⟩, Lp.ofBelow h hb1⟩
section
variable (w : World) (F : Nat → Prop) (lb d most : Nat) (v : Value) (dn : Bool) (k : Dk) (b p : Nat) (c0 c : Ch)
theorem rb1_any (q : Nat) (h : LC w F lb d most v dn k b 0 c0 c) (hP : Pf w F lb) (hPb : 0 < b) (hp : w.heap[p]? = some (.cells #[.pointer (some ⟨lb, 0, none⟩)] 48 (0, 0))) (hg : c.g < 18446744073709551616) (hi : c.cnt ≤ 1000000000) (hz : c.size ≤ 1000000000) (hmo : most ≤ 1000000000)
  (a : Option Addr) (n cc : Nat) (rs : List (List Int)) (hq : w.heap[q]? = some (.cells #[.slice a n cc] 30 (0, 0))) (hR : RRd w a n rs) (hnS : RNot w a n (fun i => F i ∨ i = lb ∨ i = b)) (hn : n ≤ 10000) (hrl : ∀ r ∈ rs, r.length ≤ 1048576) (hst : k.steps + 2 * n < 999990) (hfl : k.fs.length + 2 * n < 999990) :
  Calls Tryz.prog 109 #[.pointer (some ⟨p, 0, none⟩), .pointer (some ⟨b, 0, none⟩), .pointer (some ⟨q, 0, none⟩)] w fun e w' => Gs (layAllL most rs c dn k).1 e ∧ Lcp w F lb d most v (layAllL most rs c dn k).2.2.1 (layAllL most rs c dn k).2.2.2 b 0 c0 (layAllL most rs c dn k).2.1 w' := by
 have hla := layAll_any w F lb d most v dn k b c0 c h hP hPb hg hi hz hmo a n cc rs hR hnS hn hrl hst hfl
 obtain ⟨P, HP⟩ : ∃ P, layAllL most rs c dn k = P := ⟨_, rfl⟩
 rw [HP] at hla ⊢
 clear HP
 obtain ⟨en, c2, dn2, k2⟩ := P
 dsimp only at hla ⊢
 have q1 := box_cell hp
 have q2 := box_cell hq
 by_cases h0 : en = 0
 ·subst h0
  go_enter Tryz.func109, Tryz.ntmps109
  go_wp2_with (first
   | (go_at_call 110; refine (hla.mono (fun e w' h => And.intro (h.1.elim (fun k => k.2) (fun k => absurd rfl k.1)) h.2 : ∀ e w', _ → (e = .returned (.tuple #[]) ∧ _))).mono ?_; rintro e w6 ⟨rfl, hp⟩))
  go_end0
  exact ⟨Or.inl ⟨rfl, rfl⟩, hp⟩
 ·go_enter Tryz.func109, Tryz.ntmps109
  go_wp2_with (first
   | (go_at_call 110; refine (hla.mono (fun e w' h => And.intro (h.1.elim (fun k => absurd k.1 h0) (fun k => k.2)) h.2 : ∀ e w', _ → (e = .panicked (gaveS en) ∧ _))).mono ?_; rintro e w6 ⟨rfl, hp⟩))
  exact ⟨rfl, gs_no h0 rfl, hp⟩
theorem LC.ld (h : LC w F lb d most v dn k b 0 c0 c) (hb : b ≠ lb) : LD w F lb d most v c0 dn k := by
 have := h.L
 rw [if_neg hb] at this
 exact this
theorem LC.lp {w' : World} {dn' : Bool} {k' : Dk} (h : LC w F lb d most v dn k b 0 c0 c) (hb : b ≠ lb) (hp : Lp w F lb d most v c0 dn' k' w') : Lcp w F lb d most v dn' k' b 0 c0 c w' := h.step (by rw [if_neg hb]; exact hp)
theorem rb2_any (h : LC w F lb d most v dn k b 0 c0 c) (hb : b ≠ lb) (hP : Pf w F lb) (hp : w.heap[p]? = some (.cells #[.pointer (some ⟨lb, 0, none⟩)] 48 (0, 0))) (hg : c.g < 18446744073709551616) (hi : c.cnt ≤ 100000) (hst : k.steps + c.cnt < 1000000) :
  Calls Tryz.prog 111 #[.pointer (some ⟨p, 0, none⟩), .pointer (some ⟨b, 0, none⟩)] w fun e w' => Gs (remC c dn k).1 e ∧ Lcp w F lb d most v (remC c dn k).2.1 (remC c dn k).2.2 b 0 c0 c w' := by
 have hrs := remSegs_any w F lb d most v c0 dn k c 0 (h.ld _ _ _ _ _ _ _ _ _ _ _ hb) hP hg hi hst
 rw [Nat.sub_zero] at hrs
 unfold remC
 obtain ⟨P, HP⟩ : ∃ P, remAll (segs c.g 0 c.cnt) dn k = P := ⟨_, rfl⟩
 rw [HP] at hrs ⊢
 clear HP
 obtain ⟨en, dn2, k2⟩ := P
 dsimp only at hrs ⊢
 have q1 := box_cell hp
 have x0 : w.cell? ⟨b, 0, none⟩ = some (.int .u64 (c.g : Int)) := h.cell 0 (by omega)
 have x1 : w.cell? ⟨b, 1, none⟩ = some (.int .i64 (c.cnt : Int)) := h.cell 1 (by omega)
 have x2 : w.cell? ⟨b, 2, none⟩ = some (.int .i64 (c.size : Int)) := h.cell 2 (by omega)
 have x3 : w.cell? ⟨b, 3, none⟩ = some (.bool c.loose) := h.cell 3 (by omega)
 unfold chs at hrs
 have z1 : ((0 + 1 : Nat) : Int) = 1 := rfl
 rw [z1] at hrs
 by_cases h0 : en = 0
 ·subst h0
  go_enter Tryz.func111, Tryz.ntmps111
  go_wp2_with (first
   | (go_at_call 112; refine (hrs.mono (fun e w' h => And.intro (h.1.elim (fun k => k.2) (fun k => absurd rfl k.1)) h.2 : ∀ e w', _ → (e = .returned (.tuple #[]) ∧ _))).mono ?_; rintro e w6 ⟨rfl, hp6⟩))
  go_end0
  exact ⟨Or.inl ⟨rfl, rfl⟩, h.lp _ _ _ _ _ _ _ _ _ _ _ hb hp6⟩
 ·go_enter Tryz.func111, Tryz.ntmps111
  go_wp2_with (first
   | (go_at_call 112; refine (hrs.mono (fun e w' h => And.intro (h.1.elim (fun k => absurd k.1 h0) (fun k => k.2)) h.2 : ∀ e w', _ → (e = .panicked (gaveS en) ∧ _))).mono ?_; rintro e w6 ⟨rfl, hp6⟩))
  exact ⟨rfl, gs_no h0 rfl, h.lp _ _ _ _ _ _ _ _ _ _ _ hb hp6⟩
set_option maxHeartbeats 1000000 in
theorem rb3_any (h : LC w F lb d most v dn k b 0 c0 c) (hb : b ≠ lb) (hp : w.heap[p]? = some (.cells #[.pointer (some ⟨lb, 0, none⟩)] 48 (0, 0))) (np : ¬ F p ∧ p ≠ lb) (hst : k.steps < 999999) (hfl : k.fs.length < 999999) :
  Calls Tryz.prog 113 #[.pointer (some ⟨p, 0, none⟩), .pointer (some ⟨b, 0, none⟩)] w fun e w' => Gs (wrB c dn k).1 e ∧ Lcp w F lb d most v (wrB c dn k).2.2.1 (wrB c dn k).2.2.2 b 0 c0 (wrB c dn k).2.1 w' := by
 have hbX : Below w.heap.size w w.drew := (Below.refl _ _).drew
 have x0 : w.cell? ⟨b, 0, none⟩ = some (.int .u64 (c.g : Int)) := h.cell 0 (by omega)
 have HS0 : w.drew.cell? ⟨p, 0, none⟩ = some (.pointer (some ⟨lb, 0, none⟩)) ∧ w.drew.cell? ⟨b, 0, none⟩ = some (.int .u64 (c.g : Int)) := ⟨box_cell hp, x0⟩
 have hLD := h.ld _ _ _ _ _ _ _ _ _ _ _ hb
 have hwr := fun w' (hb : Below w.heap.size w w') a e hR => swrite_any lb d most F v c0 dn k sNew a 12 e (baseL c.g) (by omega) (by omega) (by omega) w' (hLD.below hb) hR
 have hfin : ∀ w', Lp w F lb d most v c0 (wrB c dn k).2.2.1 (wrB c dn k).2.2.2 w' → Lcp w F lb d most v (wrB c dn k).2.2.1 (wrB c dn k).2.2.2 b 0 c0 (wrB c dn k).2.1 w' := fun w' h9 => h.lp _ _ _ _ _ _ _ _ _ _ _ hb h9
 unfold wrB at hfin ⊢
 dsimp only at hfin ⊢
 unfold sNew at hwr hfin ⊢
 obtain ⟨P, HP⟩ : ∃ P, stp dn k (appK k ⟨#[98, 97, 115, 101, 46, 110, 101, 119]⟩ (baseL c.g)) = P := ⟨_, rfl⟩
 rw [HP] at hfin ⊢
 simp only [HP] at hwr
 clear HP
 obtain ⟨en, dn2, k2⟩ := P
 dsimp only at hwr hfin ⊢
 have hbf := baseForm_any c.g w.drew
 by_cases h0 : en = 0
 ·subst h0
  go_enter Tryz.func113, Tryz.ntmps113
  go_upto_region 0 with fail
  refine wp_region_lx (fun w' => w'.cell? ⟨p, 0, none⟩ = some (.pointer (some ⟨lb, 0, none⟩)) ∧ w'.cell? ⟨b, 0, none⟩ = some (.int .u64 (c.g : Int))) [] 5 (by kernel_rfl) (by kernel_rfl) ?_
  generalize w.drew = X at *
  refine lx_r 0 (.pointer (some ⟨lb, 0, none⟩)) HS0 ?_ (hv := fun w' hS => by have q := hS.1; first | (go_simp; rfl) | go_simp); simp only [lxa, lxb, lxc]
  refine lx_r 1 (.pointer (some ⟨b, 0, none⟩)) HS0 ?_; simp only [lxa, lxb, lxc]
  refine lx_r 2 (.int .u64 (c.g : Int)) HS0 ?_ (hv := fun w' hS => by have q := hS.2; first | (go_simp; rfl) | go_simp); simp only [lxa, lxb, lxc]
  refine lx_one 3 (by kernel_rfl) (stepT_call 114 ?a3 rfl rfl rfl ?r3 ?_)
  case r3 => first | (go_simp; rfl) | go_simp
  refine hbf.mono ?_
  rintro e w3 ⟨v3, rfl, o3, hb3⟩
  obtain ⟨a3, c3, rfl, r3⟩ := Rd.ofOwn o3 (baseL_bd c.g)
  have t3 : ∀ p x, X.cell? p = some x → w3.cell? p = some x := fun p x hx => (hb3.cell (World.block_lt_of_cell? _ _ hx)).trans hx
  refine ⟨_, rfl, fun _ => ⟨t3 _ _ HS0.1, t3 _ _ HS0.2⟩, ?_⟩
  simp only [lxa, lxb, lxc]
  have hB3 : Below w.heap.size w w3 := hbX.trans (hb3.mono hbX.size)
  refine lx_one 4 (by kernel_rfl) (stepT_call 102 ?a4 rfl rfl rfl ?r4 ?_)
  case r4 => first | (go_simp; rfl) | go_simp
  refine ((hwr w3 hB3 a3 c3 r3).mono (fun e w' h => And.intro (h.1.elim (fun k => k.2) (fun k => absurd rfl k.1)) h.2 : ∀ e w', _ → (e = .returned (.tuple #[]) ∧ _))).mono ?_
  rintro e w4 ⟨rfl, hp4⟩
  have HS4 : w4.cell? ⟨p, 0, none⟩ = some (.pointer (some ⟨lb, 0, none⟩)) ∧ w4.cell? ⟨b, 0, none⟩ = some (.int .u64 (c.g : Int)) := by
   obtain ⟨_, _, hk4, _⟩ := hp4
   exact ⟨hk4.cell (p := ⟨p, 0, none⟩) (t3 _ _ HS0.1) (fun h9 => h9.elim np.1 np.2), hk4.cell (p := ⟨b, 0, none⟩) (t3 _ _ HS0.2) (fun h9 => h9.elim h.nfb hb)⟩
  refine ⟨_, rfl, fun _ => HS4, ?_⟩
  simp only [lxa, lxb, lxc]
  refine lx_nil (by kernel_rfl) ?_
  go_wp2
  go_end0
  exact ⟨Or.inl ⟨rfl, rfl⟩, hfin w4 (hp4.from hB3)⟩
 ·go_enter Tryz.func113, Tryz.ntmps113
  go_upto_region 0 with fail
  refine wp_region_lx (fun w' => w'.cell? ⟨p, 0, none⟩ = some (.pointer (some ⟨lb, 0, none⟩)) ∧ w'.cell? ⟨b, 0, none⟩ = some (.int .u64 (c.g : Int))) [] 5 (by kernel_rfl) (by kernel_rfl) ?_
  generalize w.drew = X at *
  refine lx_r 0 (.pointer (some ⟨lb, 0, none⟩)) HS0 ?_ (hv := fun w' hS => by have q := hS.1; first | (go_simp; rfl) | go_simp); simp only [lxa, lxb, lxc]
  refine lx_r 1 (.pointer (some ⟨b, 0, none⟩)) HS0 ?_; simp only [lxa, lxb, lxc]
  refine lx_r 2 (.int .u64 (c.g : Int)) HS0 ?_ (hv := fun w' hS => by have q := hS.2; first | (go_simp; rfl) | go_simp); simp only [lxa, lxb, lxc]
  refine lx_one 3 (by kernel_rfl) (stepT_call 114 ?b3 rfl rfl rfl ?s3 ?_)
  case s3 => first | (go_simp; rfl) | go_simp
  refine hbf.mono ?_
  rintro e w3 ⟨v3, rfl, o3, hb3⟩
  obtain ⟨a3, c3, rfl, r3⟩ := Rd.ofOwn o3 (baseL_bd c.g)
  have t3 : ∀ p x, X.cell? p = some x → w3.cell? p = some x := fun p x hx => (hb3.cell (World.block_lt_of_cell? _ _ hx)).trans hx
  refine ⟨_, rfl, fun _ => ⟨t3 _ _ HS0.1, t3 _ _ HS0.2⟩, ?_⟩
  simp only [lxa, lxb, lxc]
  have hB3 : Below w.heap.size w w3 := hbX.trans (hb3.mono hbX.size)
  refine lx_one 4 (by kernel_rfl) (stepT_callP 102 ?b4 rfl rfl rfl ?s4 ?_)
  case s4 => first | (go_simp; rfl) | go_simp
  refine ((hwr w3 hB3 a3 c3 r3).mono (fun e w' h => And.intro (h.1.elim (fun k => absurd k.1 h0) (fun k => k.2)) h.2 : ∀ e w', _ → (e = .panicked (gaveS en) ∧ _))).mono ?_
  rintro e w4 ⟨rfl, hp4⟩
  refine Or.inr ⟨_, rfl, ?_⟩
  exact ⟨rfl, gs_no h0 rfl, hfin w4 (hp4.from hB3)⟩
set_option maxHeartbeats 1000000 in
theorem rb4_any (h : LC w F lb d most v dn k b 0 c0 c) (hb : b ≠ lb) (hP : Pf w F lb) (hp : w.heap[p]? = some (.cells #[.pointer (some ⟨lb, 0, none⟩)] 48 (0, 0))) (np : ¬ F p ∧ p ≠ lb) (hg : c.g < 18446744073709551616) (hi : c.cnt ≤ 100000) (hst : k.steps + c.cnt < 999999) :
  Calls Tryz.prog 115 #[.pointer (some ⟨p, 0, none⟩), .pointer (some ⟨b, 0, none⟩)] w fun e w' => Gs (back2 c dn k).1 e ∧ Lcp w F lb d most v (back2 c dn k).2.1 (back2 c dn k).2.2 b 0 c0 c w' := by
 have hLD := h.ld _ _ _ _ _ _ _ _ _ _ _ hb
 have hrs := remSegs_any w F lb d most v c0 dn k c 0 hLD hP hg hi (by omega)
 rw [Nat.sub_zero] at hrs
 have hgr := (remAll_gr (segs c.g 0 c.cnt) dn k).1
 rw [segs_len] at hgr
 unfold back2 remC
 obtain ⟨P, HP⟩ : ∃ P, remAll (segs c.g 0 c.cnt) dn k = P := ⟨_, rfl⟩
 rw [HP] at hrs hgr ⊢
 clear HP
 obtain ⟨en, dn2, k2⟩ := P
 dsimp only at hrs hgr ⊢
 have q1 := box_cell hp
 have x0 : w.cell? ⟨b, 0, none⟩ = some (.int .u64 (c.g : Int)) := h.cell 0 (by omega)
 have x1 : w.cell? ⟨b, 1, none⟩ = some (.int .i64 (c.cnt : Int)) := h.cell 1 (by omega)
 have x2 : w.cell? ⟨b, 2, none⟩ = some (.int .i64 (c.size : Int)) := h.cell 2 (by omega)
 have x3 : w.cell? ⟨b, 3, none⟩ = some (.bool c.loose) := h.cell 3 (by omega)
 unfold chs at hrs
 have z1 : ((0 + 1 : Nat) : Int) = 1 := rfl
 rw [z1] at hrs
 by_cases h0 : en = 0
 ·subst h0
  rw [if_neg (by simp)]
  have hrn := fun w' F' (hL : LD w' F' lb d most v c0 dn2 k2) => remNew_any w' F' lb d most v c0 dn2 k2 hL (by omega)
  obtain ⟨Q, HQ⟩ : ∃ Q, remNewL dn2 k2 = Q := ⟨_, rfl⟩
  rw [HQ]
  simp only [HQ] at hrn
  clear HQ
  obtain ⟨en3, dn3, k3⟩ := Q
  dsimp only at hrn ⊢
  by_cases h03 : en3 = 0
  ·subst h03
   go_enter Tryz.func115, Tryz.ntmps115
   go_upto_region 1 with (first
    | (go_at_call 112; refine (hrs.mono (fun e w' h => And.intro (h.1.elim (fun k => k.2) (fun k => absurd rfl k.1)) h.2 : ∀ e w', _ → (e = .returned (.tuple #[]) ∧ _))).mono ?_; rintro e w6 ⟨rfl, F6, hL6, hk6, hF6⟩))
   have q6 := hk6.cell (p := ⟨p, 0, none⟩) q1 (fun h9 => h9.elim np.1 np.2)
   clear q1 x0 x1 x2 x3
   go_wp2_with (first
    | (go_at_call 116; refine ((hrn w6 F6 hL6).mono (fun e w' h => And.intro (h.1.elim (fun k => k.2) (fun k => absurd rfl k.1)) h.2 : ∀ e w', _ → (e = .returned (.tuple #[]) ∧ _))).mono ?_; rintro e w7 ⟨rfl, hp7⟩))
   go_end0
   exact ⟨Or.inl ⟨rfl, rfl⟩, h.lp _ _ _ _ _ _ _ _ _ _ _ hb (Lp.next hk6 hF6 hp7)⟩
  ·go_enter Tryz.func115, Tryz.ntmps115
   go_upto_region 1 with (first
    | (go_at_call 112; refine (hrs.mono (fun e w' h => And.intro (h.1.elim (fun k => k.2) (fun k => absurd rfl k.1)) h.2 : ∀ e w', _ → (e = .returned (.tuple #[]) ∧ _))).mono ?_; rintro e w6 ⟨rfl, F6, hL6, hk6, hF6⟩))
   have q6 := hk6.cell (p := ⟨p, 0, none⟩) q1 (fun h9 => h9.elim np.1 np.2)
   clear q1 x0 x1 x2 x3
   go_wp2_with (first
    | (go_at_call 116; refine ((hrn w6 F6 hL6).mono (fun e w' h => And.intro (h.1.elim (fun k => absurd k.1 h03) (fun k => k.2)) h.2 : ∀ e w', _ → (e = .panicked (gaveS en3) ∧ _))).mono ?_; rintro e w7 ⟨rfl, hp7⟩))
   exact ⟨rfl, gs_no h03 rfl, h.lp _ _ _ _ _ _ _ _ _ _ _ hb (Lp.next hk6 hF6 hp7)⟩
 ·rw [if_pos h0]
  go_enter Tryz.func115, Tryz.ntmps115
  go_wp2_with (first
   | (go_at_call 112; refine (hrs.mono (fun e w' h => And.intro (h.1.elim (fun k => absurd k.1 h0) (fun k => k.2)) h.2 : ∀ e w', _ → (e = .panicked (gaveS en) ∧ _))).mono ?_; rintro e w6 ⟨rfl, hp6⟩))
  exact ⟨rfl, gs_no h0 rfl, h.lp _ _ _ _ _ _ _ _ _ _ _ hb hp6⟩
theorem rb5_any (h : LD w F lb d most v c0 dn k) (hp : w.heap[p]? = some (.cells #[.pointer (some ⟨lb, 0, none⟩)] 48 (0, 0))) (hst : k.steps < 1000000) (hfl : k.fs.length < 1000000) :
  Calls Tryz.prog 118 #[.pointer (some ⟨p, 0, none⟩)] w fun e w' => e = .returned (.int .i64 (renameK k sNew sBase).1) ∧ Dp w F d (renameK k sNew sBase).2 w' := by
 have hrn := rename_any d F k sNew sBase hst hfl w h.D
 have q0 := box_cell hp
 have q1 := h.c0
 unfold sNew sBase at *
 obtain ⟨P, HP⟩ : ∃ P, renameK k ⟨#[98, 97, 115, 101, 46, 110, 101, 119]⟩ ⟨#[98, 97, 115, 101]⟩ = P := ⟨_, rfl⟩
 rw [HP] at hrn ⊢
 clear HP
 go_enter Tryz.func118, Tryz.ntmps118
 go_wp2_with (first
  | (go_at_call 119; refine hrn.mono ?_; rintro e w1 ⟨rfl, hp1⟩))
 go_ret
 exact ⟨rfl, hp1⟩
end
end Go.Proofs.YtikkieaokfailaaGreatDoor

namespace Go.Proofs.YtikkieaokfailaaGreatDoor
open Go.RowKit Go.Joins
def ifRoomL (x : Nat × Ch × Bool × Dk) (r : Nat × Bool × Dk) : Nat × Ch × Bool × Dk := if x.1 = 8 then ((if r.1 ≠ 0 then r.1 else 8), x.2.1, r.2) else x
def room1 (x : Nat × Ch × Bool × Dk) : Nat × Ch × Bool × Dk := ifRoomL x (remC x.2.1 x.2.2.1 x.2.2.2)
def room2 (x : Nat × Ch × Bool × Dk) : Nat × Ch × Bool × Dk := ifRoomL x (back2 x.2.1 x.2.2.1 x.2.2.2)
def rb4L (l : Lg) (rs : List (List Int)) (c : Ch) (x : Nat × Bool × Dk) : Nat × Lg × Dk :=
 if x.1 ≠ 0 then (x.1, ⟨l.most, l.recs, l.ch, x.2.1⟩, x.2.2) else ((remC l.ch x.2.1 x.2.2).1, ⟨l.most, rs, c, (remC l.ch x.2.1 x.2.2).2.1⟩, (remC l.ch x.2.1 x.2.2).2.2)
def rb3L (l : Lg) (rs : List (List Int)) (c : Ch) (x : Nat × Bool × Dk) : Nat × Lg × Dk :=
 if x.1 ≠ 0 then (x.1, ⟨l.most, l.recs, l.ch, x.2.1⟩, x.2.2) else rb4L l rs c (stp x.2.1 x.2.2 (renameK x.2.2 sNew sBase))
def rb2L (l : Lg) (rs : List (List Int)) (x : Nat × Ch × Bool × Dk) : Nat × Lg × Dk :=
 if x.1 ≠ 0 then (x.1, ⟨l.most, l.recs, l.ch, x.2.2.1⟩, x.2.2.2) else rb3L l rs x.2.1 (stp x.2.2.1 x.2.2.2 (syncK x.2.2.2 sNew))
def rb1L (l : Lg) (rs : List (List Int)) (x : Nat × Ch × Bool × Dk) : Nat × Lg × Dk :=
 if x.1 ≠ 0 then (x.1, ⟨l.most, l.recs, l.ch, x.2.2.1⟩, x.2.2.2) else rb2L l rs (room2 (wrB x.2.1 x.2.2.1 x.2.2.2))
def rebaseL (l : Lg) (k : Dk) (rs : List (List Int)) : Nat × Lg × Dk := rb1L l rs (room1 (layAllL l.most rs ⟨l.ch.g + 1, 0, 0, false⟩ l.dn k))
section
variable (w : World) (F : Nat → Prop) (lb d most : Nat) (v : Value) (dn : Bool) (k : Dk) (b p : Nat) (c0 c : Ch)
theorem room1_any (q : Nat) (h : LC w F lb d most v dn k b 0 c0 c) (hb : b ≠ lb) (hP : Pf w F lb) (hPb : 0 < b) (hp : w.heap[p]? = some (.cells #[.pointer (some ⟨lb, 0, none⟩)] 48 (0, 0))) (np : ¬ F p ∧ p ≠ lb ∧ p ≠ b) (hg : c.g < 18446744073709551616) (hi : c.cnt ≤ 10000) (hz : c.size ≤ 1000000000) (hmo : most ≤ 1000000000)
  (a : Option Addr) (n cc : Nat) (rs : List (List Int)) (hq : w.heap[q]? = some (.cells #[.slice a n cc] 30 (0, 0))) (hR : RRd w a n rs) (hnS : RNot w a n (fun i => F i ∨ i = lb ∨ i = b)) (hn : n ≤ 10000) (hrl : ∀ r ∈ rs, r.length ≤ 1048576) (hst : k.steps + 3 * n + c.cnt < 999980) (hfl : k.fs.length + 2 * n < 999980) :
  Calls Tryz.prog 108 #[.pointer (some ⟨lb, 0, none⟩), .func (.func 109) #[] #[.pointer (some ⟨p, 0, none⟩), .pointer (some ⟨b, 0, none⟩), .pointer (some ⟨q, 0, none⟩)], .func (.func 111) #[] #[.pointer (some ⟨p, 0, none⟩), .pointer (some ⟨b, 0, none⟩)]] w fun e w' => Gs (room1 (layAllL most rs c dn k)).1 e ∧ Lcp w F lb d most v (room1 (layAllL most rs c dn k)).2.2.1 (room1 (layAllL most rs c dn k)).2.2.2 b 0 c0 (room1 (layAllL most rs c dn k)).2.1 w' := by
 obtain ⟨g1, g2, g3, g4⟩ := layAll_gr most rs c dn k
 have hlen := hR.len
 rw [hlen] at g1 g2 g4
 have h1 := attempt_C 109 #[.pointer (some ⟨p, 0, none⟩), .pointer (some ⟨b, 0, none⟩), .pointer (some ⟨q, 0, none⟩)] (layAllL most rs c dn k).1 w F lb d most v dn (layAllL most rs c dn k).2.2.1 k (layAllL most rs c dn k).2.2.2 b c0 c (layAllL most rs c dn k).2.1 h (enters_of Tryz.func109 (by kernel_rfl) rfl) (fun hL hb0 => rb1_any _ F lb d most v dn k b p c0 c q hL (hP.below hb0) hPb (box_below hp hb0) hg (by omega) hz hmo a n cc rs (box_below hq hb0) (hR.below hb0) (hnS.keep hR (Keep.ofBelow (S := fun _ => False) hb0) ⟨fun _ _ h => h, fun _ _ _ _ _ _ _ _ _ _ _ h => h⟩) hn hrl (by omega) (by omega))
 generalize layAllL most rs c dn k = x at *
 obtain ⟨e1, c1, dn1, k1⟩ := x
 dsimp only at g1 g2 g3 g4 h1
 have h2 := ifRoom_any (.pointer (some ⟨lb, 0, none⟩)) 109 111 _ #[.pointer (some ⟨p, 0, none⟩), .pointer (some ⟨b, 0, none⟩)] e1 (remC c1 dn1 k1).1 _ (fun w' => Lcp w F lb d most v (remC c1 dn1 k1).2.1 (remC c1 dn1 k1).2.2 b 0 c0 c1 w') w (enters_of Tryz.func111 (by kernel_rfl) rfl) h1 (fun _ w1 hP1 => by
  obtain ⟨F1, hL1, hk1, hF1⟩ := hP1
  have hk1' : Keep (fun i => F i ∨ i = lb ∨ i = b) w w1 := hk1
  refine (rb2_any w1 F1 lb d most v dn1 k1 b p c0 c1 hL1 hb (hP.next3 hPb hk1 hF1) (box_keep hp hk1 (fun h9 => by
   rcases h9 with h9 | h9 | h9
   ·exact np.1 h9
   ·exact np.2.1 h9
   ·exact np.2.2 h9)) (by omega) (by omega) (by omega)).mono ?_
  rintro e w2 ⟨h3, h4⟩
  exact ⟨h3, Lcp.next hk1 hF1 h4⟩)
 refine h2.mono ?_
 rintro e w' ⟨h3, h4⟩
 unfold room1 ifRoomL
 dsimp only
 by_cases h8 : e1 = 8
 ·rw [if_pos h8] at h3 h4 ⊢
  exact ⟨h3, h4⟩
 ·rw [if_neg h8] at h3 h4 ⊢
  exact ⟨h3, h4⟩
theorem room2_any (h : LC w F lb d most v dn k b 0 c0 c) (hb : b ≠ lb) (hP : Pf w F lb) (hPb : 0 < b) (hp : w.heap[p]? = some (.cells #[.pointer (some ⟨lb, 0, none⟩)] 48 (0, 0))) (np : ¬ F p ∧ p ≠ lb ∧ p ≠ b) (hpl : p < w.heap.size) (hg : c.g < 18446744073709551616) (hi : c.cnt ≤ 100000) (hst : k.steps + c.cnt < 999980) (hfl : k.fs.length < 999980) :
  Calls Tryz.prog 108 #[.pointer (some ⟨lb, 0, none⟩), .func (.func 113) #[] #[.pointer (some ⟨p, 0, none⟩), .pointer (some ⟨b, 0, none⟩)], .func (.func 115) #[] #[.pointer (some ⟨p, 0, none⟩), .pointer (some ⟨b, 0, none⟩)]] w fun e w' => Gs (room2 (wrB c dn k)).1 e ∧ Lcp w F lb d most v (room2 (wrB c dn k)).2.2.1 (room2 (wrB c dn k)).2.2.2 b 0 c0 (room2 (wrB c dn k)).2.1 w' := by
 have g1 : (wrB c dn k).2.2.2.steps ≤ k.steps + 1 := stp_gr dn k _ (app_gr k _ _).1
 have g3 : (wrB c dn k).2.1 = c := rfl
 have h1 := attempt_C 113 #[.pointer (some ⟨p, 0, none⟩), .pointer (some ⟨b, 0, none⟩)] (wrB c dn k).1 w F lb d most v dn (wrB c dn k).2.2.1 k (wrB c dn k).2.2.2 b c0 c (wrB c dn k).2.1 h (enters_of Tryz.func113 (by kernel_rfl) rfl) (fun hL hb0 => rb3_any _ F lb d most v dn k b p c0 c hL hb (box_below hp hb0) ⟨np.1, np.2.1⟩ (by omega) (by omega))
 generalize wrB c dn k = x at *
 obtain ⟨e1, c1, dn1, k1⟩ := x
 dsimp only at g1 g3 h1
 subst g3
 have h2 := ifRoom_any (.pointer (some ⟨lb, 0, none⟩)) 113 115 _ #[.pointer (some ⟨p, 0, none⟩), .pointer (some ⟨b, 0, none⟩)] e1 (back2 c1 dn1 k1).1 _ (fun w' => Lcp w F lb d most v (back2 c1 dn1 k1).2.1 (back2 c1 dn1 k1).2.2 b 0 c0 c1 w') w (enters_of Tryz.func115 (by kernel_rfl) rfl) h1 (fun _ w1 hP1 => by
  obtain ⟨F1, hL1, hk1, hF1⟩ := hP1
  refine (rb4_any w1 F1 lb d most v dn1 k1 b p c0 c1 hL1 hb (hP.next3 hPb hk1 hF1) (box_keep hp hk1 (fun h9 => by
   rcases h9 with h9 | h9 | h9
   ·exact np.1 h9
   ·exact np.2.1 h9
   ·exact np.2.2 h9)) ⟨fun h9 => (hF1 p h9).elim np.1 (fun h9 => by omega), np.2.1⟩ (by omega) (by omega) (by omega)).mono ?_
  rintro e w2 ⟨h3, h4⟩
  exact ⟨h3, Lcp.next hk1 hF1 h4⟩)
 refine h2.mono ?_
 rintro e w' ⟨h3, h4⟩
 unfold room2 ifRoomL
 dsimp only
 by_cases h8 : e1 = 8
 ·rw [if_pos h8] at h3 h4 ⊢
  exact ⟨h3, h4⟩
 ·rw [if_neg h8] at h3 h4 ⊢
  exact ⟨h3, h4⟩
end
end Go.Proofs.YtikkieaokfailaaGreatDoor
