/- Texts of one seat, one behind the other: LgT, LgY, LkA. -/
import Derived.Test.YtikkieaokfailaaGreatDoorM9
import Derived.Lib.SlBytesConst
import Derived.BigFrame
/- Opening a log: its segments are read. -/
namespace Go.Proofs.YtikkieaokfailaaGreatDoor
open Go.RowKit Go.Joins

theorem scanF_le : ∀ (f : Nat) (xs : List Int), (scanF f xs).1.length ≤ xs.length ∧ (scanF f xs).2.1 ≤ xs.length
  | 0, _ => ⟨Nat.zero_le _, Nat.zero_le _⟩
  | f + 1, xs => by
    by_cases h : xs.length = 0
    · rw [scanF_nil _ _ h]; exact ⟨Nat.zero_le _, Nat.zero_le _⟩
    · cases hr : recO xs with
      | none => rw [scanF_no h hr]; exact ⟨Nat.zero_le _, Nat.zero_le _⟩
      | some r =>
        rw [scanF_some h hr]
        obtain ⟨h1, _, _⟩ := recO_len hr
        obtain ⟨h2, h3⟩ := scanF_le f (xs.drop (8 + r.length))
        rw [List.length_drop] at h2 h3
        exact ⟨by simp; omega, by dsimp only; omega⟩

def segTot (g : Nat) (k : Dk) : Nat → Nat → Nat
  | 0, _ => 0
  | m + 1, i => (readK k (segN g (i + 1))).2.length + segTot g k m (i + 1)

/-- Segments are read up to the first form that does not fit. -/
def rdSegs : Nat → Nat → Lg → Dk → Nat × Lg × Dk
  | 0, _, l, k => (0, l, k)
  | m + 1, i, l, k =>
    if (readSegL l (i + 1) k).1 ≠ 0 then ((readSegL l (i + 1) k).1, (readSegL l (i + 1) k).2.2.1, (readSegL l (i + 1) k).2.2.2)
    else if (readSegL l (i + 1) k).2.1 then rdSegs m (i + 1) (readSegL l (i + 1) k).2.2.1 (readSegL l (i + 1) k).2.2.2
    else rdEnd i (readSegL l (i + 1) k).2.2.1 (readSegL l (i + 1) k).2.2.2
  where
  rdEnd (i : Nat) (l : Lg) (k : Dk) : Nat × Lg × Dk :=
    ((remAll (segs l.ch.g (i + 1) (l.ch.cnt - (i + 1))) l.dn k).1, ⟨l.most, l.recs, (if (remAll (segs l.ch.g (i + 1) (l.ch.cnt - (i + 1))) l.dn k).1 = 0 then { l.ch with cnt := i + 1 } else l.ch), (remAll (segs l.ch.g (i + 1) (l.ch.cnt - (i + 1))) l.dn k).2.1⟩, (remAll (segs l.ch.g (i + 1) (l.ch.cnt - (i + 1))) l.dn k).2.2)

theorem cut_gr (k : Dk) (s : Nm) (z : Int) : (cutK k s z).2.steps ≤ k.steps + 1 ∧ (cutK k s z).2.fs.length ≤ k.fs.length + 1 := by
  unfold cutK stepK
  have h1 := pass_steps k
  have h2 := pass_fs k
  split
  · exact ⟨Nat.le_succ _, Nat.le_succ _⟩
  · split
    · exact ⟨Nat.le_succ _, Nat.le_succ _⟩
    · split
      · exact ⟨Nat.le_succ _, Nat.le_succ _⟩
      · split
        · exact ⟨Nat.le_succ _, Nat.le_succ _⟩
        · split
          · exact ⟨h1, by rw [h2]; exact Nat.le_succ _⟩
          · refine ⟨h1, ?_⟩
            show (putL _ _ _).length ≤ _
            rw [← h2]
            exact len_put _ _ _
/-- What a segment's reading leaves as it was. -/
theorem readSeg_same (l : Lg) (i : Nat) (k : Dk) : (readSegL l i k).2.2.1.most = l.most ∧ (readSegL l i k).2.2.1.ch.g = l.ch.g ∧ (readSegL l i k).2.2.1.ch.cnt = l.ch.cnt ∧ (readSegL l i k).2.2.2.steps ≤ k.steps + 1 ∧ (readSegL l i k).2.2.2.fs.length ≤ k.fs.length + 1 ∧ (readSegL l i k).2.2.1.recs.length ≤ l.recs.length + (readK k (segN l.ch.g i)).2.length ∧ (l.ch.size ≤ 1000000000 → (readK k (segN l.ch.g i)).2.length ≤ 1000000000 → (readSegL l i k).2.2.1.ch.size ≤ 1000000000) ∧ ((readSegL l i k).1 = 0 → (readSegL l i k).2.1 = true → (readSegL l i k).2.2.2 = k) := by
  unfold readSegL readSegR
  obtain ⟨P, HP⟩ : ∃ P, readK k (segN l.ch.g i) = P := ⟨_, rfl⟩
  rw [HP]
  obtain ⟨h1, h2⟩ := scanF_le P.2.length P.2
  split
  · exact ⟨rfl, rfl, rfl, Nat.le_succ _, Nat.le_succ _, Nat.le_add_right _ _, fun h _ => h, fun _ h => by cases h⟩
  · split
    · exact ⟨rfl, rfl, rfl, Nat.le_succ _, Nat.le_succ _, by simp; exact h1, fun _ h => Nat.le_trans h2 h, fun _ _ => rfl⟩
    · exact ⟨rfl, rfl, rfl, stp_gr _ _ _ (cut_gr _ _ _).1, stp_fl _ _ _ (cut_gr _ _ _).2, by simp; exact h1, fun _ h => Nat.le_trans h2 h, fun _ h => by cases h⟩

set_option maxHeartbeats 4000000 in
set_option maxRecDepth 100000 in
theorem readSegs_any (w : World) (F H : Nat → Prop) (lb d : Nat) (l : Lg) (k : Dk) (h : LogAt w F H lb d l k) (ok : l.Ok) (hc : l.ch.cnt ≤ 1000) (hz : l.ch.size ≤ 1000000000) (hst : k.steps < 900000) (hfl : k.fs.length ≤ 2000) (htot : l.recs.length + segTot l.ch.g k l.ch.cnt 0 ≤ 900000) :
    Calls Tryz.prog 100 #[.pointer (some ⟨lb, 0, none⟩)] w fun e w' => Gs (rdSegs l.ch.cnt 0 l k).1 e ∧ Lgp w F H lb d (rdSegs l.ch.cnt 0 l k).2.1 (rdSegs l.ch.cnt 0 l k).2.2 w' := by
  obtain ⟨v, hLD, hRc⟩ := h.ex
  have q4 := hLD.c4
  have hg := ok.g
  have hmo := ok.most
  obtain ⟨N, HN⟩ : ∃ N, Hid (l.ch.cnt = N) := ⟨_, rfl⟩
  obtain ⟨R, HR⟩ : ∃ R, Hid (rdSegs l.ch.cnt 0 l k = R) := ⟨_, rfl⟩
  rw [HR.out]
  obtain ⟨eR, lR, kR⟩ := R
  dsimp only
  have HQ0 : Hid (rdSegs N 0 l k = (eR, lR, kR)) := by
    have h9 := HR.out
    rw [HN.out] at h9
    exact h9
  rw [HN.out] at q4 hc htot
  clear HR
  go_enter Tryz.func100, Tryz.ntmps100
  go_upto_region 1 with fail
  go_loopw [2, 8] (fun _ s8 wr => ∃ (i : Nat) (F1 H1 : Nat → Prop) (l1 : Lg), s8 = .int .i64 i ∧ i ≤ N ∧ Hid (LogAt wr F1 H1 lb d l1 k) ∧ Hid (Keep (fun i => F i ∨ H i ∨ i = lb) w wr) ∧ Hid (∀ i, F1 i → F i ∨ w.heap.size ≤ i) ∧ Hid (∀ i, H1 i → H i ∨ w.heap.size ≤ i) ∧ Hid (l1.ch.g = l.ch.g ∧ l1.ch.cnt = N ∧ l1.most = l.most ∧ l1.ch.size ≤ 1000000000) ∧ Hid (l1.recs.length + segTot l.ch.g k (N - i) i ≤ 900000) ∧ Hid (rdSegs (N - i) i l1 k = (eR, lR, kR))) (fun _ s8 _ => N - (intOf s8).toNat)
  case atStart => exact ⟨0, F, H, l, rfl, by omega, h, Keep.refl _ _, fun i hi => Or.inl hi, fun i hi => Or.inl hi, ⟨rfl, HN.out, rfl, hz⟩, htot, HQ0.out⟩
  case round =>
    clear q4 HQ0 htot hLD hRc
    obtain ⟨i, F1, H1, l1, rfl, hiN, HL, HK, HF, HH, HS, HT, HQ⟩ := hrel
    by_cases hlt : i < N
    · have hz1 : (i : Int) < (N : Int) := by omega
      have hNi : N - i = (N - (i + 1)) + 1 := by omega
      obtain ⟨m, Hm⟩ : ∃ m, Hid (N - (i + 1) = m) := ⟨_, rfl⟩
      have hT := HT.out
      rw [hNi, Hm.out] at hT
      have hT2 : l1.recs.length + ((readK k (segN l.ch.g (i + 1))).2.length + segTot l.ch.g k m (i + 1)) ≤ 900000 := hT
      have hS := HS.out
      have ok1 : l1.Ok := ⟨by rw [hS.1]; exact hg, by rw [hS.2.1]; omega, by have := hS.2.2.2; omega, by rw [hS.2.2.1]; exact hmo, by omega⟩
      have hrl : l1.recs.length + (readK k (segN l1.ch.g (i + 1))).2.length ≤ 900000 := by rw [hS.1]; omega
      have hrs := readSeg_any wr F1 H1 lb d l1 k (i + 1) HL.out ok1 (by omega) (by omega) (by omega) hrl
      have hsm := readSeg_same l1 (i + 1) k
      have hQ := HQ.out
      rw [hNi, Hm.out] at hQ
      unfold rdSegs at hQ
      rw [hS.1] at hsm
      obtain ⟨Q, HQ9⟩ : ∃ Q, Hid (readSegL l1 (i + 1) k = Q) := ⟨_, rfl⟩
      rw [HQ9.out] at hrs hsm hQ
      obtain ⟨en, bb, l2, k2⟩ := Q
      dsimp only at hrs hsm hQ
      obtain ⟨s1, s2, s3, s4, s5, s6, s7, s8⟩ := hsm
      have hi1 : ((i + 1 : Nat) : Int) = (i : Int) + 1 := by omega
      rw [hi1] at hrs
      have Hall : Hid (l2.ch.g = l.ch.g ∧ l2.ch.cnt = N ∧ l2.most = l.most ∧ l2.ch.size ≤ 1000000000) := ⟨by rw [s2], by rw [s3]; exact hS.2.1, by rw [s1]; exact hS.2.2.1, s7 hS.2.2.2 (by omega)⟩
      have HT2 : Hid (l2.recs.length + segTot l.ch.g k m (i + 1) ≤ 900000) := by show _ ≤ _; omega
      have hk2s : k2.steps ≤ 900001 := by omega
      clear HQ HT hT hT2 hrl hS HS s1 s2 s3 s6 s7
      by_cases h0 : en = 0
      · subst h0
        rw [if_neg (by simp)] at hQ
        cases bb with
        | true =>
          rw [if_pos rfl] at hQ
          have hkk := s8 rfl rfl
          subst hkk
          have HQn : Hid (rdSegs m (i + 1) l2 k2 = (eR, lR, kR)) := hQ
          clear hQ s4 s5 s8
          go_wp2_with (first
            | (go_at_call 135; refine (hrs.mono (fun e w' h => And.intro (h.1.elim (fun k => k.2) (fun k => absurd rfl k.1)) h.2 : ∀ e w', _ → (e = .returned (.bool true) ∧ _))).mono ?_; rintro e w6 ⟨rfl, F2, H2, hL2, hk2, hF2, hH2⟩))
          have hsw := HK.out.size
          refine ⟨⟨i + 1, F2, H2, l2, by go_num, by omega, hL2, HK.out.andThen hk2 (fun q hq hs => ?_), fun q hq => (hF2 q hq).elim (HF.out q) (fun h9 => Or.inr (Nat.le_trans hsw h9)), fun q hq => (hH2 q hq).elim (HH.out q) (fun h9 => Or.inr (Nat.le_trans hsw h9)), Hall.out, ?_, ?_⟩, by simp [intOf]; omega⟩
          · rcases hs with hs | hs | hs
            · rcases HF.out q hs with h9 | h9
              · exact Or.inl h9
              · omega
            · rcases HH.out q hs with h9 | h9
              · exact Or.inr (Or.inl h9)
              · omega
            · exact Or.inr (Or.inr hs)
          · show _ + segTot l.ch.g k2 (N - (i + 1)) (i + 1) ≤ 900000
            rw [Hm.out]; exact HT2.out
          · show rdSegs (N - (i + 1)) (i + 1) l2 k2 = _
            rw [Hm.out]; exact HQn.out
        | false =>
          rw [if_neg (by simp)] at hQ
          have HQn : Hid (rdSegs.rdEnd i l2 k2 = (eR, lR, kR)) := hQ
          clear hQ s8
          have hAl := Hall.out
          have hpu := fun F9 w9 v9 (h9 : LD w9 F9 lb d l2.most v9 l2.ch l2.dn k2) hP9 => remSegs_any w9 F9 lb d l2.most v9 l2.ch l2.dn k2 l2.ch (i + 1) h9 hP9 (by rw [hAl.1]; exact hg) (by rw [hAl.2.1]; omega) (by rw [hAl.2.1]; omega)
          unfold rdSegs.rdEnd at HQn
          obtain ⟨P, HP9⟩ : ∃ P, Hid (remAll (segs l2.ch.g (i + 1) (l2.ch.cnt - (i + 1))) l2.dn k2 = P) := ⟨_, rfl⟩
          simp only [HP9.out] at hpu
          have hQ9 := HQn.out
          rw [HP9.out] at hQ9
          obtain ⟨e9, dn9, k9⟩ := P
          dsimp only at hpu hQ9
          simp only [Prod.mk.injEq] at hQ9
          have HG : Hid (e9 = eR ∧ (⟨l2.most, l2.recs, (if e9 = 0 then { l2.ch with cnt := i + 1 } else l2.ch), dn9⟩ : Lg) = lR ∧ k9 = kR) := hQ9
          clear hQ9
          have hi2 : ((i + 1 + 1 : Nat) : Int) = (i : Int) + 2 := by omega
          have hch : chs l2.ch = #[.int .u64 (l2.ch.g : Int), .int .i64 (l2.ch.cnt : Int), .int .i64 (l2.ch.size : Int), .bool l2.ch.loose] := rfl
          rw [hi2, hch] at hpu
          clear HQn hAl
          go_upto_region 4 with (first
            | (go_at_call 135; refine (hrs.mono (fun e w' h => And.intro (h.1.elim (fun k => k.2) (fun k => absurd rfl k.1)) h.2 : ∀ e w', _ → (e = .returned (.bool false) ∧ _))).mono ?_; rintro e w6 ⟨rfl, F2, H2, hL2, hk2, hF2, hH2⟩))
          obtain ⟨v6, hLD6, hRc6⟩ := hL2.ex
          have y3 := hLD6.c3
          have y4 := hLD6.c4
          have y5 := hLD6.c5
          have y6 := hLD6.c6
          have hrem := hpu F2 w6 v6 hLD6 hL2.pf
          have hdone : ∀ w7, Lp w6 F2 lb d l2.most v6 l2.ch dn9 k9 w7 → Lgp w F H lb d ⟨l2.most, l2.recs, l2.ch, dn9⟩ k9 w7 := fun w7 hp =>
            Lgp.next HK.out HF.out HH.out (Lgp.next hk2 hF2 hH2 (LogAt.stepd hL2 hRc6 hp))
          by_cases h0 : e9 = 0
          · subst h0
            obtain ⟨g1, g2, g3⟩ := HG.out
            rw [if_pos rfl] at g2
            subst eR lR kR
            clear HG
            go_upto_region 5 with (first
              | (go_at_call 112; refine (hrem.mono (fun e w' h => And.intro (h.1.elim (fun k => k.2) (fun k => absurd rfl k.1)) h.2 : ∀ e w', _ → (e = .returned (.tuple #[]) ∧ _))).mono ?_; rintro e w7 ⟨rfl, hp⟩))
            obtain ⟨F7, H7, hA7, hk7, hF7, hH7⟩ := hdone w7 hp
            obtain ⟨v7, hL7, hR7⟩ := hA7.ex
            dsimp only at hL7 hR7
            have x4 := hL7.c4
            have z4 := hL7.fz 4
            have hkS : Keep (fun i => i = lb) w7 (w7.setCell ⟨lb, 4, none⟩ (.int .i64 ((i : Int) + 1))) := (Keep.refl (fun i => i = lb) w7).setCell (p := ⟨lb, 4, none⟩) rfl _
            have hL8 : LD (w7.setCell ⟨lb, 4, none⟩ (.int .i64 ((i : Int) + 1))) F7 lb d l2.most v7 { l2.ch with cnt := i + 1 } dn9 k9 := hL7.set 4 _ rfl
            have hR8 := hR7.keep (H' := H7) hkS (fun j hj e => hA7.hl (by rw [← e]; exact hj)) (fun _ h => h)
            go_wp2
            refine bodyPost_ret (results_none Tryz.results100 _ _ _) rfl ?_
            exact ⟨Or.inl ⟨rfl, rfl⟩, F7, H7, ⟨⟨v7, hL8, hR8⟩, hA7.hf, hA7.hl, fun j hj => Nat.lt_of_lt_of_le (hA7.lt j hj) hkS.size, ⟨hA7.pf.pw.keep hkS (by have := hA7.pf.ll; omega), hA7.pf.fl, hA7.pf.ll⟩, hA7.ph⟩, hk7.trans (hkS.mono (fun j e => Or.inr (Or.inr e))), hF7, hH7⟩
          · obtain ⟨g1, g2, g3⟩ := HG.out
            rw [if_neg h0] at g2
            subst eR lR kR
            clear HG
            go_wp2_with (first
              | (go_at_call 112; refine (hrem.mono (fun e w' h => And.intro (h.1.elim (fun k => absurd k.1 h0) (fun k => k.2)) h.2 : ∀ e w', _ → (e = .panicked (gaveS e9) ∧ _))).mono ?_; rintro e w7 ⟨rfl, hp⟩))
            exact ⟨rfl, gs_no h0 rfl, hdone w7 hp⟩
      · rw [if_pos h0] at hQ
        simp only [Prod.mk.injEq] at hQ
        obtain ⟨e1, e2, e3⟩ := hQ
        subst eR lR kR
        go_wp2_with (first
          | (go_at_call 135; refine (hrs.mono (fun e w' h => And.intro (h.1.elim (fun k => absurd k.1 h0) (fun k => k.2)) h.2 : ∀ e w', _ → (e = .panicked (gaveS en) ∧ _))).mono ?_; rintro e w6 ⟨rfl, hp⟩))
        exact ⟨rfl, gs_no h0 rfl, Lgp.next HK.out HF.out HH.out hp⟩
    · obtain rfl : i = N := by omega
      have hz1 : ¬ (i : Int) < (i : Int) := by omega
      have hQ := HQ.out
      rw [Nat.sub_self] at hQ
      have hQ2 : (0, l1, k) = (eR, lR, kR) := hQ
      simp only [Prod.mk.injEq] at hQ2
      obtain ⟨e1, e2, e3⟩ := hQ2
      subst eR lR kR
      clear hQ HQ
      go_wp2
      go_end0
      exact ⟨Or.inl ⟨rfl, rfl⟩, F1, H1, HL.out, HK.out, HF.out, HH.out⟩

end Go.Proofs.YtikkieaokfailaaGreatDoor

/- Opening a log. -/
namespace Go.Proofs.YtikkieaokfailaaGreatDoor
open Go.RowKit Go.Joins

theorem cntF_le (ns : List Nm) (g : Nat) : ∀ f i, cntF ns g f i ≤ i + f
  | 0, i => Nat.le_refl _
  | f + 1, i => by
    unfold cntF
    split
    · have := cntF_le ns g f (i + 1); omega
    · omega
theorem cntN_le (ns : List Nm) (g : Nat) : cntN ns g ≤ ns.length := by have := cntF_le ns g ns.length 0; unfold cntN; omega
theorem list_len (k : Dk) : (listK k).2.length ≤ k.fs.length := by
  unfold listK
  split
  · exact Nat.zero_le _
  · rw [List.length_map]; exact Nat.le_refl _
theorem used_drop_le (l : Fls) (s : Nm) : used (dropL l s) ≤ used l := by
  induction l with
  | nil => exact Nat.le_refl _
  | cons p r ih =>
    obtain ⟨n, f⟩ := p
    unfold dropL
    split
    · simp only [used]; omega
    · simp only [used]; omega
theorem remove_used (k : Dk) (s : Nm) : used (removeK k s).2.fs ≤ used k.fs := by
  unfold removeK stepK
  have h2 := pass_fs k
  split
  · exact Nat.le_refl _
  · split
    · exact Nat.le_refl _
    · split
      · exact Nat.le_refl _
      · split
        · exact Nat.le_refl _
        · split
          · rw [h2]; exact Nat.le_refl _
          · show used (dropL _ _) ≤ _
            rw [h2]
            exact used_drop_le _ _
theorem remAll_used : ∀ (l : List Nm) (dn : Bool) (k : Dk), used (remAll l dn k).2.2.fs ≤ used k.fs
  | [], _, _ => Nat.le_refl _
  | s :: r, dn, k => by
    have h1 : used (stp dn k (removeK k s)).2.2.fs ≤ used k.fs := by
      unfold stp
      cases dn
      · exact remove_used k s
      · exact Nat.le_refl _
    unfold remAll
    split
    · exact h1
    · exact Nat.le_trans (remAll_used r _ _) h1
theorem sum_used : ∀ (L : List Nm) (l : Fls), Rise l → L.Nodup → (L.map fun s => lenO (look l s)).sum ≤ used l
  | [], _, _, _ => Nat.zero_le _
  | s :: r, l, hr, hn => by
    have hn' := List.pairwise_cons.1 hn
    have h1 := used_drop l hr s
    have h2 := sum_used r (dropL l s) (rise_drop hr s) hn'.2
    have h3 : (r.map fun t => lenO (look l t)) = r.map fun t => lenO (look (dropL l s) t) := by
      apply List.map_congr_left
      intro t ht
      rw [look_drop, if_neg (fun e => hn'.1 t ht e.symm)]
    simp only [List.map_cons, List.sum_cons]
    rw [h3]
    omega
theorem read_lenO (k : Dk) (s : Nm) : (readK k s).2.length ≤ lenO (look k.fs s) := by
  rcases readK_cases' k s with ⟨f, hl, e⟩ | e
  · rw [e, hl]; exact Nat.le_refl _
  · rw [e]; exact Nat.zero_le _
theorem segTot_sum (g : Nat) (k : Dk) : ∀ m i, segTot g k m i ≤ ((segs g i m).map fun s => lenO (look k.fs s)).sum
  | 0, _ => Nat.zero_le _
  | m + 1, i => by
    rw [segs_cons]
    simp only [List.map_cons, List.sum_cons]
    have h1 := read_lenO k (segN g (i + 1))
    have h2 := segTot_sum g k m (i + 1)
    show (readK k (segN g (i + 1))).2.length + segTot g k m (i + 1) ≤ _
    omega
theorem segTot_used (g : Nat) (k : Dk) (hr : Rise k.fs) (m i : Nat) : segTot g k m i ≤ used k.fs := Nat.le_trans (segTot_sum g k m i) (sum_used _ _ hr (segs_nodup g i m))

/-- What the reading of segments leaves. -/
theorem rd_gr : ∀ (m i : Nat) (l : Lg) (k : Dk), (rdSegs m i l k).2.1.ch.g = l.ch.g ∧ (rdSegs m i l k).2.1.most = l.most ∧ (rdSegs m i l k).2.1.ch.cnt ≤ max l.ch.cnt (i + m) ∧ (rdSegs m i l k).2.2.steps ≤ k.steps + m + l.ch.cnt ∧ (rdSegs m i l k).2.2.fs.length ≤ k.fs.length + m
  | 0, i, l, k => ⟨rfl, rfl, Nat.le_max_left _ _, Nat.le_add_right _ _, Nat.le_refl _⟩
  | m + 1, i, l, k => by
    obtain ⟨s1, s2, s3, s4, s5, _⟩ := readSeg_same l (i + 1) k
    unfold rdSegs
    split
    · exact ⟨s2, s1, by rw [s3]; exact Nat.le_max_left _ _, by dsimp only; omega, by dsimp only; omega⟩
    · split
      · obtain ⟨h1, h2, h3, h4, h5⟩ := rd_gr m (i + 1) (readSegL l (i + 1) k).2.2.1 (readSegL l (i + 1) k).2.2.2
        rw [s2] at h1
        rw [s1] at h2
        rw [s3] at h3 h4
        exact ⟨h1, h2, by omega, by omega, by omega⟩
      · unfold rdSegs.rdEnd
        obtain ⟨h1, h2⟩ := remAll_gr (segs (readSegL l (i + 1) k).2.2.1.ch.g (i + 1) ((readSegL l (i + 1) k).2.2.1.ch.cnt - (i + 1))) (readSegL l (i + 1) k).2.2.1.dn (readSegL l (i + 1) k).2.2.2
        rw [segs_len] at h1
        refine ⟨?_, s1, ?_, ?_, ?_⟩
        · dsimp only; split <;> exact s2
        · dsimp only; split
          · dsimp only; omega
          · rw [s3]; exact Nat.le_max_left _ _
        · dsimp only; omega
        · dsimp only; omega

def ch0 : Ch := ⟨0, 0, 0, false⟩
def lg0 (most : Nat) : Lg := ⟨most, [], ch0, false⟩
/-- What is opened: the error's number, the log, the disk. -/
def openR (most : Nat) (b : Nat × Nat) (k : Dk) : Nat × Lg × Dk :=
  if b.1 ≠ 0 then (b.1, lg0 most, k) else openC most (cleanL ⟨b.2, 0, 0, false⟩ false k)
  where
  openC (most : Nat) (q : Nat × Ch × Bool × Dk) : Nat × Lg × Dk :=
    if q.1 ≠ 0 then (q.1, ⟨most, [], q.2.1, q.2.2.1⟩, q.2.2.2) else openD (rdSegs q.2.1.cnt 0 ⟨most, [], q.2.1, q.2.2.1⟩ q.2.2.2)
  openD (r : Nat × Lg × Dk) : Nat × Lg × Dk :=
    if r.1 ≠ 0 then r else commitL ⟨r.2.1.most, r.2.1.recs, { r.2.1.ch with loose := decide (0 < r.2.1.ch.cnt) }, r.2.1.dn⟩ r.2.2
def openL (most : Nat) (k : Dk) : Nat × Lg × Dk := openR most (baseR (readK k sBase)) k

theorem baseR_lt (r : Nat × List Int) (hb : Bd r.2) : (baseR r).2 < 18446744073709551616 := by
  have h0 : (0 : Nat) < 18446744073709551616 := by decide
  have h1 : (1 : Nat) < 18446744073709551616 := by decide
  unfold baseR
  split
  · exact h1
  · split
    · exact h0
    · split
      · exact h0
      · split
        · exact numL_lt8 (hb.take 8) (by rw [List.length_take]; omega)
        · exact h0

/-- Steps of the disk at the log's own chain leave a log. -/
theorem LogAt.stepc {w w' : World} {F H : Nat → Prop} {lb d : Nat} {l : Lg} {k k' : Dk} {v : Value} {c' : Ch} {dn' : Bool} (h : LogAt w F H lb d l k) (hRc : RcA w H v l.recs) (hp : Lp w F lb d l.most v c' dn' k' w') : Lgp w F H lb d ⟨l.most, l.recs, c', dn'⟩ k' w' := by
  obtain ⟨F', h1, h2, h3⟩ := hp
  refine ⟨F', H, ⟨⟨v, h1, hRc.keep h2 (fun i hi hs => hs.elim (h.hf i hi) (fun e => h.hl (by rw [← e]; exact hi))) (fun _ h => h)⟩, fun i hi hf => ?_, h.hl, fun i hi => Nat.lt_of_lt_of_le (h.lt i hi) h2.size, h.pf.next h2 h3, h.ph⟩, h2.mono (fun i hi => hi.elim Or.inl (fun h => Or.inr (Or.inr h))), h3, fun i hi => Or.inl hi⟩
  rcases h3 i hf with h4 | h4
  · exact h.hf i hi h4
  · have := h.lt i hi; omega
theorem Lcp.own {w w' : World} {F : Nat → Prop} {lb d most : Nat} {v : Value} {dn : Bool} {k : Dk} {off : Nat} {c0 c : Ch} (hp : Lcp w F lb d most v dn k lb off c0 c w') : Lp w F lb d most v c dn k w' := by
  obtain ⟨F', h1, h2, h3⟩ := hp
  have hL := h1.L
  rw [if_pos rfl] at hL
  exact ⟨F', hL, h2.mono (fun i hi => hi.elim Or.inl (fun h => Or.inr (h.elim id id))), h3⟩
/-- A cell of the log is written. -/
theorem LogAt.put {w : World} {F H : Nat → Prop} {lb d : Nat} {l : Lg} {k : Dk} {v : Value} (h : LogAt w F H lb d l k) (hLD : LD w F lb d l.most v l.ch l.dn k) (hRc : RcA w H v l.recs) (j : Nat) (u : Value) {c' : Ch} (e : (lcs d l.most v l.ch l.dn).setIfInBounds j u = lcs d l.most v c' l.dn) : LogAt (w.setCell ⟨lb, j, none⟩ u) F H lb d ⟨l.most, l.recs, c', l.dn⟩ k ∧ LD (w.setCell ⟨lb, j, none⟩ u) F lb d l.most v c' l.dn k ∧ RcA (w.setCell ⟨lb, j, none⟩ u) H v l.recs ∧ Keep (fun i => F i ∨ H i ∨ i = lb) w (w.setCell ⟨lb, j, none⟩ u) := by
  have hkS : Keep (fun i => i = lb) w (w.setCell ⟨lb, j, none⟩ u) := (Keep.refl (fun i => i = lb) w).setCell (p := ⟨lb, j, none⟩) rfl _
  have h1 := hLD.set j u e
  have h2 := hRc.keep (H' := H) hkS (fun i hi e => h.hl (by rw [← e]; exact hi)) (fun _ h => h)
  exact ⟨⟨⟨v, h1, h2⟩, h.hf, h.hl, fun i hi => Nat.lt_of_lt_of_le (h.lt i hi) hkS.size, ⟨h.pf.pw.keep hkS (by have := h.pf.ll; omega), h.pf.fl, h.pf.ll⟩, h.ph⟩, h1, h2, hkS.mono (fun i e => Or.inr (Or.inr e))⟩

set_option maxHeartbeats 4000000 in
set_option maxRecDepth 100000 in
theorem open_any (w : World) (F : Nat → Prop) (lb d most : Nat) (k : Dk) (hmo : most ≤ 1000000000000) (h : LogAt w F (fun _ => False) lb d (lg0 most) k) (hfl : k.fs.length ≤ 1000) (hst : k.steps < 800000) (hu : used k.fs ≤ 900000) :
    Calls Tryz.prog 61 #[.pointer (some ⟨lb, 0, none⟩)] w fun e w' => Gs (openL most k).1 e ∧ Lgp w F (fun _ => False) lb d (openL most k).2.1 (openL most k).2.2 w' := by
  obtain ⟨v, hLD, hRc⟩ := h.ex
  have hba := base_any w F lb d most v ch0 false k hLD
  have hbd : Bd (readK k sBase).2 := by
    rcases readK_cases' k sBase with ⟨f, hl, e⟩ | e
    · rw [e]; dsimp only; exact (look_good hLD.D.good hl).2.2
    · rw [e]; exact Bd.nil
  have hblt := baseR_lt _ hbd
  unfold openL
  obtain ⟨B, HB⟩ : ∃ B, Hid (baseR (readK k sBase) = B) := ⟨_, rfl⟩
  rw [HB.out] at hba hblt ⊢
  obtain ⟨eb, g⟩ := B
  dsimp only at hblt
  obtain ⟨R, HR⟩ : ∃ R, Hid (openR most (eb, g) k = R) := ⟨_, rfl⟩
  rw [HR.out]
  obtain ⟨eR, lR, kR⟩ := R
  dsimp only
  by_cases h0 : eb = 0
  · subst h0
    have hba' := hba.mono (fun e w' h => And.intro (h.1.elim (fun k => k.2) (fun k => absurd rfl k.1)) h.2 : ∀ e w', _ → (e = .returned (.int .u64 (g : Int)) ∧ _))
    clear hba
    have HR2 : Hid (openR.openC most (cleanL ⟨g, 0, 0, false⟩ false k) = (eR, lR, kR)) := by
      have h9 := HR.out
      unfold openR at h9
      rw [if_neg (by simp)] at h9
      exact h9
    clear HR
    have hcl := fun w' F' (h' : LD w' F' lb d most v ⟨g, 0, 0, false⟩ false k) hP' => clean_any w' F' lb d most v ⟨g, 0, 0, false⟩ false k h' hP' hblt hfl (by omega)
    have hccl : (cleanL ⟨g, 0, 0, false⟩ false k).2.1.g = g ∧ (cleanL ⟨g, 0, 0, false⟩ false k).2.1.cnt ≤ 1000 ∧ (cleanL ⟨g, 0, 0, false⟩ false k).2.1.size = 0 ∧ (cleanL ⟨g, 0, 0, false⟩ false k).2.2.2.steps ≤ k.steps + 1000 ∧ (cleanL ⟨g, 0, 0, false⟩ false k).2.2.2.fs.length ≤ k.fs.length ∧ used (cleanL ⟨g, 0, 0, false⟩ false k).2.2.2.fs ≤ used k.fs := by
      unfold cleanL
      split
      · exact ⟨rfl, Nat.zero_le _, rfl, Nat.le_add_right _ _, Nat.le_refl _, Nat.le_refl _⟩
      · dsimp only
        have h1 := cntN_le (listK k).2 g
        have h2 := list_len k
        obtain ⟨h3, h4⟩ := remAll_gr ((listK k).2.filter (left g (cntN (listK k).2 g))) false k
        have h5 := List.length_filter_le (left g (cntN (listK k).2 g)) (listK k).2
        exact ⟨rfl, by omega, rfl, by omega, h4, remAll_used _ _ _⟩
    obtain ⟨Q, HQ⟩ : ∃ Q, Hid (cleanL ⟨g, 0, 0, false⟩ false k = Q) := ⟨_, rfl⟩
    simp only [HQ.out] at hcl
    rw [HQ.out] at hccl HR2
    obtain ⟨eq, cq, dnq, kq⟩ := Q
    dsimp only at hcl hccl
    obtain ⟨c1, c2, c3, c4, c5, c6⟩ := hccl
    have q3 : w.cell? ⟨lb, 3, none⟩ = some (.int .u64 0) := hLD.c3
    have z3 := hLD.fz 3
    go_enter Tryz.func61, Tryz.ntmps61
    go_upto_region 1 with (first
      | (go_at_call 98; refine hba'.mono ?_; rintro e w1 ⟨rfl, hb1⟩; have q31 := (hLD.below hb1).c3; have z31 := (hLD.below hb1).fz 3))
    obtain ⟨hA2, hL2, hR2, hk2⟩ := (h.below hb1).put (hLD.below hb1) (hRc.keep (S := fun _ => False) (H' := fun _ => False) (Keep.ofBelow hb1) (fun _ _ h => h) (fun _ h => h)) 3 (.int .u64 (g : Int)) (c' := ⟨g, 0, 0, false⟩) rfl
    have kp2 := (Keep.ofBelow (S := fun i => F i ∨ False ∨ i = lb) hb1).trans hk2
    have hcl2 := hcl _ F hL2 hA2.pf
    clear q3 z3 q31 z31 hcl hLD hRc hba'
    generalize w1.setCell ⟨lb, 3, none⟩ (.int .u64 (g : Int)) = w2 at *
    by_cases hq0 : eq = 0
    · subst hq0
      have HR3 : Hid (openR.openD (rdSegs cq.cnt 0 ⟨most, [], cq, dnq⟩ kq) = (eR, lR, kR)) := by
        have h9 := HR2.out
        unfold openR.openC at h9
        rw [if_neg (by simp)] at h9
        exact h9
      clear HR2
      go_upto_region 2 with (first
        | (go_at_call 99; refine (hcl2.mono (fun e w' h => And.intro (h.1.elim (fun k => k.2) (fun k => absurd rfl k.1)) h.2 : ∀ e w', _ → (e = .returned (.tuple #[]) ∧ _))).mono ?_; rintro e w3 ⟨rfl, hp3⟩))
      obtain ⟨F3, H3, hA3, hk3, hF3, hH3⟩ := hA2.stepc hR2 hp3
      obtain ⟨v3, hL3, hR3⟩ := hA3.ex
      have hgood := hL3.D.good
      have hto : (⟨most, [], cq, dnq⟩ : Lg).recs.length + segTot cq.g kq cq.cnt 0 ≤ 900000 := by
        have := segTot_used cq.g kq hgood.rise cq.cnt 0
        show 0 + _ ≤ _
        omega
      have hrs := readSegs_any w3 F3 H3 lb d ⟨most, [], cq, dnq⟩ kq hA3 ⟨by show cq.g < _; rw [c1]; exact hblt, by show cq.cnt ≤ _; omega, by show cq.size ≤ _; omega, hmo, Nat.zero_le _⟩ c2 (by dsimp only; omega) (by omega) (by omega) hto
      have hgr := rd_gr cq.cnt 0 ⟨most, [], cq, dnq⟩ kq
      have kp3 : Keep (fun i => F i ∨ False ∨ i = lb) w w3 := kp2.trans hk3
      have hsw2 := kp2.size
      have hF30 : ∀ i, F3 i → F i ∨ w.heap.size ≤ i := fun i hi => (hF3 i hi).imp id (fun h9 => Nat.le_trans hsw2 h9)
      have hH30 : ∀ i, H3 i → False ∨ w.heap.size ≤ i := fun i hi => (hH3 i hi).imp id (fun h9 => Nat.le_trans hsw2 h9)
      dsimp only at hrs hgr
      obtain ⟨P, HP⟩ : ∃ P, Hid (rdSegs cq.cnt 0 ⟨most, [], cq, dnq⟩ kq = P) := ⟨_, rfl⟩
      rw [HP.out] at hrs hgr HR3
      obtain ⟨er, lr, kr⟩ := P
      dsimp only at hrs hgr
      obtain ⟨g1, g2, g3, g4, g5⟩ := hgr
      clear hcl2 hA2 hL2 hR2 hk2 kp2 hp3 hk3 hF3 hH3 hto hgood hL3 hR3 hA3
      by_cases hr0 : er = 0
      · subst hr0
        have HR4 : Hid (commitL ⟨lr.most, lr.recs, { lr.ch with loose := decide (0 < lr.ch.cnt) }, lr.dn⟩ kr = (eR, lR, kR)) := by
          have h9 := HR3.out
          unfold openR.openD at h9
          rw [if_neg (by simp)] at h9
          exact h9
        clear HR3
        go_upto_region 3 with (first
          | (go_at_call 100; refine (hrs.mono (fun e w' h => And.intro (h.1.elim (fun k => k.2) (fun k => absurd rfl k.1)) h.2 : ∀ e w', _ → (e = .returned (.tuple #[]) ∧ _))).mono ?_; rintro e w4 ⟨rfl, F4, H4, hA4, hk4, hF4, hH4⟩))
        obtain ⟨v4, hL4, hR4⟩ := hA4.ex
        have p4 := hL4.c4
        have p6 := hL4.c6
        have z6 := hL4.fz 6
        obtain ⟨bo, Hbo⟩ : ∃ bo, Hid (decide (0 < lr.ch.cnt) = bo) := ⟨_, rfl⟩
        have hbo : decide ((0 : Int) < (lr.ch.cnt : Int)) = bo := by
          rw [← Hbo.out]
          by_cases h9 : 0 < lr.ch.cnt
          · rw [decide_eq_true h9]; exact decide_eq_true (by omega)
          · rw [decide_eq_false h9]; exact decide_eq_false (by omega)
        have hbo2 := Hbo.out
        obtain ⟨hA5, hL5, hR5, hk5⟩ := hA4.put hL4 hR4 6 (.bool bo) (c' := { lr.ch with loose := bo }) rfl
        have hse := settle_any (w4.setCell ⟨lb, 6, none⟩ (.bool bo)) F4 lb d lr.most v4 lr.dn kr lb 3 { lr.ch with loose := bo } { lr.ch with loose := bo } ⟨by rw [if_pos rfl]; exact hL5, fun _ => rfl, fun e => absurd rfl e⟩ hA5.pf (by show lr.ch.g < _; rw [g1, c1]; exact hblt) (by show lr.ch.cnt ≤ _; omega) (by omega) (by omega)
        have h9 := HR4.out
        unfold commitL at h9
        rw [Hbo.out] at h9
        dsimp only at h9
        obtain ⟨T, HT⟩ : ∃ T, Hid (settleL { lr.ch with loose := bo } lr.dn kr = T) := ⟨_, rfl⟩
        rw [HT.out] at hse h9
        obtain ⟨es, cs, dns, ks⟩ := T
        dsimp only at hse h9
        simp only [Prod.mk.injEq] at h9
        obtain ⟨e1, e2, e3⟩ := h9
        subst eR lR kR
        clear HR4
        have hdone : ∀ w7, Lcp (w4.setCell ⟨lb, 6, none⟩ (.bool bo)) F4 lb d lr.most v4 dns ks lb 3 { lr.ch with loose := bo } cs w7 → Lgp w F (fun _ => False) lb d ⟨lr.most, lr.recs, cs, dns⟩ ks w7 := fun w7 hp =>
          Lgp.next kp3 hF30 hH30 (Lgp.next hk4 hF4 hH4 (Lgp.next hk5 (fun i hi => Or.inl hi) (fun i hi => Or.inl hi) (hA5.stepc hR5 hp.own)))
        by_cases hs0 : es = 0
        · subst hs0
          go_wp2_with (first
            | (go_at_call 68; refine (hse.mono (fun e w' h => And.intro (h.1.elim (fun k => k.2) (fun k => absurd rfl k.1)) h.2 : ∀ e w', _ → (e = .returned (.tuple #[]) ∧ _))).mono ?_; rintro e w6 ⟨rfl, hp6⟩))
          go_end0
          exact ⟨Or.inl ⟨rfl, rfl⟩, hdone w6 hp6⟩
        · go_wp2_with (first
            | (go_at_call 68; refine (hse.mono (fun e w' h => And.intro (h.1.elim (fun k => absurd k.1 hs0) (fun k => k.2)) h.2 : ∀ e w', _ → (e = .panicked (gaveS es) ∧ _))).mono ?_; rintro e w6 ⟨rfl, hp6⟩))
          exact ⟨rfl, gs_no hs0 rfl, hdone w6 hp6⟩
      · have h9 := HR3.out
        unfold openR.openD at h9
        rw [if_pos hr0] at h9
        simp only [Prod.mk.injEq] at h9
        obtain ⟨e1, e2, e3⟩ := h9
        subst eR lR kR
        clear HR3
        go_wp2_with (first
          | (go_at_call 100; refine (hrs.mono (fun e w' h => And.intro (h.1.elim (fun k => absurd k.1 hr0) (fun k => k.2)) h.2 : ∀ e w', _ → (e = .panicked (gaveS er) ∧ _))).mono ?_; rintro e w4 ⟨rfl, hp4⟩))
        exact ⟨rfl, gs_no hr0 rfl, Lgp.next kp3 hF30 hH30 hp4⟩
    · have h9 := HR2.out
      unfold openR.openC at h9
      rw [if_pos hq0] at h9
      simp only [Prod.mk.injEq] at h9
      obtain ⟨e1, e2, e3⟩ := h9
      subst eR lR kR
      clear HR2
      go_wp2_with (first
        | (go_at_call 99; refine (hcl2.mono (fun e w' h => And.intro (h.1.elim (fun k => absurd k.1 hq0) (fun k => k.2)) h.2 : ∀ e w', _ → (e = .panicked (gaveS eq) ∧ _))).mono ?_; rintro e w3 ⟨rfl, hp3⟩))
      exact ⟨rfl, gs_no hq0 rfl, Lgp.next kp2 (fun i hi => Or.inl hi) (fun i hi => Or.inl hi) (hA2.stepc hR2 hp3)⟩
  · have hba' := hba.mono (fun e w' h => And.intro (h.1.elim (fun k => absurd k.1 h0) (fun k => k.2)) h.2 : ∀ e w', _ → (e = .panicked (gaveS eb) ∧ _))
    clear hba
    have h9 := HR.out
    unfold openR at h9
    rw [if_pos h0] at h9
    simp only [Prod.mk.injEq] at h9
    obtain ⟨e1, e2, e3⟩ := h9
    subst eR lR kR
    clear HR
    go_enter Tryz.func61, Tryz.ntmps61
    go_wp2_with (go_at_call 98; refine hba'.mono ?_; rintro e w1 ⟨rfl, hb1⟩)
    exact ⟨rfl, gs_no h0 rfl, Lgp.from hb1 (Lgp.refl (h.below hb1))⟩

end Go.Proofs.YtikkieaokfailaaGreatDoor

/- seglog's Open. -/
namespace Go.Proofs.YtikkieaokfailaaGreatDoor
open Go.RowKit Go.Joins

theorem sopen_bad (d most : Int) (p : Value) (hp : p = .pointer (some ⟨d.toNat, 0, none⟩)) (h : most < 16 ∨ 1048576 < most) (w : World) : Calls Tryz.prog 20 #[p, .int .i64 most] w fun e w' => e = .returned (.tuple #[.pointer none, .int .i64 1]) ∧ w' = w := by
  subst hp
  by_cases h1 : most < 16
  · clear h
    go_enter Tryz.func20, Tryz.ntmps20
    go_wp2
    go_ret2
    exact ⟨rfl, rfl⟩
  · have h2 : 1048576 < most := by omega
    clear h
    go_enter Tryz.func20, Tryz.ntmps20
    go_wp2
    go_ret2
    exact ⟨rfl, rfl⟩

/-- What Open leaves. -/
structure Opened (w w' : World) (F : Nat → Prop) (d : Nat) (r : Nat × Lg × Dk) (e : Ending) : Prop where
  no : r.1 ≠ 0 → e = .returned (.tuple #[.pointer none, .int .i64 (r.1 : Int)]) ∧ Dp w F d r.2.2 w'
  yes : r.1 = 0 → ∃ lb, e = .returned (.tuple #[.pointer (some ⟨lb, 0, none⟩), .int .i64 0]) ∧ w.heap.size ≤ lb ∧ ∃ F' H', LogAt w' F' H' lb d r.2.1 r.2.2 ∧ Keep F w w' ∧ (∀ i, F' i → F i ∨ w.heap.size ≤ i) ∧ (∀ i, H' i → w.heap.size ≤ i)

set_option maxHeartbeats 2000000 in
theorem sopen_any (w : World) (F : Nat → Prop) (d most : Nat) (k : Dk) (h1 : 16 ≤ most) (h2 : most ≤ 1048576) (hD : DiskAt w F d k) (hP : Pw w) (hFP : ∀ i, F i → 0 < i) (hfl : k.fs.length ≤ 1000) (hst : k.steps < 800000) (hu : used k.fs ≤ 900000) :
    Calls Tryz.prog 20 #[.pointer (some ⟨d, 0, none⟩), .int .i64 (most : Int)] w fun e w' => Opened w w' F d (openL most k) e := by
  have hmf : ∀ (fn : Fn) (first cap : Array Value) (w : World), (Instr.makeFunc fn first cap).run Tryz.prog w = .ok (.func fn first cap) w := fun _ _ _ _ => rfl
  have hlt := hD.lt
  have hpl := hP.at
  obtain ⟨W, hW⟩ : ∃ W, w.alloc (.cells (lcs d most (.slice none 0 0) ch0 false) 119) = W := ⟨_, rfl⟩
  have hB : Below w.heap.size w W := by rw [← hW]; exact (Below.refl _ _).alloc (Nat.le_refl _) _
  have q0 : W.heap[w.heap.size]? = some (.cells (lcs d most (.slice none 0 0) ch0 false) 119 (0, 0)) := by rw [← hW]; exact alloc_at w _
  have hLW : LogAt W F (fun _ => False) w.heap.size d (lg0 most) k := ⟨⟨_, ⟨q0, hD.below hB, fun hf => by have := hlt _ hf; omega⟩, rcA_nil W _⟩, fun i h => h.elim, fun h => h, fun i h => h.elim, ⟨hP.below hB, hFP, hpl⟩, fun i h => h.elim⟩
  have hop : Calls Tryz.prog 60 #[.func (.func 61) #[.pointer (some ⟨w.heap.size, 0, none⟩)] #[]] W fun e w' => e = .returned (.int .i64 (openL most k).1) ∧ Lgp W F (fun _ => False) w.heap.size d (openL most k).2.1 (openL most k).2.2 w' := by
    have hb0 : Below W.heap.size W (W.alloc (.cells #[.int .i64 0] 37)) := (Below.refl _ _).alloc (Nat.le_refl _) _
    have hbs := hB.size
    have hwW : w.heap.size < W.heap.size := (Array.getElem?_eq_some_iff.1 q0).1
    refine (attemptM 61 _ (openL most k).1 (fun w' => Lgp (W.alloc (.cells #[.int .i64 0] 37)) F (fun _ => False) w.heap.size d (openL most k).2.1 (openL most k).2.2 w') W (enters_of Tryz.func61 (by kernel_rfl) rfl) ((open_any _ F w.heap.size d most k (by omega) (hLW.below hb0) hfl hst hu).mono ?_)).mono ?_
    · rintro e w' ⟨g1, g2⟩
      refine ⟨g1, g2, ?_⟩
      obtain ⟨F', H', _, hk, _⟩ := g2
      exact box_keep (alloc_at W _) hk (fun e => by
        rcases e with e | e | e
        · have := hlt _ e; omega
        · exact e
        · omega)
    · rintro e w' ⟨rfl, w1, g1, rfl⟩
      exact ⟨rfl, g1.err (fun i hi => by have := hlt i hi; omega) (fun i hi => hi.elim) hwW (by omega) _⟩
  obtain ⟨P, hPe⟩ : ∃ P, openL most k = P := ⟨_, rfl⟩
  rw [hPe] at hop ⊢
  clear hPe
  obtain ⟨en, l', k'⟩ := P
  dsimp only at hop
  have z1 : ¬ (most : Int) < 16 := by omega
  have z2 : ¬ (1048576 : Int) < (most : Int) := by omega
  have hbs := hB.size
  have hkeep : ∀ w1, Keep (fun i => F i ∨ False ∨ i = w.heap.size) W w1 → Keep F w w1 := fun w1 hk => (Keep.ofBelow hB).andThen hk (fun i hi hs => by
    rcases hs with hs | hs | hs
    · exact hs
    · exact hs.elim
    · omega)
  have hWd : W = w.alloc (.cells #[.pointer (some ⟨d, 0, none⟩), .int .i64 (most : Int), .slice none 0 0, .int .u64 0, .int .i64 0, .int .i64 0, .bool false, .bool false] 119) := by rw [← hW]; rfl
  by_cases h0 : en = 0
  · subst h0
    clear hLW q0 hW
    go_enter Tryz.func20, Tryz.ntmps20
    go_upto_region 4 with fail
    rw [← hWd]
    clear hWd
    go_wp2_with (first
      | (go_at_call 60; refine hop.mono ?_; rintro e w1 ⟨rfl, F1, H1, hA1, hk1, hF1, hH1⟩))
    go_ret2
    exact ⟨fun hne => absurd rfl hne, fun _ => ⟨w.heap.size, rfl, Nat.le_refl _, F1, H1, hA1, hkeep w1 hk1, fun i hi => (hF1 i hi).imp id (fun h9 => Nat.le_trans hbs h9), fun i hi => (hH1 i hi).elim (fun h9 => h9.elim) (fun h9 => Nat.le_trans hbs h9)⟩⟩
  · have hne : ((en : Int) != 0) = true := by simp; exact h0
    have hne2 : ((en : Int) == 0) = false := by rw [beq_eq_false_iff_ne]; omega
    clear hLW q0 hW
    go_enter Tryz.func20, Tryz.ntmps20
    go_upto_region 4 with fail
    rw [← hWd]
    clear hWd
    go_wp2_with (first
      | (go_at_call 60; refine hop.mono ?_; rintro e w1 ⟨rfl, F1, H1, hA1, hk1, hF1, hH1⟩))
    go_ret2
    obtain ⟨v1, hL1, _⟩ := hA1.ex
    exact ⟨fun _ => ⟨rfl, F1, hL1.D, hkeep w1 hk1, fun i hi => (hF1 i hi).imp id (fun h9 => Nat.le_trans hbs h9)⟩, fun e => absurd e h0⟩

end Go.Proofs.YtikkieaokfailaaGreatDoor

/- The document's first runs of a log. -/
namespace Go.Proofs.YtikkieaokfailaaGreatDoor
open Go.RowKit Go.Joins

def lg1 (most : Nat) : Lg := ⟨most, [], ⟨1, 0, 0, false⟩, false⟩
theorem open_new (most room : Nat) : openL most (newK room) = (0, lg1 most, newK room) := by kernel_rfl
theorem seg11 : segN 1 1 = ⟨#[108, 111, 103, 45, 49, 45, 49]⟩ := by
  unfold segN
  rw [Lib.decDigits_one (by decide)]
  rfl
def fAb : List Int := [0, 0, 0, 2, 158, 131, 72, 109, 97, 98]
theorem formAb : formL [97, 98] = fAb := by kernel_rfl
def kAb : Dk := ⟨1000, [(⟨#[108, 111, 103, 45, 49, 45, 49]⟩, ⟨fAb, 0⟩)], 1, false, none⟩
theorem appAb : appK (newK 1000) ⟨#[108, 111, 103, 45, 49, 45, 49]⟩ fAb = (0, kAb) := by kernel_rfl
theorem append_ab : appendT (lg1 100) (newK 1000) [97, 98] = (0, ⟨100, [[97, 98]], ⟨1, 1, 10, true⟩, false⟩, kAb) := by
  unfold appendT appendL
  rw [if_neg (by decide), formAb]
  have h : layL (lg1 100).most (lg1 100).ch fAb (lg1 100).dn (newK 1000) = (0, ⟨1, 1, 10, true⟩, false, kAb) := by
    unfold layL
    rw [if_neg (by decide)]
    show putS 1 0 ⟨1, 0, 0, false⟩ fAb false (newK 1000) = _
    unfold putS
    rw [show (⟨1, 0, 0, false⟩ : Ch).g = 1 from rfl, seg11, appAb]
    rfl
  rw [h]
  rfl
theorem read_ab : readK kAb ⟨#[108, 111, 103, 45, 49, 45, 49]⟩ = (0, fAb) := by kernel_rfl

theorem rd_ab (w : World) (m : Nat × Nat) : Rd (w.alloc (.cells #[.int .u8 97, .int .u8 98] 5 m)) (some ⟨w.heap.size, 0, none⟩) 2 2 [97, 98] := by
  refine ⟨rfl, Nat.le_refl _, by unfold maxLen; omega, (fun h => by cases h), (fun q hq => by simp at hq; omega), fun ad had j hj => ?_⟩
  cases had
  rw [add_flat]
  match j, hj with
  | 0, _ | 1, _ => unfold World.cell?; rw [World.alloc_heap_new]; rfl
theorem strAb : (strOfNums fAb).toList = [0, 0, 0, 2, 158, 131, 72, 109, 97, 98] := by rw [ByteArray.toList_eq]; rfl
theorem bdAb : Bd fAb := by unfold fAb; intro x hx; simp at hx; omega

set_option maxRecDepth 100000 in
set_option maxHeartbeats 2000000 in
theorem swakes_any (w : World) (hP : Pw w) : Calls Tryz.prog 11 #[] w fun e w' => e = .returned (.bool true) ∧ Below w.heap.size w w' := by
  have kc := fun (w : World) (C : Array Value) (n c : Nat) => Lib.run_convert_bytes_const (P := Tryz.prog) w 29 5 C n c Tryz.underlying29 Tryz.underlying5
  have hN := new_ok 1000 (by omega) w
  have hpl := hP.at
  obtain ⟨kN, HkN⟩ : ∃ kN, Hid (newK 1000 = kN) := ⟨_, rfl⟩
  have hon := open_new 100 1000
  have hap := append_ab
  rw [HkN.out] at hN hon hap
  have hkf : kN.fs.length ≤ 1000 := by rw [← HkN.out]; decide
  have hks : kN.steps < 800000 := by rw [← HkN.out]; decide
  have hku : used kN.fs ≤ 900000 := by rw [← HkN.out]; decide
  have Hop : Hid (openL 100 kN = (0, lg1 100, kN)) := hon
  have Hap : Hid (appendT (lg1 100) kN [97, 98] = (0, ⟨100, [[97, 98]], ⟨1, 1, 10, true⟩, false⟩, kAb)) := hap
  clear hon hap
  go_enter Tryz.func11, Tryz.ntmps11
  go_upto_region 2 with (first
    | (go_at_call 14; refine hN.mono ?_; rintro e w1 ⟨d, rfl, ⟨F1, hD1, hF1⟩, hb1⟩))
  have hop := sopen_any w1 F1 d 100 kN (by omega) (by omega) hD1 (hP.below hb1) (fun i hi => by have := hF1 i hi; omega) hkf hks hku
  rw [Hop.out] at hop
  go_upto_region 3 with (first
    | (go_at_call 20; refine hop.mono ?_; rintro e w2 ho; obtain ⟨lb, rfl, hlb, F2, H2, hA2, hk2, hF2, hH2⟩ := ho.yes rfl))
  clear ho hop
  have hbA : Below w2.heap.size w2 (w2.alloc (.cells #[.int .u8 97, .int .u8 98] 5 (2, 3))) := (Below.refl _ _).alloc (Nat.le_refl _) _
  obtain ⟨v2, hL2, _⟩ := hA2.ex
  have hF2l := hL2.D.lt
  have hlbl := hL2.lt
  have hapc := sappend_any _ F2 H2 lb d (lg1 100) kN (hA2.below hbA) ⟨by decide, by decide, by decide, by decide, by decide⟩ (by omega) (by omega) _ 2 2 [97, 98] (rd_ab w2 (2, 3)) (fun ad had => by
    cases had
    refine ⟨fun hf => ?_, ?_⟩
    · have := hF2l _ hf; dsimp only at this; omega
    · dsimp only; omega)
  rw [Hap.out] at hapc
  have hF20 : ∀ i, F2 i → w.heap.size ≤ i := fun i hi => (hF2 i hi).elim (hF1 i) (fun h => by have := hb1.size; omega)
  have hH20 : ∀ i, H2 i → w.heap.size ≤ i := fun i hi => by have := hH2 i hi; have := hb1.size; omega
  have hb2 : Below w.heap.size w w2 := hb1.trans (hk2.low hb1.size hF1)
  go_upto_region 5 with (first
    | (go_at_call 22; refine hapc.mono ?_; rintro e w3 ⟨rfl, F3, H3, hA3, hk3, hF3, hH3⟩))
  have hbA2 : Below w.heap.size w (w2.alloc (.cells #[.int .u8 97, .int .u8 98] 5 (2, 3))) := hb2.alloc hb2.size _
  have hb3 : Below w.heap.size w w3 := hbA2.trans (hk3.low hbA2.size (fun i hi => by
    rcases hi with hi | hi | hi
    · exact hF20 i hi
    · exact hH20 i hi
    · have := hb1.size; omega))
  obtain ⟨v3, hL3, _⟩ := hA3.ex
  have hrd := read_any d F3 kAb ⟨#[108, 111, 103, 45, 49, 45, 49]⟩ w3 hL3.D
  rw [read_ab] at hrd
  dsimp only at hrd
  go_upto_region 6 with (first
    | (go_at_call 38; refine hrd.mono ?_; rintro e w4 ⟨v4, rfl, o4, hb4⟩; obtain ⟨a4, c4, rfl, r4⟩ := Rd.ofOwn o4 bdAb))
  have hs4 := r4.string
  have hln := slen_any w4 F3 H3 lb d _ kAb (hA3.below hb4)
  obtain ⟨SS, HSS⟩ : ∃ SS, Hid (strOfNums fAb = SS) := ⟨_, rfl⟩
  rw [HSS.out] at hs4
  have hsl : (SS.toList == [0, 0, 0, 2, 158, 131, 72, 109, 97, 98]) = true := by rw [← HSS.out, strAb]; rfl
  clear r4 o4 hapc hrd
  go_wp2_with (first
    | (go_at_call 26; refine hln.mono ?_; rintro e w5 ⟨rfl, h5⟩; replace h5 := h5.symm; subst h5))
  go_ret
  exact ⟨rfl, hb3.trans (hb4.mono hb3.size)⟩

end Go.Proofs.YtikkieaokfailaaGreatDoor

/- Rows of forms, cut anywhere: plain functions, no program. -/
namespace Go.Proofs.YtikkieaokfailaaGreatDoor
open Go.RowKit Go.Joins

theorem numL_big4 (n : Nat) (h : n < 4294967296) : numL (bigL 4 n) = n := by
  rw [big4]
  show (((0 * 256 + ((n : Int) / 16777216 % 256).toNat) * 256 + ((n : Int) / 65536 % 256).toNat) * 256 + ((n : Int) / 256 % 256).toNat) * 256 + ((n : Int) % 256).toNat = n
  omega
theorem formL_take4 (r rest : List Int) : (formL r ++ rest).take 4 = bigL 4 r.length := by
  unfold formL
  rw [List.append_assoc, List.append_assoc, List.take_append_of_le_length (Nat.le_of_eq (bigL_len _ _).symm), List.take_of_length_le (Nat.le_of_eq (bigL_len _ _))]
theorem formL_drop4 (r rest : List Int) : ((formL r ++ rest).drop 4).take 4 = bigL 4 (crcN r) := by
  unfold formL
  rw [List.append_assoc, List.append_assoc, List.drop_append_of_le_length (Nat.le_of_eq (bigL_len _ _).symm), List.drop_eq_nil_of_le (Nat.le_of_eq (bigL_len _ _)), List.nil_append, List.take_append_of_le_length (Nat.le_of_eq (bigL_len _ _).symm), List.take_of_length_le (Nat.le_of_eq (bigL_len _ _))]
theorem formL_drop8 (r rest : List Int) : (formL r ++ rest).drop 8 = r ++ rest := by
  unfold formL
  have h : (bigL 4 r.length ++ bigL 4 (crcN r)).length = 8 := by rw [List.length_append, bigL_len, bigL_len]
  rw [List.append_assoc, List.drop_append_of_le_length (Nat.le_of_eq h.symm), List.drop_eq_nil_of_le (Nat.le_of_eq h), List.nil_append]
/-- A record's form is read back, whatever stands behind it. -/
theorem recO_form (r rest : List Int) (h : r.length ≤ 1048576) : recO (formL r ++ rest) = some r := by
  have hl : (formL r ++ rest).length = 8 + r.length + rest.length := by rw [List.length_append, formL_len]
  unfold recO
  rw [if_neg (by omega), formL_take4, numL_big4 _ (by omega), if_neg (by omega), formL_drop8, formL_drop4, numL_big4 _ (crcN_lt r)]
  rw [List.take_append_of_le_length (Nat.le_refl _), List.take_length, if_pos rfl]
/-- A form that is cut short does not fit. -/
theorem recO_short (r : List Int) (h : r.length ≤ 1048576) (k : Nat) (hk : k < 8 + r.length) : recO ((formL r).take k) = none := by
  have hl : ((formL r).take k).length = k := by rw [List.length_take, formL_len]; omega
  by_cases h8 : k < 8
  · exact recO_small (by omega)
  · refine recO_big (by omega) (Or.inr ?_)
    have h4 : ((formL r).take k).take 4 = bigL 4 r.length := by
      rw [List.take_take, Nat.min_eq_left (by omega)]
      have := formL_take4 r []
      rw [List.append_nil] at this
      exact this
    rw [h4, numL_big4 _ (by omega), hl]
    omega

/-- Records, one form behind the other. -/
def forms : List (List Int) → List Int
  | [] => []
  | r :: rs => formL r ++ forms rs
theorem forms_app (a b : List (List Int)) : forms (a ++ b) = forms a ++ forms b := by
  induction a with
  | nil => rfl
  | cons r a ih => show formL r ++ forms (a ++ b) = formL r ++ forms a ++ forms b; rw [ih, List.append_assoc]
/-- How many records are whole within the first k bytes. -/
def wholeN : List (List Int) → Nat → Nat
  | [], _ => 0
  | r :: rs, k => if 8 + r.length ≤ k then wholeN rs (k - (8 + r.length)) + 1 else 0
theorem wholeN_le (rs : List (List Int)) (k : Nat) : wholeN rs k ≤ rs.length := by
  induction rs generalizing k with
  | nil => exact Nat.le_refl _
  | cons r rs ih => unfold wholeN; split <;> simp <;> have := ih (k - (8 + r.length)) <;> omega
/-- A row of forms that is cut anywhere has just the records whose forms are whole. -/
theorem scan_cut : ∀ (rs : List (List Int)) (k f : Nat), (∀ r ∈ rs, r.length ≤ 1048576) → ((forms rs).take k).length ≤ f →
    scanF f ((forms rs).take k) = (rs.take (wholeN rs k), (forms (rs.take (wholeN rs k))).length, decide ((forms (rs.take (wholeN rs k))).length = ((forms rs).take k).length))
  | [], k, f, _, _ => by
    show scanF f (([] : List Int).take k) = _
    have e : (forms []).take k = [] := List.take_nil
    rw [List.take_nil, scanF_nil f [] rfl, e]
    simp [forms]
  | r :: rs, k, f, hr, hf => by
    have hr0 := hr r (List.mem_cons_self ..)
    by_cases hk0 : k = 0
    · subst hk0
      have e : wholeN (r :: rs) 0 = 0 := if_neg (by omega)
      rw [e, List.take_zero, scanF_nil f [] rfl]
      rfl
    · by_cases hk : 8 + r.length ≤ k
      · have e : wholeN (r :: rs) k = wholeN rs (k - (8 + r.length)) + 1 := if_pos hk
        have et : (forms (r :: rs)).take k = formL r ++ (forms rs).take (k - (8 + r.length)) := by
          show (formL r ++ forms rs).take k = _
          rw [List.take_append, formL_len, List.take_of_length_le (by rw [formL_len]; omega)]
        rw [et] at hf ⊢
        rw [List.length_append, formL_len] at hf
        obtain ⟨f2, rfl⟩ : ∃ f2, f = f2 + 1 := ⟨f - 1, by omega⟩
        have hne : (formL r ++ (forms rs).take (k - (8 + r.length))).length ≠ 0 := by rw [List.length_append, formL_len]; omega
        have hdr : (formL r ++ (forms rs).take (k - (8 + r.length))).drop (8 + r.length) = (forms rs).take (k - (8 + r.length)) := by
          rw [List.drop_append_of_le_length (by rw [formL_len]; exact Nat.le_refl _), List.drop_eq_nil_of_le (by rw [formL_len]; exact Nat.le_refl _), List.nil_append]
        rw [scanF_some hne (recO_form r _ hr0), hdr, scan_cut rs (k - (8 + r.length)) f2 (fun x hx => hr x (List.mem_cons_of_mem _ hx)) (by omega), e, List.take_succ_cons]
        simp only [forms, List.length_append, formL_len]
        congr 2
        congr 1
        simp only [eq_iff_iff]
        omega
      · have e : wholeN (r :: rs) k = 0 := if_neg hk
        have et : (forms (r :: rs)).take k = (formL r).take k := by
          show (formL r ++ forms rs).take k = _
          exact List.take_append_of_le_length (by rw [formL_len]; omega)
        have hl : ((formL r).take k).length = k := by rw [List.length_take, formL_len]; omega
        rw [et] at hf ⊢
        obtain ⟨f2, rfl⟩ : ∃ f2, f = f2 + 1 := ⟨f - 1, by omega⟩
        rw [scanF_no (by omega) (recO_short r hr0 k (by omega)), e, List.take_zero]
        have e2 : decide ((forms []).length = ((formL r).take k).length) = false := decide_eq_false (fun e => by rw [hl] at e; exact hk0 e.symm)
        rw [e2]
        rfl
/-- A row of whole forms has just its records. -/
theorem wholeN_all (rs : List (List Int)) (k : Nat) (h : (forms rs).length ≤ k) : wholeN rs k = rs.length := by
  induction rs generalizing k with
  | nil => rfl
  | cons r rs ih =>
    have h' : 8 + r.length + (forms rs).length ≤ k := by simpa [forms, formL_len] using h
    unfold wholeN
    rw [if_pos (by omega), ih _ (by omega)]
    rfl
theorem scan_forms (rs : List (List Int)) (f : Nat) (h : ∀ r ∈ rs, r.length ≤ 1048576) (hf : (forms rs).length ≤ f) : scanF f (forms rs) = (rs, (forms rs).length, true) := by
  have h1 := scan_cut rs (forms rs).length f h (by rw [List.take_length]; exact hf)
  rw [List.take_length, wholeN_all rs _ (Nat.le_refl _), List.take_length] at h1
  rw [h1]
  simp

/-- The names of segments are names of files. -/
theorem dec_okc : ∀ (k n : Nat), n ≤ k → ∀ c ∈ Lib.decDigits n, okc c = true
  | k, n, h => by
    have hd : ∀ d : Nat, d < 10 → okc (UInt8.ofNat (48 + d)) = true := by decide
    by_cases h1 : n < 10
    · rw [Lib.decDigits_one h1]
      intro c hc
      rw [List.mem_singleton.1 hc]
      exact hd n h1
    · match k, h with
      | 0, h => omega
      | k + 1, h =>
        rw [decDigits_moreL h1]
        intro c hc
        rcases List.mem_append.1 hc with hc | hc
        · exact dec_okc k (n / 10) (by omega) c hc
        · rw [List.mem_singleton.1 hc]
          exact hd _ (Nat.mod_lt _ (by decide))
theorem isNm_seg (g i : Nat) (hg : g < 18446744073709551616) (hi : i < 18446744073709551616) : isNm (segN g i) = true := by
  have h1 := segN_size g i hg hi
  have h2 : 5 ≤ (segN g i).size := by
    show 5 ≤ ([108, 111, 103, 45] ++ Lib.decDigits g ++ [45] ++ Lib.decDigits i).toArray.size
    simp
    omega
  have h3 : (segN g i).data.toList.all okc = true := by
    show ([108, 111, 103, 45] ++ Lib.decDigits g ++ [45] ++ Lib.decDigits i).all okc = true
    rw [List.all_eq_true]
    intro c hc
    rcases List.mem_append.1 hc with hc | hc
    · rcases List.mem_append.1 hc with hc | hc
      · rcases List.mem_append.1 hc with hc | hc
        · have : ∀ c ∈ ([108, 111, 103, 45] : List UInt8), okc c = true := by decide
          exact this c hc
        · exact dec_okc g g (Nat.le_refl _) c hc
      · rw [List.mem_singleton.1 hc]; decide
    · exact dec_okc i i (Nat.le_refl _) c hc
  unfold isNm
  rw [h3, decide_eq_true (by omega), decide_eq_true (by omega)]
  rfl
theorem seg_isOf (g i : Nat) : isOf (segN g i) = true := by
  unfold isOf
  have : Lib.hasPrefix (segN g i).data.toList sLog.data.toList = true := by
    show Lib.hasPrefix ([108, 111, 103, 45] ++ Lib.decDigits g ++ [45] ++ Lib.decDigits i) [108, 111, 103, 45] = true
    unfold Lib.hasPrefix
    simp
  rw [this, Bool.or_true]

end Go.Proofs.YtikkieaokfailaaGreatDoor

/- A disk that has just a log's segments: plain functions, no program. -/
namespace Go.Proofs.YtikkieaokfailaaGreatDoor
open Go.RowKit Go.Joins

/-- The disk has just the segments 1 to n of the first generation; of number j the bytes are B j, and safe are Z j of them. -/
structure Sg (k : Dk) (n : Nat) (B : Nat → List Int) (Z : Nat → Nat) : Prop where
  on : k.off = false
  fu : k.fu = none
  good : k.Good
  few : n ≤ 1000
  yes : ∀ j, j < n → look k.fs (segN 1 (j + 1)) = some ⟨B j, Z j⟩
  only : ∀ s f, look k.fs s = some f → ∃ j, j < n ∧ s = segN 1 (j + 1)
theorem Sg.nm (j : Nat) (h : j ≤ 1000) : isNm (segN 1 (j + 1)) = true := isNm_seg 1 (j + 1) (by decide) (by omega)
theorem Sg.no {k : Dk} {n : Nat} {B : Nat → List Int} {Z : Nat → Nat} (h : Sg k n B Z) : look k.fs (segN 1 (n + 1)) = none := by
  cases hl : look k.fs (segN 1 (n + 1)) with
  | none => rfl
  | some f =>
    obtain ⟨j, hj, e⟩ := h.only _ _ hl
    have := segN_inj e
    omega
theorem pass_on {k : Dk} (h : k.fu = none) : passK k = (0, { k with steps := k.steps + 1 }) := by unfold passK; rw [h]
/-- A segment is synced. -/
theorem Sg.sync {k : Dk} {n : Nat} {B : Nat → List Int} {Z : Nat → Nat} (h : Sg k n B Z) (j : Nat) (hj : j < n) : ∃ k', syncK k (segN 1 (j + 1)) = (0, k') ∧ Sg k' n B (fun i => if i = j then (B j).length else Z i) ∧ k'.steps = k.steps + 1 ∧ k'.fs.length ≤ k.fs.length + 1 ∧ used k'.fs = used k.fs ∧ k'.room = k.room := by
  have hy := h.yes j hj
  have hnm := Sg.nm j (by have := h.few; omega)
  refine ⟨{ k with steps := k.steps + 1, fs := putL k.fs (segN 1 (j + 1)) ⟨B j, (B j).length⟩ }, ?_, ?_, rfl, len_put _ _ _, ?_, rfl⟩
  · unfold syncK stepK
    rw [h.on, if_neg (by decide), if_neg (by rw [hnm]; decide), hy]
    dsimp only
    rw [if_neg (by simp), pass_on h.fu, if_neg (by simp)]
    dsimp only
    rw [h.on]
  · obtain ⟨g1, g2, g3⟩ := look_good h.good hy
    have hup := used_put k.fs h.good.rise (segN 1 (j + 1)) ⟨B j, (B j).length⟩
    rw [hy] at hup
    have e : lenO (some (⟨B j, Z j⟩ : Fle)) = (B j).length := rfl
    rw [e] at hup
    refine ⟨h.on, h.fu, ⟨h.good.room, rise_put h.good.rise _ _, ?_, fun p hp => ?_, h.good.fu⟩, h.few, fun i hi => ?_, fun s f hs => ?_⟩
    · show used (putL _ _ _) ≤ k.room
      have := h.good.used
      have e2 : (⟨B j, (B j).length⟩ : Fle).b.length = (B j).length := rfl
      omega
    · rcases mem_put hp with rfl | hp
      · exact ⟨g1, Nat.le_refl _, g3⟩
      · exact h.good.each p hp
    · show look (putL _ _ _) _ = _
      rw [look_put _ h.good.rise]
      by_cases e2 : i = j
      · subst e2
        rw [if_pos rfl, if_pos rfl]
      · rw [if_neg (fun e3 => e2 (by have := segN_inj e3; omega)), if_neg e2]
        exact h.yes i hi
    · have hs' : look (putL k.fs (segN 1 (j + 1)) ⟨B j, (B j).length⟩) s = some f := hs
      rw [look_put _ h.good.rise] at hs'
      split at hs'
      · rename_i e2; exact ⟨j, hj, e2⟩
      · exact h.only s f hs'
  · have hup := used_put k.fs h.good.rise (segN 1 (j + 1)) ⟨B j, (B j).length⟩
    rw [hy] at hup
    have e : lenO (some (⟨B j, Z j⟩ : Fle)) = (B j).length := rfl
    have e2 : (⟨B j, (B j).length⟩ : Fle).b.length = (B j).length := rfl
    rw [e, e2] at hup
    show used (putL _ _ _) = _
    omega
/-- Bytes are appended to a segment, or to the next one. -/
theorem Sg.app {k : Dk} {n : Nat} {B : Nat → List Int} {Z : Nat → Nat} (h : Sg k n B Z) (j : Nat) (hj : j ≤ n) (hj9 : j < 1000) (ys : List Int) (hb : Bd ys) (hro : ys.length + used k.fs ≤ k.room) :
    ∃ k', appK k (segN 1 (j + 1)) ys = (0, k') ∧ Sg k' (max n (j + 1)) (fun i => if i = j then (if j < n then B j ++ ys else ys) else B i) (fun i => if i = j then (if j < n then Z j else 0) else Z i) ∧ k'.steps = k.steps + 1 ∧ k'.fs.length ≤ k.fs.length + 1 ∧ used k'.fs = used k.fs + ys.length ∧ k'.room = k.room := by
  have hnm := Sg.nm j (by omega)
  obtain ⟨o, ho⟩ : ∃ o, look k.fs (segN 1 (j + 1)) = o := ⟨_, rfl⟩
  have hob : o = if j < n then some ⟨B j, Z j⟩ else none := by
    rw [← ho]
    by_cases hjn : j < n
    · rw [if_pos hjn]; exact h.yes j hjn
    · rw [if_neg hjn]
      have : j = n := by omega
      subst this
      exact h.no
  have hbo : (o.map Fle.b).getD [] ++ ys = (if j < n then B j ++ ys else ys) ∧ (o.map Fle.safe).getD 0 = (if j < n then Z j else 0) ∧ lenO o + ys.length = ((o.map Fle.b).getD [] ++ ys).length := by
    rw [hob]
    split
    · exact ⟨rfl, rfl, by show (B j).length + ys.length = (B j ++ ys).length; rw [List.length_append]⟩
    · exact ⟨rfl, rfl, by show 0 + ys.length = ([] ++ ys).length; simp⟩
  have hup := used_put k.fs h.good.rise (segN 1 (j + 1)) ⟨(o.map Fle.b).getD [] ++ ys, (o.map Fle.safe).getD 0⟩
  rw [ho] at hup
  have e2 : (⟨(o.map Fle.b).getD [] ++ ys, (o.map Fle.safe).getD 0⟩ : Fle).b.length = ((o.map Fle.b).getD [] ++ ys).length := rfl
  rw [e2] at hup
  have hsb : (o.map Fle.safe).getD 0 ≤ ((o.map Fle.b).getD [] ++ ys).length ∧ Bd ((o.map Fle.b).getD [] ++ ys) := by
    cases o with
    | none => exact ⟨Nat.zero_le _, hb⟩
    | some f =>
      obtain ⟨g1, g2, g3⟩ := look_good h.good ho
      exact ⟨by show f.safe ≤ (f.b ++ ys).length; rw [List.length_append]; omega, g3.append hb⟩
  refine ⟨{ k with fs := putL k.fs (segN 1 (j + 1)) ⟨(o.map Fle.b).getD [] ++ ys, (o.map Fle.safe).getD 0⟩, steps := k.steps + 1 }, ?_, ?_, rfl, len_put _ _ _, ?_, rfl⟩
  · unfold appK
    rw [h.on, if_neg (by decide), if_neg (by rw [hnm]; decide), if_neg (not_not_intro hro), ho, pass_on (by exact h.fu)]
  · refine ⟨h.on, h.fu, ⟨h.good.room, rise_put h.good.rise _ _, ?_, fun p hp => ?_, h.good.fu⟩, ?_, fun i hi => ?_, fun s f hs => ?_⟩
    · show used (putL _ _ _) ≤ k.room
      omega
    · rcases mem_put hp with rfl | hp
      · exact ⟨hnm, hsb.1, hsb.2⟩
      · exact h.good.each p hp
    · have := h.few; omega
    · show look (putL _ _ _) _ = _
      rw [look_put _ h.good.rise]
      by_cases e3 : i = j
      · subst e3
        rw [if_pos rfl, if_pos rfl, if_pos rfl, hbo.1, hbo.2.1]
      · rw [if_neg (fun e4 => e3 (by have := segN_inj e4; omega)), if_neg e3, if_neg e3]
        exact h.yes i (by omega)
    · have hs' : look (putL k.fs (segN 1 (j + 1)) ⟨(o.map Fle.b).getD [] ++ ys, (o.map Fle.safe).getD 0⟩) s = some f := hs
      rw [look_put _ h.good.rise] at hs'
      split at hs'
      · rename_i e3; exact ⟨j, by omega, e3⟩
      · obtain ⟨i, hi, e3⟩ := h.only s f hs'
        exact ⟨i, by omega, e3⟩
  · show used (putL _ _ _) = _
    omega
theorem Sg.new (room : Nat) (h : room ≤ 16777216) (B : Nat → List Int) (Z : Nat → Nat) : Sg (newK room) 0 B Z := ⟨rfl, rfl, newK_good h, by omega, fun j hj => by omega, fun s f hs => by cases hs⟩
theorem Sg.congr {k : Dk} {n : Nat} {B B' : Nat → List Int} {Z Z' : Nat → Nat} (h : Sg k n B Z) (e : ∀ j, j < n → B j = B' j ∧ Z j = Z' j) : Sg k n B' Z' :=
  ⟨h.on, h.fu, h.good, h.few, fun j hj => by rw [← (e j hj).1, ← (e j hj).2]; exact h.yes j hj, h.only⟩

/-- The power goes and comes, and nothing that was not safe is kept. -/
theorem look_rest (l : Fls) (s : Nm) : look (restL l []) s = (look l s).map fun f => if f.b.length = f.safe then f else restF f 0 := by
  induction l with
  | nil => rfl
  | cons p r ih =>
    obtain ⟨n, f⟩ := p
    unfold restL
    split
    · rename_i h
      unfold look
      split
      · simp [h]
      · exact ih
    · rename_i h
      unfold look
      split
      · simp [h]
      · exact ih
theorem restF_zero (f : Fle) : restF f 0 = ⟨f.b.take f.safe, f.safe⟩ := by unfold restF; simp
theorem rest_names (l : Fls) (keep : List Int) : (restL l keep).map Prod.fst = l.map Prod.fst := by
  induction l generalizing keep with
  | nil => rfl
  | cons p r ih =>
    obtain ⟨n, f⟩ := p
    unfold restL
    split
    · rw [List.map_cons, List.map_cons, ih]
    · rw [List.map_cons, List.map_cons, ih]
theorem Sg.rest {k : Dk} {n : Nat} {B : Nat → List Int} {Z : Nat → Nat} (h : Sg k n B Z) (hg : (restK k []).Good) : Sg (restK k []) n (fun j => (B j).take (Z j)) (fun j => min (Z j) (B j).length) := by
  refine ⟨rfl, rfl, hg, h.few, fun j hj => ?_, fun s f hs => ?_⟩
  · show look (restL k.fs []) _ = _
    have hy := h.yes j hj
    have hle := (look_good h.good hy).2.1
    have hle' : Z j ≤ (B j).length := hle
    rw [look_rest, hy]
    show some (if (B j).length = Z j then (⟨B j, Z j⟩ : Fle) else restF ⟨B j, Z j⟩ 0) = _
    by_cases e : (B j).length = Z j
    · rw [if_pos e, ← e, List.take_length, Nat.min_self]
    · rw [if_neg e, restF_zero, Nat.min_eq_left hle']
  · have hs' : look (restL k.fs []) s = some f := hs
    rw [look_rest] at hs'
    cases hl : look k.fs s with
    | none => rw [hl] at hs'; cases hs'
    | some f' => exact h.only s f' hl

end Go.Proofs.YtikkieaokfailaaGreatDoor

/- LogKeeps, its plain part: a disk that has just a log's segments, with power that fails. -/
namespace Go.Proofs.YtikkieaokfailaaGreatDoor
open Go.RowKit Go.Joins

/-- The disk has just the segments 1 to n of the first generation, whatever the power is. -/
structure Sh (k : Dk) (n : Nat) (B : Nat → List Int) (Z : Nat → Nat) : Prop where
  good : k.Good
  few : n ≤ 1000
  yes : ∀ j, j < n → look k.fs (segN 1 (j + 1)) = some ⟨B j, Z j⟩
  only : ∀ s f, look k.fs s = some f → ∃ j, j < n ∧ s = segN 1 (j + 1)
theorem Sh.no {k : Dk} {n : Nat} {B : Nat → List Int} {Z : Nat → Nat} (h : Sh k n B Z) : look k.fs (segN 1 (n + 1)) = none := by
  cases hl : look k.fs (segN 1 (n + 1)) with
  | none => rfl
  | some f =>
    obtain ⟨j, hj, e⟩ := h.only _ _ hl
    have := segN_inj e
    omega
theorem Sh.len {k : Dk} {n : Nat} {B : Nat → List Int} {Z : Nat → Nat} (h : Sh k n B Z) : k.fs.length ≤ n := by
  have hp := rise_pair h.good.rise
  have hn : (k.fs.map Prod.fst).Nodup := hp.imp (fun {a b} hlt e => by subst e; exact ltN_irrefl _ hlt)
  have h1 := nodup_le (k.fs.map Prod.fst) (segs 1 0 n) hn (fun s hs => by
    obtain ⟨f, hf⟩ := Option.isSome_iff_exists.1 (look_isSome.2 hs)
    obtain ⟨j, hj, e⟩ := h.only s f hf
    exact mem_segs.2 ⟨j, hj, by rw [e, Nat.zero_add]⟩)
  rw [List.length_map, segs_len] at h1
  exact h1
theorem Sh.congr {k : Dk} {n : Nat} {B B' : Nat → List Int} {Z Z' : Nat → Nat} (h : Sh k n B Z) (e : ∀ j, j < n → B j = B' j ∧ Z j = Z' j) : Sh k n B' Z' :=
  ⟨h.good, h.few, fun j hj => by rw [← (e j hj).1, ← (e j hj).2]; exact h.yes j hj, h.only⟩
theorem Sh.same {k k' : Dk} {n : Nat} {B : Nat → List Int} {Z : Nat → Nat} (h : Sh k n B Z) (e : k'.fs = k.fs) (hg : k'.Good) : Sh k' n B Z :=
  ⟨hg, h.few, fun j hj => by rw [e]; exact h.yes j hj, fun s f hs => h.only s f (by rw [← e]; exact hs)⟩
/-- A segment is put in place. -/
theorem Sh.put {k k' : Dk} {n : Nat} {B : Nat → List Int} {Z : Nat → Nat} (h : Sh k n B Z) (j : Nat) (hj : j ≤ n) (hj9 : j < 1000) (f : Fle) (hfs : k'.fs = putL k.fs (segN 1 (j + 1)) f) (hg : k'.Good) {m : Nat} (hm : m = max n (j + 1)) {B' : Nat → List Int} {Z' : Nat → Nat} (hB : ∀ i, i < m → B' i = if i = j then f.b else B i) (hZ : ∀ i, i < m → Z' i = if i = j then f.safe else Z i) : Sh k' m B' Z' := by
  refine ⟨hg, by have := h.few; omega, fun i hi => ?_, fun s g hs => ?_⟩
  · rw [hfs, look_put _ h.good.rise, hB i hi, hZ i hi]
    by_cases e : i = j
    · subst e
      rw [if_pos rfl, if_pos rfl, if_pos rfl]
    · rw [if_neg (fun e4 => e (by have := segN_inj e4; omega)), if_neg e, if_neg e]
      exact h.yes i (by omega)
  · rw [hfs, look_put _ h.good.rise] at hs
    split at hs
    · rename_i e; exact ⟨j, by omega, e⟩
    · obtain ⟨i, hi, e⟩ := h.only s g hs
      exact ⟨i, by omega, e⟩
/-- A step goes by the fuse, or the power fails. -/
theorem pass_or (k : Dk) : ∃ k', ((passK k = (0, k') ∧ k'.off = k.off) ∨ (passK k = (13, k') ∧ k.fu ≠ none)) ∧ k'.fs = k.fs ∧ k'.room = k.room ∧ k'.steps ≤ k.steps + 1 ∧ (k.fu = none → k'.fu = none) := by
  cases h : k.fu with
  | none => exact ⟨{ k with steps := k.steps + 1 }, Or.inl ⟨by unfold passK; rw [h], rfl⟩, rfl, rfl, Nat.le_refl _, fun _ => h⟩
  | some n =>
    cases n with
    | zero => exact ⟨{ k with off := true }, Or.inr ⟨by unfold passK; rw [h], by simp⟩, rfl, rfl, Nat.le_succ _, fun e => by simp at e⟩
    | succ n => exact ⟨{ k with steps := k.steps + 1, fu := some n }, Or.inl ⟨by unfold passK; rw [h], rfl⟩, rfl, rfl, Nat.le_refl _, fun e => by simp at e⟩
/-- A step on a file that is there: done, or the power fails ahead of it. -/
theorem step_or {k : Dk} (hg : k.Good) (on : k.off = false) (s : Nm) (hnm : isNm s = true) (f : Fle) (hl : look k.fs s = some f) (err : Fle → Nat) (he : err f = 0) (f' : Fle) (h1 : f'.safe ≤ f'.b.length) (h2 : Bd f'.b) (h3 : f'.b.length ≤ f.b.length) :
    ∃ k', ((stepK k s err (fun k _ => { k with fs := putL k.fs s f' }) = (0, k') ∧ k'.off = false ∧ k'.fs = putL k.fs s f') ∨ (stepK k s err (fun k _ => { k with fs := putL k.fs s f' }) = (13, k') ∧ k.fu ≠ none ∧ k'.fs = k.fs)) ∧ k'.Good ∧ k'.room = k.room ∧ k'.steps ≤ k.steps + 1 ∧ used k'.fs ≤ used k.fs ∧ (k.fu = none → k'.fu = none) := by
  obtain ⟨k1, hp, hf, hr, hs, hn⟩ := pass_or k
  have hgp := good_pass hg
  have hup := used_put k.fs hg.rise s f'
  rw [hl] at hup
  have hup' : used (putL k.fs s f') + f.b.length = used k.fs + f'.b.length := hup
  rcases hp with ⟨hp, ho⟩ | ⟨hp, hfu⟩
  · rw [hp] at hgp
    refine ⟨{ k1 with fs := putL k1.fs s f' }, Or.inl ⟨?_, ?_, ?_⟩, ?_, hr, hs, ?_, hn⟩
    · unfold stepK
      rw [on, if_neg (by decide), if_neg (by rw [hnm]; decide), hl]
      dsimp only
      rw [he, if_neg (by simp), hp, if_neg (by simp)]
    · show k1.off = false
      rw [ho, on]
    · show putL k1.fs s f' = _
      rw [hf]
    · refine good_put hgp hnm h1 h2 ?_
      dsimp only
      rw [hf, hr]
      have := hg.used
      omega
    · show used (putL k1.fs s f') ≤ _
      rw [hf]
      omega
  · rw [hp] at hgp
    refine ⟨k1, Or.inr ⟨?_, hfu, hf⟩, hgp, hr, hs, by rw [hf]; exact Nat.le_refl _, hn⟩
    unfold stepK
    rw [on, if_neg (by decide), if_neg (by rw [hnm]; decide), hl]
    dsimp only
    rw [he, if_neg (by simp), hp, if_pos (by simp)]
/-- A segment is synced. -/
theorem Sh.sync {k : Dk} {n : Nat} {B : Nat → List Int} {Z : Nat → Nat} (h : Sh k n B Z) (on : k.off = false) (j : Nat) (hj : j < n) :
    ∃ k', ((syncK k (segN 1 (j + 1)) = (0, k') ∧ k'.off = false ∧ Sh k' n B (fun i => if i = j then (B j).length else Z i)) ∨ (syncK k (segN 1 (j + 1)) = (13, k') ∧ k.fu ≠ none ∧ Sh k' n B Z)) ∧ k'.room = k.room ∧ k'.steps ≤ k.steps + 1 ∧ used k'.fs ≤ used k.fs ∧ (k.fu = none → k'.fu = none) := by
  have hy := h.yes j hj
  have hnm := Sg.nm j (by have := h.few; omega)
  obtain ⟨_, _, g3⟩ := look_good h.good hy
  obtain ⟨k', hc, hg, hr, hs, hu, hn⟩ := step_or h.good on (segN 1 (j + 1)) hnm ⟨B j, Z j⟩ hy (fun _ => 0) rfl ⟨B j, (B j).length⟩ (Nat.le_refl _) g3 (Nat.le_refl _)
  have he : syncK k (segN 1 (j + 1)) = stepK k (segN 1 (j + 1)) (fun _ => 0) (fun k _ => { k with fs := putL k.fs (segN 1 (j + 1)) ⟨B j, (B j).length⟩ }) := by
    unfold syncK stepK
    rw [hy]
  rw [he]
  refine ⟨k', ?_, hr, hs, hu, hn⟩
  rcases hc with ⟨e1, e2, e3⟩ | ⟨e1, e2, e3⟩
  · exact Or.inl ⟨e1, e2, h.put j (by omega) (by have := h.few; omega) _ e3 hg (by omega) (fun i _ => by split <;> simp_all) (fun i _ => rfl)⟩
  · exact Or.inr ⟨e1, e2, h.same e3 hg⟩
/-- A segment is cut. -/
theorem Sh.cut {k : Dk} {n : Nat} {B : Nat → List Int} {Z : Nat → Nat} (h : Sh k n B Z) (on : k.off = false) (j : Nat) (hj : j < n) (z : Nat) (hz : z ≤ (B j).length) :
    ∃ k', ((cutK k (segN 1 (j + 1)) (z : Int) = (0, k') ∧ k'.off = false ∧ Sh k' n (fun i => if i = j then (B j).take z else B i) (fun i => if i = j then min (Z j) z else Z i)) ∨ (cutK k (segN 1 (j + 1)) (z : Int) = (13, k') ∧ k.fu ≠ none ∧ Sh k' n B Z)) ∧ k'.room = k.room ∧ k'.steps ≤ k.steps + 1 ∧ used k'.fs ≤ used k.fs ∧ (k.fu = none → k'.fu = none) := by
  have hy := h.yes j hj
  have hnm := Sg.nm j (by have := h.few; omega)
  obtain ⟨_, _, g3⟩ := look_good h.good hy
  have g3' : Bd (B j) := g3
  obtain ⟨k', hc, hg, hr, hs, hu, hn⟩ := step_or h.good on (segN 1 (j + 1)) hnm ⟨B j, Z j⟩ hy (fun f => if 0 ≤ (z : Int) ∧ (z : Int) ≤ f.b.length then 0 else 1) (if_pos (by dsimp only; omega)) ⟨(B j).take z, min (Z j) z⟩ (by show min (Z j) z ≤ ((B j).take z).length; rw [List.length_take]; omega) (g3'.take z) (by show ((B j).take z).length ≤ (B j).length; rw [List.length_take]; omega)
  have he : cutK k (segN 1 (j + 1)) (z : Int) = stepK k (segN 1 (j + 1)) (fun f => if 0 ≤ (z : Int) ∧ (z : Int) ≤ f.b.length then 0 else 1) (fun k _ => { k with fs := putL k.fs (segN 1 (j + 1)) ⟨(B j).take z, min (Z j) z⟩ }) := by
    unfold cutK stepK
    rw [hy]
    rfl
  rw [he]
  refine ⟨k', ?_, hr, hs, hu, hn⟩
  rcases hc with ⟨e1, e2, e3⟩ | ⟨e1, e2, e3⟩
  · exact Or.inl ⟨e1, e2, h.put j (by omega) (by have := h.few; omega) _ e3 hg (by omega) (fun i _ => rfl) (fun i _ => rfl)⟩
  · exact Or.inr ⟨e1, e2, h.same e3 hg⟩
/-- Bytes are appended to a segment, or to the next one; where the power fails they are there, and not safe. -/
theorem Sh.app {k : Dk} {n : Nat} {B : Nat → List Int} {Z : Nat → Nat} (h : Sh k n B Z) (on : k.off = false) (j : Nat) (hj : j ≤ n) (hj9 : j < 1000) (ys : List Int) (hb : Bd ys) (hro : ys.length + used k.fs ≤ k.room) :
    ∃ en k', appK k (segN 1 (j + 1)) ys = (en, k') ∧ ((en = 0 ∧ k'.off = false) ∨ (en = 13 ∧ k.fu ≠ none)) ∧ Sh k' (max n (j + 1)) (fun i => if i = j then (if j < n then B j ++ ys else ys) else B i) (fun i => if i = j then (if j < n then Z j else 0) else Z i) ∧ k'.room = k.room ∧ k'.steps ≤ k.steps + 1 ∧ used k'.fs = used k.fs + ys.length := by
  have hnm := Sg.nm j (by omega)
  obtain ⟨o, ho⟩ : ∃ o, look k.fs (segN 1 (j + 1)) = o := ⟨_, rfl⟩
  have hob : o = if j < n then some ⟨B j, Z j⟩ else none := by
    rw [← ho]
    by_cases hjn : j < n
    · rw [if_pos hjn]; exact h.yes j hjn
    · rw [if_neg hjn]
      have : j = n := by omega
      subst this
      exact h.no
  have hbo : (o.map Fle.b).getD [] ++ ys = (if j < n then B j ++ ys else ys) ∧ (o.map Fle.safe).getD 0 = (if j < n then Z j else 0) ∧ lenO o + ys.length = ((o.map Fle.b).getD [] ++ ys).length := by
    rw [hob]
    split
    · exact ⟨rfl, rfl, by show (B j).length + ys.length = (B j ++ ys).length; rw [List.length_append]⟩
    · exact ⟨rfl, rfl, by show 0 + ys.length = ([] ++ ys).length; simp⟩
  have hup := used_put k.fs h.good.rise (segN 1 (j + 1)) ⟨(o.map Fle.b).getD [] ++ ys, (o.map Fle.safe).getD 0⟩
  rw [ho] at hup
  have e2 : (⟨(o.map Fle.b).getD [] ++ ys, (o.map Fle.safe).getD 0⟩ : Fle).b.length = ((o.map Fle.b).getD [] ++ ys).length := rfl
  rw [e2] at hup
  have hsb : (o.map Fle.safe).getD 0 ≤ ((o.map Fle.b).getD [] ++ ys).length ∧ Bd ((o.map Fle.b).getD [] ++ ys) := by
    cases o with
    | none => exact ⟨Nat.zero_le _, hb⟩
    | some f =>
      obtain ⟨g1, g2, g3⟩ := look_good h.good ho
      exact ⟨by show f.safe ≤ (f.b ++ ys).length; rw [List.length_append]; omega, g3.append hb⟩
  have hgp := good_put h.good hnm (f := ⟨(o.map Fle.b).getD [] ++ ys, (o.map Fle.safe).getD 0⟩) hsb.1 hsb.2 (by omega)
  obtain ⟨k2, hk2⟩ : ∃ k2 : Dk, ({ k with fs := putL k.fs (segN 1 (j + 1)) ⟨(o.map Fle.b).getD [] ++ ys, (o.map Fle.safe).getD 0⟩ } : Dk) = k2 := ⟨_, rfl⟩
  rw [hk2] at hgp
  have hgg := good_pass hgp
  have hf2 : k2.fs = putL k.fs (segN 1 (j + 1)) ⟨(o.map Fle.b).getD [] ++ ys, (o.map Fle.safe).getD 0⟩ := by rw [← hk2]
  have ho2 : k2.off = k.off := by rw [← hk2]
  have hr2 : k2.room = k.room := by rw [← hk2]
  have hs2 : k2.steps = k.steps := by rw [← hk2]
  have hu2 : k2.fu = k.fu := by rw [← hk2]
  have hap : appK k (segN 1 (j + 1)) ys = passK k2 := by
    unfold appK
    rw [on, if_neg (by decide), if_neg (by rw [hnm]; decide), if_neg (not_not_intro hro), ho, ← hk2, on]
  obtain ⟨k1, hp, hf, hr, hs, hn⟩ := pass_or k2
  have hsh : k1.Good → Sh k1 (max n (j + 1)) (fun i => if i = j then (if j < n then B j ++ ys else ys) else B i) (fun i => if i = j then (if j < n then Z j else 0) else Z i) := fun hg =>
    h.put j hj hj9 ⟨(o.map Fle.b).getD [] ++ ys, (o.map Fle.safe).getD 0⟩ (hf.trans hf2) hg rfl (fun i _ => by dsimp only; rw [hbo.1]) (fun i _ => by dsimp only; rw [hbo.2.1])
  rw [hap]
  rcases hp with ⟨hp, hoo⟩ | ⟨hp, hfu⟩
  · rw [hp] at hgg
    exact ⟨0, k1, hp, Or.inl ⟨rfl, by rw [hoo, ho2, on]⟩, hsh hgg, hr.trans hr2, by omega, by rw [hf, hf2]; omega⟩
  · rw [hp] at hgg
    exact ⟨13, k1, hp, Or.inr ⟨rfl, by rw [← hu2]; exact hfu⟩, hsh hgg, hr.trans hr2, by omega, by rw [hf, hf2]; omega⟩

end Go.Proofs.YtikkieaokfailaaGreatDoor
