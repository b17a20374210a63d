/- Texts of one seat, one behind the other: LsD, LsE. -/
import Derived.Test.YtikkieaokfailaaGreatDoorM13
import Derived.BigQuiet
import Derived.Deep.QuietTactic
/- LogSwitch: the law's own functions. -/
namespace Go.Proofs.YtikkieaokfailaaGreatDoor
open Go.ChangeShapes Go.WideShapes Go.ChangeAt Go.RowKit Go.Joins

/-- What the law copies of records. -/
def tw (xs : List (List Int)) : List (List Int) := (xs.take 12).map (List.take 200)
theorem tw_len (xs : List (List Int)) : (tw xs).length ≤ 12 := by unfold tw; rw [List.length_map, List.length_take]; omega
theorem tw_rl (xs : List (List Int)) : ∀ r ∈ tw xs, r.length ≤ 200 := fun r hr => by
  obtain ⟨x, _, rfl⟩ := List.mem_map.1 hr
  rw [List.length_take]
  omega
theorem tw_tw (xs : List (List Int)) : tw (tw xs) = tw xs := by
  have h1 := tw_len xs
  unfold tw at h1 ⊢
  rw [List.take_of_length_le h1, List.map_map]
  apply List.map_congr_left
  intro x _
  simp [List.take_take]
set_option maxHeartbeats 2000000 in
theorem twins_any (a : Option Addr) (n c : Nat) (xs : List (List Int)) (w : World) (hR : RRd w a n xs) :
    Calls Tryz.prog 28 #[.slice a n c] w fun e w' => ∃ v, e = .returned v ∧ RcA w' (fun i => w.heap.size ≤ i ∧ i < w'.heap.size) v (tw xs) ∧ Below w.heap.size w w' := by
  have Hn : Hid (xs.length = n) := hR.len
  have hnm := hR.most
  go_enter Tryz.func28, Tryz.ntmps28
  go_upto_region 3 with fail
  go_loopw [3, 4] (fun s3 s4 wr => ∃ (j : Nat) (v : Value), s3 = v ∧ s4 = .int .i64 j ∧ j ≤ n ∧ j ≤ 12 ∧ Hid (RcA wr (fun i => w.heap.size ≤ i ∧ i < wr.heap.size) v ((xs.take j).map (List.take 200))) ∧ Hid (Below w.heap.size w wr)) (fun _ s4 _ => 12 - (intOf s4).toNat)
  case atStart =>
    refine ⟨0, _, rfl, rfl, by omega, by omega, ?_, Below.refl _ _⟩
    show RcA _ _ _ ((xs.take 0).map _)
    rw [List.take_zero]
    exact rcA_nil _ _
  case round =>
    obtain ⟨j, v, rfl, rfl, hjn, hj12, HR, HB⟩ := hrel
    by_cases hlt : j < n ∧ j < 12
    · have hcl : (j : Int) < (n : Int) := by omega
      have hcl12 : (j : Int) < 12 := by omega
      have hRr := hR.below HB.out
      obtain ⟨bb, off, rfl, hce⟩ := hRr.flat (by omega)
      obtain ⟨aj, nj, cj, hcj, hrj⟩ := hce j hlt.1
      clear hce hRr
      have hfew := few200O aj nj cj _ wr hrj
      have hbd := hrj.bytes.take 200
      obtain ⟨x, hx⟩ : ∃ x, xs[j]? = some x := ⟨_, List.getElem?_eq_getElem (by rw [Hn.out]; exact hlt.1)⟩
      have hxd : xs.getD j [] = x := by rw [List.getD_eq_getElem?_getD, hx]; rfl
      rw [hxd] at hfew hbd
      have HTk : Hid ((xs.take (j + 1)).map (List.take 200) = (xs.take j).map (List.take 200) ++ [x.take 200]) := by
        show _ = _
        rw [List.take_add_one, hx, List.map_append]
        rfl
      obtain ⟨⟨vs, ov, hvs⟩, hvo⟩ := HR.out
      have hlj : ((xs.take j).map (List.take 200)).length = j := by rw [List.length_map, List.length_take, Hn.out]; omega
      have HLj : Hid (((xs.take j).map (List.take 200)).length = j) := hlj
      have ovj := ov
      rw [hlj] at ovj
      obtain ⟨av, cv, hv⟩ := own_sl ovj
      subst hv
      obtain ⟨r, Hr⟩ : ∃ r, Hid (x.take 200 = r) := ⟨_, rfl⟩
      rw [Hr.out] at hfew hbd
      have HTk2 : Hid ((xs.take (j + 1)).map (List.take 200) = (xs.take j).map (List.take 200) ++ [r]) := by show _ = _; rw [HTk.out, Hr.out]
      clear hrj hx hxd hlj HTk
      go_wp2_with (first
        | (go_at_call 17; refine hfew.mono ?_; rintro e w5 ⟨a5, n5, c5, rfl, hn5, o5, hr5, hg5, hb5⟩; have ov5 := own_keep (S := fun _ => False) ovj (Keep.ofBelow hb5) (fun _ _ h => h))
        | (at_builtin; refine wp_appRow rfl (.tmp 15) (.tmp 21) rfl 0 (.slice av j cv) j vs rfl ov5 a5 n5 c5 rfl (by omega) (Nat.zero_le _) ?_; intro v6 w6 o6 hk6 hwh6; obtain ⟨a6, c6, rfl⟩ := own_sl o6))
      have h0s := HB.out.size
      have h5s := hb5.size
      have h6s := hk6.size
      have hlen := hr5.len
      have hB5 : Below w.heap.size w w5 := HB.out.trans (hb5.mono h0s)
      have hB6 : Below w.heap.size w w6 := hB5.trans (hk6.low hB5.size (fun i hi => (hvo i hi).1))
      have hR6 : RcA w6 (fun i => w.heap.size ≤ i ∧ i < w6.heap.size) (.slice a6 (j + 1) c6) ((xs.take j).map (List.take 200) ++ [r]) := by
        refine RcA.app (w := w5) (vs := vs) (v := .slice av j cv) (u := .slice a5 n5 c5) (by rw [HLj.out]; exact ov5) (fun i r hr => ?_) (by rw [HLj.out]; exact o6) hk6 (by rw [hlen]; exact own_weak o5 (Nat.zero_le _)) (fun g hg => ?_) hbd (fun g hg => ?_)
        · obtain ⟨u2, m1, m2, m3, m4⟩ := hvs i r hr
          exact ⟨u2, m1, own_keep (S := fun _ => False) m2 (Keep.ofBelow hb5) (fun _ _ h => h), fun g hg => by have := m3 g hg; exact ⟨this.1, by omega⟩, m4⟩
        · have := o5.lt g hg
          exact ⟨by omega, by omega⟩
        · rcases hwh6 with h9 | ⟨g9, h9, h10⟩
          · have := hvo g (by rw [← h9]; exact hg)
            exact ⟨this.1, by omega⟩
          · rw [h9] at hg
            injection hg with hg
            subst hg
            refine ⟨by omega, ?_⟩
            obtain ⟨cur, e⟩ := own_blkT o6 h9
            exact (Array.getElem?_eq_some_iff.1 e).1
      exact ⟨⟨j + 1, _, rfl, by go_num, by omega, by omega, by show RcA _ _ _ _; rw [HTk2.out]; exact hR6, hB6⟩, by simp [intOf]; omega⟩
    · have hend : ¬ (j : Int) < (n : Int) ∨ ((j : Int) < (n : Int) ∧ ¬ (j : Int) < 12) := by omega
      have hR9 := HR.out
      have e12 : xs.take j = xs.take 12 := by
        by_cases h12 : j = 12
        · rw [h12]
        · rw [List.take_of_length_le (by rw [Hn.out]; omega), List.take_of_length_le (by rw [Hn.out]; omega)]
      rw [e12] at hR9
      clear e12
      rcases hend with hcl | ⟨hcl, hcl12⟩ <;> (
        go_wp2
        go_ret
        exact ⟨_, rfl, hR9, HB.out⟩)
theorem RcA.rrd {w : World} {A : Nat → Prop} {al : Option Addr} {N cl : Nat} {rs : List (List Int)} (h : RcA w A (.slice al N cl) rs) (hN : rs.length = N) (hm : N ≤ 9223372036854775807) : RRd w al N rs := by
  refine ⟨hN, hm, fun h0 => ?_⟩
  obtain ⟨g, _, _, _, e, _⟩ := h.cell hN 0 h0
  refine ⟨g, 0, e, fun j hj => ?_⟩
  obtain ⟨g', a, n, c, e', h1, h2⟩ := h.cell hN j hj
  rw [e] at e'
  injection e' with e'
  injection e' with e'
  subst e'
  rw [Nat.zero_add]
  exact ⟨a, n, c, h1, h2⟩
theorem RcA.rnot {w : World} {A S : Nat → Prop} {al : Option Addr} {N cl : Nat} {rs : List (List Int)} (h : RcA w A (.slice al N cl) rs) (hN : rs.length = N) (hS : ∀ i, A i → ¬ S i) : RNot w al N S := by
  obtain ⟨⟨vs, ov, hvs⟩, hvo⟩ := h
  refine ⟨fun ad e => ?_, fun b off e j hj aj nj cj hc ad ha => ?_⟩
  · rcases ov.2 with ⟨e1, _⟩ | ⟨g, cap, cur, e1, _⟩
    · injection e1 with e1
      rw [e1] at e; cases e
    · injection e1 with e1
      rw [e1] at e
      injection e with e
      rw [← e]
      exact hS g (hvo g (by rw [e1]; rfl))
  · rcases ov.2 with ⟨e1, _⟩ | ⟨g, cap, cur, e1, _⟩
    · injection e1 with e1
      rw [e1] at e; cases e
    · have e1' := e1
      injection e1 with e1
      rw [e1] at e
      injection e with e
      injection e with e2 e3
      subst e2 e3
      obtain ⟨r, hr⟩ : ∃ r, rs[j]? = some r := ⟨_, List.getElem?_eq_getElem (by omega)⟩
      obtain ⟨u, h1, h2, h3, h4⟩ := hvs j r hr
      have ov2 := ov
      rw [e1'] at ov2
      have hc2 := ov2.cells (g := g) rfl j _ h1
      rw [add_flat] at hc2
      rw [hc] at hc2
      injection hc2 with hc2
      subst hc2
      subst ha
      rcases h2.2 with ⟨e5, _⟩ | ⟨g2, cap2, cur2, e5, _⟩
      · injection e5 with e5; cases e5
      · have e6 := e5
        injection e5 with e5
        injection e5 with e5
        subst e5
        exact hS g2 (h3 g2 rfl)

set_option maxRecDepth 100000 in
set_option maxHeartbeats 4000000 in
/-- The law's 'is': has the log just these records? -/
theorem sis_any (w : World) (F H A : Nat → Prop) (lb d pb : Nat) (l : Lg) (k : Dk) (hA : LogAt w F H lb d l k) (hpb : w.heap[pb]? = some (.cells #[.pointer (some ⟨lb, 0, none⟩)] 48 (0, 0))) (hrl : ∀ r ∈ l.recs, r.length ≤ 1000000000) (al : Option Addr) (N cl : Nat) (rs : List (List Int)) (hR : RcA w A (.slice al N cl) rs) (hN : rs.length = N) (hm : N ≤ 1000000) :
    Calls Tryz.prog 30 #[.slice al N cl, .pointer (some ⟨pb, 0, none⟩)] w fun e w' => e = .returned (.bool (decide (l.recs = rs))) ∧ Below w.heap.size w w' := by
  have q0 := box_cell hpb
  have hln := slen_any w F H lb d l k hA
  have Hpb : Hid (w.heap[pb]? = some (.cells #[.pointer (some ⟨lb, 0, none⟩)] 48 (0, 0))) := hpb
  have HR : Hid (RcA w A (.slice al N cl) rs) := hR
  have HA : Hid (LogAt w F H lb d l k) := hA
  have HN : Hid (rs.length = N) := hN
  have HRL : Hid (∀ r ∈ l.recs, r.length ≤ 1000000000) := hrl
  obtain ⟨B, HB⟩ : ∃ B, Hid (decide (l.recs = rs) = B) := ⟨_, rfl⟩
  rw [HB.out]
  obtain ⟨M, HM⟩ : ∃ M, Hid (l.recs.length = M) := ⟨_, rfl⟩
  rw [HM.out] at hln
  clear hR hA hN hrl hpb
  by_cases hMN : M = N
  · subst hMN
    have zz : ((M : Int) != (M : Int)) = false := by simp
    go_enter Tryz.func30, Tryz.ntmps30
    go_upto_region 4 with (first
      | (go_at_call 26; refine hln.mono ?_; rintro e w1 ⟨rfl, h1⟩; replace h1 := h1.symm; subst h1))
    clear hln zz
    go_loopw [3, 4, 5, 6] (fun s3 s4 _ _ wr => ∃ j : Nat, s3 = .bool false ∧ s4 = .int .i64 j ∧ j ≤ M ∧ Hid (l.recs.take j = rs.take j) ∧ Hid (Below w.heap.size w wr)) (fun _ s4 _ _ _ => M - (intOf s4).toNat)
    case atStart => exact ⟨0, rfl, rfl, by omega, by rw [List.take_zero, List.take_zero]; exact rfl, Below.refl _ _⟩
    case round =>
      obtain ⟨j, rfl, rfl, hjM, HJ, HBl⟩ := hrel
      by_cases hlt : j < M
      · have hcl : (j : Int) < (M : Int) := by omega
        have hj0 : (0 : Int) ≤ (j : Int) := by omega
        have q1 := box_cell (box_below Hpb.out HBl.out)
        obtain ⟨x, hx⟩ : ∃ x, l.recs[j]? = some x := ⟨_, List.getElem?_eq_getElem (by rw [HM.out]; exact hlt)⟩
        obtain ⟨y, hy⟩ : ∃ y, rs[j]? = some y := ⟨_, List.getElem?_eq_getElem (by rw [HN.out]; exact hlt)⟩
        have hyd : rs.getD j [] = y := by rw [List.getD_eq_getElem?_getD, hy]; rfl
        have hat := sat_any _ F H lb d l k (j : Int) (by omega) (HA.out.below HBl.out) HRL.out
        have hatL : atL l (j : Int) = some x := by
          unfold atL
          rw [if_neg (by omega), Int.toNat_natCast]
          exact hx
        rw [hatL] at hat
        dsimp only [Option.isSome_some, Option.getD_some] at hat
        obtain ⟨g, ax, nx, cx, rfl, hcx, hrx⟩ := (HR.out.keep (S := fun _ => False) (H' := A) (Keep.ofBelow HBl.out) (fun _ _ h => h) (fun _ h => h)).cell HN.out j hlt
        rw [hyd] at hrx
        have HX : Hid (l.recs[j]? = some x) := hx
        have HY : Hid (rs[j]? = some y) := hy
        have hyb := hrx.bytes
        clear hx hy hyd hatL
        go_upto_region 7 with (first
          | (go_at_call 27; refine hat.mono ?_; rintro e w7 ⟨u7, rfl, o7, hbd7, hb7⟩; obtain ⟨a7, c7, rfl, r7⟩ := Rd.ofOwn o7 hbd7))
        have hs1 := r7.strN
        have hs2 := (hrx.carry (Nat.le_refl _) hb7).strN
        have hcx7 := (hb7.cell (p := ⟨g, j, none⟩) (World.block_lt_of_cell? _ _ hcx)).trans hcx
        have hB7 : Below w.heap.size w w7 := HBl.out.trans (hb7.mono HBl.out.size)
        by_cases hxy : x = y
        · subst hxy
          generalize strOfNums x = str at hs1 hs2
          have HJ2 : Hid (l.recs.take (j + 1) = rs.take (j + 1)) := by
            show _ = _
            rw [List.take_add_one, List.take_add_one, HX.out, HY.out, HJ.out]
          clear hat hrx hcx o7 r7 hbd7 hb7 hyb
          go_quiet (fail)
          go_wp2
          go_roundw
          case rel => exact ⟨j + 1, rfl, by go_num, by omega, HJ2.out, ⟨hB7.os, hB7.tape, hB7.output, hB7.size, hB7.block⟩⟩
          case measure => simp [intOf]; omega
        · have hsn : strOfNums x ≠ strOfNums y := fun e => hxy (str_inj hbd7 hyb e)
          have HB2 : Hid (B = false) := by
            show _ = _
            rw [← HB.out]
            refine decide_eq_false (fun e => hxy ?_)
            have h1 := HX.out
            rw [e, HY.out] at h1
            exact (Option.some.inj h1).symm
          obtain ⟨s1, hs1e⟩ : ∃ s1, strOfNums x = s1 := ⟨_, rfl⟩
          obtain ⟨s2, hs2e⟩ : ∃ s2, strOfNums y = s2 := ⟨_, rfl⟩
          rw [hs1e] at hs1 hsn
          rw [hs2e] at hs2 hsn
          have hne := nm_neqT hsn
          have HSn : Hid (s1 ≠ s2) := hsn
          clear hat hrx hcx o7 r7 hbd7 hb7 hyb hxy hs1e hs2e hsn
          go_quiet (fail)
          go_wp2
          go_ret
          exact ⟨by rw [HB2.out]; rfl, ⟨hB7.os, hB7.tape, hB7.output, hB7.size, hB7.block⟩⟩
      · have hcl : ¬ (j : Int) < (M : Int) := by omega
        have HB2 : Hid (B = true) := by
          show _ = _
          rw [← HB.out]
          refine decide_eq_true ?_
          have h1 := HJ.out
          rw [List.take_of_length_le (by rw [HM.out]; omega), List.take_of_length_le (by rw [HN.out]; omega)] at h1
          exact h1
        go_wp2
        go_ret
        exact ⟨by rw [HB2.out]; rfl, HBl.out⟩
  · have HB2 : Hid (B = false) := by
      show _ = _
      rw [← HB.out]
      refine decide_eq_false (fun e => hMN ?_)
      rw [← HM.out, ← HN.out, e]
    have zz : ((M : Int) != (N : Int)) = true := by simp; omega
    have zz2 : ¬ (M : Int) = (N : Int) := by omega
    go_enter Tryz.func30, Tryz.ntmps30
    go_wp2_with (first
      | (go_at_call 26; refine hln.mono ?_; rintro e w1 ⟨rfl, h1⟩; replace h1 := h1.symm; subst h1))
    go_ret
    exact ⟨by rw [HB2.out]; rfl, Below.refl _ _⟩

end Go.Proofs.YtikkieaokfailaaGreatDoor

/- LogSwitch: the law's walk. -/
namespace Go.Proofs.YtikkieaokfailaaGreatDoor
open Go.ChangeShapes Go.WideShapes Go.ChangeAt Go.RowKit Go.Joins

/-- Without a fuse no step is without power. -/
def On (k : Dk) : Prop := k.off = false ∧ k.fu = none
theorem On.pass {k : Dk} (h : On k) : (passK k).1 = 0 ∧ On (passK k).2 := by rw [pass_on h.2]; exact ⟨rfl, h⟩
theorem On.app {k : Dk} (h : On k) (s : Nm) (xs : List Int) : (appK k s xs).1 ≠ 13 ∧ On (appK k s xs).2 := by
  unfold appK
  rw [h.1, if_neg (by decide)]
  split
  · exact ⟨by simp, h⟩
  · split
    · exact ⟨by simp, h⟩
    · have hp := On.pass (k := { k with fs := putL k.fs s ⟨((look k.fs s).map Fle.b).getD [] ++ xs, ((look k.fs s).map Fle.safe).getD 0⟩ }) h
      rw [h.1] at hp
      exact ⟨by rw [hp.1]; decide, hp.2⟩
theorem On.sync {k : Dk} (h : On k) (s : Nm) : (syncK k s).1 ≠ 13 ∧ On (syncK k s).2 := by
  unfold syncK stepK
  rw [h.1, if_neg (by decide)]
  split
  · exact ⟨by simp, h⟩
  · split
    · exact ⟨by simp, h⟩
    · rw [if_neg (by simp), pass_on h.2, if_neg (by simp)]
      exact ⟨by simp, h⟩
theorem On.stp {k : Dk} {r : Nat × Dk} (h : r.1 ≠ 13 ∧ On r.2) : (stp false k r).1 ≠ 13 ∧ (stp false k r).2.1 = false ∧ On (stp false k r).2.2 := ⟨h.1, decide_eq_false h.1, h.2⟩
theorem On.settle {k : Dk} (h : On k) (c : Ch) : (settleL c false k).1 ≠ 13 ∧ (settleL c false k).2.2.1 = false ∧ On (settleL c false k).2.2.2 := by
  unfold settleL
  split
  · exact On.stp (k := k) (h.sync _)
  · exact ⟨by show (0 : Nat) ≠ 13; decide, rfl, h⟩
theorem On.put {k : Dk} (h : On k) (i sz : Nat) (c : Ch) (b : List Int) : (putS i sz c b false k).1 ≠ 13 ∧ On (putS i sz c b false k).2.2.2 := by
  have := On.stp (k := k) (h.app (segN c.g i) b)
  exact ⟨this.1, this.2.2⟩
theorem On.lay {k : Dk} (h : On k) (most : Nat) (c : Ch) (b : List Int) : (layL most c b false k).1 ≠ 13 ∧ On (layL most c b false k).2.2.2 := by
  unfold layL
  obtain ⟨s1, s2, s3⟩ := h.settle c
  split
  · split
    · exact ⟨s1, s3⟩
    · rw [s2]
      exact s3.put _ _ _ _
  · exact h.put _ _ _ _
theorem KI.appOn {l : Lg} {k : Dk} {all : List (List Int)} {safe : Nat} (h : KI l k all safe) (hk : On k) (ha : all.length < 120) (r : List Int) (hr : r.length ≤ 200) (hb : Bd r) : (appendT l k r).1 = 0 ∧ KI (appendT l k r).2.1 (appendT l k r).2.2 (all ++ [r]) safe ∧ On (appendT l k r).2.2 ∧ (appendT l k r).2.2.steps ≤ k.steps + 2 := by
  obtain ⟨h1, h2⟩ := h.app ha r hr hb
  have h3 : (appendT l k r).1 ≠ 13 ∧ On (appendT l k r).2.2 := by
    unfold appendT appendL
    rw [if_neg (by omega), h.dn]
    exact hk.lay _ _ _
  rcases h2 with h2 | h2
  · exact ⟨h2.1, h2.2, h3.2, h1⟩
  · exact absurd h2.1 h3.1
theorem KI.commitOn {l : Lg} {k : Dk} {all : List (List Int)} {safe : Nat} (h : KI l k all safe) (hk : On k) (ha : all.length ≤ 120) : (commitL l k).1 = 0 ∧ KI (commitL l k).2.1 (commitL l k).2.2 all all.length ∧ (commitL l k).2.1.ch.loose = false ∧ (commitL l k).2.2.steps ≤ k.steps + 1 := by
  obtain ⟨h1, h2⟩ := h.commit ha
  have h3 : (commitL l k).1 ≠ 13 := by
    unfold commitL
    rw [h.dn]
    exact (hk.settle _).1
  obtain ⟨en, c', dn', k', p1, p2, p3⟩ := h.c.settle ha
  have e : commitL l k = (en, ⟨l.most, l.recs, c', dn'⟩, k') := by
    unfold commitL
    rw [h.dn, p1]
  rcases h2 with h2 | h2
  · refine ⟨h2.1, h2.2, ?_, h1⟩
    rw [e] at h2 ⊢
    rcases p3 with ⟨_, _, _, p4, _⟩ | ⟨e13, _⟩
    · exact p4
    · exact absurd (h2.1.symm.trans e13) (by decide)
  · exact absurd h2.1 h3

theorem cellsTurnL : Tryz.prog.cellsOf 66 = 4 := by kernel_rfl
theorem arr4L {α : Type} {cs : Array α} (h : cs.size = 4) : ∃ c0 c1 c2 c3, cs = #[c0, c1, c2, c3] := by
  obtain ⟨l⟩ := cs
  match l, h with
  | [a, b, c, d], _ => exact ⟨a, b, c, d, rfl⟩
set_option maxRecDepth 100000 in
theorem open_turnL {H : Type} {enc : TypeId × Value → H} {W : World} {b0 : Nat} {v : Value} {d : DataW H} {p : List MemPlace}
    (hv : Value.okWide Tryz.prog W .any b0 66 v) (h : DataW.Trod enc Tryz.prog W 0 (fun _ => true) true 66 v d p) :
    ∃ (a : Option Addr) (n c : Nat) (xs : List (List Int)) (b : Option Addr) (m e : Nat) (ys : List (List Int)) (fu : Int) (f : Option Addr) (p q : Nat) (zs : List Int), v = .agg #[.slice a n c, .slice b m e, .int .i64 fu, .slice f p q] ∧ RRd W a n xs ∧ RRd W b m ys ∧ IAr W f p q zs := by
  obtain ⟨cs, rfl, hsz⟩ := okWide_struct Tryz.underlying66 hv
  obtain ⟨c0, c1, c2, c3, rfl⟩ := arr4L (hsz.trans cellsTurnL)
  obtain ⟨fuel, hf⟩ := h
  obtain ⟨ys, n, _, hx, hl, hlen, hfs⟩ := DataW.trod_struct Tryz.underlying66 hf
  match ys, hlen with
  | [y0, y1, y2, y3], _ =>
    have f0 : DataW.trod enc Tryz.prog W 0 (fun _ => true) true n 30 [c0] = some y0 := by simpa [Value.cells, cellsRows] using hfs 0 _ rfl
    have f1 : DataW.trod enc Tryz.prog W 0 (fun _ => true) true n 30 [c1] = some y1 := by simpa [Value.cells, cellsRows] using hfs 1 _ rfl
    have f2 : DataW.trod enc Tryz.prog W 0 (fun _ => true) true n 3 [c2] = some y2 := by simpa [Value.cells, cellsInt] using hfs 2 _ rfl
    have f3 : DataW.trod enc Tryz.prog W 0 (fun _ => true) true n 31 [c3] = some y3 := by simpa [Value.cells, cellsInts] using hfs 3 _ rfl
    obtain ⟨I, e2, _, w2⟩ := DataW.trod_int Tryz.underlying3 f2
    simp only [List.cons.injEq, and_true] at e2
    subst e2
    obtain ⟨a, l, c, zs, rfl, hR⟩ := rrd_of_cells f0
    obtain ⟨b, m, e, ys, rfl, hM⟩ := rrd_of_cells f1
    obtain ⟨f, p, q, us, rfl, hI⟩ := iar_of_cells f3
    exact ⟨a, l, c, zs, b, m, e, ys, I, f, p, q, us, rfl, hR, hM, hI⟩

set_option maxRecDepth 100000 in
set_option maxHeartbeats 8000000 in
theorem logSwitch_any (a0 : Option Addr) (n0 c0 : Nat) (xs0 : List (List Int)) (a1 : Option Addr) (n1 c1 : Nat) (xs1 : List (List Int)) (fu : Int) (a2 : Option Addr) (n2 c2 : Nat) (zs : List Int) (W : World) (hR0 : RRd W a0 n0 xs0) (hR1 : RRd W a1 n1 xs1) (hI : IAr W a2 n2 c2 zs) (hP : Pw W) :
    Calls Tryz.prog 6 #[.agg #[.slice a0 n0 c0, .slice a1 n1 c1, .int .i64 fu, .slice a2 n2 c2]] W fun e w' => e = .returned (.bool true) ∧ Below W.heap.size W w' := by
  have hmf : ∀ (fn : Fn) (first cap : Array Value) (w : World), (Instr.makeFunc fn first cap).run Tryz.prog w = .ok (.func fn first cap) w := fun _ _ _ _ => rfl
  have hpl := hP.at
  have hnm0 := hR0.most
  have hnm1 := hR1.most
  obtain ⟨kN, HkN⟩ : ∃ kN, Hid (newK 100000 = kN) := ⟨_, rfl⟩
  have hon := open_new 64 100000
  have hKn := KI.new
  have hOn : On (newK 100000) := ⟨rfl, rfl⟩
  rw [HkN.out] at hon hKn hOn
  have hkf : kN.fs.length ≤ 1000 := by rw [← HkN.out]; decide
  have hks : kN.steps = 0 := by rw [← HkN.out]; rfl
  have hku : used kN.fs ≤ 900000 := by rw [← HkN.out]; decide
  have Hop : Hid (openL 64 kN = (0, lg1 64, kN)) := hon
  have HKn : Hid (KI (lg1 64) kN [] 0) := hKn
  have HOn : Hid (On kN) := hOn
  clear hon hKn hOn
  obtain ⟨W1, hW1⟩ : ∃ W1, W.alloc (.cells #[.slice a0 n0 c0, .slice a1 n1 c1, .int .i64 fu, .slice a2 n2 c2] 66) = W1 := ⟨_, rfl⟩
  have hB1 : Below W.heap.size W W1 := by rw [← hW1]; exact (Below.refl _ _).alloc (Nat.le_refl _) _
  have hblk : W1.heap[W.heap.size]? = some (.cells #[.slice a0 n0 c0, .slice a1 n1 c1, .int .i64 fu, .slice a2 n2 c2] 66 (0, 0)) := by rw [← hW1]; exact alloc_at W _
  have k0 : W1.cell? ⟨W.heap.size, 0, none⟩ = some (.slice a0 n0 c0) := by rw [cell_of_block hblk]; rfl
  have k1 : W1.cell? ⟨W.heap.size, 1, none⟩ = some (.slice a1 n1 c1) := by rw [cell_of_block hblk]; rfl
  have k2 : W1.cell? ⟨W.heap.size, 2, none⟩ = some (.int .i64 fu) := by rw [cell_of_block hblk]; rfl
  have k3 : W1.cell? ⟨W.heap.size, 3, none⟩ = some (.slice a2 n2 c2) := by rw [cell_of_block hblk]; rfl
  go_enter Tryz.func6, Tryz.ntmps6
  go_upto_region 1 with fail
  clear hW1 hblk
  go_quiet (fail)
  have hBY : Below W.heap.size W (W1.drewN nq) := ⟨hB1.os, hB1.tape, hB1.output, hB1.size, hB1.block⟩
  clear k0 k1 k2 k3 hB1
  generalize W1.drewN nq = Y at *
  have hPY := hP.below hBY
  have hYs := hBY.size
  have hN := new_ok 100000 (by omega) Y
  rw [HkN.out] at hN
  go_upto_region 3 with (first
    | (go_at_call 14; refine hN.mono ?_; rintro e w1 ⟨d, rfl, ⟨F1, hD1, hF1⟩, hb1⟩))
  have h1s := hb1.size
  have hop := sopen_any w1 F1 d 64 kN (by omega) (by omega) hD1 (hPY.below hb1) (fun i hi => by have := hF1 i hi; omega) hkf (by omega) hku
  rw [Hop.out] at hop
  go_upto_region 4 with (first
    | (go_at_call 20; refine hop.mono ?_; rintro e w2 ho; obtain ⟨lb, rfl, hlb, F2, H2, hA2, hk2, hF2, hH2⟩ := ho.yes rfl))
  clear ho hop hkf hku Hop hN
  have hB2 : Below W.heap.size W w2 := (hBY.trans (hb1.mono hYs)).trans (hk2.low (by omega) (fun i hi => by have := hF1 i hi; omega))
  have h2s := hk2.size
  have hwk := swakes_any w2 (hP.below hB2)
  go_upto_region 6 with (first
    | (go_at_call 11; refine hwk.mono ?_; rintro e w3 ⟨rfl, hb3⟩))
  have h3s := hb3.size
  have hB3 : Below W.heap.size W w3 := hB2.trans (hb3.mono hB2.size)
  have hA3 := hA2.below hb3
  obtain ⟨v0, hL0, _⟩ := hA2.ex
  have hF2l := hL0.D.lt
  have hH2l := hA2.lt
  have hlbl := hL0.lt
  have hF2' : ∀ i, F2 i → W.heap.size ≤ i := fun i hi => (hF2 i hi).elim (fun h => by have := hF1 i h; omega) (fun h => by omega)
  have hH2' : ∀ i, H2 i → W.heap.size ≤ i := fun i hi => by have := hH2 i hi; omega
  have hlbW : W.heap.size ≤ lb := by omega
  clear hA2 hwk hk2 hF2 hH2 hlb hD1 hF1 hb1 hL0 hb3
  have htw0 := twins_any a0 n0 c0 xs0 w3 (hR0.below hB3)
  have htw1 := fun w (hb : Below W.heap.size W w) => twins_any a1 n1 c1 xs1 w (hR1.below hb)
  have tk : True := trivial
  go_upto_region 7 with (first
    | (clear tk; go_at_call 28; refine htw0.mono ?_; rintro e w4 ⟨v4, rfl, hRa4, hb4⟩)
    | (go_at_call 28; refine (htw1 w4 (hB3.trans (hb4.mono hB3.size))).mono ?_; rintro e w5 ⟨v5, rfl, hRb5, hb5⟩))
  have h4s := hb4.size
  have h5s := hb5.size
  have hB4 : Below W.heap.size W w4 := hB3.trans (hb4.mono hB3.size)
  have hB5 : Below W.heap.size W w5 := hB4.trans (hb5.mono hB4.size)
  have hA5 := (hA3.below hb4).below hb5
  have hRa5 : RcA w5 (fun i => w3.heap.size ≤ i ∧ i < w5.heap.size) v4 (tw xs0) := hRa4.keep (S := fun _ => False) (Keep.ofBelow hb5) (fun _ _ h => h) (fun i hi => ⟨hi.1, by omega⟩)
  have hRb5' : RcA w5 (fun i => w3.heap.size ≤ i ∧ i < w5.heap.size) v5 (tw xs1) := hRb5.keep (S := fun _ => False) (Keep.refl _ _) (fun _ _ h => h) (fun i hi => ⟨by omega, hi.2⟩)
  have hta := tw_len xs0
  have htb := tw_len xs1
  have hra := tw_rl xs0
  have hrb := tw_rl xs1
  have htwb := tw_tw xs1
  obtain ⟨A, HA⟩ : ∃ A, Hid (tw xs0 = A) := ⟨_, rfl⟩
  obtain ⟨B, HBb⟩ : ∃ B, Hid (tw xs1 = B) := ⟨_, rfl⟩
  rw [HA.out] at hRa5 hta hra
  rw [HBb.out] at hRb5' htb hrb htwb
  obtain ⟨Na, HNa⟩ : ∃ Na, Hid (A.length = Na) := ⟨_, rfl⟩
  obtain ⟨Nb, HNb⟩ : ∃ Nb, Hid (B.length = Nb) := ⟨_, rfl⟩
  rw [HNa.out] at hta
  rw [HNb.out] at htb
  obtain ⟨aa, ca, hva⟩ : ∃ aa ca, v4 = .slice aa Na ca := by
    obtain ⟨⟨vs, ov, _⟩, _⟩ := hRa5
    obtain ⟨x, y, e⟩ := own_sl ov
    rw [HNa.out] at e
    exact ⟨x, y, e⟩
  obtain ⟨ab, cb, hvb⟩ : ∃ ab cb, v5 = .slice ab Nb cb := by
    obtain ⟨⟨vs, ov, _⟩, _⟩ := hRb5'
    obtain ⟨x, y, e⟩ := own_sl ov
    rw [HNb.out] at e
    exact ⟨x, y, e⟩
  subst hva hvb
  have HRa : Hid (RcA w5 (fun i => w3.heap.size ≤ i ∧ i < w5.heap.size) (.slice aa Na ca) A) := hRa5
  have HRb : Hid (RcA w5 (fun i => w3.heap.size ≤ i ∧ i < w5.heap.size) (.slice ab Nb cb) B) := hRb5'
  have HtB : Hid (tw B = B) := htwb
  have Hrla : Hid (∀ r ∈ A, r.length ≤ 200) := hra
  have Hrlb : Hid (∀ r ∈ B, r.length ≤ 200) := hrb
  have hnS : ∀ i, w3.heap.size ≤ i → i < w5.heap.size → ¬ (F2 i ∨ H2 i ∨ i = lb) := fun i h1 h2 h => by
    rcases h with h | h | h
    · have := hF2l i h; omega
    · have := hH2l i h; omega
    · omega
  clear htw0 htw1 hRa4 hRb5 hRa5 hRb5' htwb hA3 hb4 hb5 hra hrb
  go_wp2_with fail
  go_loopw [13] (fun s13 wr => ∃ (j : Nat) (l : Lg) (k : Dk) (F H : Nat → Prop), s13 = .int .i64 j ∧ j ≤ Na ∧ k.steps ≤ 2 * j ∧ Hid (KI l k (A.take j) 0) ∧ Hid (On k) ∧ Hid (LogAt wr F H lb d l k) ∧ Hid (∀ i, F i → F2 i ∨ w5.heap.size ≤ i) ∧ Hid (∀ i, H i → H2 i ∨ w5.heap.size ≤ i) ∧ Hid (Keep (fun i => F2 i ∨ H2 i ∨ i = lb) w5 wr)) (fun s13 _ => Na - (intOf s13).toNat)
  case atStart => exact ⟨0, _, kN, F2, H2, rfl, by omega, by omega, by rw [List.take_zero]; exact HKn.out, HOn.out, hA5, fun i hi => Or.inl hi, fun i hi => Or.inl hi, Keep.refl _ _⟩
  case round =>
    obtain ⟨j, l, k, F, H, rfl, hjN, hst, HK, HOk, HL, HF, HH, HKp⟩ := hrel
    have hrs := HKp.out.size
    obtain ⟨v6, hL6, _⟩ := HL.out.ex
    have hFl := hL6.D.lt
    have hHl := HL.out.lt
    have hll := hL6.lt
    clear hL6
    have hlen : (A.take j).length = j := by rw [List.length_take, HNa.out]; omega
    have hBr : Below W.heap.size W wr := hB5.trans (HKp.out.low hB5.size (fun i hi => by
      rcases hi with hi | hi | hi
      · exact hF2' i hi
      · exact hH2' i hi
      · omega))
    obtain ⟨hok, hfs⟩ := HK.out.ok (by rw [hlen]; omega)
    by_cases hlt : j < Na
    · have hcl : (j : Int) < (Na : Int) := by omega
      have hj0 : (0 : Int) ≤ (j : Int) := by omega
      obtain ⟨r, hr⟩ : ∃ r, A[j]? = some r := ⟨_, List.getElem?_eq_getElem (by rw [HNa.out]; exact hlt)⟩
      have hrd : A.getD j [] = r := by rw [List.getD_eq_getElem?_getD, hr]; rfl
      have hrr := HRa.out.keep HKp.out (fun i hi => hnS i hi.1 hi.2) (fun _ h => h)
      obtain ⟨g, aj, nj, cj, rfl, hcj, hrj⟩ := hrr.cell HNa.out j hlt
      rw [hrd] at hrj
      have hcjA : (wr.alloc (.cells #[] 5)).cell? ⟨g, j, none⟩ = some (.slice aj nj cj) := ((Keep.refl (fun _ => False) wr).alloc _).cell hcj (fun h => h)
      have hrm := Hrla.out r (List.mem_of_getElem? hr)
      have hbr := hrj.bytes
      have hnj := hrj.len
      obtain ⟨p1, p2, p3, p4⟩ := HK.out.appOn HOk.out (by rw [hlen]; omega) r hrm hbr
      have HTk : Hid (A.take (j + 1) = A.take j ++ [r]) := by show _ = _; rw [List.take_add_one, hr]; rfl
      have hap := fun w hA a' n' c' hR' hRF => sappend_any w F H lb d l k hA hok (by omega) (by omega) a' n' c' r hR' hRF
      obtain ⟨P, HPq⟩ : ∃ P, appendT l k r = P := ⟨_, rfl⟩
      rw [HPq] at p1 p2 p3 p4
      simp only [HPq] at hap
      obtain ⟨en, l', k'⟩ := P
      dsimp only at p1 p2 p3 p4 hap
      subst p1
      have HK2 : Hid (KI l' k' (A.take (j + 1)) 0) := by show KI _ _ _ _; rw [HTk.out]; exact p2
      have HO2 : Hid (On k') := p3
      clear HPq p2 p3 hrd hr hrr hlen
      go_wp2_with (first
        | (at_builtin; refine wp_app0K rfl (.tmp 55) (.tmp 59) rfl rfl aj nj cj r rfl hrj (by omega) ?_; intro v7 w7 o7 hb7 hf7; obtain ⟨a7, c7, rfl, r7⟩ := Rd.ofOwn o7 hbr)
        | (go_at_call 22; refine (hap w7 (HL.out.below hb7) a7 nj c7 r7 (fun ad had => by
            rcases o7.2 with ⟨e, _⟩ | ⟨g7, cap7, cur7, e, hg7, _⟩
            · injection e with e1; rw [e1] at had; cases had
            · injection e with e1; rw [e1] at had; cases had; exact ⟨fun hf => by have := hFl _ hf; dsimp only at this; omega, by dsimp only; omega⟩)).mono ?_; rintro e w8 ⟨rfl, F8, H8, hA8, hk8, hF8, hH8⟩))
      have h7s := hb7.size
      have h8s := hk8.size
      have hk58 : Keep (fun i => F2 i ∨ H2 i ∨ i = lb) w5 w8 := (HKp.out.trans (Keep.ofBelow hb7)).andThen hk8 (fun i hi hs => by
        rcases hs with hs | hs | hs
        · rcases HF.out i hs with h9 | h9
          · exact Or.inl h9
          · omega
        · rcases HH.out i hs with h9 | h9
          · exact Or.inr (Or.inl h9)
          · omega
        · exact Or.inr (Or.inr hs))
      go_roundw
      case rel => exact ⟨j + 1, l', k', F8, H8, by go_num, by omega, by omega, HK2.out, HO2.out, hA8, fun i hi => (hF8 i hi).elim (HF.out i) (fun h => Or.inr (by omega)), fun i hi => (hH8 i hi).elim (HH.out i) (fun h => Or.inr (by omega)), hk58⟩
      case measure => simp [intOf]; omega
    · have hcl : ¬ (j : Int) < (Na : Int) := by omega
      have hjNa : A.take j = A := List.take_of_length_le (by rw [HNa.out]; omega)
      have hKA := HK.out
      rw [hjNa] at hKA
      obtain ⟨p1, p2, p3, p4⟩ := hKA.commitOn HOk.out (by rw [HNa.out]; omega)
      have hcm := scommit_any wr F H lb d l k HL.out hok (by omega) (by omega)
      obtain ⟨P, HPq⟩ : ∃ P, commitL l k = P := ⟨_, rfl⟩
      rw [HPq] at p1 p2 p3 p4 hcm
      obtain ⟨en, l', k'⟩ := P
      dsimp only at p1 p2 p3 p4 hcm
      subst p1
      obtain ⟨q, hq0, hq40⟩ := tmK 40 (by omega) (by omega) fu
      have hq : (wrap64 (fu.tmod 40 + 40)).tmod 40 = (q : Int) := hq0
      obtain ⟨_, f2, f3⟩ := p2.fuse q (by omega)
      have hfz := fun w F' hD => fuse_any d F' k' (q : Int) (by omega) w hD
      obtain ⟨P2, HP2⟩ : ∃ P2, fuseK k' (q : Int) = P2 := ⟨_, rfl⟩
      rw [HP2] at f2 f3
      simp only [HP2] at hfz
      obtain ⟨ef, kf⟩ := P2
      dsimp only at f2 f3 hfz
      have HKI : Hid (KI l' kf A Na) := by show KI _ _ _ _; rw [← HNa.out]; exact f2
      have HLo : Hid (l'.ch.loose = false) := p3
      clear HPq HP2 p2 hKA hjNa hlen hq0 f2 HK HOk hok p3
      go_upto_region 14 with (first
        | (go_at_call 23; refine hcm.mono ?_; rintro e w6 ⟨rfl, F6, H6, hA6, hk6, hF6, hH6⟩))
      have h6s := hk6.size
      obtain ⟨v7, hL7, _⟩ := hA6.ex
      have hfz6 := hfz w6 F6 hL7.D
      clear hcm hfz hL7
      go_upto_region 15 with (first
        | (go_at_call 21; refine hfz6.mono ?_; rintro e w7 ⟨rfl, hp7⟩))
      obtain ⟨F7, H7, hA7, hk7, hF7, hH7⟩ := hA6.dp hp7
      have h7s := hk7.size
      have hF7' : ∀ i, F7 i → F2 i ∨ w5.heap.size ≤ i := fun i hi => by
        rcases hF7 i hi with h | h
        · rcases hF6 i h with h | h
          · exact HF.out i h
          · exact Or.inr (by omega)
        · exact Or.inr (by omega)
      have hH7' : ∀ i, H7 i → H2 i ∨ w5.heap.size ≤ i := fun i hi => by
        rcases hH7 i hi with h | h
        · rcases hH6 i h with h | h
          · exact HH.out i h
          · exact Or.inr (by omega)
        · exact Or.inr (by omega)
      have hk57 : Keep (fun i => F2 i ∨ H2 i ∨ i = lb) w5 w7 := (HKp.out.andThen hk6 (fun i hi hs => by
        rcases hs with hs | hs | hs
        · rcases HF.out i hs with h9 | h9
          · exact Or.inl h9
          · omega
        · rcases HH.out i hs with h9 | h9
          · exact Or.inr (Or.inl h9)
          · omega
        · exact Or.inr (Or.inr hs))).andThen hk7 (fun i hi hs => by
        rcases hs with hs | hs | hs
        · rcases hF6 i hs with h9 | h9
          · rcases HF.out i h9 with h8 | h8
            · exact Or.inl h8
            · omega
          · omega
        · rcases hH6 i hs with h9 | h9
          · rcases HH.out i h9 with h8 | h8
            · exact Or.inr (Or.inl h8)
            · omega
          · omega
        · exact Or.inr (Or.inr hs))
      have hB7 : Below W.heap.size W w7 := hB5.trans (hk57.low hB5.size (fun i hi => by
        rcases hi with hi | hi | hi
        · exact hF2' i hi
        · exact hH2' i hi
        · omega))
      obtain ⟨v8, hL8, _⟩ := hA7.ex
      have hF7l := hL8.D.lt
      have hH7l := hA7.lt
      have hll7 := hL8.lt
      clear hL8 hfz6 hp7 hA6 hk6 hF6 hH6 hk7 hF7 hH7 HKp HF HH HL hFl hHl hll hrs
      -- the Rebase
      have hRb7 := HRb.out.keep hk57 (fun i hi => hnS i hi.1 hi.2) (fun _ h => h)
      have htw := twins_any ab Nb cb B w7 (hRb7.rrd HNb.out (by omega))
      rw [HtB.out] at htw
      have hbg : bigs B = false := by
        unfold bigs
        rw [List.any_eq_false]
        intro r hr
        have := Hrlb.out r hr
        simp
        omega
      have hg1 : l'.ch.g = 1 := HKI.out.c.g
      obtain ⟨hok', hfs'⟩ := HKI.out.ok (by rw [HNa.out]; omega)
      have hT : rebaseT l' kf B = rebaseL l' kf B := by
        unfold rebaseT
        rw [hbg, if_neg (by decide), if_neg (by rw [hg1]; decide)]
      have hcn : l'.ch.cnt ≤ 10000 := by
        rcases HKI.out.c.ex with ⟨e, _⟩ | ⟨T, s, z, e1, _, _, _, _, _, e7⟩
        · omega
        · rw [HNa.out] at e7; omega
      have hsr := fun w hA a' n' c' hR' hnS' (hn' : n' ≤ 10000) => srebase_any w F7 H7 lb d l' kf hA (by omega) hcn (by rw [HKI.out.most]; omega) a' n' c' B hR' hnS' hn' (by omega) (by omega)
      rw [hT] at hsr
      have hKA2 : KI l' kf A A.length := by rw [HNa.out]; exact HKI.out
      have hbb : ∀ r ∈ B, Bd r := fun r hr => by
        obtain ⟨i, hi⟩ := List.getElem?_of_mem hr
        obtain ⟨⟨vs, _, hvs⟩, _⟩ := HRb.out
        obtain ⟨_, _, _, _, hb⟩ := hvs i r hi
        exact hb
      have hsw := switch hKA2 HLo.out (by rw [HNa.out]; omega) (by rw [HNb.out]; omega) (rs := B) (fun r hr => ⟨Hrlb.out r hr, hbb r hr⟩)
      obtain ⟨gr1, gr2⟩ := rebase_gr l' kf B
      have grr := rebase_room l' kf B
      rw [HNb.out] at gr1 gr2
      rw [hKA2.c.room] at grr
      obtain ⟨R, HRr⟩ : ∃ R, rebaseL l' kf B = R := ⟨_, rfl⟩
      rw [HRr] at hsw gr1 gr2 grr
      simp only [HRr] at hsr
      obtain ⟨e9, l9, k9⟩ := R
      dsimp only at hsw gr1 gr2 grr hsr
      have HSw : Hid (∃ S1 S2 : List (List (List Int)), S1.flatten = A ∧ ((e9 = 0 ∧ Gn k9 2 S2 ∧ S2.flatten = B) ∨ (e9 = 13 ∧ (Gn k9 1 S1 ∨ (Gn k9 2 S2 ∧ S2.flatten = B))))) := hsw
      have hcn12 : l'.ch.cnt ≤ 12 := by
        rcases HKI.out.c.ex with ⟨e, _⟩ | ⟨T, s, z, e1, _, _, _, _, _, e7⟩
        · omega
        · rw [HNa.out] at e7; omega
      clear HRr hT hbg hKA2 hsw hbb hok'
      go_upto_region 16 with (first
        | (go_at_call 28; refine htw.mono ?_; rintro e w8 ⟨v8, rfl, hR8, hb8⟩; obtain ⟨a8, c8, hv8⟩ : ∃ a8 c8, v8 = .slice a8 Nb c8 := (by
            obtain ⟨⟨vs, ov, _⟩, _⟩ := hR8
            obtain ⟨x, y, e⟩ := own_sl ov
            rw [HNb.out] at e
            exact ⟨x, y, e⟩); subst hv8)
        | (go_at_call 29; refine (hsr w8 (hA7.below hb8) a8 Nb c8 (hR8.rrd HNb.out (by omega)) (hR8.rnot HNb.out (fun i hi hs => by
            rcases hs with hs | hs | hs
            · have := hF7l i hs; omega
            · omega
            · omega)) (by omega)).mono ?_; rintro e w9 ⟨rfl, F9, H9, hA9, hk9, hF9, hH9⟩))
      have h8s := hb8.size
      have h9s := hk9.size
      have hB8 : Below W.heap.size W w8 := hB7.trans (hb8.mono hB7.size)
      have hF7W : ∀ i, F7 i → W.heap.size ≤ i := fun i hi => (hF7' i hi).elim (hF2' i) (fun h => by omega)
      have hH7W : ∀ i, H7 i → W.heap.size ≤ i := fun i hi => (hH7' i hi).elim (hH2' i) (fun h => by omega)
      have hB9 : Below W.heap.size W w9 := hB8.trans (hk9.low hB8.size (fun i hi => by
        rcases hi with hi | hi | hi
        · exact hF7W i hi
        · exact hH7W i hi
        · omega))
      have hF9W : ∀ i, F9 i → W.heap.size ≤ i := fun i hi => (hF9 i hi).elim (hF7W i) (fun h => by omega)
      obtain ⟨v9, hL9, _⟩ := hA9.ex
      have hD9 := hL9.D
      have hF9l := hD9.lt
      clear hL9 htw hsr hRb7
      have hin := ints_any a2 n2 c2 zs w9 (hI.carry hB9)
      have hRs := fun w hb v g hI (hg : w9.heap.size ≤ g) => restart_any d F9 k9 g v (zs.take 30) (by omega) w (hD9.below hb) hI (fun _ hf => by have := hF9l g hf; omega)
      have hof : (restK k9 (zs.take 30)).off = false := rfl
      have hfu : (restK k9 (zs.take 30)).fu = none := rfl
      have hs0 : (restK k9 (zs.take 30)).steps = k9.steps := rfl
      have hr0 : (restK k9 (zs.take 30)).room = k9.room := rfl
      have hl0 : (restK k9 (zs.take 30)).fs.length = k9.fs.length := by
        have := congrArg List.length (rest_names k9.fs (zs.take 30))
        rw [List.length_map, List.length_map] at this
        exact this
      have HGr : Hid (∀ g S, Gn k9 g S → (restK k9 (zs.take 30)).Good → Gn (restK k9 (zs.take 30)) g S) := fun g S h hg => h.rest _ hg
      obtain ⟨k11, Hk11⟩ : ∃ k11, restK k9 (zs.take 30) = k11 := ⟨_, rfl⟩
      rw [Hk11] at hof hfu hs0 hr0 hl0 HGr
      simp only [Hk11] at hRs
      clear Hk11
      go_upto_region 17 with (first
        | (go_at_call 25; refine hin.mono ?_; rintro e wa ⟨va, ga, rfl, hIa, hga, hba⟩)
        | (go_at_call 24; refine (hRs wa hba va ga hIa hga).mono ?_; rintro e wb ⟨rfl, Fb, hDb, hkb, hFb⟩))
      have has := hba.size
      have hbs := hkb.size
      have hBa : Below W.heap.size W wa := hB9.trans (hba.mono hB9.size)
      have hBb : Below W.heap.size W wb := hBa.trans (hkb.low hBa.size hF9W)
      have hFbW : ∀ i, Fb i → W.heap.size ≤ i := fun i hi => (hFb i hi).elim (hF9W i) (fun h => by omega)
      have hub := hDb.good.used
      have hout : (openL 64 k11).1 = 0 ∧ ((e9 = 0 ∧ (openL 64 k11).2.1.recs = B) ∨ (e9 = 13 ∧ ((openL 64 k11).2.1.recs = A ∨ (openL 64 k11).2.1.recs = B))) := by
        obtain ⟨S1, S2, hS1, hc⟩ := HSw.out
        rcases hc with ⟨x1, x2, x3⟩ | ⟨x1, x2 | ⟨x2, x3⟩⟩
        · obtain ⟨y1, y2⟩ := (HGr.out _ _ x2 hDb.good).opens hof hfu 64
          exact ⟨y1, Or.inl ⟨x1, by rw [y2, x3]⟩⟩
        · obtain ⟨y1, y2⟩ := (HGr.out _ _ x2 hDb.good).opens hof hfu 64
          exact ⟨y1, Or.inr ⟨x1, Or.inl (by rw [y2, hS1])⟩⟩
        · obtain ⟨y1, y2⟩ := (HGr.out _ _ x2 hDb.good).opens hof hfu 64
          exact ⟨y1, Or.inr ⟨x1, Or.inr (by rw [y2, x3])⟩⟩
      have hop := sopen_any wb Fb d 64 k11 (by omega) (by omega) hDb (hP.below hBb) (fun j hj => by have := hFbW j hj; omega) (by omega) (by omega) (by omega)
      obtain ⟨Q, HQ⟩ : ∃ Q, openL 64 k11 = Q := ⟨_, rfl⟩
      rw [HQ] at hout hop
      obtain ⟨eq, lq, kq⟩ := Q
      dsimp only at hout
      obtain ⟨rfl, hout⟩ := hout
      have HOut : Hid ((e9 = 0 ∧ lq.recs = B) ∨ (e9 = 13 ∧ (lq.recs = A ∨ lq.recs = B))) := hout
      clear hin hRs HQ hIa hof hfu HGr HSw hout
      go_upto_region 18 with (first
        | (go_at_call 20; refine hop.mono ?_; rintro e wq ho; obtain ⟨lq1, rfl, hlq, Fq, Hq, hAq, hkq, hFq, hHq⟩ := ho.yes rfl))
      have hqs := hkq.size
      have hBq : Below W.heap.size W wq := hBb.trans (hkq.low hBb.size hFbW)
      have hbX : Below wq.heap.size wq (wq.alloc (.cells #[.pointer (some ⟨lq1, 0, none⟩)] 48)) := (Below.refl _ _).alloc (Nat.le_refl _) _
      have hpb : (wq.alloc (.cells #[.pointer (some ⟨lq1, 0, none⟩)] 48)).heap[wq.heap.size]? = some (.cells #[.pointer (some ⟨lq1, 0, none⟩)] 48 (0, 0)) := alloc_at wq _
      have hAX := hAq.below hbX
      have hBX : Below W.heap.size W (wq.alloc (.cells #[.pointer (some ⟨lq1, 0, none⟩)] 48)) := hBq.trans (hbX.mono hBq.size)
      have hkX : Keep (fun i => F7 i ∨ H7 i ∨ i = lb) w7 (wq.alloc (.cells #[.pointer (some ⟨lq1, 0, none⟩)] 48)) := (((((Keep.ofBelow hb8).trans hk9).trans (Keep.ofBelow hba)).andThen hkb (fun i hi hs => by
        rcases hF9 i hs with h9 | h9
        · exact Or.inl h9
        · omega)).andThen hkq (fun i hi hs => by
        rcases hFb i hs with h9 | h9
        · rcases hF9 i h9 with h8 | h8
          · exact Or.inl h8
          · omega
        · omega)).trans (Keep.ofBelow hbX)
      have hn7 : ∀ i, w3.heap.size ≤ i → i < w5.heap.size → ¬ (F7 i ∨ H7 i ∨ i = lb) := fun i h1 h2 h => by
        rcases h with h | h | h
        · rcases hF7' i h with h9 | h9
          · exact hnS i h1 h2 (Or.inl h9)
          · omega
        · rcases hH7' i h with h9 | h9
          · exact hnS i h1 h2 (Or.inr (Or.inl h9))
          · omega
        · omega
      have hRaX := (HRa.out.keep hk57 (fun i hi => hnS i hi.1 hi.2) (fun _ h => h)).keep hkX (fun i hi => hn7 i hi.1 hi.2) (fun _ h => h)
      have hRbX := (HRb.out.keep hk57 (fun i hi => hnS i hi.1 hi.2) (fun _ h => h)).keep hkX (fun i hi => hn7 i hi.1 hi.2) (fun _ h => h)
      have hrlq : ∀ r ∈ lq.recs, r.length ≤ 1000000000 := fun r hr => by
        rcases HOut.out with ⟨_, e⟩ | ⟨_, e | e⟩
        · rw [e] at hr; have := Hrlb.out r hr; omega
        · rw [e] at hr; have := Hrla.out r hr; omega
        · rw [e] at hr; have := Hrlb.out r hr; omega
      have c14 := box_cell hpb
      have hisA := sis_any _ Fq Hq _ lq1 d wq.heap.size lq kq hAX hpb hrlq aa Na ca A hRaX HNa.out (by omega)
      have hisB := fun w (hb : Below (wq.alloc (.cells #[.pointer (some ⟨lq1, 0, none⟩)] 48)).heap.size (wq.alloc (.cells #[.pointer (some ⟨lq1, 0, none⟩)] 48)) w) => sis_any w Fq Hq _ lq1 d wq.heap.size lq kq (hAX.below hb) (box_below hpb hb) hrlq ab Nb cb B (hRbX.keep (S := fun _ => False) (Keep.ofBelow hb) (fun _ _ h => h) (fun _ h => h)) HNb.out (by omega)
      obtain ⟨pm, hpm⟩ : ∃ pm, wq.heap.size = pm := ⟨_, rfl⟩
      rw [hpm] at hpb c14 hisA ⊢
      simp only [hpm] at hisB
      generalize wq.alloc (.cells #[.pointer (some ⟨lq1, 0, none⟩)] 48) = X at *
      clear hop ho hAq hkq hFq hHq hAX hRaX hRbX hpb hkX hkb hba hb8 hk9 hbX
      have hBXs := hBX.size
      rcases HOut.out with ⟨he, hrc⟩ | ⟨he, hrc⟩
      · subst he
        rw [decide_eq_true hrc] at hisB
        have hisB0 := hisB X (Below.refl _ _)
        clear hrc hisA hisB
        go_wp2_with (first
          | (go_at_call 30; refine hisB0.mono ?_; rintro e wy ⟨rfl, hby⟩))
        go_ret
        exact ⟨rfl, hBX.trans (hby.mono hBXs)⟩
      · subst he
        have z13 : ((13 : Nat) : Int) = 13 := rfl
        by_cases hra : lq.recs = A
        · rw [decide_eq_true hra] at hisA
          clear hrc hra hisB
          go_wp2_with (first
            | (go_at_call 30; refine hisA.mono ?_; rintro e wy ⟨rfl, hby⟩))
          go_ret
          exact ⟨rfl, hBX.trans (hby.mono hBXs)⟩
        · have hrb : lq.recs = B := hrc.resolve_left hra
          rw [decide_eq_false hra] at hisA
          rw [decide_eq_true hrb] at hisB
          have tk2 : True := trivial
          clear hrc hra hrb
          go_wp2_with (first
            | (clear tk2; go_at_call 30; refine hisA.mono ?_; rintro e wy ⟨rfl, hby⟩)
            | (go_at_call 30; refine (hisB wy hby).mono ?_; rintro e wz ⟨rfl, hbz⟩))
          go_ret
          exact ⟨rfl, (hBX.trans (hby.mono hBXs)).trans (hbz.mono (by have := hby.size; omega))⟩

end Go.Proofs.YtikkieaokfailaaGreatDoor
