/- Opening a log: what is left over is removed. -/
import Derived.Test.YtikkieaokfailaaGreatDoorLgJ
namespace Go.Proofs.YtikkieaokfailaaGreatDoor
open Go.RowKit Go.Joins

def cntF (ns : List Nm) (g : Nat) : Nat → Nat → Nat
  | 0, i => i
  | f + 1, i => if inN (segN g (i + 1)) ns then cntF ns g f (i + 1) else i
/-- How many segments there are, up to the first gap. -/
def cntN (ns : List Nm) (g : Nat) : Nat := cntF ns g ns.length 0
theorem cntF_is {ns : List Nm} {g i : Nat} (h : IsCnt ns g i) : ∀ f j, j ≤ i → i ≤ j + f → cntF ns g f j = i
  | 0, j, h1, h2 => by show j = i; omega
  | f + 1, j, h1, h2 => by
    unfold cntF
    by_cases hj : j < i
    · rw [if_pos (inN_iff.2 (h.1 _ (mem_segs.2 ⟨j, hj, by rw [Nat.zero_add]⟩)))]
      exact cntF_is h f (j + 1) (by omega) (by omega)
    · have e : j = i := by omega
      subst e
      rw [if_neg (by rw [inN_no h.2]; decide)]
theorem cntN_is {ns : List Nm} {g i : Nat} (h : IsCnt ns g i) : cntN ns g = i := cntF_is h _ 0 (Nat.zero_le _) (by have := cnt_le h.1; omega)

def remAll : List Nm → Bool → Dk → Nat × Bool × Dk
  | [], dn, k => (0, dn, k)
  | s :: r, dn, k => if (stp dn k (removeK k s)).1 ≠ 0 then stp dn k (removeK k s) else remAll r (stp dn k (removeK k s)).2.1 (stp dn k (removeK k s)).2.2
theorem remAll_no {s : Nm} {r : List Nm} {dn dn' : Bool} {k k' : Dk} {en : Nat} (h : stp dn k (removeK k s) = (en, dn', k')) (h0 : en ≠ 0) : remAll (s :: r) dn k = (en, dn', k') := by
  unfold remAll; rw [h]; exact if_pos h0
theorem remAll_ok {s : Nm} {r : List Nm} {dn dn' : Bool} {k k' : Dk} (h : stp dn k (removeK k s) = (0, dn', k')) : remAll (s :: r) dn k = remAll r dn' k' := by
  show (if (stp dn k (removeK k s)).1 ≠ 0 then _ else _) = _
  rw [h]; exact if_neg (by simp)
theorem remove_gr (k : Dk) (s : Nm) : (removeK k s).2.steps ≤ k.steps + 1 ∧ (removeK k s).2.fs.length ≤ k.fs.length := by
  unfold removeK stepK
  have h1 := pass_steps k
  have h2 := pass_fs k
  split
  · exact ⟨Nat.le_succ _, Nat.le_refl _⟩
  · split
    · exact ⟨Nat.le_succ _, Nat.le_refl _⟩
    · split
      · exact ⟨Nat.le_succ _, Nat.le_refl _⟩
      · split
        · exact ⟨Nat.le_succ _, Nat.le_refl _⟩
        · split
          · exact ⟨h1, by rw [h2]; exact Nat.le_refl _⟩
          · refine ⟨h1, ?_⟩
            show (dropL _ _).length ≤ _
            rw [← h2]
            exact len_drop _ _
theorem stpR_gr (dn : Bool) (k : Dk) (s : Nm) : (stp dn k (removeK k s)).2.2.steps ≤ k.steps + 1 ∧ (stp dn k (removeK k s)).2.2.fs.length ≤ k.fs.length := by
  have := remove_gr k s
  unfold stp
  cases dn
  · exact this
  · exact ⟨Nat.le_succ _, Nat.le_refl _⟩
theorem remAll_gr : ∀ (l : List Nm) (dn : Bool) (k : Dk), (remAll l dn k).2.2.steps ≤ k.steps + l.length ∧ (remAll l dn k).2.2.fs.length ≤ k.fs.length
  | [], _, _ => ⟨Nat.le_refl _, Nat.le_refl _⟩
  | s :: r, dn, k => by
    obtain ⟨h1, h2⟩ := stpR_gr dn k s
    unfold remAll
    split
    · exact ⟨by simp; omega, h2⟩
    · obtain ⟨h3, h4⟩ := remAll_gr r (stp dn k (removeK k s)).2.1 (stp dn k (removeK k s)).2.2
      exact ⟨by simp; omega, by omega⟩

/-- What is left over: of logs, and none of the first n segments. -/
def left (g n : Nat) (s : Nm) : Bool := !inN s (segs g 0 n) && isOf s
def cleanL (c : Ch) (dn : Bool) (k : Dk) : Nat × Ch × Bool × Dk :=
  if (listK k).1 ≠ 0 then ((listK k).1, c, dn, k) else
  ((remAll ((listK k).2.filter (left c.g (cntN (listK k).2 c.g))) dn k).1, { c with cnt := cntN (listK k).2 c.g }, (remAll ((listK k).2.filter (left c.g (cntN (listK k).2 c.g))) dn k).2)

theorem rise_pair {l : Fls} (h : Rise l) : (l.map Prod.fst).Pairwise ltN := by
  induction l with
  | nil => exact List.Pairwise.nil
  | cons p r ih =>
    obtain ⟨n, f⟩ := p
    refine List.pairwise_cons.2 ⟨fun x hx => ?_, ih h.2⟩
    obtain ⟨y, hy, rfl⟩ := List.mem_map.1 hx
    exact h.1 y hy

set_option maxHeartbeats 4000000 in
set_option maxRecDepth 100000 in
theorem clean_any (w : World) (F : Nat → Prop) (lb d most : Nat) (v : Value) (c : Ch) (dn : Bool) (k : Dk) (h : LD w F lb d most v c dn k) (hP : Pf w F lb) (hg : c.g < 18446744073709551616) (hfl : k.fs.length ≤ 1000) (hst : k.steps < 900000) :
    Calls Tryz.prog 99 #[.pointer (some ⟨lb, 0, none⟩)] w fun e w' => Gs (cleanL c dn k).1 e ∧ Lp w F lb d most v (cleanL c dn k).2.1 (cleanL c dn k).2.2.1 (cleanL c dn k).2.2.2 w' := by
  have q0 := h.c0
  have hls := list_any d F k (by omega) w h.D
  have hprop : ((listK k).2.Pairwise ltN ∧ (listK k).2.length ≤ 1000) ∧ ∀ s ∈ (listK k).2, s.size ≤ 64 := by
    unfold listK
    split
    · exact ⟨⟨List.Pairwise.nil, Nat.zero_le _⟩, fun s hs => by cases hs⟩
    · refine ⟨⟨rise_pair h.D.good.rise, by rw [List.length_map]; exact hfl⟩, fun s hs => ?_⟩
      obtain ⟨y, hy, rfl⟩ := List.mem_map.1 hs
      exact isNm_size (h.D.good.each y hy).1
  unfold cleanL
  obtain ⟨P, HP⟩ : ∃ P, Hid (listK k = P) := ⟨_, rfl⟩
  rw [HP.out] at hls hprop ⊢
  obtain ⟨en, ns⟩ := P
  dsimp only at hls hprop ⊢
  obtain ⟨⟨hpw, hnl⟩, hsz⟩ := hprop
  obtain ⟨N, HN⟩ : ∃ N, Hid (ns.length = N) := ⟨_, rfl⟩
  rw [HN.out] at hls hnl
  by_cases h0 : en = 0
  · subst h0
    rw [if_neg (by simp)]
    obtain ⟨i0, Hi0⟩ : ∃ i0, Hid (cntN ns c.g = i0) := ⟨_, rfl⟩
    rw [Hi0.out]
    obtain ⟨R, HR⟩ : ∃ R, Hid (remAll (ns.filter (left c.g i0)) dn k = R) := ⟨_, rfl⟩
    rw [HR.out]
    obtain ⟨eR, dnR, kR⟩ := R
    dsimp only
    have HPW : Hid (ns.Pairwise ltN) := hpw
    have HSZ : Hid (∀ s ∈ ns, s.size ≤ 64) := hsz
    clear hpw hsz
    go_enter Tryz.func99, Tryz.ntmps99
    go_upto_region 2 with (first
      | (go_at_call 37; refine hls.mono ?_; rintro e w1 ⟨v1, rfl, o1, hb1⟩; obtain ⟨a1, c1, rfl, hn1⟩ := own_formN o1)
      | (go_at_call 129; refine (sask_ok _ _).mono ?_; rintro e w5 ⟨rfl, h5⟩; replace h5 := h5.symm; subst h5))
    have h1 := h.below hb1
    have hP1 := hP.below hb1
    have hown := own_any lb 3 c.g hg (.slice a1 N c1) ns w.heap.size w1 hP1.pw h1.c3 (by rw [HN.out]; exact o1) HPW.out (by rw [HN.out]; exact hnl)
    go_upto_region 3 with (first
      | (go_at_call 132; refine hown.mono ?_; rintro e w2 ⟨bm, i, rfl, hbm, hM2, hct, hile, hb2⟩))
    obtain rfl : i = i0 := by rw [← Hi0.out]; exact (cntN_is hct).symm
    have h2 := h1.below hb2
    have hln := fun ty => hM2.len ty
    rw [segs_len] at hln
    have p4 := h2.c4
    have z4 := h2.fz 4
    have o2 := own_keep (S := fun _ => False) o1 (Keep.ofBelow hb2) (fun _ _ h => h)
    have hb12 := hb1.trans (hb2.mono hb1.size)
    have hbm2 : bm ≠ lb := fun e => by have := h1.lt; omega
    have h3 : LD (w2.setCell ⟨lb, 4, none⟩ (.int .i64 (i : Int))) F lb d most v { c with cnt := i } dn k := h2.set 4 _ rfl
    have hk3 : Keep (fun j => j = lb) w2 (w2.setCell ⟨lb, 4, none⟩ (.int .i64 (i : Int))) := (Keep.refl (fun j => j = lb) w2).setCell (p := ⟨lb, 4, none⟩) rfl _
    have hM3 := hM2.keep hk3 hbm2
    have hlbw := h.lt
    have o3 := own_keep o2 hk3 (fun g hg e => by have := (o1.lt g hg).1; omega)
    have kp3 : Keep (fun j => F j ∨ j = lb) w (w2.setCell ⟨lb, 4, none⟩ (.int .i64 (i : Int))) := (Keep.ofBelow hb12).trans (hk3.mono (fun j e => Or.inr e))
    have hbmw : w.heap.size ≤ bm := Nat.le_trans hb1.size hbm
    clear h1 hP1 hown hct h2 o2 hM2 hk3 hb12 hile
    go_upto_region 5 with fail
    generalize w2.setCell ⟨lb, 4, none⟩ (.int .i64 (i : Int)) = w3 at *
    have hbmS : bm < w3.heap.size := hM3.lt
    have hrowS : ∀ g, (Value.slice a1 N c1).ownBlock = some g → g < w3.heap.size := fun g hg => (o3.lt g hg).2
    have hrowW : ∀ g, (Value.slice a1 N c1).ownBlock = some g → w.heap.size ≤ g := fun g hg => (o3.lt g hg).1
    have Hst0 : Hid (LD w3 F lb d most v { c with cnt := i } dn k) := h3
    clear hln p4 z4 hb2 hb1 o1
    go_loopw [6, 7, 8, 34] (fun _ _ _ s34 wr => ∃ (j : Nat) (F1 : Nat → Prop) (dn1 : Bool) (k1 : Dk), s34 = .int .i64 j ∧ j ≤ N ∧ k1.steps + (N - j) ≤ 900000 + 1000 ∧ k1.fs.length ≤ 1000 ∧ Hid (LD wr F1 lb d most v { c with cnt := i } dn1 k1) ∧ Hid (Keep (fun j => F j ∨ j = lb) w wr) ∧ Hid (∀ j, F1 j → F j ∨ w.heap.size ≤ j) ∧ Hid (∀ j, F1 j → j ≠ bm ∧ ∀ g, (Value.slice a1 N c1).ownBlock = some g → j ≠ g) ∧ Hid (SMap wr bm (segs c.g 0 i)) ∧ Hid (wr.ownsRow w.heap.size 9 1 (.slice a1 N c1) N (nv ns)) ∧ Hid (remAll ((ns.drop j).filter (left c.g i)) dn1 k1 = (eR, dnR, kR))) (fun _ _ _ s34 _ => N - (intOf s34).toNat)
    case atStart =>
      refine ⟨0, F, dn, k, rfl, by omega, by omega, hfl, Hst0.out, kp3, fun j hj => Or.inl hj, fun j hj => ⟨fun e => ?_, fun g hg e => ?_⟩, hM3, o3, HR.out⟩
      · have := h.D.lt j hj; omega
      · have h9 := h.D.lt j hj; have := hrowW g hg; omega
    case round =>
      clear hM3 o3 kp3 h3 Hst0 HR hfl hst
      obtain ⟨j, F1, dn1, k1, rfl, hjN, hs1, hf1, HL, HK, HF, HB, HM, HO, HQ⟩ := hrel
      by_cases hjlt : j < N
      · have hcj : (j : Int) < (N : Int) := by omega
        have hj0 : (0 : Int) ≤ (j : Int) := by omega
        have hjl : j < ns.length := by rw [HN.out]; exact hjlt
        obtain ⟨x, hx⟩ : ∃ x, ns[j]? = some x := ⟨_, List.getElem?_eq_getElem hjl⟩
        have hnvj : (nv ns)[j]? = some (.string x) := by unfold nv; rw [List.getElem?_map, hx]; rfl
        obtain ⟨gr, hgr⟩ : ∃ g, a1 = some ⟨g, 0, none⟩ := by
          rcases HO.out.2 with ⟨_, h0⟩ | ⟨g, cap, cur, h1, _⟩
          · omega
          · cases h1; exact ⟨g, rfl⟩
        subst hgr
        have hc := HO.out.cells (g := gr) rfl j _ hnvj
        rw [add_flat, Nat.zero_add] at hc
        have hx64 := HSZ.out x (List.mem_of_getElem? hx)
        have hlk := HM.out.look x (by unfold maxLen; omega)
        have hdr : ns.drop j = x :: ns.drop (j + 1) := by
          rw [List.drop_eq_getElem_cons hjl]
          congr 1
          rw [List.getElem?_eq_getElem hjl] at hx
          injection hx
        have Hdr : Hid ((ns.drop j).filter (left c.g i) = if left c.g i x then x :: (ns.drop (j + 1)).filter (left c.g i) else (ns.drop (j + 1)).filter (left c.g i)) := by
          show _ = _
          rw [hdr, List.filter_cons]
        clear hdr hx hnvj
        have hiso := fun w => isOf_any x w
        obtain ⟨mn, Hmn⟩ : ∃ mn, Hid (inN x (segs c.g 0 i) = mn) := ⟨_, rfl⟩
        rw [Hmn.out] at hlk
        obtain ⟨so, Hso⟩ : ∃ so, Hid (isOf x = so) := ⟨_, rfl⟩
        simp only [Hso.out] at hiso
        have Hlf : Hid (left c.g i x = (!mn && so)) := by show _ = _; unfold left; rw [Hmn.out, Hso.out]
        have hstp := stpR_gr dn1 k1 x
        cases mn with
        | true =>
          have HQn : Hid (remAll ((ns.drop (j + 1)).filter (left c.g i)) dn1 k1 = (eR, dnR, kR)) := by
            have h9 := HQ.out
            rw [Hdr.out, Hlf.out] at h9
            exact h9
          clear HQ hiso hstp
          go_wp2
          exact ⟨⟨j + 1, F1, dn1, k1, by go_num, by omega, by omega, hf1, HL.out.below ((Below.refl _ _).alloc (Nat.le_refl _) _), HK.out.trans (Keep.ofBelow ((Below.refl _ _).alloc (Nat.le_refl _) _)), HF.out, HB.out, HM.out.below ((Below.refl _ _).alloc (Nat.le_refl _) _), own_keep (S := fun _ => False) HO.out ((Keep.refl _ _).alloc _) (fun _ _ h => h), HQn.out⟩, by simp [intOf]; omega⟩
        | false =>
          cases so with
          | false =>
            have HQn : Hid (remAll ((ns.drop (j + 1)).filter (left c.g i)) dn1 k1 = (eR, dnR, kR)) := by
              have h9 := HQ.out
              rw [Hdr.out, Hlf.out] at h9
              exact h9
            clear HQ hstp
            go_wp2_with (first
              | (go_at_call 133; refine (hiso _).mono ?_; rintro e w5 ⟨rfl, h5⟩; replace h5 := h5.symm; subst h5))
            exact ⟨⟨j + 1, F1, dn1, k1, by go_num, by omega, by omega, hf1, HL.out.below ((Below.refl _ _).alloc (Nat.le_refl _) _), HK.out.trans (Keep.ofBelow ((Below.refl _ _).alloc (Nat.le_refl _) _)), HF.out, HB.out, HM.out.below ((Below.refl _ _).alloc (Nat.le_refl _) _), own_keep (S := fun _ => False) HO.out ((Keep.refl _ _).alloc _) (fun _ _ h => h), HQn.out⟩, by simp [intOf]; omega⟩
          | true =>
            have HQn : Hid (remAll (x :: (ns.drop (j + 1)).filter (left c.g i)) dn1 k1 = (eR, dnR, kR)) := by
              have h9 := HQ.out
              rw [Hdr.out, Hlf.out] at h9
              exact h9
            clear HQ
            have hrm := fun w' (hb : Below wr.heap.size wr w') => sremove_any lb d most F1 v _ dn1 k1 x (by omega) w' (HL.out.below hb)
            obtain ⟨P, HP⟩ : ∃ P, Hid (stp dn1 k1 (removeK k1 x) = P) := ⟨_, rfl⟩
            simp only [HP.out] at hrm
            rw [HP.out] at hstp
            obtain ⟨en, dn2, k2⟩ := P
            dsimp only at hrm hstp
            by_cases h0 : en = 0
            · subst h0
              have HQ2 : Hid (remAll ((ns.drop (j + 1)).filter (left c.g i)) dn2 k2 = (eR, dnR, kR)) := by
                show _ = _
                rw [← remAll_ok HP.out]
                exact HQn.out
              clear HQn
              go_wp2_with (first
                | (go_at_call 133; refine (hiso _).mono ?_; rintro e w5 ⟨rfl, h5⟩; replace h5 := h5.symm; subst h5)
                | (go_at_call 134; refine ((hrm _ ((Below.refl _ _).alloc (Nat.le_refl _) _)).mono (fun e w' h => And.intro (h.1.elim (fun k => k.2) (fun k => absurd rfl k.1)) h.2 : ∀ e w', _ → (e = .returned (.tuple #[]) ∧ _))).mono ?_; rintro e w6 ⟨rfl, hp⟩))
              obtain ⟨F2, hL2, hk2, hF2⟩ := hp.from ((Below.refl wr.heap.size wr).alloc (Nat.le_refl _) _)
              have hbmr := HM.out.lt
              have hgrl := fun g hg => (HO.out.lt g hg).2
              have hgrw := fun g hg => (HO.out.lt g hg).1
              have hsw := HK.out.size
              have hlbr := HL.out.lt
              have hkall : Keep (fun j => F j ∨ j = lb) w w6 := HK.out.andThen hk2 (fun q hq hs => by
                rcases hs with hs | hs
                · rcases HF.out q hs with h9 | h9
                  · exact Or.inl h9
                  · omega
                · exact Or.inr hs)
              have hn1 : ¬ (F1 bm ∨ bm = lb) := fun h9 => h9.elim (fun h9 => (HB.out bm h9).1 rfl) hbm2
              have hn2 : ∀ g, (Value.slice (some ⟨gr, 0, none⟩) N c1).ownBlock = some g → ¬ (F1 g ∨ g = lb) := fun g hg h9 => h9.elim (fun h9 => (HB.out g h9).2 g hg rfl) (fun e => by have := hgrw g hg; omega)
              exact ⟨⟨j + 1, F2, dn2, k2, by go_num, by omega, by omega, by omega, hL2, hkall, fun q hq => (hF2 q hq).elim (HF.out q) (fun h9 => Or.inr (Nat.le_trans hsw h9)), fun q hq => ⟨fun e => (hF2 q hq).elim (fun h9 => (HB.out q h9).1 e) (fun h9 => by omega), fun g hg e => (hF2 q hq).elim (fun h9 => (HB.out q h9).2 g hg e) (fun h9 => by have := hgrl g hg; omega)⟩, HM.out.keep hk2 hn1, own_keep HO.out hk2 hn2, HQ2.out⟩, by simp [intOf]; omega⟩
            · have hres := HQn.out.symm.trans (remAll_no HP.out h0)
              simp only [Prod.mk.injEq] at hres
              obtain ⟨e1, e2, e3⟩ := hres
              subst eR dnR kR
              clear HQn
              go_wp2_with (first
                | (go_at_call 133; refine (hiso _).mono ?_; rintro e w5 ⟨rfl, h5⟩; replace h5 := h5.symm; subst h5)
                | (go_at_call 134; refine ((hrm _ ((Below.refl _ _).alloc (Nat.le_refl _) _)).mono (fun e w' h => And.intro (h.1.elim (fun k => absurd k.1 h0) (fun k => k.2)) h.2 : ∀ e w', _ → (e = .panicked (gaveS en) ∧ _))).mono ?_; rintro e w6 ⟨rfl, hp⟩))
              exact ⟨rfl, gs_no h0 rfl, Lp.next HK.out HF.out (hp.from ((Below.refl wr.heap.size wr).alloc (Nat.le_refl _) _))⟩
      · obtain rfl : j = N := by omega
        have hcj : ¬ (j : Int) < (j : Int) := by omega
        have hQ := HQ.out
        rw [List.drop_eq_nil_of_le (by rw [HN.out]; exact Nat.le_refl _)] at hQ
        have hQ2 : (0, dn1, k1) = (eR, dnR, kR) := hQ
        simp only [Prod.mk.injEq] at hQ2
        obtain ⟨e1, e2, e3⟩ := hQ2
        subst eR dnR kR
        clear hQ HQ
        go_wp2
        go_end0
        exact ⟨Or.inl ⟨rfl, rfl⟩, F1, HL.out, HK.out, HF.out⟩
  · rw [if_pos h0]
    have e0 : ((en : Int) == 0) = false := by rw [beq_eq_false_iff_ne]; omega
    clear hpw hsz
    go_enter Tryz.func99, Tryz.ntmps99
    go_wp2_with (first
      | (go_at_call 37; refine hls.mono ?_; rintro e w1 ⟨v1, rfl, o1, hb1⟩; obtain ⟨a1, c1, rfl, hn1⟩ := own_formN o1)
      | (go_at_call 129; refine (sask_no en _).mono ?_; rintro e w5 ⟨rfl, h5⟩; replace h5 := h5.symm; subst h5))
    exact ⟨rfl, gs_no h0 rfl, Lp.ofBelow h hb1⟩

end Go.Proofs.YtikkieaokfailaaGreatDoor
