/- Texts of one seat, one behind the other: PvZf, PvZg, NmRefA, Utf, NmVld, NmRefV, NmRefL, PvR, PvS, PvZh. -/
import Derived.Test.YtiplalbicibahaaGreatDoorM4
import Derived.Test.YtiplalbicibahaaGreatDoorM1
import Derived.Lib.ValidLaws
import Derived.Laws.Cover4
import Derived.Test.YtiplalbicibahaaGreatDoorM2
import Derived.Deep.Cut
import Derived.Deep.CutRange
import Derived.Test.YtiplalbicibahaaGreatDoorM3
/- privacy: Allows, as the document tells it (pvzf_gen.py writes this). -/
set_option maxRecDepth 100000
namespace Go.Proofs.YtiplalbicibahaaGreatDoor
open Go.RowKit Go.Joins Go.Shelf

set_option maxHeartbeats 3200000 in
theorem qallows_any (s : By) (y : Qy) (ga : Option Addr) (gn gc : Nat) (w : World) (F : Nat → Prop) (q : Nat) (P : Pl) (h : QAt w F q P) (hG : TRd w ga gn gc y.gs) (hl : (heldR P s).length ≤ 100000) (hok : ∀ r ∈ heldR P s, okRul r) :
    Calls Tryz.prog 28 #[.pointer (some ⟨q, 0, none⟩), .string (ba s), .bool y.i, .string (ba y.c), .slice ga gn gc, .string (ba y.s)] w fun e w' => e = .returned (.bool (allowsR y (heldR P s))) ∧ Below w.heap.size w w' := by
  obtain ⟨vN, vT, vR, vs, us, h⟩ := h
  have HH : Hid (QM w F q P vN vT vR vs us) := h
  have cA1 := qat_m h s
  have cA2 : ∀ W, Below w.heap.size w W → Calls Tryz.prog 42 #[.pointer (some ⟨q, 0, none⟩), .string (ba P.us)] W fun e w' => e = .returned (.tuple #[.int .i64 (atK (sortK P.ks) P.us : Nat), .bool (P.m P.us).isSome]) ∧ Below W.heap.size W w' := fun W hb => qat_m (HH.out.below hb) P.us
  have c2 := h.c2
  clear h
  cases hb1 : (P.m s).isSome with
  | true =>
    rw [hb1] at cA1
    clear cA2 c2
    obtain ⟨kk, hkk⟩ : ∃ kk, atK (sortK P.ks) s = kk := ⟨_, rfl⟩
    have hat := at_head (ns := sortK P.ks) (s := s) (by rw [HH.out.is]; exact hb1)
    rw [hkk] at hat cA1
    have hkl : kk < (sortK P.ks).length := hat.1
    obtain ⟨aR, cR, hvR⟩ := ownR_sl HH.out.oR
    obtain ⟨u, hu⟩ : ∃ u, us[kk]? = some u := ⟨_, List.getElem?_eq_getElem (by rw [HH.out.rR.len, List.length_map]; exact hkl)⟩
    obtain ⟨f, rfl, hRR, _⟩ := HH.out.rR.row kk u hu
    rw [show ((sortK P.ks).map fun k => (P.m k).getD []).getD kk [] = heldR P s by rw [List.getD_eq_getElem?_getD, List.getElem?_map, hat.2]; unfold heldR heldN; rw [hb1, if_pos rfl]; rfl] at hRR
    have HC : Hid (∃ b, aR = some ⟨b, 0, none⟩ ∧ w.cell? ⟨b, 0 + kk, none⟩ = some (rsl f)) := by
      have ho := HH.out.oR
      rw [hvR] at ho
      rcases ho.2 with ⟨e, e2⟩ | ⟨g, cap, cur, e, _⟩
      · omega
      · injection e with e
        subst e
        have := ho.cells (g := g) rfl kk _ hu
        rw [add_flat] at this
        exact ⟨g, rfl, this⟩
    have H5 : Hid (w.cell? ⟨q, 5, none⟩ = some (.slice aR (sortK P.ks).length cR)) := by rw [← hvR]; exact HH.out.c5
    obtain ⟨N, HN⟩ : ∃ N, Hid ((sortK P.ks).length = N) := ⟨_, rfl⟩
    rw [HN.out] at H5 hkl
    obtain ⟨fa, fn, fc⟩ := f
    unfold rsl at HC
    dsimp only at HC
    generalize hrs : heldR P s = rs at hRR hl hok ⊢
    have Hfn : Hid (rs.length = fn) := hRR.len
    have hcm : fc ≤ maxLen := hRR.most
    have hcc : fn ≤ fc := hRR.cap
    have hln : fn ≤ 100000 := by rw [← Hfn.out]; exact hl
    unfold maxLen at hcm
    have HRR : Hid (RRd w (fa, fn, fc) rs) := hRR
    have HG : Hid (TRd w ga gn gc y.gs) := hG
    have HO : Hid (∀ r ∈ rs, okRul r) := hok
    have hNm : Hid (N ≤ maxLen) := (show N ≤ maxLen from by have h1 := HH.out.oR; rw [hvR, HN.out] at h1; rcases h1.2 with ⟨e, e2⟩ | ⟨_, _, _, e, _, _, h2, h3, _⟩ <;> omega)
    clear hRR hG hok hl hrs hat hkk hu hvR
    go_enter Tryz.func28, Tryz.ntmps28
    go_upto_region 7 with (go_at_call 42; refine cA1.mono ?_; clear cA1; rintro e wz ⟨rfl, hbz⟩)
    have HB1 : Hid (Below w.heap.size w wz) := hbz
    clear hbz
    go_loopw [15] (fun s15 wr => ∃ j : Nat, s15 = .int .i64 (j : Int) ∧ j ≤ fn ∧ Hid (∀ t ∈ rs.take j, fitsR y t = false) ∧ Hid (Below w.heap.size w wr)) (fun s15 _ => fn - (intOf s15).toNat)
    case atStart => exact ⟨0, rfl, by omega, fun t ht => by simp at ht, HB1⟩
    case round =>
      obtain ⟨j, rfl, hj, HP, HB⟩ := hrel
      clear HB1
      have hcell : ∀ {p : Addr} {u : Value}, w.cell? p = some u → wr.cell? p = some u := fun {p u} h => (HB.out.cell (World.block_lt_of_cell? w _ h)).trans h
      have u5 := hcell H5.out
      obtain ⟨b, rfl, hcb⟩ := HC.out
      rw [Nat.zero_add] at hcb
      have u6 := hcell hcb
      have hk0 : (0 : Int) ≤ (kk : Int) := by omega
      have hk1 : (kk : Int) < (N : Int) := by omega
      have hj0 : (0 : Int) ≤ (j : Int) := by omega
      clear hcell hcb
      obtain ⟨A, HA⟩ : ∃ A : Option Addr, Hid ((fa.map fun g => (⟨g, 0, none⟩ : Addr)) = A) := ⟨_, rfl⟩
      rw [HA.out] at u6
      by_cases hlt : j < fn
      · have hcl : (j : Int) < (fn : Int) := by omega
        obtain ⟨gb, hgb, hrow⟩ := (HRR.out.below HB.out).row (by show 0 < fn; omega)
        obtain ⟨t, ht⟩ : ∃ t, rs[j]? = some t := ⟨_, List.getElem?_eq_getElem (by rw [Hfn.out]; exact hlt)⟩
        have HM : Hid (wr.rangeAt gb (j * 5) (rc t).toList) := hrow j t ht
        replace hgb : fa = some gb := hgb
        have hA := HA.out
        rw [hgb] at hA
        replace hA : A = some ⟨gb, 0, none⟩ := hA.symm
        subst hA
        have cF := qfits_any t y ga gn gc wr (HG.out.below HB.out) (HO.out t (List.mem_of_getElem? ht))
        have HTk : Hid (rs.take (j + 1) = rs.take j ++ [t]) := by
          show _ = _
          rw [List.take_add_one, ht]; rfl
        have HFd : Hid (fitsR y t = true → allowsR y rs = t.al) := fun h => by
          have e := List.getElem?_eq_some_iff.1 ht
          have : rs = rs.take j ++ t :: rs.drop (j + 1) := by
            rw [← e.2]
            exact (List.take_append_drop j rs).symm.trans (by rw [List.drop_eq_getElem_cons e.1])
          refine allowsR_some ?_
          rw [this]
          exact find_pre _ _ _ _ HP.out h
        have hfz : wr.cell? ⟨gb, j * 5, none⟩ = some (.bool t.al) := HM.out 0 _ rfl
        clear hrow ht
        cases hv : fitsR y t with
        | true =>
          rw [hv] at cF
          have HFd2 : Hid (allowsR y rs = t.al) := HFd.out hv
          clear HFd hv HTk
          go_wp2_with (first
            | (refine wpList_load_mid rfl 72 (.tmp 56) rfl gb (j * 5) rfl (rc t).toList _ HM.out Tryz.underlying72 rfl (by rw [infoRule]; rfl) ?_)
            | (go_at_call 47; refine cF.mono ?_; clear cF; rintro e w5 ⟨rfl, hb5⟩; have u7 : w5.cell? ⟨q, 5, none⟩ = some (.slice (some ⟨b, 0, none⟩) N cR) := (hb5.cell (World.block_lt_of_cell? wr _ u5)).trans u5; have u8 := (hb5.cell (World.block_lt_of_cell? wr _ u6)).trans u6; have u9 : w5.cell? ⟨gb, j * 5, none⟩ = some (.bool t.al) := (hb5.cell (World.block_lt_of_cell? wr _ hfz)).trans hfz))
          go_ret
          exact ⟨by rw [HFd2.out]; rfl, HB.out.trans (hb5.mono HB.out.size)⟩
        | false =>
          rw [hv] at cF
          have HP2 : Hid (∀ z ∈ rs.take (j + 1), fitsR y z = false) := fun z hz => by
            rw [HTk.out] at hz
            rcases List.mem_append.1 hz with e | e
            · exact HP.out z e
            · have : z = t := by simpa using e
              rw [this]; exact hv
          clear HFd hv HTk HP
          go_wp2_with (first
            | (refine wpList_load_mid rfl 72 (.tmp 56) rfl gb (j * 5) rfl (rc t).toList _ HM.out Tryz.underlying72 rfl (by rw [infoRule]; rfl) ?_)
            | (go_at_call 47; refine cF.mono ?_; clear cF; rintro e w5 ⟨rfl, hb5⟩))
          exact ⟨⟨j + 1, by go_num, by omega, HP2.out, HB.out.trans (hb5.mono HB.out.size)⟩, by simp [intOf]; omega⟩
      · have hcl : ¬ (j : Int) < (fn : Int) := by omega
        have HD : Hid (allowsR y rs = true) := by
          have h := HP.out
          rw [List.take_of_length_le (by rw [Hfn.out]; omega)] at h
          exact allowsR_none (List.find?_eq_none.2 (fun x hx => by rw [h x hx]; decide))
        clear HP
        go_wp2
        go_ret
        exact ⟨by rw [HD.out]; rfl, HB.out⟩
  | false =>
   rw [hb1] at cA1
   generalize ((atK (sortK P.ks) s : Nat) : Int) = k1 at cA1
   cases hb2 : (P.m P.us).isSome with
   | true =>
    have cA3 : Hid (∀ W, Below w.heap.size w W → Calls Tryz.prog 42 #[.pointer (some ⟨q, 0, none⟩), .string (ba P.us)] W fun e w' => e = .returned (.tuple #[.int .i64 (atK (sortK P.ks) P.us : Nat), .bool true]) ∧ Below W.heap.size W w') := fun W hb => by
      have := cA2 W hb
      rw [hb2] at this
      exact this
    clear cA2
    obtain ⟨kk, hkk⟩ : ∃ kk, atK (sortK P.ks) P.us = kk := ⟨_, rfl⟩
    have hat := at_head (ns := sortK P.ks) (s := P.us) (by rw [HH.out.is]; exact hb2)
    rw [hkk] at hat cA3
    have hkl : kk < (sortK P.ks).length := hat.1
    obtain ⟨aR, cR, hvR⟩ := ownR_sl HH.out.oR
    obtain ⟨u, hu⟩ : ∃ u, us[kk]? = some u := ⟨_, List.getElem?_eq_getElem (by rw [HH.out.rR.len, List.length_map]; exact hkl)⟩
    obtain ⟨f, rfl, hRR, _⟩ := HH.out.rR.row kk u hu
    rw [show ((sortK P.ks).map fun k => (P.m k).getD []).getD kk [] = heldR P s by rw [List.getD_eq_getElem?_getD, List.getElem?_map, hat.2]; unfold heldR heldN; rw [hb1, if_neg (by decide)]; rfl] at hRR
    have HC : Hid (∃ b, aR = some ⟨b, 0, none⟩ ∧ w.cell? ⟨b, 0 + kk, none⟩ = some (rsl f)) := by
      have ho := HH.out.oR
      rw [hvR] at ho
      rcases ho.2 with ⟨e, e2⟩ | ⟨g, cap, cur, e, _⟩
      · omega
      · injection e with e
        subst e
        have := ho.cells (g := g) rfl kk _ hu
        rw [add_flat] at this
        exact ⟨g, rfl, this⟩
    have H5 : Hid (w.cell? ⟨q, 5, none⟩ = some (.slice aR (sortK P.ks).length cR)) := by rw [← hvR]; exact HH.out.c5
    obtain ⟨N, HN⟩ : ∃ N, Hid ((sortK P.ks).length = N) := ⟨_, rfl⟩
    rw [HN.out] at H5 hkl
    obtain ⟨fa, fn, fc⟩ := f
    unfold rsl at HC
    dsimp only at HC
    generalize hrs : heldR P s = rs at hRR hl hok ⊢
    have Hfn : Hid (rs.length = fn) := hRR.len
    have hcm : fc ≤ maxLen := hRR.most
    have hcc : fn ≤ fc := hRR.cap
    have hln : fn ≤ 100000 := by rw [← Hfn.out]; exact hl
    unfold maxLen at hcm
    have HRR : Hid (RRd w (fa, fn, fc) rs) := hRR
    have HG : Hid (TRd w ga gn gc y.gs) := hG
    have HO : Hid (∀ r ∈ rs, okRul r) := hok
    have hNm : Hid (N ≤ maxLen) := (show N ≤ maxLen from by have h1 := HH.out.oR; rw [hvR, HN.out] at h1; rcases h1.2 with ⟨e, e2⟩ | ⟨_, _, _, e, _, _, h2, h3, _⟩ <;> omega)
    clear hRR hG hok hl hrs hat hkk hu hvR
    go_enter Tryz.func28, Tryz.ntmps28
    go_upto_region 7 with (first
      | (go_at_call 42; refine cA1.mono ?_; clear cA1; rintro e w1 ⟨rfl, hb9⟩; have u2 : w1.cell? ⟨q, 2, none⟩ = some (.string (ba P.us)) := (hb9.cell (World.block_lt_of_cell? w _ c2)).trans c2)
      | (go_at_call 42; refine (cA3.out _ hb9).mono ?_; clear cA3; rintro e wz ⟨rfl, hbz⟩))
    have HB1 : Hid (Below w.heap.size w wz) := hb9.trans (hbz.mono hb9.size)
    clear hbz hb9 u2 c2
    go_loopw [15] (fun s15 wr => ∃ j : Nat, s15 = .int .i64 (j : Int) ∧ j ≤ fn ∧ Hid (∀ t ∈ rs.take j, fitsR y t = false) ∧ Hid (Below w.heap.size w wr)) (fun s15 _ => fn - (intOf s15).toNat)
    case atStart => exact ⟨0, rfl, by omega, fun t ht => by simp at ht, HB1⟩
    case round =>
      obtain ⟨j, rfl, hj, HP, HB⟩ := hrel
      clear HB1
      have hcell : ∀ {p : Addr} {u : Value}, w.cell? p = some u → wr.cell? p = some u := fun {p u} h => (HB.out.cell (World.block_lt_of_cell? w _ h)).trans h
      have u5 := hcell H5.out
      obtain ⟨b, rfl, hcb⟩ := HC.out
      rw [Nat.zero_add] at hcb
      have u6 := hcell hcb
      have hk0 : (0 : Int) ≤ (kk : Int) := by omega
      have hk1 : (kk : Int) < (N : Int) := by omega
      have hj0 : (0 : Int) ≤ (j : Int) := by omega
      clear hcell hcb
      obtain ⟨A, HA⟩ : ∃ A : Option Addr, Hid ((fa.map fun g => (⟨g, 0, none⟩ : Addr)) = A) := ⟨_, rfl⟩
      rw [HA.out] at u6
      by_cases hlt : j < fn
      · have hcl : (j : Int) < (fn : Int) := by omega
        obtain ⟨gb, hgb, hrow⟩ := (HRR.out.below HB.out).row (by show 0 < fn; omega)
        obtain ⟨t, ht⟩ : ∃ t, rs[j]? = some t := ⟨_, List.getElem?_eq_getElem (by rw [Hfn.out]; exact hlt)⟩
        have HM : Hid (wr.rangeAt gb (j * 5) (rc t).toList) := hrow j t ht
        replace hgb : fa = some gb := hgb
        have hA := HA.out
        rw [hgb] at hA
        replace hA : A = some ⟨gb, 0, none⟩ := hA.symm
        subst hA
        have cF := qfits_any t y ga gn gc wr (HG.out.below HB.out) (HO.out t (List.mem_of_getElem? ht))
        have HTk : Hid (rs.take (j + 1) = rs.take j ++ [t]) := by
          show _ = _
          rw [List.take_add_one, ht]; rfl
        have HFd : Hid (fitsR y t = true → allowsR y rs = t.al) := fun h => by
          have e := List.getElem?_eq_some_iff.1 ht
          have : rs = rs.take j ++ t :: rs.drop (j + 1) := by
            rw [← e.2]
            exact (List.take_append_drop j rs).symm.trans (by rw [List.drop_eq_getElem_cons e.1])
          refine allowsR_some ?_
          rw [this]
          exact find_pre _ _ _ _ HP.out h
        have hfz : wr.cell? ⟨gb, j * 5, none⟩ = some (.bool t.al) := HM.out 0 _ rfl
        clear hrow ht
        cases hv : fitsR y t with
        | true =>
          rw [hv] at cF
          have HFd2 : Hid (allowsR y rs = t.al) := HFd.out hv
          clear HFd hv HTk
          go_wp2_with (first
            | (refine wpList_load_mid rfl 72 (.tmp 56) rfl gb (j * 5) rfl (rc t).toList _ HM.out Tryz.underlying72 rfl (by rw [infoRule]; rfl) ?_)
            | (go_at_call 47; refine cF.mono ?_; clear cF; rintro e w5 ⟨rfl, hb5⟩; have u7 : w5.cell? ⟨q, 5, none⟩ = some (.slice (some ⟨b, 0, none⟩) N cR) := (hb5.cell (World.block_lt_of_cell? wr _ u5)).trans u5; have u8 := (hb5.cell (World.block_lt_of_cell? wr _ u6)).trans u6; have u9 : w5.cell? ⟨gb, j * 5, none⟩ = some (.bool t.al) := (hb5.cell (World.block_lt_of_cell? wr _ hfz)).trans hfz))
          go_ret
          exact ⟨by rw [HFd2.out]; rfl, HB.out.trans (hb5.mono HB.out.size)⟩
        | false =>
          rw [hv] at cF
          have HP2 : Hid (∀ z ∈ rs.take (j + 1), fitsR y z = false) := fun z hz => by
            rw [HTk.out] at hz
            rcases List.mem_append.1 hz with e | e
            · exact HP.out z e
            · have : z = t := by simpa using e
              rw [this]; exact hv
          clear HFd hv HTk HP
          go_wp2_with (first
            | (refine wpList_load_mid rfl 72 (.tmp 56) rfl gb (j * 5) rfl (rc t).toList _ HM.out Tryz.underlying72 rfl (by rw [infoRule]; rfl) ?_)
            | (go_at_call 47; refine cF.mono ?_; clear cF; rintro e w5 ⟨rfl, hb5⟩))
          exact ⟨⟨j + 1, by go_num, by omega, HP2.out, HB.out.trans (hb5.mono HB.out.size)⟩, by simp [intOf]; omega⟩
      · have hcl : ¬ (j : Int) < (fn : Int) := by omega
        have HD : Hid (allowsR y rs = true) := by
          have h := HP.out
          rw [List.take_of_length_le (by rw [Hfn.out]; omega)] at h
          exact allowsR_none (List.find?_eq_none.2 (fun x hx => by rw [h x hx]; decide))
        clear HP
        go_wp2
        go_ret
        exact ⟨by rw [HD.out]; rfl, HB.out⟩
   | false =>
    have cA3 : Hid (∀ W, Below w.heap.size w W → Calls Tryz.prog 42 #[.pointer (some ⟨q, 0, none⟩), .string (ba P.us)] W fun e w' => e = .returned (.tuple #[.int .i64 (atK (sortK P.ks) P.us : Nat), .bool false]) ∧ Below W.heap.size W w') := fun W hb => by
      have := cA2 W hb
      rw [hb2] at this
      exact this
    have HD : Hid (allowsR y (heldR P s) = true) := by
      show _ = _
      unfold heldR heldN
      rw [hb1, if_neg (by decide)]
      cases hm : P.m P.us with
      | none => rfl
      | some rs => rw [hm] at hb2; cases hb2
    clear cA2 hb1 hb2
    rw [HD.out]
    go_enter Tryz.func28, Tryz.ntmps28
    go_wp2_with (first
      | (go_at_call 42; refine cA1.mono ?_; clear cA1; rintro e w1 ⟨rfl, hb1⟩; have u2 : w1.cell? ⟨q, 2, none⟩ = some (.string (ba P.us)) := (hb1.cell (World.block_lt_of_cell? w _ c2)).trans c2)
      | (go_at_call 42; refine (cA3.out _ hb1).mono ?_; clear cA3; rintro e w2 ⟨rfl, hb2⟩))
    go_ret
    exact ⟨rfl, hb1.trans (hb2.mono hb1.size)⟩
end Go.Proofs.YtiplalbicibahaaGreatDoor

/- privacy: how the names stand behind a put and a drop (pure). -/
set_option maxRecDepth 100000
namespace Go.Proofs.YtiplalbicibahaaGreatDoor
open Go.RowKit Go.Joins Go.Shelf

theorem sort_drop {ks : List By} {s : By} (h : ks.Nodup) (hs : s ∈ ks) : sortK (dropK ks s) = (sortK ks).take (atK (sortK ks) s) ++ (sortK ks).drop (atK (sortK ks) s + 1) := by
  have ha := asc_sortK h
  have hat := at_head ((at_mem ha).2 (sortK_mem.2 hs))
  refine asc_ext (asc_sortK (h.filter _)) (asc_drop ha _) (fun x => ?_)
  have hsp : sortK ks = (sortK ks).take (atK (sortK ks) s) ++ s :: (sortK ks).drop (atK (sortK ks) s + 1) := by
    have e := List.getElem?_eq_some_iff.1 hat.2
    have e2 := (List.take_append_drop (atK (sortK ks) s) (sortK ks)).symm
    rw [List.drop_eq_getElem_cons hat.1, e.2] at e2
    exact e2
  have hnd := asc_nodup ha
  rw [hsp] at hnd
  have hns : s ∉ (sortK ks).take (atK (sortK ks) s) ++ (sortK ks).drop (atK (sortK ks) s + 1) := by
    intro e
    rcases List.mem_append.1 e with e | e
    · exact (List.nodup_append.1 hnd).2.2 s e s (List.mem_cons_self ..) rfl
    · exact (List.nodup_cons.1 (List.nodup_append.1 hnd).2.1).1 e
  have hm : x ∈ ks ↔ x ∈ (sortK ks).take (atK (sortK ks) s) ∨ x = s ∨ x ∈ (sortK ks).drop (atK (sortK ks) s + 1) := by
    rw [← sortK_mem, ← List.mem_cons, ← List.mem_append, ← hsp]
  unfold dropK
  rw [sortK_mem, List.mem_filter, hm, List.mem_append]
  simp only [Bool.not_eq_true', beq_eq_false_iff_ne]
  constructor
  · rintro ⟨e | e | e, hx⟩
    · exact Or.inl e
    · exact absurd e hx
    · exact Or.inr e
  · intro e
    refine ⟨e.elim Or.inl (fun e => Or.inr (Or.inr e)), fun hx => ?_⟩
    subst hx
    exact hns (List.mem_append.2 e)
end Go.Proofs.YtiplalbicibahaaGreatDoor

/- The document's fold and letter. -/
namespace Go.Proofs.YtiplalbicibahaaGreatDoor.Nm
open Go.RowKit

set_option maxHeartbeats 4000000 in
theorem refFold_any (r : Int) (w : World) (h0 : 0 ≤ r) (h1 : r ≤ 1114111) : Calls Tryz.prog 68 #[.int .i32 r] w fun e w' => e = .returned (.int .i32 (foldR r)) ∧ w' = w := by
  go_enter Tryz.func68, Tryz.ntmps68
  go_wp2
  all_goals go_ret
  all_goals (refine ⟨ret_int ?_, rfl⟩; unfold foldR; split <;> first | omega | (simp; omega))

set_option maxHeartbeats 8000000 in
theorem letter_any (r : Int) (w : World) : Calls Tryz.prog 67 #[.int .i32 r] w fun e w' => e = .returned (.bool (letterB r)) ∧ w' = w := by
  go_enter Tryz.func67, Tryz.ntmps67
  go_wp2
  all_goals go_ret
  all_goals (refine ⟨ret_bool ?_, rfl⟩; unfold letterB)
  all_goals (rw [Bool.eq_iff_iff]; simp only [Bool.or_eq_true, decide_eq_true_eq, beq_iff_eq, Bool.false_eq_true, true_iff, false_iff]; first | omega | decide)
end Go.Proofs.YtiplalbicibahaaGreatDoor.Nm

/- UTF-8 as a function on lists of bytes; Go's two tables. -/
namespace Go.Proofs.YtiplalbicibahaaGreatDoor
open Go.RowKit

/-- How many bytes a rune with this first byte has (1: no first byte), and the bounds of the second. -/
def usz (c : Int) : Nat := if 194 ≤ c ∧ c ≤ 223 then 2 else if 224 ≤ c ∧ c ≤ 239 then 3 else if 240 ≤ c ∧ c ≤ 244 then 4 else 1
def ulo (c : Int) : Int := if c = 224 then 160 else if c = 240 then 144 else 128
def uhi (c : Int) : Int := if c = 237 then 159 else if c = 244 then 143 else 191
def oks (c p : Int) : Bool := decide (ulo c ≤ p) && decide (p ≤ uhi c)
def okc (p : Int) : Bool := decide (128 ≤ p) && decide (p ≤ 191)

def vldF : Nat → List Int → Bool
  | 0, _ => true
  | _ + 1, [] => true
  | n + 1, c :: r =>
    if c < 128 then vldF n r
    else if usz c = 2 then (if 1 ≤ r.length then oks c (r.getD 0 0) && vldF n (r.drop 1) else false)
    else if usz c = 3 then (if 2 ≤ r.length then oks c (r.getD 0 0) && okc (r.getD 1 0) && vldF n (r.drop 2) else false)
    else if usz c = 4 then (if 3 ≤ r.length then oks c (r.getD 0 0) && okc (r.getD 1 0) && okc (r.getD 2 0) && vldF n (r.drop 3) else false)
    else false
/-- More steps than bytes make no difference. -/
theorem vldF_eq : ∀ (n m : Nat) (l : List Int), l.length ≤ n → l.length ≤ m → vldF n l = vldF m l
  | 0, 0, _, _, _ => rfl
  | 0, _ + 1, [], _, _ => rfl
  | 0, _ + 1, _ :: _, h, _ => by simp at h
  | _ + 1, 0, [], _, _ => rfl
  | _ + 1, 0, _ :: _, _, h => by simp at h
  | _ + 1, _ + 1, [], _, _ => rfl
  | n + 1, m + 1, c :: r, h, h' => by
    have h1 : r.length ≤ n := by simp at h; exact h
    have h2 : r.length ≤ m := by simp at h'; exact h'
    have e : ∀ k, vldF n (r.drop k) = vldF m (r.drop k) := fun k => vldF_eq n m (r.drop k) (by rw [List.length_drop]; omega) (by rw [List.length_drop]; omega)
    have e0 := vldF_eq n m r h1 h2
    unfold vldF
    rw [e0, e 1, e 2, e 3]
def vld (l : List Int) : Bool := vldF l.length l
theorem vldF_vld {n : Nat} {l : List Int} (h : l.length ≤ n) : vldF n l = vld l := vldF_eq n l.length l h (Nat.le_refl _)
theorem vld_cons (c : Int) (r : List Int) : vld (c :: r) =
    if c < 128 then vld r
    else if usz c = 2 then (if 1 ≤ r.length then oks c (r.getD 0 0) && vld (r.drop 1) else false)
    else if usz c = 3 then (if 2 ≤ r.length then oks c (r.getD 0 0) && okc (r.getD 1 0) && vld (r.drop 2) else false)
    else if usz c = 4 then (if 3 ≤ r.length then oks c (r.getD 0 0) && okc (r.getD 1 0) && okc (r.getD 2 0) && vld (r.drop 3) else false)
    else false := by
  have e : ∀ k, vldF r.length (r.drop k) = vld (r.drop k) := fun k => vldF_vld (by rw [List.length_drop]; omega)
  show vldF (r.length + 1) (c :: r) = _
  unfold vldF
  rw [e 1, e 2, e 3]
  rfl

theorem vld_nil : vld [] = true := rfl
theorem vld_ascii {c : Int} {r : List Int} (h : c < 128) : vld (c :: r) = vld r := by rw [vld_cons, if_pos h]

/-- The first byte's entry in Go's table 'first'. -/
def fT (c : Nat) : Nat := if c < 128 then 240 else if c < 194 then 241 else if c < 224 then 2 else if c = 224 then 19 else if c = 237 then 35 else if c < 240 then 3 else if c = 240 then 52 else if c < 244 then 4 else if c = 244 then 68 else 241
def aLo (i : Nat) : Nat := if i = 1 then 160 else if i = 3 then 144 else if i < 5 then 128 else 0
def aHi (i : Nat) : Nat := if i = 2 then 159 else if i = 4 then 143 else if i < 5 then 191 else 0

theorem fT_2 (z : Int) (h : 194 ≤ z ∧ z ≤ 223) : fT z.toNat = 2 := by unfold fT; rw [if_neg (by omega), if_neg (by omega), if_pos (by omega)]
theorem fT_3a (z : Int) (h : z = 224) : fT z.toNat = 19 := by subst h; decide
theorem fT_3b (z : Int) (h : z = 237) : fT z.toNat = 35 := by subst h; decide
theorem fT_3 (z : Int) (h : 224 ≤ z ∧ z ≤ 239) (h1 : z ≠ 224) (h2 : z ≠ 237) : fT z.toNat = 3 := by unfold fT; rw [if_neg (by omega), if_neg (by omega), if_neg (by omega), if_neg (by omega), if_neg (by omega), if_pos (by omega)]
theorem fT_4a (z : Int) (h : z = 240) : fT z.toNat = 52 := by subst h; decide
theorem fT_4b (z : Int) (h : z = 244) : fT z.toNat = 68 := by subst h; decide
theorem fT_4 (z : Int) (h : 240 ≤ z ∧ z ≤ 244) (h1 : z ≠ 240) (h2 : z ≠ 244) : fT z.toNat = 4 := by unfold fT; rw [if_neg (by omega), if_neg (by omega), if_neg (by omega), if_neg (by omega), if_neg (by omega), if_neg (by omega), if_neg (by omega), if_pos (by omega)]
theorem fT_1 (z : Int) (h0 : ¬ z < 128) (h1 : z ≤ 255) (k2 : ¬ (194 ≤ z ∧ z ≤ 223)) (k3 : ¬ (224 ≤ z ∧ z ≤ 239)) (k4 : ¬ (240 ≤ z ∧ z ≤ 244)) : fT z.toNat = 241 := by
  unfold fT
  rw [if_neg (by omega)]
  by_cases g : z.toNat < 194
  · rw [if_pos g]
  · rw [if_neg g, if_neg (by omega), if_neg (by omega), if_neg (by omega), if_neg (by omega), if_neg (by omega), if_neg (by omega), if_neg (by omega)]

structure Tabs (w : World) : Prop where
  first : ∀ c : Nat, c < 256 → w.cell? ⟨0, c, none⟩ = some (.int .u8 (fT c))
  lo : ∀ i : Nat, i < 16 → w.cell? ⟨1, 2 * i, none⟩ = some (.int .u8 (aLo i))
  hi : ∀ i : Nat, i < 16 → w.cell? ⟨1, 2 * i + 1, none⟩ = some (.int .u8 (aHi i))

theorem Tabs.carry {w w' : World} (h : Tabs w) (k : Ext w w') : Tabs w' :=
  ⟨fun c hc => (Below.cell k (p := ⟨0, c, none⟩) (World.block_lt_of_cell? w _ (h.first c hc))).trans (h.first c hc),
   fun i hi => (Below.cell k (p := ⟨1, 2 * i, none⟩) (World.block_lt_of_cell? w _ (h.lo i hi))).trans (h.lo i hi),
   fun i hi => (Below.cell k (p := ⟨1, 2 * i + 1, none⟩) (World.block_lt_of_cell? w _ (h.hi i hi))).trans (h.hi i hi)⟩

theorem drop_vld {ys : List Int} : ∀ k, k ≤ ys.length → (∀ j, j < k → ys.getD j 0 < 128) → vld (ys.drop k) = vld ys
  | 0, _, _ => by simp
  | k + 1, hk, h => by
    have h1 := drop_vld k (by omega) (fun j hj => h j (by omega))
    rw [← h1, List.drop_eq_getElem_cons (show k < ys.length by omega)]
    have := h k (by omega)
    simp [List.getD, List.getElem?_eq_getElem (show k < ys.length by omega)] at this
    rw [vld_ascii this]

def slen : Value → Nat
  | .slice _ n _ => n
  | _ => 0

end Go.Proofs.YtiplalbicibahaaGreatDoor

/- A text's bytes as numbers; what a step of the document's Valid owes. -/
namespace Go.Proofs.YtiplalbicibahaaGreatDoor.Nm
open Go.RowKit

def nums (s : ByteArray) : List Int := s.data.toList.map fun b => (b.toNat : Int)
theorem nums_len (s : ByteArray) : (nums s).length = s.size := by simp [nums]
theorem nums_bd (s : ByteArray) : Bd (nums s) := by
  intro x hx; simp [nums] at hx; obtain ⟨b, _, rfl⟩ := hx; have := b.toNat_lt; omega

theorem drop_cons {xs : List Int} {k : Nat} (h : k < xs.length) : xs.drop k = xs.getD k 0 :: xs.drop (k + 1) := by
  rw [List.drop_eq_getElem_cons h]; simp [List.getD, List.getElem?_eq_getElem h]
theorem usz_1234 (z : Int) : usz z = 1 ∨ usz z = 2 ∨ usz z = 3 ∨ usz z = 4 := by
  unfold usz; split
  · simp
  · split
    · simp
    · split <;> simp
theorem dropD (c : Int) (r : List Int) (j : Nat) : (c :: r).getD (j + 1) 0 = r.getD j 0 := by simp [List.getD]

theorem bad1 {ys : List Int} {z : Int} (hd : ys = z :: ys.drop 1) (ha : ¬ z < 128) (hk : usz z = 1) : vld ys = false := by
  rw [hd, vld_cons, if_neg ha, if_neg (by omega), if_neg (by omega), if_neg (by omega)]
theorem bad2 {ys : List Int} {z : Int} (hd : ys = z :: ys.drop 1) (ha : ¬ z < 128) (hk : usz z = 2) (h : ys.length < 2 ∨ ys.getD 1 0 < ulo z ∨ uhi z < ys.getD 1 0) : vld ys = false := by
  have e1 : ys.getD 1 0 = (ys.drop 1).getD 0 0 := by conv => lhs; rw [hd, dropD]
  have e2 : ys.length = (ys.drop 1).length + 1 := congrArg List.length hd
  rw [e1, e2] at h
  rw [hd, vld_cons, if_neg ha, if_pos hk]
  generalize ys.drop 1 = r at *
  by_cases hl : 1 ≤ r.length
  · rw [if_pos hl]
    have : oks z (r.getD 0 0) = false := by
      cases q : oks z (r.getD 0 0) with
      | false => rfl
      | true => simp only [oks, Bool.and_eq_true, decide_eq_true_eq] at q; omega
    rw [this, Bool.false_and]
  · rw [if_neg hl]
theorem ok2 {ys : List Int} {z : Int} (hd : ys = z :: ys.drop 1) (ha : ¬ z < 128) (hk : usz z = 2) (h0 : 2 ≤ ys.length) (h1 : ulo z ≤ ys.getD 1 0) (h2 : ys.getD 1 0 ≤ uhi z) : vld ys = vld (ys.drop 2) := by
  have e1 : ys.getD 1 0 = (ys.drop 1).getD 0 0 := by conv => lhs; rw [hd, dropD]
  have e2 : ys.length = (ys.drop 1).length + 1 := congrArg List.length hd
  have e3 : ys.drop 2 = (ys.drop 1).drop 1 := by rw [List.drop_drop]
  rw [e1] at h1 h2
  rw [e2] at h0
  rw [e3]
  conv => lhs; rw [hd, vld_cons, if_neg ha, if_pos hk]
  generalize ys.drop 1 = r at *
  rw [if_pos (by omega)]
  have : oks z (r.getD 0 0) = true := by
    simp only [oks, Bool.and_eq_true, decide_eq_true_eq]; omega
  rw [this, Bool.true_and]
theorem bad3 {ys : List Int} {z : Int} (hd : ys = z :: ys.drop 1) (ha : ¬ z < 128) (hk : usz z = 3) (h : ys.length < 3 ∨ ys.getD 1 0 < ulo z ∨ uhi z < ys.getD 1 0 ∨ ys.getD 2 0 < 128 ∨ 191 < ys.getD 2 0) : vld ys = false := by
  have e1 : ys.getD 1 0 = (ys.drop 1).getD 0 0 := by conv => lhs; rw [hd, dropD]
  have e4 : ys.getD 2 0 = (ys.drop 1).getD 1 0 := by conv => lhs; rw [hd, dropD]
  have e2 : ys.length = (ys.drop 1).length + 1 := congrArg List.length hd
  rw [e1, e2, e4] at h
  rw [hd, vld_cons, if_neg ha, if_neg (by omega), if_pos hk]
  generalize ys.drop 1 = r at *
  by_cases hl : 2 ≤ r.length
  · rw [if_pos hl]
    have : (oks z (r.getD 0 0) && okc (r.getD 1 0)) = false := by
      cases q : oks z (r.getD 0 0) && okc (r.getD 1 0) with
      | false => rfl
      | true => simp only [oks, okc, Bool.and_eq_true, decide_eq_true_eq] at q; omega
    rw [this, Bool.false_and]
  · rw [if_neg hl]
theorem ok3 {ys : List Int} {z : Int} (hd : ys = z :: ys.drop 1) (ha : ¬ z < 128) (hk : usz z = 3) (h0 : 3 ≤ ys.length) (h1 : ulo z ≤ ys.getD 1 0) (h2 : ys.getD 1 0 ≤ uhi z) (h3 : 128 ≤ ys.getD 2 0) (h4 : ys.getD 2 0 ≤ 191) : vld ys = vld (ys.drop 3) := by
  have e1 : ys.getD 1 0 = (ys.drop 1).getD 0 0 := by conv => lhs; rw [hd, dropD]
  have e4 : ys.getD 2 0 = (ys.drop 1).getD 1 0 := by conv => lhs; rw [hd, dropD]
  have e2 : ys.length = (ys.drop 1).length + 1 := congrArg List.length hd
  have e3 : ys.drop 3 = (ys.drop 1).drop 2 := by rw [List.drop_drop]
  rw [e1] at h1 h2
  rw [e4] at h3 h4
  rw [e2] at h0
  rw [e3]
  conv => lhs; rw [hd, vld_cons, if_neg ha, if_neg (by omega), if_pos hk]
  generalize ys.drop 1 = r at *
  rw [if_pos (by omega)]
  have : (oks z (r.getD 0 0) && okc (r.getD 1 0)) = true := by
    simp only [oks, okc, Bool.and_eq_true, decide_eq_true_eq]; omega
  rw [this, Bool.true_and]
theorem bad4 {ys : List Int} {z : Int} (hd : ys = z :: ys.drop 1) (ha : ¬ z < 128) (hk : usz z = 4) (h : ys.length < 4 ∨ ys.getD 1 0 < ulo z ∨ uhi z < ys.getD 1 0 ∨ ys.getD 2 0 < 128 ∨ 191 < ys.getD 2 0 ∨ ys.getD 3 0 < 128 ∨ 191 < ys.getD 3 0) : vld ys = false := by
  have e1 : ys.getD 1 0 = (ys.drop 1).getD 0 0 := by conv => lhs; rw [hd, dropD]
  have e4 : ys.getD 2 0 = (ys.drop 1).getD 1 0 := by conv => lhs; rw [hd, dropD]
  have e5 : ys.getD 3 0 = (ys.drop 1).getD 2 0 := by conv => lhs; rw [hd, dropD]
  have e2 : ys.length = (ys.drop 1).length + 1 := congrArg List.length hd
  rw [e1, e2, e4, e5] at h
  rw [hd, vld_cons, if_neg ha, if_neg (by omega), if_neg (by omega), if_pos hk]
  generalize ys.drop 1 = r at *
  by_cases hl : 3 ≤ r.length
  · rw [if_pos hl]
    have : (oks z (r.getD 0 0) && okc (r.getD 1 0) && okc (r.getD 2 0)) = false := by
      cases q : oks z (r.getD 0 0) && okc (r.getD 1 0) && okc (r.getD 2 0) with
      | false => rfl
      | true => simp only [oks, okc, Bool.and_eq_true, decide_eq_true_eq] at q; omega
    rw [this, Bool.false_and]
  · rw [if_neg hl]
theorem ok4 {ys : List Int} {z : Int} (hd : ys = z :: ys.drop 1) (ha : ¬ z < 128) (hk : usz z = 4) (h0 : 4 ≤ ys.length) (h1 : ulo z ≤ ys.getD 1 0) (h2 : ys.getD 1 0 ≤ uhi z) (h3 : 128 ≤ ys.getD 2 0) (h4 : ys.getD 2 0 ≤ 191) (h5 : 128 ≤ ys.getD 3 0) (h6 : ys.getD 3 0 ≤ 191) : vld ys = vld (ys.drop 4) := by
  have e1 : ys.getD 1 0 = (ys.drop 1).getD 0 0 := by conv => lhs; rw [hd, dropD]
  have e4 : ys.getD 2 0 = (ys.drop 1).getD 1 0 := by conv => lhs; rw [hd, dropD]
  have e5 : ys.getD 3 0 = (ys.drop 1).getD 2 0 := by conv => lhs; rw [hd, dropD]
  have e2 : ys.length = (ys.drop 1).length + 1 := congrArg List.length hd
  have e3 : ys.drop 4 = (ys.drop 1).drop 3 := by rw [List.drop_drop]
  rw [e1] at h1 h2
  rw [e4] at h3 h4
  rw [e5] at h5 h6
  rw [e2] at h0
  rw [e3]
  conv => lhs; rw [hd, vld_cons, if_neg ha, if_neg (by omega), if_neg (by omega), if_pos hk]
  generalize ys.drop 1 = r at *
  rw [if_pos (by omega)]
  have : (oks z (r.getD 0 0) && okc (r.getD 1 0) && okc (r.getD 2 0)) = true := by
    simp only [oks, okc, Bool.and_eq_true, decide_eq_true_eq]; omega
  rw [this, Bool.true_and]


theorem tab_eq : ∀ c : Nat, c < 256 → 128 ≤ c → Lib.firstT c % 8 = usz (c : Int) ∧ (usz (c : Int) ≠ 1 → ((Lib.accLo (Lib.firstT c / 16) : Nat) : Int) = ulo (c : Int) ∧ ((Lib.accHi (Lib.firstT c / 16) : Nat) : Int) = uhi (c : Int)) := by decide +kernel

theorem getN (l : List UInt8) (j : Nat) : (l.map fun b => (b.toNat : Int)).getD j 0 = ((l.getD j 0).toNat : Int) := by
  rw [List.getD, List.getElem?_map, List.getD]
  cases l[j]? <;> simp

theorem vld_valid : ∀ (n : Nat) (l : List UInt8), l.length ≤ n → vld (l.map fun b => (b.toNat : Int)) = Lib.validD l
  | _, [], _ => by rw [List.map_nil, vld_nil, Lib.validD_nil]
  | 0, b :: t, h => by simp at h
  | n + 1, b :: t, h => by
    have hb := b.toNat_lt
    by_cases ha : b.toNat < 128
    · rw [List.map_cons, vld_ascii (by omega), Lib.validD_cons b t ha]
      exact vld_valid n t (by simp at h; omega)
    · rw [Lib.validD_lead (b :: t) (by simp) (by simp; omega)]
      have e0 : (b :: t).getD 0 0 = b := rfl
      rw [e0]
      obtain ⟨hsz, hlh⟩ := tab_eq b.toNat hb (by omega)
      rw [hsz]
      have hd : ((b :: t).map fun b => (b.toNat : Int)) = (b.toNat : Int) :: ((b :: t).map fun b => (b.toNat : Int)).drop 1 := rfl
      have hlen : ((b :: t).map fun b => (b.toNat : Int)).length = (b :: t).length := by simp
      have hdr : ∀ k, ((b :: t).map fun b => (b.toNat : Int)).drop k = ((b :: t).drop k).map fun b => (b.toNat : Int) := fun k => by rw [List.map_drop]
      have ih : ∀ k, 1 ≤ k → vld (((b :: t).map fun b => (b.toNat : Int)).drop k) = Lib.validD ((b :: t).drop k) := fun k hk => by
        rw [hdr]; exact vld_valid n _ (by rw [List.length_drop]; simp at h ⊢; omega)
      have g1 := getN (b :: t) 1
      have g2 := getN (b :: t) 2
      have g3 := getN (b :: t) 3
      rcases usz_1234 (b.toNat : Int) with hu | hu | hu | hu
      · rw [bad1 hd (by omega) hu, hu]; rfl
      · obtain ⟨h1, h2⟩ := hlh (by omega)
        rw [hu]
        simp only [Lib.checkN]
        by_cases hc : (b :: t).length < 2 ∨ ((b :: t).getD 1 0).toNat < Lib.accLo (Lib.firstT b.toNat / 16) ∨ Lib.accHi (Lib.firstT b.toNat / 16) < ((b :: t).getD 1 0).toNat
        · rw [if_pos trivial, if_pos hc]
          exact bad2 hd (by omega) hu (by rw [hlen, g1]; omega)
        · rw [if_pos trivial, if_neg hc]
          rw [ok2 hd (by omega) hu (by rw [hlen]; omega) (by rw [g1]; omega) (by rw [g1]; omega)]
          exact ih 2 (by omega)
      · obtain ⟨h1, h2⟩ := hlh (by omega)
        rw [hu]
        simp only [Lib.checkN]
        rw [if_neg (by omega), if_pos trivial]
        by_cases hc : (b :: t).length < 3 ∨ ((b :: t).getD 1 0).toNat < Lib.accLo (Lib.firstT b.toNat / 16) ∨ Lib.accHi (Lib.firstT b.toNat / 16) < ((b :: t).getD 1 0).toNat ∨ ((b :: t).getD 2 0).toNat < 128 ∨ 191 < ((b :: t).getD 2 0).toNat
        · rw [if_pos hc]
          exact bad3 hd (by omega) hu (by rw [hlen, g1, g2]; omega)
        · rw [if_neg hc]
          rw [ok3 hd (by omega) hu (by rw [hlen]; omega) (by rw [g1]; omega) (by rw [g1]; omega) (by rw [g2]; omega) (by rw [g2]; omega)]
          exact ih 3 (by omega)
      · obtain ⟨h1, h2⟩ := hlh (by omega)
        rw [hu]
        simp only [Lib.checkN]
        rw [if_neg (by omega), if_neg (by omega), if_pos trivial]
        by_cases hc : (b :: t).length < 4 ∨ ((b :: t).getD 1 0).toNat < Lib.accLo (Lib.firstT b.toNat / 16) ∨ Lib.accHi (Lib.firstT b.toNat / 16) < ((b :: t).getD 1 0).toNat ∨ ((b :: t).getD 2 0).toNat < 128 ∨ 191 < ((b :: t).getD 2 0).toNat ∨ ((b :: t).getD 3 0).toNat < 128 ∨ 191 < ((b :: t).getD 3 0).toNat
        · rw [if_pos hc]
          exact bad4 hd (by omega) hu (by rw [hlen, g1, g2, g3]; omega)
        · rw [if_neg hc]
          rw [ok4 hd (by omega) hu (by rw [hlen]; omega) (by rw [g1]; omega) (by rw [g1]; omega) (by rw [g2]; omega) (by rw [g2]; omega) (by rw [g3]; omega) (by rw [g3]; omega)]
          exact ih 4 (by omega)
theorem vld_nums (s : ByteArray) : vld (nums s) = Lib.validD s.data.toList := vld_valid _ _ (Nat.le_refl _)
end Go.Proofs.YtiplalbicibahaaGreatDoor.Nm

/- The document's Valid: is a text UTF-8, byte by byte? -/
namespace Go.Proofs.YtiplalbicibahaaGreatDoor.Nm
open Go.RowKit

theorem idx (s : ByteArray) (i : Int) (j : Nat) (w : World) (e : i = (j : Int)) (h : j < s.size) : (Instr.index 9 (.string s) (.int .i64 i)).run Tryz.prog w = .ok (.int .u8 ((nums s).getD j 0)) w := by
  subst e
  rw [run_index_string w 9 s .i64 (j : Int) Tryz.underlying9, dif_pos ⟨by omega, by omega⟩]
  have h1 : j < s.data.size := h
  have e1 : (nums s).getD j 0 = ((s.data[j]).toNat : Int) := by
    simp [nums, List.getD, Array.getElem?_eq_getElem h1]
  rw [e1]
  rfl

theorem ok1 {ys : List Int} {z : Int} (hd : ys = z :: ys.drop 1) (ha : z < 128) : vld ys = vld (ys.drop 1) := by conv => lhs; rw [hd, vld_ascii ha]
theorem dropAt (l : List Int) (k j : Nat) : (l.drop k).getD j 0 = l.getD (k + j) 0 := by simp [List.getD]

set_option maxHeartbeats 40000000 in
set_option maxRecDepth 100000 in
theorem refValid_any (s : ByteArray) (w : World) (hs : s.size ≤ 1000000) :
    Calls Tryz.prog 53 #[.string s] w fun e w' => e = .returned (.bool (vld (nums s))) ∧ w' = w := by
  have hl := nums_len s
  have hbd := nums_bd s
  go_enter Tryz.func53, Tryz.ntmps53
  go_wp2
  go_loop [3] (fun i => ∃ k : Nat, k ≤ s.size ∧ i = .int .i64 k ∧ vld ((nums s).drop k) = vld (nums s)) (fun i => s.size - (intOf i).toNat)
  case atStart => exact ⟨0, by omega, rfl, rfl⟩
  case round =>
    obtain ⟨k, hk, rfl, hv⟩ := hrel
    by_cases hlt : k < s.size
    · have hq0 := idx s (k : Int) k w rfl hlt
      have hb := hbd.get k
      have hd := drop_cons (xs := nums s) (k := k) (by omega)
      have hlen : ((nums s).drop k).length = s.size - k := by rw [List.length_drop, hl]
      have hD1 : ((nums s).drop k).drop 1 = (nums s).drop (k + 1) := by rw [List.drop_drop]
      have hD2 : ((nums s).drop k).drop 2 = (nums s).drop (k + 2) := by rw [List.drop_drop]
      have hD3 : ((nums s).drop k).drop 3 = (nums s).drop (k + 3) := by rw [List.drop_drop]
      have hD4 : ((nums s).drop k).drop 4 = (nums s).drop (k + 4) := by rw [List.drop_drop]
      rw [← hD1] at hd
      have hA1 := dropAt (nums s) k 1
      have hA2 := dropAt (nums s) k 2
      have hA3 := dropAt (nums s) k 3
      obtain ⟨z, hz⟩ : ∃ z, z = (nums s).getD k 0 := ⟨_, rfl⟩
      rw [← hz] at hq0 hb hd
      clear hz
      obtain ⟨hb0, hb1⟩ := hb
      have HV : Hid (vld ((nums s).drop k) = vld (nums s)) := hv
      have HD : Hid ((nums s).drop k = z :: ((nums s).drop k).drop 1) := hd
      have HL : Hid (((nums s).drop k).length = s.size - k) := hlen
      have H1 : Hid (((nums s).drop k).drop 1 = (nums s).drop (k + 1)) := hD1
      have H2 : Hid (((nums s).drop k).drop 2 = (nums s).drop (k + 2)) := hD2
      have H3 : Hid (((nums s).drop k).drop 3 = (nums s).drop (k + 3)) := hD3
      have H4 : Hid (((nums s).drop k).drop 4 = (nums s).drop (k + 4)) := hD4
      have A1 : Hid (((nums s).drop k).getD 1 0 = (nums s).getD (k + 1) 0) := hA1
      have A2 : Hid (((nums s).drop k).getD 2 0 = (nums s).getD (k + 2) 0) := hA2
      have A3 : Hid (((nums s).drop k).getD 3 0 = (nums s).getD (k + 3) 0) := hA3
      clear hv hd hlen hD1 hD2 hD3 hD4 hA1 hA2 hA3
      by_cases r1 : z < 128
      · skip
        as_aux_lemma =>
          go_wp2
          refine wp_loop_rounds 1 ?_
          rw [rounds_succ]
          go_wp2
          go_round
          case rel => exact ⟨k + 1, by omega, by go_num, by rw [← HV.out, ← H1.out]; exact (ok1 HD.out r1).symm⟩
          case measure => simp [intOf]; omega
      · by_cases r2 : z < 194
        · have hu : usz z = 1 := by unfold usz; rw [if_neg (by omega), if_neg (by omega), if_neg (by omega)]
          have ca : ¬ z < 128 := by omega
          have cb : ¬ 194 ≤ z := by omega
          have cc : z ≤ 223 := by omega
          have cd : ¬ 224 ≤ z := by omega
          have ce : z ≤ 239 := by omega
          have cf : ¬ 240 ≤ z := by omega
          have cg : z ≤ 244 := by omega
          go_wp2
          go_ret
          exact ⟨ret_bool (by rw [← HV.out]; exact (bad1 HD.out (by omega) hu).symm), rfl⟩
        · by_cases r3 : z ≤ 223
          · have hu : usz z = 2 := by unfold usz; rw [if_pos (by omega)]
            have hlo : ulo z = 128 := by unfold ulo; rw [if_neg (by omega), if_neg (by omega)]
            have hhi : uhi z = 191 := by unfold uhi; rw [if_neg (by omega), if_neg (by omega)]
            have ca : ¬ z < 128 := by omega
            have cb : 194 ≤ z := by omega
            have cc : z ≤ 223 := by omega
            have cd : ¬ 224 ≤ z := by omega
            have ce : z ≤ 239 := by omega
            have cf : ¬ 240 ≤ z := by omega
            have cg : z ≤ 244 := by omega
            as_aux_lemma =>
              go_wp2
              refine wp_loop_rounds 2 ?_
              by_cases n1 : k + 1 < s.size
              · have hq1 := idx s ((k : Int) + 1) (k + 1) w (by omega) n1
                have m1 : ¬ ((s.size : Int) ≤ (k : Int) + 1) := by omega
                obtain ⟨z1, hz1⟩ : ∃ z, z = (nums s).getD (k + 1) 0 := ⟨_, rfl⟩
                rw [← hz1] at hq1
                have HZ1 : Hid (z1 = (nums s).getD (k + 1) 0) := hz1
                have A1' := A1.out
                rw [← hz1] at A1'
                replace A1 : Hid (((nums s).drop k).getD 1 0 = z1) := A1'
                clear A1' hz1
                by_cases o1 : z1 < 128
                · rw [rounds_succ]
                  go_wp2
                  go_ret
                  exact ⟨ret_bool (by rw [← HV.out]; exact (bad2 HD.out (by omega) hu (by rw [HL.out, A1.out, hlo, hhi]; omega)).symm), rfl⟩
                · by_cases p1 : 191 < z1
                  · rw [rounds_succ]
                    go_wp2
                    go_ret
                    exact ⟨ret_bool (by rw [← HV.out]; exact (bad2 HD.out (by omega) hu (by rw [HL.out, A1.out, hlo, hhi]; omega)).symm), rfl⟩
                  · rw [rounds_succ]
                    go_wp2
                    rw [rounds_succ]
                    go_wp2
                    go_round
                    case rel => exact ⟨k + 2, by omega, by go_num, by rw [← HV.out, ← H2.out]; exact (ok2 HD.out (by omega) hu (by rw [HL.out]; omega) (by rw [A1.out]; rw [hlo]; omega) (by rw [A1.out]; rw [hhi]; omega)).symm⟩
                    case measure => simp [intOf]; omega
              · have m1 : (s.size : Int) ≤ (k : Int) + 1 := by omega
                rw [rounds_succ]
                go_wp2
                go_ret
                exact ⟨ret_bool (by rw [← HV.out]; exact (bad2 HD.out (by omega) hu (by rw [HL.out, A1.out, hlo, hhi]; omega)).symm), rfl⟩
          · by_cases r4 : z ≤ 239
            · have hu : usz z = 3 := by unfold usz; rw [if_neg (by omega), if_pos (by omega)]
              by_cases g1 : z = 224
              · subst g1
                have hlo : ulo 224 = 160 := by decide
                have hhi : uhi 224 = 191 := by decide
                as_aux_lemma =>
                  go_wp2
                  refine wp_loop_rounds 3 ?_
                  by_cases n1 : k + 1 < s.size
                  · have hq1 := idx s ((k : Int) + 1) (k + 1) w (by omega) n1
                    have m1 : ¬ ((s.size : Int) ≤ (k : Int) + 1) := by omega
                    obtain ⟨z1, hz1⟩ : ∃ z, z = (nums s).getD (k + 1) 0 := ⟨_, rfl⟩
                    rw [← hz1] at hq1
                    have HZ1 : Hid (z1 = (nums s).getD (k + 1) 0) := hz1
                    have A1' := A1.out
                    rw [← hz1] at A1'
                    replace A1 : Hid (((nums s).drop k).getD 1 0 = z1) := A1'
                    clear A1' hz1
                    by_cases o1 : z1 < 160
                    · rw [rounds_succ]
                      go_wp2
                      go_ret
                      exact ⟨ret_bool (by rw [← HV.out]; exact (bad3 HD.out (by omega) hu (by rw [HL.out, A1.out, hlo, hhi, A2.out]; omega)).symm), rfl⟩
                    · by_cases p1 : 191 < z1
                      · rw [rounds_succ]
                        go_wp2
                        go_ret
                        exact ⟨ret_bool (by rw [← HV.out]; exact (bad3 HD.out (by omega) hu (by rw [HL.out, A1.out, hlo, hhi, A2.out]; omega)).symm), rfl⟩
                      · rw [rounds_succ]
                        go_wp2
                        by_cases n2 : k + 2 < s.size
                        · have hq2 := idx s ((k : Int) + 2) (k + 2) w (by omega) n2
                          have m2 : ¬ ((s.size : Int) ≤ (k : Int) + 2) := by omega
                          obtain ⟨z2, hz2⟩ : ∃ z, z = (nums s).getD (k + 2) 0 := ⟨_, rfl⟩
                          rw [← hz2] at hq2
                          have HZ2 : Hid (z2 = (nums s).getD (k + 2) 0) := hz2
                          have A2' := A2.out
                          rw [← hz2] at A2'
                          replace A2 : Hid (((nums s).drop k).getD 2 0 = z2) := A2'
                          clear A2' hz2
                          by_cases o2 : z2 < 128
                          · rw [rounds_succ]
                            go_wp2
                            go_ret
                            exact ⟨ret_bool (by rw [← HV.out]; exact (bad3 HD.out (by omega) hu (by rw [HL.out, A1.out, hlo, hhi, A2.out]; omega)).symm), rfl⟩
                          · by_cases p2 : 191 < z2
                            · rw [rounds_succ]
                              go_wp2
                              go_ret
                              exact ⟨ret_bool (by rw [← HV.out]; exact (bad3 HD.out (by omega) hu (by rw [HL.out, A1.out, hlo, hhi, A2.out]; omega)).symm), rfl⟩
                            · rw [rounds_succ]
                              go_wp2
                              rw [rounds_succ]
                              go_wp2
                              go_round
                              case rel => exact ⟨k + 3, by omega, by go_num, by rw [← HV.out, ← H3.out]; exact (ok3 HD.out (by omega) hu (by rw [HL.out]; omega) (by rw [A1.out]; rw [hlo]; omega) (by rw [A1.out]; rw [hhi]; omega) (by rw [A2.out]; omega) (by rw [A2.out]; omega)).symm⟩
                              case measure => simp [intOf]; omega
                        · have m2 : (s.size : Int) ≤ (k : Int) + 2 := by omega
                          rw [rounds_succ]
                          go_wp2
                          go_ret
                          exact ⟨ret_bool (by rw [← HV.out]; exact (bad3 HD.out (by omega) hu (by rw [HL.out, A1.out, hlo, hhi, A2.out]; omega)).symm), rfl⟩
                  · have m1 : (s.size : Int) ≤ (k : Int) + 1 := by omega
                    rw [rounds_succ]
                    go_wp2
                    go_ret
                    exact ⟨ret_bool (by rw [← HV.out]; exact (bad3 HD.out (by omega) hu (by rw [HL.out, A1.out, hlo, hhi, A2.out]; omega)).symm), rfl⟩
              · by_cases g2 : z = 237
                · subst g2
                  have hlo : ulo 237 = 128 := by decide
                  have hhi : uhi 237 = 159 := by decide
                  as_aux_lemma =>
                    go_wp2
                    refine wp_loop_rounds 3 ?_
                    by_cases n1 : k + 1 < s.size
                    · have hq1 := idx s ((k : Int) + 1) (k + 1) w (by omega) n1
                      have m1 : ¬ ((s.size : Int) ≤ (k : Int) + 1) := by omega
                      obtain ⟨z1, hz1⟩ : ∃ z, z = (nums s).getD (k + 1) 0 := ⟨_, rfl⟩
                      rw [← hz1] at hq1
                      have HZ1 : Hid (z1 = (nums s).getD (k + 1) 0) := hz1
                      have A1' := A1.out
                      rw [← hz1] at A1'
                      replace A1 : Hid (((nums s).drop k).getD 1 0 = z1) := A1'
                      clear A1' hz1
                      by_cases o1 : z1 < 128
                      · rw [rounds_succ]
                        go_wp2
                        go_ret
                        exact ⟨ret_bool (by rw [← HV.out]; exact (bad3 HD.out (by omega) hu (by rw [HL.out, A1.out, hlo, hhi, A2.out]; omega)).symm), rfl⟩
                      · by_cases p1 : 159 < z1
                        · rw [rounds_succ]
                          go_wp2
                          go_ret
                          exact ⟨ret_bool (by rw [← HV.out]; exact (bad3 HD.out (by omega) hu (by rw [HL.out, A1.out, hlo, hhi, A2.out]; omega)).symm), rfl⟩
                        · rw [rounds_succ]
                          go_wp2
                          by_cases n2 : k + 2 < s.size
                          · have hq2 := idx s ((k : Int) + 2) (k + 2) w (by omega) n2
                            have m2 : ¬ ((s.size : Int) ≤ (k : Int) + 2) := by omega
                            obtain ⟨z2, hz2⟩ : ∃ z, z = (nums s).getD (k + 2) 0 := ⟨_, rfl⟩
                            rw [← hz2] at hq2
                            have HZ2 : Hid (z2 = (nums s).getD (k + 2) 0) := hz2
                            have A2' := A2.out
                            rw [← hz2] at A2'
                            replace A2 : Hid (((nums s).drop k).getD 2 0 = z2) := A2'
                            clear A2' hz2
                            by_cases o2 : z2 < 128
                            · rw [rounds_succ]
                              go_wp2
                              go_ret
                              exact ⟨ret_bool (by rw [← HV.out]; exact (bad3 HD.out (by omega) hu (by rw [HL.out, A1.out, hlo, hhi, A2.out]; omega)).symm), rfl⟩
                            · by_cases p2 : 191 < z2
                              · rw [rounds_succ]
                                go_wp2
                                go_ret
                                exact ⟨ret_bool (by rw [← HV.out]; exact (bad3 HD.out (by omega) hu (by rw [HL.out, A1.out, hlo, hhi, A2.out]; omega)).symm), rfl⟩
                              · rw [rounds_succ]
                                go_wp2
                                rw [rounds_succ]
                                go_wp2
                                go_round
                                case rel => exact ⟨k + 3, by omega, by go_num, by rw [← HV.out, ← H3.out]; exact (ok3 HD.out (by omega) hu (by rw [HL.out]; omega) (by rw [A1.out]; rw [hlo]; omega) (by rw [A1.out]; rw [hhi]; omega) (by rw [A2.out]; omega) (by rw [A2.out]; omega)).symm⟩
                                case measure => simp [intOf]; omega
                          · have m2 : (s.size : Int) ≤ (k : Int) + 2 := by omega
                            rw [rounds_succ]
                            go_wp2
                            go_ret
                            exact ⟨ret_bool (by rw [← HV.out]; exact (bad3 HD.out (by omega) hu (by rw [HL.out, A1.out, hlo, hhi, A2.out]; omega)).symm), rfl⟩
                    · have m1 : (s.size : Int) ≤ (k : Int) + 1 := by omega
                      rw [rounds_succ]
                      go_wp2
                      go_ret
                      exact ⟨ret_bool (by rw [← HV.out]; exact (bad3 HD.out (by omega) hu (by rw [HL.out, A1.out, hlo, hhi, A2.out]; omega)).symm), rfl⟩
                · have hlo : ulo z = 128 := by unfold ulo; rw [if_neg (by omega), if_neg (by omega)]
                  have hhi : uhi z = 191 := by unfold uhi; rw [if_neg (by omega), if_neg (by omega)]
                  have ca : ¬ z < 128 := by omega
                  have cb : 194 ≤ z := by omega
                  have cc : ¬ z ≤ 223 := by omega
                  have cd : 224 ≤ z := by omega
                  have ce : z ≤ 239 := by omega
                  have cf : ¬ 240 ≤ z := by omega
                  have cg : z ≤ 244 := by omega
                  have g1' : (z == 224) = false := by simpa using g1
                  have g2' : (z == 237) = false := by simpa using g2
                  as_aux_lemma =>
                    go_wp2
                    refine wp_loop_rounds 3 ?_
                    by_cases n1 : k + 1 < s.size
                    · have hq1 := idx s ((k : Int) + 1) (k + 1) w (by omega) n1
                      have m1 : ¬ ((s.size : Int) ≤ (k : Int) + 1) := by omega
                      obtain ⟨z1, hz1⟩ : ∃ z, z = (nums s).getD (k + 1) 0 := ⟨_, rfl⟩
                      rw [← hz1] at hq1
                      have HZ1 : Hid (z1 = (nums s).getD (k + 1) 0) := hz1
                      have A1' := A1.out
                      rw [← hz1] at A1'
                      replace A1 : Hid (((nums s).drop k).getD 1 0 = z1) := A1'
                      clear A1' hz1
                      by_cases o1 : z1 < 128
                      · rw [rounds_succ]
                        go_wp2
                        go_ret
                        exact ⟨ret_bool (by rw [← HV.out]; exact (bad3 HD.out (by omega) hu (by rw [HL.out, A1.out, hlo, hhi, A2.out]; omega)).symm), rfl⟩
                      · by_cases p1 : 191 < z1
                        · rw [rounds_succ]
                          go_wp2
                          go_ret
                          exact ⟨ret_bool (by rw [← HV.out]; exact (bad3 HD.out (by omega) hu (by rw [HL.out, A1.out, hlo, hhi, A2.out]; omega)).symm), rfl⟩
                        · rw [rounds_succ]
                          go_wp2
                          by_cases n2 : k + 2 < s.size
                          · have hq2 := idx s ((k : Int) + 2) (k + 2) w (by omega) n2
                            have m2 : ¬ ((s.size : Int) ≤ (k : Int) + 2) := by omega
                            obtain ⟨z2, hz2⟩ : ∃ z, z = (nums s).getD (k + 2) 0 := ⟨_, rfl⟩
                            rw [← hz2] at hq2
                            have HZ2 : Hid (z2 = (nums s).getD (k + 2) 0) := hz2
                            have A2' := A2.out
                            rw [← hz2] at A2'
                            replace A2 : Hid (((nums s).drop k).getD 2 0 = z2) := A2'
                            clear A2' hz2
                            by_cases o2 : z2 < 128
                            · rw [rounds_succ]
                              go_wp2
                              go_ret
                              exact ⟨ret_bool (by rw [← HV.out]; exact (bad3 HD.out (by omega) hu (by rw [HL.out, A1.out, hlo, hhi, A2.out]; omega)).symm), rfl⟩
                            · by_cases p2 : 191 < z2
                              · rw [rounds_succ]
                                go_wp2
                                go_ret
                                exact ⟨ret_bool (by rw [← HV.out]; exact (bad3 HD.out (by omega) hu (by rw [HL.out, A1.out, hlo, hhi, A2.out]; omega)).symm), rfl⟩
                              · rw [rounds_succ]
                                go_wp2
                                rw [rounds_succ]
                                go_wp2
                                go_round
                                case rel => exact ⟨k + 3, by omega, by go_num, by rw [← HV.out, ← H3.out]; exact (ok3 HD.out (by omega) hu (by rw [HL.out]; omega) (by rw [A1.out]; rw [hlo]; omega) (by rw [A1.out]; rw [hhi]; omega) (by rw [A2.out]; omega) (by rw [A2.out]; omega)).symm⟩
                                case measure => simp [intOf]; omega
                          · have m2 : (s.size : Int) ≤ (k : Int) + 2 := by omega
                            rw [rounds_succ]
                            go_wp2
                            go_ret
                            exact ⟨ret_bool (by rw [← HV.out]; exact (bad3 HD.out (by omega) hu (by rw [HL.out, A1.out, hlo, hhi, A2.out]; omega)).symm), rfl⟩
                    · have m1 : (s.size : Int) ≤ (k : Int) + 1 := by omega
                      rw [rounds_succ]
                      go_wp2
                      go_ret
                      exact ⟨ret_bool (by rw [← HV.out]; exact (bad3 HD.out (by omega) hu (by rw [HL.out, A1.out, hlo, hhi, A2.out]; omega)).symm), rfl⟩
            · by_cases r5 : z ≤ 244
              · have hu : usz z = 4 := by unfold usz; rw [if_neg (by omega), if_neg (by omega), if_pos (by omega)]
                by_cases g1 : z = 240
                · subst g1
                  have hlo : ulo 240 = 144 := by decide
                  have hhi : uhi 240 = 191 := by decide
                  as_aux_lemma =>
                    go_wp2
                    refine wp_loop_rounds 4 ?_
                    by_cases n1 : k + 1 < s.size
                    · have hq1 := idx s ((k : Int) + 1) (k + 1) w (by omega) n1
                      have m1 : ¬ ((s.size : Int) ≤ (k : Int) + 1) := by omega
                      obtain ⟨z1, hz1⟩ : ∃ z, z = (nums s).getD (k + 1) 0 := ⟨_, rfl⟩
                      rw [← hz1] at hq1
                      have HZ1 : Hid (z1 = (nums s).getD (k + 1) 0) := hz1
                      have A1' := A1.out
                      rw [← hz1] at A1'
                      replace A1 : Hid (((nums s).drop k).getD 1 0 = z1) := A1'
                      clear A1' hz1
                      by_cases o1 : z1 < 144
                      · rw [rounds_succ]
                        go_wp2
                        go_ret
                        exact ⟨ret_bool (by rw [← HV.out]; exact (bad4 HD.out (by omega) hu (by rw [HL.out, A1.out, hlo, hhi, A2.out, A3.out]; omega)).symm), rfl⟩
                      · by_cases p1 : 191 < z1
                        · rw [rounds_succ]
                          go_wp2
                          go_ret
                          exact ⟨ret_bool (by rw [← HV.out]; exact (bad4 HD.out (by omega) hu (by rw [HL.out, A1.out, hlo, hhi, A2.out, A3.out]; omega)).symm), rfl⟩
                        · rw [rounds_succ]
                          go_wp2
                          by_cases n2 : k + 2 < s.size
                          · have hq2 := idx s ((k : Int) + 2) (k + 2) w (by omega) n2
                            have m2 : ¬ ((s.size : Int) ≤ (k : Int) + 2) := by omega
                            obtain ⟨z2, hz2⟩ : ∃ z, z = (nums s).getD (k + 2) 0 := ⟨_, rfl⟩
                            rw [← hz2] at hq2
                            have HZ2 : Hid (z2 = (nums s).getD (k + 2) 0) := hz2
                            have A2' := A2.out
                            rw [← hz2] at A2'
                            replace A2 : Hid (((nums s).drop k).getD 2 0 = z2) := A2'
                            clear A2' hz2
                            by_cases o2 : z2 < 128
                            · rw [rounds_succ]
                              go_wp2
                              go_ret
                              exact ⟨ret_bool (by rw [← HV.out]; exact (bad4 HD.out (by omega) hu (by rw [HL.out, A1.out, hlo, hhi, A2.out, A3.out]; omega)).symm), rfl⟩
                            · by_cases p2 : 191 < z2
                              · rw [rounds_succ]
                                go_wp2
                                go_ret
                                exact ⟨ret_bool (by rw [← HV.out]; exact (bad4 HD.out (by omega) hu (by rw [HL.out, A1.out, hlo, hhi, A2.out, A3.out]; omega)).symm), rfl⟩
                              · rw [rounds_succ]
                                go_wp2
                                by_cases n3 : k + 3 < s.size
                                · have hq3 := idx s ((k : Int) + 3) (k + 3) w (by omega) n3
                                  have m3 : ¬ ((s.size : Int) ≤ (k : Int) + 3) := by omega
                                  obtain ⟨z3, hz3⟩ : ∃ z, z = (nums s).getD (k + 3) 0 := ⟨_, rfl⟩
                                  rw [← hz3] at hq3
                                  have HZ3 : Hid (z3 = (nums s).getD (k + 3) 0) := hz3
                                  have A3' := A3.out
                                  rw [← hz3] at A3'
                                  replace A3 : Hid (((nums s).drop k).getD 3 0 = z3) := A3'
                                  clear A3' hz3
                                  by_cases o3 : z3 < 128
                                  · rw [rounds_succ]
                                    go_wp2
                                    go_ret
                                    exact ⟨ret_bool (by rw [← HV.out]; exact (bad4 HD.out (by omega) hu (by rw [HL.out, A1.out, hlo, hhi, A2.out, A3.out]; omega)).symm), rfl⟩
                                  · by_cases p3 : 191 < z3
                                    · rw [rounds_succ]
                                      go_wp2
                                      go_ret
                                      exact ⟨ret_bool (by rw [← HV.out]; exact (bad4 HD.out (by omega) hu (by rw [HL.out, A1.out, hlo, hhi, A2.out, A3.out]; omega)).symm), rfl⟩
                                    · rw [rounds_succ]
                                      go_wp2
                                      rw [rounds_succ]
                                      go_wp2
                                      go_round
                                      case rel => exact ⟨k + 4, by omega, by go_num, by rw [← HV.out, ← H4.out]; exact (ok4 HD.out (by omega) hu (by rw [HL.out]; omega) (by rw [A1.out]; rw [hlo]; omega) (by rw [A1.out]; rw [hhi]; omega) (by rw [A2.out]; omega) (by rw [A2.out]; omega) (by rw [A3.out]; omega) (by rw [A3.out]; omega)).symm⟩
                                      case measure => simp [intOf]; omega
                                · have m3 : (s.size : Int) ≤ (k : Int) + 3 := by omega
                                  rw [rounds_succ]
                                  go_wp2
                                  go_ret
                                  exact ⟨ret_bool (by rw [← HV.out]; exact (bad4 HD.out (by omega) hu (by rw [HL.out, A1.out, hlo, hhi, A2.out, A3.out]; omega)).symm), rfl⟩
                          · have m2 : (s.size : Int) ≤ (k : Int) + 2 := by omega
                            rw [rounds_succ]
                            go_wp2
                            go_ret
                            exact ⟨ret_bool (by rw [← HV.out]; exact (bad4 HD.out (by omega) hu (by rw [HL.out, A1.out, hlo, hhi, A2.out, A3.out]; omega)).symm), rfl⟩
                    · have m1 : (s.size : Int) ≤ (k : Int) + 1 := by omega
                      rw [rounds_succ]
                      go_wp2
                      go_ret
                      exact ⟨ret_bool (by rw [← HV.out]; exact (bad4 HD.out (by omega) hu (by rw [HL.out, A1.out, hlo, hhi, A2.out, A3.out]; omega)).symm), rfl⟩
                · by_cases g2 : z = 244
                  · subst g2
                    have hlo : ulo 244 = 128 := by decide
                    have hhi : uhi 244 = 143 := by decide
                    as_aux_lemma =>
                      go_wp2
                      refine wp_loop_rounds 4 ?_
                      by_cases n1 : k + 1 < s.size
                      · have hq1 := idx s ((k : Int) + 1) (k + 1) w (by omega) n1
                        have m1 : ¬ ((s.size : Int) ≤ (k : Int) + 1) := by omega
                        obtain ⟨z1, hz1⟩ : ∃ z, z = (nums s).getD (k + 1) 0 := ⟨_, rfl⟩
                        rw [← hz1] at hq1
                        have HZ1 : Hid (z1 = (nums s).getD (k + 1) 0) := hz1
                        have A1' := A1.out
                        rw [← hz1] at A1'
                        replace A1 : Hid (((nums s).drop k).getD 1 0 = z1) := A1'
                        clear A1' hz1
                        by_cases o1 : z1 < 128
                        · rw [rounds_succ]
                          go_wp2
                          go_ret
                          exact ⟨ret_bool (by rw [← HV.out]; exact (bad4 HD.out (by omega) hu (by rw [HL.out, A1.out, hlo, hhi, A2.out, A3.out]; omega)).symm), rfl⟩
                        · by_cases p1 : 143 < z1
                          · rw [rounds_succ]
                            go_wp2
                            go_ret
                            exact ⟨ret_bool (by rw [← HV.out]; exact (bad4 HD.out (by omega) hu (by rw [HL.out, A1.out, hlo, hhi, A2.out, A3.out]; omega)).symm), rfl⟩
                          · rw [rounds_succ]
                            go_wp2
                            by_cases n2 : k + 2 < s.size
                            · have hq2 := idx s ((k : Int) + 2) (k + 2) w (by omega) n2
                              have m2 : ¬ ((s.size : Int) ≤ (k : Int) + 2) := by omega
                              obtain ⟨z2, hz2⟩ : ∃ z, z = (nums s).getD (k + 2) 0 := ⟨_, rfl⟩
                              rw [← hz2] at hq2
                              have HZ2 : Hid (z2 = (nums s).getD (k + 2) 0) := hz2
                              have A2' := A2.out
                              rw [← hz2] at A2'
                              replace A2 : Hid (((nums s).drop k).getD 2 0 = z2) := A2'
                              clear A2' hz2
                              by_cases o2 : z2 < 128
                              · rw [rounds_succ]
                                go_wp2
                                go_ret
                                exact ⟨ret_bool (by rw [← HV.out]; exact (bad4 HD.out (by omega) hu (by rw [HL.out, A1.out, hlo, hhi, A2.out, A3.out]; omega)).symm), rfl⟩
                              · by_cases p2 : 191 < z2
                                · rw [rounds_succ]
                                  go_wp2
                                  go_ret
                                  exact ⟨ret_bool (by rw [← HV.out]; exact (bad4 HD.out (by omega) hu (by rw [HL.out, A1.out, hlo, hhi, A2.out, A3.out]; omega)).symm), rfl⟩
                                · rw [rounds_succ]
                                  go_wp2
                                  by_cases n3 : k + 3 < s.size
                                  · have hq3 := idx s ((k : Int) + 3) (k + 3) w (by omega) n3
                                    have m3 : ¬ ((s.size : Int) ≤ (k : Int) + 3) := by omega
                                    obtain ⟨z3, hz3⟩ : ∃ z, z = (nums s).getD (k + 3) 0 := ⟨_, rfl⟩
                                    rw [← hz3] at hq3
                                    have HZ3 : Hid (z3 = (nums s).getD (k + 3) 0) := hz3
                                    have A3' := A3.out
                                    rw [← hz3] at A3'
                                    replace A3 : Hid (((nums s).drop k).getD 3 0 = z3) := A3'
                                    clear A3' hz3
                                    by_cases o3 : z3 < 128
                                    · rw [rounds_succ]
                                      go_wp2
                                      go_ret
                                      exact ⟨ret_bool (by rw [← HV.out]; exact (bad4 HD.out (by omega) hu (by rw [HL.out, A1.out, hlo, hhi, A2.out, A3.out]; omega)).symm), rfl⟩
                                    · by_cases p3 : 191 < z3
                                      · rw [rounds_succ]
                                        go_wp2
                                        go_ret
                                        exact ⟨ret_bool (by rw [← HV.out]; exact (bad4 HD.out (by omega) hu (by rw [HL.out, A1.out, hlo, hhi, A2.out, A3.out]; omega)).symm), rfl⟩
                                      · rw [rounds_succ]
                                        go_wp2
                                        rw [rounds_succ]
                                        go_wp2
                                        go_round
                                        case rel => exact ⟨k + 4, by omega, by go_num, by rw [← HV.out, ← H4.out]; exact (ok4 HD.out (by omega) hu (by rw [HL.out]; omega) (by rw [A1.out]; rw [hlo]; omega) (by rw [A1.out]; rw [hhi]; omega) (by rw [A2.out]; omega) (by rw [A2.out]; omega) (by rw [A3.out]; omega) (by rw [A3.out]; omega)).symm⟩
                                        case measure => simp [intOf]; omega
                                  · have m3 : (s.size : Int) ≤ (k : Int) + 3 := by omega
                                    rw [rounds_succ]
                                    go_wp2
                                    go_ret
                                    exact ⟨ret_bool (by rw [← HV.out]; exact (bad4 HD.out (by omega) hu (by rw [HL.out, A1.out, hlo, hhi, A2.out, A3.out]; omega)).symm), rfl⟩
                            · have m2 : (s.size : Int) ≤ (k : Int) + 2 := by omega
                              rw [rounds_succ]
                              go_wp2
                              go_ret
                              exact ⟨ret_bool (by rw [← HV.out]; exact (bad4 HD.out (by omega) hu (by rw [HL.out, A1.out, hlo, hhi, A2.out, A3.out]; omega)).symm), rfl⟩
                      · have m1 : (s.size : Int) ≤ (k : Int) + 1 := by omega
                        rw [rounds_succ]
                        go_wp2
                        go_ret
                        exact ⟨ret_bool (by rw [← HV.out]; exact (bad4 HD.out (by omega) hu (by rw [HL.out, A1.out, hlo, hhi, A2.out, A3.out]; omega)).symm), rfl⟩
                  · have hlo : ulo z = 128 := by unfold ulo; rw [if_neg (by omega), if_neg (by omega)]
                    have hhi : uhi z = 191 := by unfold uhi; rw [if_neg (by omega), if_neg (by omega)]
                    have ca : ¬ z < 128 := by omega
                    have cb : 194 ≤ z := by omega
                    have cc : ¬ z ≤ 223 := by omega
                    have cd : 224 ≤ z := by omega
                    have ce : ¬ z ≤ 239 := by omega
                    have cf : 240 ≤ z := by omega
                    have cg : z ≤ 244 := by omega
                    have g1' : (z == 240) = false := by simpa using g1
                    have g2' : (z == 244) = false := by simpa using g2
                    as_aux_lemma =>
                      go_wp2
                      refine wp_loop_rounds 4 ?_
                      by_cases n1 : k + 1 < s.size
                      · have hq1 := idx s ((k : Int) + 1) (k + 1) w (by omega) n1
                        have m1 : ¬ ((s.size : Int) ≤ (k : Int) + 1) := by omega
                        obtain ⟨z1, hz1⟩ : ∃ z, z = (nums s).getD (k + 1) 0 := ⟨_, rfl⟩
                        rw [← hz1] at hq1
                        have HZ1 : Hid (z1 = (nums s).getD (k + 1) 0) := hz1
                        have A1' := A1.out
                        rw [← hz1] at A1'
                        replace A1 : Hid (((nums s).drop k).getD 1 0 = z1) := A1'
                        clear A1' hz1
                        by_cases o1 : z1 < 128
                        · rw [rounds_succ]
                          go_wp2
                          go_ret
                          exact ⟨ret_bool (by rw [← HV.out]; exact (bad4 HD.out (by omega) hu (by rw [HL.out, A1.out, hlo, hhi, A2.out, A3.out]; omega)).symm), rfl⟩
                        · by_cases p1 : 191 < z1
                          · rw [rounds_succ]
                            go_wp2
                            go_ret
                            exact ⟨ret_bool (by rw [← HV.out]; exact (bad4 HD.out (by omega) hu (by rw [HL.out, A1.out, hlo, hhi, A2.out, A3.out]; omega)).symm), rfl⟩
                          · rw [rounds_succ]
                            go_wp2
                            by_cases n2 : k + 2 < s.size
                            · have hq2 := idx s ((k : Int) + 2) (k + 2) w (by omega) n2
                              have m2 : ¬ ((s.size : Int) ≤ (k : Int) + 2) := by omega
                              obtain ⟨z2, hz2⟩ : ∃ z, z = (nums s).getD (k + 2) 0 := ⟨_, rfl⟩
                              rw [← hz2] at hq2
                              have HZ2 : Hid (z2 = (nums s).getD (k + 2) 0) := hz2
                              have A2' := A2.out
                              rw [← hz2] at A2'
                              replace A2 : Hid (((nums s).drop k).getD 2 0 = z2) := A2'
                              clear A2' hz2
                              by_cases o2 : z2 < 128
                              · rw [rounds_succ]
                                go_wp2
                                go_ret
                                exact ⟨ret_bool (by rw [← HV.out]; exact (bad4 HD.out (by omega) hu (by rw [HL.out, A1.out, hlo, hhi, A2.out, A3.out]; omega)).symm), rfl⟩
                              · by_cases p2 : 191 < z2
                                · rw [rounds_succ]
                                  go_wp2
                                  go_ret
                                  exact ⟨ret_bool (by rw [← HV.out]; exact (bad4 HD.out (by omega) hu (by rw [HL.out, A1.out, hlo, hhi, A2.out, A3.out]; omega)).symm), rfl⟩
                                · rw [rounds_succ]
                                  go_wp2
                                  by_cases n3 : k + 3 < s.size
                                  · have hq3 := idx s ((k : Int) + 3) (k + 3) w (by omega) n3
                                    have m3 : ¬ ((s.size : Int) ≤ (k : Int) + 3) := by omega
                                    obtain ⟨z3, hz3⟩ : ∃ z, z = (nums s).getD (k + 3) 0 := ⟨_, rfl⟩
                                    rw [← hz3] at hq3
                                    have HZ3 : Hid (z3 = (nums s).getD (k + 3) 0) := hz3
                                    have A3' := A3.out
                                    rw [← hz3] at A3'
                                    replace A3 : Hid (((nums s).drop k).getD 3 0 = z3) := A3'
                                    clear A3' hz3
                                    by_cases o3 : z3 < 128
                                    · rw [rounds_succ]
                                      go_wp2
                                      go_ret
                                      exact ⟨ret_bool (by rw [← HV.out]; exact (bad4 HD.out (by omega) hu (by rw [HL.out, A1.out, hlo, hhi, A2.out, A3.out]; omega)).symm), rfl⟩
                                    · by_cases p3 : 191 < z3
                                      · rw [rounds_succ]
                                        go_wp2
                                        go_ret
                                        exact ⟨ret_bool (by rw [← HV.out]; exact (bad4 HD.out (by omega) hu (by rw [HL.out, A1.out, hlo, hhi, A2.out, A3.out]; omega)).symm), rfl⟩
                                      · rw [rounds_succ]
                                        go_wp2
                                        rw [rounds_succ]
                                        go_wp2
                                        go_round
                                        case rel => exact ⟨k + 4, by omega, by go_num, by rw [← HV.out, ← H4.out]; exact (ok4 HD.out (by omega) hu (by rw [HL.out]; omega) (by rw [A1.out]; rw [hlo]; omega) (by rw [A1.out]; rw [hhi]; omega) (by rw [A2.out]; omega) (by rw [A2.out]; omega) (by rw [A3.out]; omega) (by rw [A3.out]; omega)).symm⟩
                                        case measure => simp [intOf]; omega
                                  · have m3 : (s.size : Int) ≤ (k : Int) + 3 := by omega
                                    rw [rounds_succ]
                                    go_wp2
                                    go_ret
                                    exact ⟨ret_bool (by rw [← HV.out]; exact (bad4 HD.out (by omega) hu (by rw [HL.out, A1.out, hlo, hhi, A2.out, A3.out]; omega)).symm), rfl⟩
                            · have m2 : (s.size : Int) ≤ (k : Int) + 2 := by omega
                              rw [rounds_succ]
                              go_wp2
                              go_ret
                              exact ⟨ret_bool (by rw [← HV.out]; exact (bad4 HD.out (by omega) hu (by rw [HL.out, A1.out, hlo, hhi, A2.out, A3.out]; omega)).symm), rfl⟩
                      · have m1 : (s.size : Int) ≤ (k : Int) + 1 := by omega
                        rw [rounds_succ]
                        go_wp2
                        go_ret
                        exact ⟨ret_bool (by rw [← HV.out]; exact (bad4 HD.out (by omega) hu (by rw [HL.out, A1.out, hlo, hhi, A2.out, A3.out]; omega)).symm), rfl⟩
              · have hu : usz z = 1 := by unfold usz; rw [if_neg (by omega), if_neg (by omega), if_neg (by omega)]
                have ca : ¬ z < 128 := by omega
                have cb : 194 ≤ z := by omega
                have cc : ¬ z ≤ 223 := by omega
                have cd : 224 ≤ z := by omega
                have ce : ¬ z ≤ 239 := by omega
                have cf : 240 ≤ z := by omega
                have cg : ¬ z ≤ 244 := by omega
                go_wp2
                go_ret
                exact ⟨ret_bool (by rw [← HV.out]; exact (bad1 HD.out (by omega) hu).symm), rfl⟩
    · have hkn : k = s.size := by omega
      rw [List.drop_of_length_le (by omega), vld_nil] at hv
      have HV : Hid (true = vld (nums s)) := hv
      clear hv
      go_wp2
      go_ret
      exact ⟨ret_bool HV.out, rfl⟩

end Go.Proofs.YtiplalbicibahaaGreatDoor.Nm

/- The document's Local. -/
namespace Go.Proofs.YtiplalbicibahaaGreatDoor.Nm
open Go.RowKit

theorem enc_small (r : Int) (h0 : 0 ≤ r) (h1 : r < 2048) : Utf8.encode r = ⟨(Lib.encodeRune r).toArray⟩ := by
  obtain ⟨n, rfl⟩ := Int.eq_ofNat_of_zero_le h0
  have v : Utf8.valid (n : Int) = true := by simp [Utf8.valid]; omega
  have hb : ∀ a b : ByteArray, a.data.toList = b.data.toList → a = b := fun a b h => by
    cases a; cases b
    exact congrArg ByteArray.mk (Array.toList_inj.1 h)
  apply hb
  by_cases h : n < 128
  · rw [Lib.encodeRune, Lib.encodeRuneZ_one (by omega) (by omega)]
    simp [Utf8.encode, v, h]
  · rw [Lib.encodeRune, Lib.encodeRuneZ_two (by omega) (by omega)]
    have h2 : n < 2048 := by omega
    simp [Utf8.encode, v, h, h2]
    have e1 : (192 + (n : Int) / 64).toNat = 192 + n / 64 := by omega
    have e2 : (128 + (n : Int) % 64).toNat = 128 + n % 64 := by omega
    rw [e1, e2]
    exact ⟨UInt8.ofNat_add _ _ ▸ rfl, UInt8.ofNat_add _ _ ▸ rfl⟩

theorem letter_lim (r : Int) (h : letterB r = true) : 0 ≤ r ∧ r < 2048 := by
  unfold letterB at h
  simp only [decide_eq_true_eq] at h
  omega

set_option maxHeartbeats 4000000 in
set_option maxRecDepth 1000000 in
theorem refLocal_any (s : ByteArray) (w : World) (hs : s.size ≤ 9223372036854775807) :
    Calls Tryz.prog 55 #[.string s] w fun e w' => e = .returned (.tuple #[.string ⟨(localN s.data.toList).1.toArray⟩, .int .i64 (localN s.data.toList).2]) ∧ Below w.heap.size w w' := by
  have hlen : s.data.toList.length = s.size := by simp
  rw [localN, prep_eachX]
  unfold eachX
  rw [hlen]
  by_cases h64 : 64 < s.size
  · rw [if_pos h64]
    have h64' : (64 : Int) < (s.size : Int) := by omega
    go_enter Tryz.func55, Tryz.ntmps55
    go_wp2
    go_ret2
    exact ⟨rfl, Below.refl _ _⟩
  rw [if_neg h64]
  have h64' : ¬ (64 : Int) < (s.size : Int) := by omega
  by_cases h0 : s.data.toList = []
  · rw [if_pos (.inl h0)]
    have hemp : s.toList.isEmpty = true := by rw [Lib.toList_data, h0]; rfl
    go_enter Tryz.func55, Tryz.ntmps55
    go_wp2
    go_ret2
    exact ⟨rfl, Below.refl _ _⟩
  have hemp : s.toList.isEmpty = false := by
    rw [Lib.toList_data]
    cases h : s.data.toList with
    | nil => exact absurd h h0
    | cons b t => rfl
  have cV := refValid_any s w (by omega)
  rw [vld_nums] at cV
  generalize hV : Lib.validD s.data.toList = V at cV ⊢
  cases V with
  | false =>
    rw [if_pos (.inr rfl)]
    go_enter Tryz.func55, Tryz.ntmps55
    go_wp2_with (go_at_call 53; refine cV.mono ?_; rintro e w0 ⟨rfl, rfl⟩)
    go_ret2
    exact ⟨rfl, Below.refl _ _⟩
  | true =>
    rw [if_neg (by simp [h0])]
    obtain ⟨R, hR⟩ : ∃ R, finX (fun _ => true) (ofEach (each stepL 46 s.data.toList)) = R := ⟨_, rfl⟩
    rw [hR]
    go_enter Tryz.func55, Tryz.ntmps55
    go_wp2_with (go_at_call 53; refine cV.mono ?_; rintro e w0 ⟨rfl, rfl⟩)
    go_loopw [4] (fun out wr => ∃ (pos : Nat) (st : Int) (acc : List UInt8), out = .string ⟨acc.toArray⟩ ∧ wr.heap[w0.heap.size]? = some (.stringIter s pos) ∧ Below w0.heap.size w0 wr ∧ acc.length ≤ 4 * pos ∧ pos ≤ s.size ∧
      each stepL 46 s.data.toList = (match each stepL st (s.data.toList.drop pos) with | none => none | some (bs, st') => some (acc ++ bs, st'))) (fun _ wr => s.size - wr.iterPos w0.heap.size)
    case atStart =>
      refine ⟨0, 46, [], rfl, World.iter_heap w0 s 0, (Below.refl _ _).alloc (Nat.le_refl _) _, by simp, by omega, ?_⟩
      rw [List.drop_zero]
      cases each stepL 46 s.data.toList with
      | none => rfl
      | some p => rfl
    case round =>
      obtain ⟨pos, st, acc, rfl, hit, hbw, hal, hps, hea⟩ := hrel
      by_cases hp : pos < s.size
      · have hnx : ∀ ty, (Instr.next (.pointer (some ⟨w0.heap.size, 0, none⟩)) true ty).run Tryz.prog wr = _ := fun ty => Lib.run_next_any_at wr w0.heap.size s pos ty hit hp
        have hwd := dec_width s pos
        have hru := dec_rune s pos
        have hne : s.data.toList.drop pos ≠ [] := by
          intro h
          have := congrArg List.length h
          rw [List.length_drop, hlen] at this
          simp at this; omega
        have hwl := Lib.decodeL_le _ hne
        rw [Lib.decodeL_drop, List.length_drop, hlen] at hwl
        rw [each_step stepL st _ hne, Lib.decodeL_drop, List.drop_drop] at hea
        have hit2 := Lib.iterAt_heap wr w0.heap.size s pos (pos + (Utf8.decode s pos).2) hit
        have hbw2 := Lib.below_iterAt hbw (k := w0.heap.size) (Nat.le_refl _) s (pos + (Utf8.decode s pos).2)
        have hse : stepL st ((Utf8.decode s pos).1 : Int) = if letterB (foldR ((Utf8.decode s pos).1 : Int)) = true then some (foldR ((Utf8.decode s pos).1 : Int)) else none := rfl
        obtain ⟨F, hF⟩ : ∃ F, foldR ((Utf8.decode s pos).1 : Int) = F := ⟨_, rfl⟩
        have cF : ∀ W, Calls Tryz.prog 68 #[.int .i32 ((Utf8.decode s pos).1 : Int)] W fun e w' => e = .returned (.int .i32 F) ∧ w' = W := fun W => by
          rw [← hF]; exact refFold_any _ W (by omega) (by omega)
        rw [hF] at hse
        generalize hL : letterB F = L at hse
        have HE : Hid (each stepL 46 s.data.toList = _) := hea
        clear hea
        cases L with
        | true =>
          rw [if_pos rfl] at hse
          have hlim := letter_lim F hL
          have hes := encode_size_le F
          have hal2 : acc.length ≤ 4000 := by omega
          go_wp2_with (first
            | (go_at_call 68; refine (cF _).mono ?_; rintro e w1 ⟨rfl, rfl⟩)
            | (go_at_call 67; refine (letter_any _ _).mono ?_; rw [hL]; rintro e w1 ⟨rfl, rfl⟩))
          refine ⟨⟨pos + (Utf8.decode s pos).2, F, acc ++ Lib.encodeRune F, ?_, hit2, hbw2, ?_, ?_, ?_⟩, ?_⟩
          · rw [enc_small F hlim.1 hlim.2]; exact congrArg Value.string (ByteArray.mk_append_mk _ _)
          · rw [enc_small F hlim.1 hlim.2] at hes
            have : (⟨(Lib.encodeRune F).toArray⟩ : ByteArray).size = (Lib.encodeRune F).length := by simp [ByteArray.size]
            rw [List.length_append]; omega
          · omega
          · have he2 := HE.out
            simp only [hse] at he2
            rw [he2]
            cases each stepL F (s.data.toList.drop (pos + (Utf8.decode s pos).2)) with
            | none => rfl
            | some p => simp
          · simp only [World.iterPos, hit2, hit]
            omega
        | false =>
          rw [if_neg (by simp)] at hse
          go_wp2_with (first
            | (go_at_call 68; refine (cF _).mono ?_; rintro e w1 ⟨rfl, rfl⟩)
            | (go_at_call 67; refine (letter_any _ _).mono ?_; rw [hL]; rintro e w1 ⟨rfl, rfl⟩))
          go_ret2
          have hR' : R = ([], 4) := by have he2 := HE.out; simp only [hse] at he2; rw [← hR, he2]; rfl
          rw [hR']
          exact ⟨rfl, hbw2⟩
      · have hnx : ∀ ty, (Instr.next (.pointer (some ⟨w0.heap.size, 0, none⟩)) true ty).run Tryz.prog wr = _ := fun ty => Lib.run_next_end_at wr w0.heap.size s pos ty hit hp
        rw [List.drop_of_length_le (by rw [hlen]; omega), each_nil] at hea
        simp only [List.append_nil] at hea
        have hR' : Hid (R = (acc, 0)) := by show R = (acc, 0); rw [← hR, hea]; rfl
        go_wp2
        go_ret2
        rw [hR'.out]
        exact ⟨rfl, hbw⟩
end Go.Proofs.YtiplalbicibahaaGreatDoor.Nm

/- privacy: the document's Parse (pvr_gen.py writes this). -/
set_option maxRecDepth 100000
namespace Go.Proofs.YtiplalbicibahaaGreatDoor
open Go.RowKit Go.Joins

theorem qidx (s : ByteArray) (k : Nat) (w : World) (h : k < s.size) : (Instr.index 9 (.string s) (.int .i64 k)).run Tryz.prog w = .ok (.int .u8 ((s.data[k]'h).toNat)) w := by
  rw [run_index_string w 9 s .i64 (k : Int) Tryz.underlying9, dif_pos ⟨by omega, by omega⟩]
  rfl

/-! ### a piece -/
theorem qix_skip {c : UInt8} {l : By} {k : Nat} (hk : k < l.length) (h : ∀ j, j < k → l.getD j 0 ≠ c) (hc : l[k] = c) : Nm.ix c l = k := by
  unfold Nm.ix
  rw [List.findIdx_eq hk]
  refine ⟨by simp [hc], fun j hj => ?_⟩
  have := h j hj
  rw [List.getD, List.getElem?_eq_getElem (by omega)] at this
  simpa using this
theorem qix_none {c : UInt8} {l : By} (h : ∀ j, j < l.length → l.getD j 0 ≠ c) : Nm.ix c l = l.length := by
  unfold Nm.ix
  rw [List.findIdx_eq_length]
  intro x hx
  obtain ⟨j, hj, rfl⟩ := List.getElem_of_mem hx
  have := h j hj
  rw [List.getD, List.getElem?_eq_getElem hj] at this
  simpa using this

def pcv (l : By) : Value := .tuple #[.string (ba (Nm.cutA 32 l)), .string (ba (Nm.cutZ 32 l)), .bool (Nm.hasB 32 l)]
theorem ba_ext (l : By) (i j : Nat) : (ba l).extract i j = ba ((l.take j).drop i) := by
  apply ByteArray.ext
  simp [ba, ByteArray.data_extract, List.extract_toArray, List.drop_take]
set_option maxHeartbeats 1600000 in
theorem piece_any (l : By) (w : World) (hs : l.length ≤ 281474976710656) : Calls Tryz.prog 54 #[.string (ba l)] w fun e w' => e = .returned (pcv l) ∧ Below w.heap.size w w' := by
  have hz := ba_size l
  have hlen : l.length = (ba l).size := hz.symm
  obtain ⟨R, hR⟩ : ∃ R, pcv l = R := ⟨_, rfl⟩
  rw [hR]
  obtain ⟨s, hsb⟩ : ∃ s, ba l = s := ⟨_, rfl⟩
  have hd : s.data = l.toArray := by rw [← hsb]; rfl
  have hx := fun i j => ba_ext l i j
  rw [hsb] at hz hlen hx ⊢
  replace hx : Hid _ := hx
  rw [hlen] at hs
  clear hz
  replace hlen : Hid _ := hlen
  replace hR : Hid _ := hR
  go_enter Tryz.func54, Tryz.ntmps54
  go_wp2
  go_loop [5] (fun i => ∃ k : Nat, k ≤ s.size ∧ i = .int .i64 k ∧ Hid (∀ j, j < k → l.getD j 0 ≠ 32)) (fun i => s.size - (intOf i).toNat)
  case atStart => exact ⟨0, by omega, rfl, fun j hj => by omega⟩
  case round =>
    obtain ⟨k, hk, rfl, HN⟩ := hrel
    by_cases hp : k < s.size
    · have hpz : (k : Int) < (s.size : Int) := by omega
      have hix := fun w => qidx s k w hp
      have hget : l[k]'(by have := hlen.out; omega) = s.data[k]'hp := by simp [hd]
      obtain ⟨b, hb⟩ : ∃ b, s.data[k]'hp = b := ⟨_, rfl⟩
      rw [hb] at hix hget
      clear hb
      by_cases hbc : b = 32
      · have hb2 : ((b.toNat : Int) == 32) = true := by rw [hbc]; rfl
        have e := qix_skip (by have := hlen.out; omega) HN.out (hget.trans hbc)
        have x1 : s.extract 0 k = ba (Nm.cutA 32 l) := by rw [hx.out]; unfold Nm.cutA; rw [e]; rfl
        have x2 : s.extract (k + 1) s.size = ba (Nm.cutZ 32 l) := by rw [hx.out]; unfold Nm.cutZ; rw [e, ← hlen.out, List.take_length]
        have x3 : Nm.hasB 32 l = true := by unfold Nm.hasB; rw [e]; have := hlen.out; simp; omega
        have hRR : Hid (R = .tuple #[.string (ba (Nm.cutA 32 l)), .string (ba (Nm.cutZ 32 l)), .bool true]) := by show R = _; rw [← hR.out, ← x3]; rfl
        generalize ba (Nm.cutA 32 l) = A at x1 hRR
        generalize ba (Nm.cutZ 32 l) = Z at x2 hRR
        have k1 : (0 : Int) ≤ (k : Int) := by omega
        have k2 : (k : Int) ≤ (s.size : Int) := by omega
        have k3 : (0 : Int) ≤ (k : Int) + 1 := by omega
        have k4 : (k : Int) + 1 ≤ (s.size : Int) := by omega
        clear e x3 hx hd hlen hget
        go_wp2
        go_region
        go_wp2
        go_ret3
        rw [hRR.out]
        exact ⟨rfl, (Below.refl _ _).drew⟩
      · have hne : (b.toNat : Int) ≠ 32 := fun h => hbc (UInt8.toNat_inj.1 (by exact_mod_cast h))
        have hb2 : ((b.toNat : Int) == 32) = false := by simpa using hne
        go_wp2
        refine ⟨⟨k + 1, by omega, by simp, fun j hj => ?_⟩, by simp [intOf]; omega⟩
        by_cases hjk : j = k
        · subst hjk
          rw [List.getD, List.getElem?_eq_getElem (by have := hlen.out; omega), Option.getD_some, hget]
          exact hbc
        · exact HN.out j (by omega)
    · have hkn : k = s.size := by omega
      have hpz : (s.size : Int) ≤ (k : Int) := by omega
      have e := qix_none (c := 32) (l := l) (fun j hj => HN.out j (by have := hlen.out; omega))
      have hRR : Hid (R = .tuple #[.string s, .string ⟨#[]⟩, .bool false]) := by
        show R = _
        rw [← hR.out, ← hsb]
        unfold pcv Nm.cutA Nm.cutZ Nm.hasB
        rw [e, List.take_length, List.drop_eq_nil_of_le (by have := hlen.out; omega), decide_eq_false (by omega)]
        rfl
      clear e hx hd hlen
      go_wp2
      go_ret3
      rw [hRR.out]
      exact ⟨rfl, Below.refl _ _⟩

/-! ### a word, a sub -/
theorem qSub_any (s : ByteArray) (w : World) : Calls Tryz.prog 56 #[.string s] w fun e w' => e = .returned (.bool (isSubB s.data.toList)) ∧ w' = w := by
  unfold isSubB wNone wTo wFrom wBoth
  rw [← Lib.toList_data]
  generalize h1 : (s.toList == [110, 111, 110, 101]) = b1
  generalize h2 : (s.toList == [116, 111]) = b2
  generalize h3 : (s.toList == [102, 114, 111, 109]) = b3
  generalize h4 : (s.toList == [98, 111, 116, 104]) = b4
  cases b1 <;> cases b2 <;> cases b3 <;> cases b4
  all_goals
    go_enter Tryz.func56, Tryz.ntmps56
    go_wp2
    go_ret
    exact ⟨rfl, rfl⟩
theorem qWord_any (s : ByteArray) (w : World) (hs : s.size ≤ 281474976710656) : Calls Tryz.prog 37 #[.string s] w fun e w' => e = .returned (.int .i64 (nameE s.data.toList : Nat)) ∧ w' = w := by
  have hl : s.data.toList.length = s.size := by simp
  unfold nameE
  rw [hl]
  by_cases h1 : 64 < s.size
  · rw [if_pos h1]
    have hd : (64 : Int) < (s.size : Int) := by omega
    go_enter Tryz.func37, Tryz.ntmps37
    go_wp2
    go_ret
    exact ⟨rfl, rfl⟩
  · rw [if_neg h1]
    have hd : ¬ (64 : Int) < (s.size : Int) := by omega
    have cV := Nm.refValid_any s w (by omega)
    rw [Nm.vld_nums] at cV
    have he : s.toList.isEmpty = decide (s.data.toList = []) := by
      rw [Lib.toList_data]; cases s.data.toList <;> rfl
    by_cases h2 : s.data.toList = []
    · rw [if_pos (Or.inl h2)]
      have hd2 : s.toList.isEmpty = true := by rw [he]; simp [h2]
      clear he h2 cV
      go_enter Tryz.func37, Tryz.ntmps37
      go_wp2
      go_ret
      exact ⟨rfl, rfl⟩
    · have hd2 : s.toList.isEmpty = false := by rw [he]; simp [h2]
      generalize Lib.validD s.data.toList = V at cV ⊢
      have hI : (if s.data.toList = [] ∨ V = false then (4 : Nat) else 0) = if V = true then 0 else 4 := by cases V <;> simp [h2]
      rw [hI]
      clear he h2 hI hl h1
      cases V with
      | true =>
        go_enter Tryz.func37, Tryz.ntmps37
        go_wp2_with (go_at_call 53; refine cV.mono ?_; rintro e w1 ⟨rfl, hw1⟩; replace hw1 := hw1.symm; subst hw1)
        go_ret
        exact ⟨rfl, rfl⟩
      | false =>
        go_enter Tryz.func37, Tryz.ntmps37
        go_wp2_with (go_at_call 53; refine cV.mono ?_; rintro e w1 ⟨rfl, hw1⟩; replace hw1 := hw1.symm; subst hw1)
        go_ret
        exact ⟨rfl, rfl⟩

/-! ### what the document's Parse tells -/
def byR (al i o h : Bool) (A Z : By) : Rul × Nat :=
  if (A == wAll && !h) = true then (⟨al, i, o, A, Z⟩, 0)
  else if (A == wJid && h) = true then (if (Nm.localN Z).2 = 0 then (⟨al, i, o, A, (Nm.localN Z).1⟩, 0) else (r0, (Nm.localN Z).2))
  else if (A == wGroup && h) = true then (if nameE Z = 0 then (⟨al, i, o, A, Z⟩, 0) else (r0, nameE Z))
  else if (A == wSub && (h && isSubB Z)) = true then (⟨al, i, o, A, Z⟩, 0) else (r0, 2)
def badR (h1 h2 b1 b2 c1 c2 c3 : Bool) : Bool := !(h1 && (h2 && ((b1 || b2) && (c1 || (c2 || c3)))))
def parseQ (l : By) : Rul × Nat :=
  if badR (Nm.hasB 32 l) (Nm.hasB 32 (Nm.cutZ 32 l)) (Nm.cutA 32 l == wAllow) (Nm.cutA 32 l == wDeny) (Nm.cutA 32 (Nm.cutZ 32 l) == wIn) (Nm.cutA 32 (Nm.cutZ 32 l) == wOut) (Nm.cutA 32 (Nm.cutZ 32 l) == wBoth) = true then (r0, 2)
  else byR (Nm.cutA 32 l == wAllow) (!(Nm.cutA 32 (Nm.cutZ 32 l) == wOut)) (!(Nm.cutA 32 (Nm.cutZ 32 l) == wIn)) (Nm.hasB 32 (Nm.cutZ 32 (Nm.cutZ 32 l))) (Nm.cutA 32 (Nm.cutZ 32 (Nm.cutZ 32 l))) (Nm.cutZ 32 (Nm.cutZ 32 (Nm.cutZ 32 l)))
theorem no_blank {m : By} (h : Nm.hasB 32 m = false) : Nm.cutA 32 m = m ∧ Nm.cutZ 32 m = [] := by
  unfold Nm.hasB at h
  have h' := of_decide_eq_false h
  constructor
  · unfold Nm.cutA; exact List.take_of_length_le (by omega)
  · unfold Nm.cutZ; exact List.drop_eq_nil_of_le (by omega)
theorem byR_whom (al i o : Bool) (m : By) : byR al i o (Nm.hasB 32 m) (Nm.cutA 32 m) (Nm.cutZ 32 m) = if (whomR m).2.2 = 0 then (⟨al, i, o, (whomR m).1, (whomR m).2.1⟩, 0) else (r0, (whomR m).2.2) := by
  unfold whomR
  by_cases hm : (m == wAll) = true
  · rw [if_pos hm]
    have e : m = wAll := by simpa using hm
    subst e
    rfl
  · rw [if_neg hm]
    cases hh : Nm.hasB 32 m with
    | false =>
      obtain ⟨e1, e2⟩ := no_blank hh
      rw [e1, e2]
      unfold byR
      simp [hm]
    | true =>
      rw [if_pos rfl]
      generalize Nm.cutA 32 m = A
      generalize Nm.cutZ 32 m = Z
      unfold byR valueR
      simp only [Bool.not_true, Bool.and_false, Bool.false_eq_true, if_false, Bool.and_true, Bool.true_and]
      cases hj : A == wJid with
      | true =>
        simp only [if_true]
        by_cases h0 : (Nm.localN Z).2 = 0
        · simp [h0]
        · simp [h0]
      | false =>
        simp only [Bool.false_eq_true, if_false]
        cases hg : A == wGroup with
        | true =>
          simp only [if_true]
          by_cases h0 : nameE Z = 0
          · simp [h0]
          · simp [h0]
        | false =>
          simp only [Bool.false_eq_true, if_false]
          cases A == wSub && isSubB Z <;> simp
theorem ways_x (A : By) (h : (A == wIn || (A == wOut || A == wBoth)) = true) : (A == wIn || A == wBoth) = !(A == wOut) ∧ (A == wOut || A == wBoth) = !(A == wIn) := by
  simp only [Bool.or_eq_true, beq_iff_eq] at h
  rcases h with rfl | rfl | rfl <;> exact ⟨rfl, rfl⟩
theorem parse_same (l : By) : parseR l = parseQ l := by
  unfold parseR parseQ verdictR
  generalize Nm.cutZ 32 l = Z1
  generalize Nm.cutA 32 l = A1
  cases Nm.hasB 32 l with
  | false => rfl
  | true =>
    rw [if_pos rfl]
    cases hb : (A1 == wAllow || A1 == wDeny) with
    | false =>
      unfold badR
      rw [hb]
      cases Nm.hasB 32 Z1 <;> rfl
    | true =>
      unfold waysR badR
      rw [if_pos rfl, hb]
      dsimp only
      rw [if_pos rfl]
      cases Nm.hasB 32 Z1 with
      | false => rfl
      | true =>
        rw [if_pos rfl]
        generalize hA : Nm.cutA 32 Z1 = A2
        generalize Nm.cutZ 32 Z1 = Z2
        have hc : ((A2 == wIn || A2 == wBoth) || (A2 == wOut || A2 == wBoth)) = (A2 == wIn || (A2 == wOut || A2 == wBoth)) := by
          cases A2 == wIn <;> cases A2 == wOut <;> cases A2 == wBoth <;> rfl
        rw [hc]
        cases hw : (A2 == wIn || (A2 == wOut || A2 == wBoth)) with
        | false => rfl
        | true =>
          obtain ⟨x1, x2⟩ := ways_x A2 hw
          rw [if_pos rfl]
          dsimp only
          rw [if_pos rfl, byR_whom, x1, x2]
          rfl

/-! ### Parse -/
/-- The answer's rule, an empty one, and the one that is made. -/
structure R3 (w W : World) (g : Nat) (r : Rul) : Prop where
  a : RuAt W w.heap.size r0
  b : RuAt W (w.heap.size + 1) r0
  c : RuAt W g r
  hg : w.heap.size + 1 < g
  k : Below w.heap.size w W
section
variable {w W W' : World} {g : Nat} {r : Rul}
theorem R3.bel (h : R3 w W g r) (hb : Below W.heap.size W W') : R3 w W' g r := ⟨h.a.carry hb, h.b.carry hb, h.c.carry hb, h.hg, h.k.trans (hb.mono h.k.size)⟩
theorem R3.val (h : R3 w W g r) (v : By) : R3 w (W.setCell ⟨g, 4, none⟩ (.string (ba v))) g ⟨r.al, r.i, r.o, r.k, v⟩ := by
  have hg := h.hg
  have hk := setK W g 4 (.string (ba v))
  exact ⟨box_keep h.a hk (by omega), box_keep h.b hk (by omega), block_setCell (i := 4) h.c (.string (ba v)), hg, h.k.trans (hk.below h.k.size (fun j e => by omega))⟩
theorem R3.fin (h : R3 w W g r) (q : Rul) : RuAt (W.setRow w.heap.size (rc q)) w.heap.size q ∧ Below w.heap.size w (W.setRow w.heap.size (rc q)) :=
  ⟨RuAt.set h.a q, h.k.trans ((rowK W w.heap.size (rc q)).below (by have := h.a.lt; have := h.k.size; omega) (fun j e => by omega))⟩
end
def oR : Obj := .cells (rc r0) 72
def qpv (p : Rul × Nat) : Value := .tuple #[rv p.1, .int .i64 p.2]
set_option maxHeartbeats 3200000 in
theorem qparse_any (l : By) (w : World) (hs : l.length ≤ 281474976710656) : Calls Tryz.prog 38 #[.string (ba l)] w fun e w' => e = .returned (prv l) ∧ Below w.heap.size w w' := by
  unfold prv
  rw [parse_same]
  show Calls _ _ _ _ fun e w' => e = .returned (qpv (parseQ l)) ∧ _
  have z1 : (Nm.cutZ 32 l).length ≤ 281474976710656 := by unfold Nm.cutZ; rw [List.length_drop]; omega
  have z2 : (Nm.cutZ 32 (Nm.cutZ 32 l)).length ≤ 281474976710656 := by generalize Nm.cutZ 32 l = Z at *; unfold Nm.cutZ; rw [List.length_drop]; omega
  have z3 : (Nm.cutZ 32 (Nm.cutZ 32 (Nm.cutZ 32 l))).length ≤ 281474976710656 := by generalize Nm.cutZ 32 (Nm.cutZ 32 l) = Z at *; unfold Nm.cutZ; rw [List.length_drop]; omega
  have c1 := fun w => piece_any l w hs
  have c2 := fun w => piece_any _ w z1
  have c3 := fun w => piece_any _ w z2
  unfold pcv at c1 c2 c3
  unfold parseQ
  generalize Nm.cutZ 32 (Nm.cutZ 32 (Nm.cutZ 32 l)) = Z3 at *
  generalize Nm.cutA 32 (Nm.cutZ 32 (Nm.cutZ 32 l)) = A3 at *
  generalize Nm.hasB 32 (Nm.cutZ 32 (Nm.cutZ 32 l)) = h3 at *
  generalize Nm.cutZ 32 (Nm.cutZ 32 l) = Z2 at *
  generalize Nm.cutA 32 (Nm.cutZ 32 l) = A2 at *
  generalize Nm.hasB 32 (Nm.cutZ 32 l) = h2 at *
  generalize Nm.cutZ 32 l = Z1 at *
  generalize Nm.cutA 32 l = A1 at *
  generalize Nm.hasB 32 l = h1 at *
  have e1 : ((ba A1).toList == [97, 108, 108, 111, 119]) = (A1 == wAllow) := ba_eq _ _
  have e2 : ((ba A1).toList == [100, 101, 110, 121]) = (A1 == wDeny) := ba_eq _ _
  have f1 : ((ba A2).toList == [105, 110]) = (A2 == wIn) := ba_eq _ _
  have f2 : ((ba A2).toList == [111, 117, 116]) = (A2 == wOut) := ba_eq _ _
  have f3 : ((ba A2).toList == [98, 111, 116, 104]) = (A2 == wBoth) := ba_eq _ _
  have g1 : ((ba A3).toList == [97, 108, 108]) = (A3 == wAll) := ba_eq _ _
  have g2 : ((ba A3).toList == [106, 105, 100]) = (A3 == wJid) := ba_eq _ _
  have g3 : ((ba A3).toList == [103, 114, 111, 117, 112]) = (A3 == wGroup) := ba_eq _ _
  have g4 : ((ba A3).toList == [115, 117, 98]) = (A3 == wSub) := ba_eq _ _
  have cL := fun w => Nm.refLocal_any (ba Z3) w (by rw [ba_size]; omega)
  have cW := fun w => qWord_any (ba Z3) w (by rw [ba_size]; exact z3)
  have cS := fun w => qSub_any (ba Z3) w
  rw [ba_list] at cL cW cS
  clear z1 z2 z3 hs
  unfold byR
  generalize (A1 == wAllow) = b1 at *
  generalize (A1 == wDeny) = b2 at *
  generalize (A2 == wIn) = k1 at *
  generalize (A2 == wOut) = k2 at *
  generalize (A2 == wBoth) = k3 at *
  generalize (A3 == wAll) = a1 at *
  generalize (A3 == wJid) = a2 at *
  generalize (A3 == wGroup) = a3 at *
  generalize (A3 == wSub) = a4 at *
  generalize Nm.localN Z3 = p at *
  obtain ⟨v, n⟩ := p
  dsimp only at cL ⊢
  generalize nameE Z3 = m at *
  generalize isSubB Z3 = z at *
  obtain ⟨bad, hbad⟩ : ∃ bad, Hid (badR h1 h2 b1 b2 k1 k2 k3 = bad) := ⟨_, rfl⟩
  rw [hbad.out]
  obtain ⟨RR, HRR⟩ : ∃ RR, Hid (qpv (if bad = true then (r0, 2) else if (a1 && !h3) = true then (⟨b1, !k2, !k1, A3, Z3⟩, 0) else if (a2 && h3) = true then (if n = 0 then (⟨b1, !k2, !k1, A3, v⟩, 0) else (r0, n)) else if (a3 && h3) = true then (if m = 0 then (⟨b1, !k2, !k1, A3, Z3⟩, 0) else (r0, m)) else if (a4 && (h3 && z)) = true then (⟨b1, !k2, !k1, A3, Z3⟩, 0) else (r0, 2)) = RR) := ⟨_, rfl⟩
  rw [HRR.out]
  have HX : Hid (RuAt ((w.alloc (Obj.cells #[Value.bool false, Value.bool false, Value.bool false, Value.string { data := #[] }, Value.string { data := #[] }] 72)).alloc (Obj.cells #[Value.bool false, Value.bool false, Value.bool false, Value.string { data := #[] }, Value.string { data := #[] }] 72)) w.heap.size r0 ∧ RuAt ((w.alloc (Obj.cells #[Value.bool false, Value.bool false, Value.bool false, Value.string { data := #[] }, Value.string { data := #[] }] 72)).alloc (Obj.cells #[Value.bool false, Value.bool false, Value.bool false, Value.string { data := #[] }, Value.string { data := #[] }] 72)) (w.heap.size + 1) r0 ∧ Below w.heap.size w ((w.alloc (Obj.cells #[Value.bool false, Value.bool false, Value.bool false, Value.string { data := #[] }, Value.string { data := #[] }] 72)).alloc (Obj.cells #[Value.bool false, Value.bool false, Value.bool false, Value.string { data := #[] }, Value.string { data := #[] }] 72))) :=
    ⟨push_old (push_at _ _ rfl), push_at _ _ (by simp), below2 w oR oR⟩
  go_enter Tryz.func38, Tryz.ntmps38
  go_upto_region 2 with fail
  generalize (w.alloc (Obj.cells #[Value.bool false, Value.bool false, Value.bool false, Value.string { data := #[] }, Value.string { data := #[] }] 72)).alloc (Obj.cells #[Value.bool false, Value.bool false, Value.bool false, Value.string { data := #[] }, Value.string { data := #[] }] 72) = X at HX ⊢
  go_upto_region 4 with (first
    | (go_at_call 54; refine (c1 _).mono ?_; clear c1; rintro e w1 ⟨rfl, hb1⟩)
    | (go_at_call 54; refine (c2 _).mono ?_; clear c2; rintro e w2 ⟨rfl, hb2⟩))
  have H2 : Hid (RuAt w2 w.heap.size r0 ∧ RuAt w2 (w.heap.size + 1) r0 ∧ Below w.heap.size w w2) := by
    have q := HX.out.2.2.size
    have q2 := hb1.size
    exact ⟨(HX.out.1.carry hb1).carry hb2, (HX.out.2.1.carry hb1).carry hb2, (HX.out.2.2.trans (hb1.mono q)).trans (hb2.mono (by omega))⟩
  clear HX hb1 hb2
  go_cut [55] from 30 to 55 (fun p wc => p = .bool bad ∧ wc = w2)
  case first =>
    clear g1 g2 g3 g4 c3 cL cW cS
    cases h1
    · have hq := hbad.out; subst hq; go_wp2; go_meet; exact ⟨rfl, rfl⟩
    cases h2
    · have hq := hbad.out; subst hq; go_wp2; go_meet; exact ⟨rfl, rfl⟩
    cases b1
    · cases b2
      · have hq := hbad.out; subst hq; go_wp2; go_meet; exact ⟨rfl, rfl⟩
      cases k1
      · cases k2
        · cases k3
          · have hq := hbad.out; subst hq; go_wp2; go_meet; exact ⟨rfl, rfl⟩
          · have hq := hbad.out; subst hq; go_wp2; go_meet; exact ⟨rfl, rfl⟩
        · have hq := hbad.out; subst hq; go_wp2; go_meet; exact ⟨rfl, rfl⟩
      · have hq := hbad.out; subst hq; go_wp2; go_meet; exact ⟨rfl, rfl⟩
    · skip
      cases k1
      · cases k2
        · cases k3
          · have hq := hbad.out; subst hq; go_wp2; go_meet; exact ⟨rfl, rfl⟩
          · have hq := hbad.out; subst hq; go_wp2; go_meet; exact ⟨rfl, rfl⟩
        · have hq := hbad.out; subst hq; go_wp2; go_meet; exact ⟨rfl, rfl⟩
      · have hq := hbad.out; subst hq; go_wp2; go_meet; exact ⟨rfl, rfl⟩
  case rest =>
    obtain ⟨rfl, rfl⟩ := hcut
    clear e2 f3 hbad
    cases bad with
    | true =>
      go_wp2_with (first
        | (refine wp_load_ru rfl (.tmp 4) rfl (w.heap.size + 1) rfl r0 H2.out.2.1 ?_)
        | (refine wp_store_ru rfl (.tmp 2) (.tmp 56) rfl w.heap.size rfl r0 rfl r0 H2.out.1 ?_))
      refine bodyPost_ret (v := qpv (r0, 2)) ?_ rfl ⟨?_, ?_⟩
      · exact res_ru1 rfl _ _ w.heap.size _ _ rfl rfl (RuAt.set H2.out.1 r0)
      · rw [← HRR.out]; rfl
      · exact H2.out.2.2.trans ((rowK wc w.heap.size (rc r0)).below H2.out.2.2.size (fun j e => by omega))
    | false =>
      go_upto_region 8 with (go_at_call 54; refine (c3 _).mono ?_; clear c3; rintro e w3 ⟨rfl, hb3⟩)
      have R0 : Hid (R3 w (w3.alloc (Obj.cells #[Value.bool b1, Value.bool (!k2), Value.bool (!k1), Value.string (ba A3), Value.string (ba Z3)] 72)) w3.heap.size ⟨b1, !k2, !k1, A3, Z3⟩) := by
        have q := H2.out.2.2.size
        have q2 := hb3.size
        have hb := below1 w3 (Obj.cells #[Value.bool b1, Value.bool (!k2), Value.bool (!k1), Value.string (ba A3), Value.string (ba Z3)] 72)
        have x0 := H2.out.1.carry hb3
        have x1 := H2.out.2.1.carry hb3
        exact ⟨x0.carry hb, x1.carry hb, push_at _ _ rfl, x1.lt, (H2.out.2.2.trans (hb3.mono q)).trans (hb.mono (by omega))⟩
      clear H2 hb3 e1 f1 f2
      generalize w3.alloc _ = W at R0 ⊢
      generalize w3.heap.size = g at R0 ⊢
      cases h3 with
      | false =>
        clear cL cW cS
        cases a1 with
        | true =>
          go_wp2_with (first
            | (refine wp_load_ru rfl _ rfl g rfl ⟨b1, !k2, !k1, A3, Z3⟩ R0.out.c ?_)
            | (refine wp_store_ru rfl _ _ rfl w.heap.size rfl ⟨b1, !k2, !k1, A3, Z3⟩ rfl r0 R0.out.a ?_))
          refine bodyPost_ret (v := qpv (⟨b1, !k2, !k1, A3, Z3⟩, 0)) ?_ rfl ⟨?_, ?_⟩
          · exact res_ru1 rfl _ _ w.heap.size _ _ rfl rfl (R0.out.fin ⟨b1, !k2, !k1, A3, Z3⟩).1
          · rw [← HRR.out]; rfl
          · exact (R0.out.fin ⟨b1, !k2, !k1, A3, Z3⟩).2
        | false =>
          cases a2 <;> cases a3 <;> cases a4
          all_goals
            go_wp2_with (first
              | (refine wp_load_ru rfl _ rfl (w.heap.size + 1) rfl r0 R0.out.b ?_)
              | (refine wp_store_ru rfl _ _ rfl w.heap.size rfl r0 rfl r0 R0.out.a ?_))
            refine bodyPost_ret (v := qpv (r0, 2)) ?_ rfl ⟨?_, ?_⟩
            · exact res_ru1 rfl _ _ w.heap.size _ _ rfl rfl (R0.out.fin r0).1
            · rw [← HRR.out]; rfl
            · exact (R0.out.fin r0).2
      | true =>
        cases a1
        all_goals
          cases a2 with
          | true =>
            clear cW cS
            by_cases h0 : n = 0
            · subst h0
              go_wp2_with (first
                | (go_at_call 55; refine (cL _).mono ?_; clear cL; rintro e w4 ⟨rfl, hb4⟩; have R4 : Hid (R3 w w4 g ⟨b1, !k2, !k1, A3, Z3⟩) := R0.out.bel hb4; have u4 := R4.out.c.c4; have fu := R4.out.c.fz 4)
                | (refine wp_load_ru rfl _ rfl g rfl ⟨b1, !k2, !k1, A3, v⟩ (R4.out.val v).c ?_)
                | (refine wp_store_ru rfl _ _ rfl w.heap.size rfl ⟨b1, !k2, !k1, A3, v⟩ rfl r0 (R4.out.val v).a ?_))
              refine bodyPost_ret (v := qpv (⟨b1, !k2, !k1, A3, v⟩, 0)) ?_ rfl ⟨?_, ?_⟩
              · exact res_ru1 rfl _ _ w.heap.size _ _ rfl rfl ((R4.out.val v).fin ⟨b1, !k2, !k1, A3, v⟩).1
              · rw [← HRR.out]; rfl
              · exact ((R4.out.val v).fin ⟨b1, !k2, !k1, A3, v⟩).2
            · have hd : ((n : Int) != 0) = true := by simp; omega
              have e := HRR.out
              rw [if_neg h0] at e
              replace HRR : Hid _ := e
              clear h0 e
              go_wp2_with (first
                | (go_at_call 55; refine (cL _).mono ?_; clear cL; rintro e w4 ⟨rfl, hb4⟩; have R4 : Hid (R3 w w4 g ⟨b1, !k2, !k1, A3, Z3⟩) := R0.out.bel hb4; have u4 := R4.out.c.c4; have fu := R4.out.c.fz 4)
                | (refine wp_load_ru rfl _ rfl (w.heap.size + 1) rfl r0 R4.out.b ?_)
                | (refine wp_store_ru rfl _ _ rfl w.heap.size rfl r0 rfl r0 R4.out.a ?_))
              refine bodyPost_ret (v := qpv (r0, n)) ?_ rfl ⟨?_, ?_⟩
              · exact res_ru1 rfl _ _ w.heap.size _ _ rfl rfl (R4.out.fin r0).1
              · rw [← HRR.out]; rfl
              · exact (R4.out.fin r0).2
          | false =>
            clear cL
            cases a3 with
            | true =>
              clear cS
              by_cases h0 : m = 0
              · subst h0
                go_wp2_with (first
                  | (go_at_call 37; refine (cW _).mono ?_; clear cW; rintro e w5 ⟨rfl, hw5⟩; replace hw5 := hw5.symm; subst hw5)
                  | (refine wp_load_ru rfl _ rfl g rfl ⟨b1, !k2, !k1, A3, Z3⟩ R0.out.c ?_)
                  | (refine wp_store_ru rfl _ _ rfl w.heap.size rfl ⟨b1, !k2, !k1, A3, Z3⟩ rfl r0 R0.out.a ?_))
                refine bodyPost_ret (v := qpv (⟨b1, !k2, !k1, A3, Z3⟩, 0)) ?_ rfl ⟨?_, ?_⟩
                · exact res_ru1 rfl _ _ w.heap.size _ _ rfl rfl (R0.out.fin ⟨b1, !k2, !k1, A3, Z3⟩).1
                · rw [← HRR.out]; rfl
                · exact (R0.out.fin ⟨b1, !k2, !k1, A3, Z3⟩).2
              · have hd : ((m : Int) != 0) = true := by simp; omega
                have e := HRR.out
                rw [if_neg h0] at e
                replace HRR : Hid _ := e
                clear h0 e
                go_wp2_with (first
                  | (go_at_call 37; refine (cW _).mono ?_; clear cW; rintro e w5 ⟨rfl, hw5⟩; replace hw5 := hw5.symm; subst hw5)
                  | (refine wp_load_ru rfl _ rfl (w.heap.size + 1) rfl r0 R0.out.b ?_)
                  | (refine wp_store_ru rfl _ _ rfl w.heap.size rfl r0 rfl r0 R0.out.a ?_))
                refine bodyPost_ret (v := qpv (r0, m)) ?_ rfl ⟨?_, ?_⟩
                · exact res_ru1 rfl _ _ w.heap.size _ _ rfl rfl (R0.out.fin r0).1
                · rw [← HRR.out]; rfl
                · exact (R0.out.fin r0).2
            | false =>
              clear cW
              cases a4 with
              | true =>
                cases z with
                | true =>
                  go_wp2_with (first
                    | (go_at_call 56; refine (cS _).mono ?_; clear cS; rintro e w6 ⟨rfl, hw6⟩; replace hw6 := hw6.symm; subst hw6)
                    | (refine wp_load_ru rfl _ rfl g rfl ⟨b1, !k2, !k1, A3, Z3⟩ R0.out.c ?_)
                    | (refine wp_store_ru rfl _ _ rfl w.heap.size rfl ⟨b1, !k2, !k1, A3, Z3⟩ rfl r0 R0.out.a ?_))
                  refine bodyPost_ret (v := qpv (⟨b1, !k2, !k1, A3, Z3⟩, 0)) ?_ rfl ⟨?_, ?_⟩
                  · exact res_ru1 rfl _ _ w.heap.size _ _ rfl rfl (R0.out.fin ⟨b1, !k2, !k1, A3, Z3⟩).1
                  · rw [← HRR.out]; rfl
                  · exact (R0.out.fin ⟨b1, !k2, !k1, A3, Z3⟩).2
                | false =>
                  go_wp2_with (first
                    | (go_at_call 56; refine (cS _).mono ?_; clear cS; rintro e w6 ⟨rfl, hw6⟩; replace hw6 := hw6.symm; subst hw6)
                    | (refine wp_load_ru rfl _ rfl (w.heap.size + 1) rfl r0 R0.out.b ?_)
                    | (refine wp_store_ru rfl _ _ rfl w.heap.size rfl r0 rfl r0 R0.out.a ?_))
                  refine bodyPost_ret (v := qpv (r0, 2)) ?_ rfl ⟨?_, ?_⟩
                  · exact res_ru1 rfl _ _ w.heap.size _ _ rfl rfl (R0.out.fin r0).1
                  · rw [← HRR.out]; rfl
                  · exact (R0.out.fin r0).2
              | false =>
                go_wp2_with (first
                  | (refine wp_load_ru rfl _ rfl (w.heap.size + 1) rfl r0 R0.out.b ?_)
                  | (refine wp_store_ru rfl _ _ rfl w.heap.size rfl r0 rfl r0 R0.out.a ?_))
                refine bodyPost_ret (v := qpv (r0, 2)) ?_ rfl ⟨?_, ?_⟩
                · exact res_ru1 rfl _ _ w.heap.size _ _ rfl rfl (R0.out.fin r0).1
                · rw [← HRR.out]; rfl
                · exact (R0.out.fin r0).2
end Go.Proofs.YtiplalbicibahaaGreatDoor

/- privacy: the document's writing and its Text. -/
set_option maxRecDepth 100000
namespace Go.Proofs.YtiplalbicibahaaGreatDoor
open Go.RowKit Go.Joins Go.Shelf

/-! ### as text -/
def wayQ (r : Rul) : By := if r.i && r.o then wBoth ++ [32] else if r.i then wIn ++ [32] else if r.o then wOut ++ [32] else []
def headQ (r : Rul) : By := (if r.al then wAllow ++ [32] else wDeny ++ [32]) ++ wayQ r ++ r.k
def writeQ (r : Rul) : By := if (r.k == wAll) = true then headQ r else headQ r ++ [32] ++ r.v
theorem wayQ_len (r : Rul) : (wayQ r).length ≤ 5 := by unfold wayQ; split; · decide
                                                       · split; · decide
                                                         · split <;> decide
theorem writeQ_len (r : Rul) : (writeQ r).length ≤ 12 + r.k.length + r.v.length := by
  have := wayQ_len r
  have ha : (if r.al then wAllow ++ [32] else wDeny ++ [32] : By).length ≤ 6 := by split <;> decide
  unfold writeQ headQ
  split
  · simp only [List.length_append]; omega
  · simp only [List.length_append, List.length_cons, List.length_nil]; omega
theorem write_same {r : Rul} (h : (r.i || r.o) = true) : writeQ r = writtenR r := by
  have e : headQ r = headT r := by
    obtain ⟨al, i, o, k, v⟩ := r
    unfold headQ headT wayQ wayT verdictT
    cases al <;> cases i <;> cases o <;> first | rfl | (dsimp only at h; cases h)
  unfold writeQ writtenR
  rw [e]
theorem ways_ok {m : By} (h : (waysR m).2.2.2 = 0) : ((waysR m).1 || (waysR m).2.1) = true := by
  unfold waysR at h ⊢
  split at h
  · rename_i h1
    rw [if_pos h1]
    split at h
    · rename_i h2
      rw [if_pos h2]
      exact h2
    · cases h
  · cases h
theorem way_ok {l : By} (h : (parseR l).2 = 0) : ((parseR l).1.i || (parseR l).1.o) = true := by
  unfold parseR at h ⊢
  split at h
  · rename_i h1
    rw [if_pos h1]
    split at h
    · rename_i h2
      rw [if_pos h2]
      split at h
      · rename_i h3
        rw [if_pos h3]
        exact ways_ok h2
      · rename_i h3; exact absurd h h3
    · rename_i h2; exact absurd h h2
  · rename_i h1; exact absurd h h1
def okQ (r : Rul) : Bool := (parseR (writeQ r)).2 == 0 && eqRul (parseR (writeQ r)).1 r
theorem not_ways {l : By} {r : Rul} (h : (r.i || r.o) = false) : ((parseR l).2 == 0 && eqRul (parseR l).1 r) = false := by
  cases hE : ((parseR l).2 == 0 && eqRul (parseR l).1 r) with
  | false => rfl
  | true =>
    simp only [Bool.and_eq_true, beq_iff_eq] at hE
    have := way_ok hE.1
    rw [eqRul_true hE.2, h] at this
    cases this
theorem ok_same (r : Rul) : okQ r = okT r := by
  unfold okQ okT
  cases h : (r.i || r.o) with
  | true => rw [write_same h]
  | false => rw [not_ways h, not_ways h]
theorem write_ok {r : Rul} (h : okQ r = true) : writeQ r = writtenR r := by
  cases h2 : (r.i || r.o) with
  | true => exact write_same h2
  | false => unfold okQ at h; rw [not_ways h2] at h; cases h

set_option maxHeartbeats 1600000 in
theorem qwrite_any (r : Rul) (w : World) (hz : r.k.length + r.v.length ≤ 281474976710000) : Calls Tryz.prog 39 #[rv r] w fun e w' => e = .returned (.string (ba (writeQ r))) ∧ Below w.heap.size w w' := by
  obtain ⟨al, i, o, k, v⟩ := r
  have e1 : ((ba k).toList == [97, 108, 108]) = (k == wAll) := ba_eq _ _
  have HL : Hid (k.length + v.length ≤ 281474976710000) := hz
  obtain ⟨W, HW⟩ : ∃ W, Hid (writeQ ⟨al, i, o, k, v⟩ = W) := ⟨_, rfl⟩
  rw [HW.out]
  have HR : Hid (RuAt (w.alloc (.cells (rc ⟨al, i, o, k, v⟩) 72)) w.heap.size ⟨al, i, o, k, v⟩ ∧ Below w.heap.size w (w.alloc (.cells (rc ⟨al, i, o, k, v⟩) 72))) := ⟨push_at _ _ rfl, below1 _ _⟩
  clear hz
  have HW2 := HW.out
  unfold writeQ headQ wayQ at HW2
  replace HW2 : Hid _ := HW2
  clear HW
  show Calls _ _ #[.agg (rc _)] _ _
  unfold rc
  unfold rc at HR
  generalize hb : (k == wAll) = b at *
  clear hb
  cases al <;> cases i <;> cases o <;> cases b
  all_goals
    go_enter Tryz.func39, Tryz.ntmps39
    go_upto_region 1 with fail
    generalize w.alloc _ = X at HR ⊢
    have u0 := HR.out.1.c0
    have u1 := HR.out.1.c1
    have u2 := HR.out.1.c2
    have u3 := HR.out.1.c3
    have u4 := HR.out.1.c4
    go_wp2_with (refine wp_addB rfl rfl _ _ rfl rfl (by have := HL.out; simp only [List.length_append, List.length_cons, List.length_nil]; omega) ?_)
    go_ret
    refine ⟨?_, HR.out.2⟩
    rw [← HW2.out]
    simp [wAllow, wDeny, wBoth, wIn, wOut]
end Go.Proofs.YtiplalbicibahaaGreatDoor

/- privacy: what rules Parse may tell; lists within bounds; rows of names behind a put and a drop (pure). -/
set_option maxRecDepth 100000
namespace Go.Proofs.YtiplalbicibahaaGreatDoor
open Go.RowKit Go.Joins Go.Shelf

/-! ### how long what is prepared is -/
theorem eachLen (step : Int → Int → Option Int) : ∀ (n : Nat) (st : Int) (l bs : List UInt8) (st' : Int), l.length ≤ n → Nm.each step st l = some (bs, st') → bs.length ≤ 4 * l.length
  | n, st, [], bs, st', _, h => by
    rw [Nm.each_nil] at h; cases h; simp
  | 0, st, b :: t, bs, st', hn, _ => by simp at hn
  | n + 1, st, b :: t, bs, st', hn, h => by
    rw [Nm.each_step step st _ (by simp)] at h
    cases hs : step st ((Lib.decodeL (b :: t)).1 : Int) with
    | none => rw [hs] at h; cases h
    | some r =>
      simp only [hs] at h
      have hw := Lib.decodeL_width (b :: t)
      have hl : ((b :: t).drop (Lib.decodeL (b :: t)).2).length ≤ n := by rw [List.length_drop]; omega
      cases he : Nm.each step r ((b :: t).drop (Lib.decodeL (b :: t)).2) with
      | none => simp only [he] at h; cases h
      | some p =>
        obtain ⟨bs2, st2⟩ := p
        simp only [he] at h
        cases h
        have ih := eachLen step n r _ _ _ hl he
        have h4 := Lib.runeCells_le r
        rw [Lib.runeCells_length] at h4
        rw [List.length_drop] at ih
        rw [List.length_append]
        simp at ih ⊢
        omega
theorem localLen (l : By) : (Nm.localN l).1.length ≤ 256 := by
  unfold Nm.localN Nm.prep
  split
  · simp
  · rename_i h64
    split
    · simp
    · split
      · simp
      · rename_i bs st he
        have := eachLen _ _ _ _ _ _ (Nat.le_refl _) he
        rw [if_pos rfl]
        show bs.length ≤ 256; omega

/-! ### rules -/
def RulN (r : Rul) : Prop := okRul r ∧ (r.i || r.o) = true ∧ r.k.length + r.v.length ≤ 300
theorem nameE_len {l : By} (h : nameE l = 0) : l.length ≤ 64 := by
  unfold nameE at h
  split at h
  · cases h
  · omega
theorem value_ok {k l : By} (h : (valueR k l).2 = 0) : (k = wJid ∨ k = wGroup ∨ (k = wSub ∧ isSubB (valueR k l).1 = true)) ∧ k.length ≤ 5 ∧ (valueR k l).1.length ≤ 256 := by
  unfold valueR at h ⊢
  by_cases h1 : (k == wJid) = true
  · rw [if_pos h1]
    have := beq_iff_eq.1 h1
    subst this
    exact ⟨Or.inl rfl, by decide, localLen _⟩
  · rw [if_neg h1] at h ⊢
    by_cases h2 : (k == wGroup) = true
    · rw [if_pos h2] at h ⊢
      have := beq_iff_eq.1 h2
      subst this
      by_cases h3 : nameE l = 0
      · rw [if_pos h3]
        have := nameE_len h3
        exact ⟨Or.inr (Or.inl rfl), by decide, by show l.length ≤ 256; omega⟩
      · rw [if_neg h3] at h; exact absurd h h3
    · rw [if_neg h2] at h ⊢
      by_cases h3 : (k == wSub && isSubB l) = true
      · rw [if_pos h3]
        simp only [Bool.and_eq_true, beq_iff_eq] at h3
        have := (sub_short h3.2).2
        obtain ⟨rfl, h4⟩ := h3
        exact ⟨Or.inr (Or.inr ⟨rfl, h4⟩), by decide, by show l.length ≤ 256; omega⟩
      · rw [if_neg h3] at h; cases h
theorem whom_ok {l : By} (h : (whomR l).2.2 = 0) : ((whomR l).1 = wAll ∨ (whomR l).1 = wJid ∨ (whomR l).1 = wGroup ∨ ((whomR l).1 = wSub ∧ isSubB (whomR l).2.1 = true)) ∧ (whomR l).1.length + (whomR l).2.1.length ≤ 300 := by
  unfold whomR at h ⊢
  by_cases h1 : (l == wAll) = true
  · rw [if_pos h1]; exact ⟨Or.inl rfl, by decide⟩
  · rw [if_neg h1] at h ⊢
    by_cases h2 : Nm.hasB 32 l = true
    · rw [if_pos h2] at h ⊢
      by_cases h3 : (valueR (Nm.cutA 32 l) (Nm.cutZ 32 l)).2 = 0
      · rw [if_pos h3]
        obtain ⟨a, b, c⟩ := value_ok h3
        exact ⟨Or.inr a, by show (Nm.cutA 32 l).length + (valueR (Nm.cutA 32 l) (Nm.cutZ 32 l)).1.length ≤ 300; omega⟩
      · rw [if_neg h3] at h; exact absurd h h3
    · rw [if_neg h2] at h; cases h
theorem parse_ok {l : By} (h : (parseR l).2 = 0) : RulN (parseR l).1 := by
  have hw := way_ok h
  refine ⟨?_, hw, ?_⟩
  all_goals
    unfold parseR at h ⊢
    split at h
    · rename_i h1
      rw [if_pos h1]
      split at h
      · rename_i h2
        rw [if_pos h2]
        split at h
        · rename_i h3
          rw [if_pos h3]
          first | exact (whom_ok h3).1 | exact (whom_ok h3).2
        · rename_i h3; exact absurd h h3
      · rename_i h2; exact absurd h h2
    · rename_i h1; exact absurd h h1
theorem read_ok : ∀ {ts : List By}, (readR ts).2 = 0 → ∀ r ∈ (readR ts).1, RulN r
  | [], _, r, hr => by cases hr
  | t :: ts, h, r, hr => by
    rw [readR] at h hr
    by_cases h1 : (parseR t).2 = 0
    · rw [if_pos h1] at h hr
      by_cases h2 : (readR ts).2 = 0
      · rw [if_pos h2] at hr
        rcases List.mem_cons.1 hr with e | e
        · rw [e]; exact parse_ok h1
        · exact read_ok h2 r e
      · rw [if_neg h2] at h; exact absurd h h2
    · rw [if_neg h1] at h; exact absurd h h1
theorem RulN.same {r : Rul} (h : RulN r) : writeQ r = writtenR r := write_same h.2.1

/-! ### lists within bounds -/
structure Nice (P : Pl) (n : Nat) : Prop where
  kn : P.ks.length ≤ n
  us : P.us.length ≤ 80
  nm : ∀ k ∈ P.ks, k.length ≤ 80
  rl : ∀ k, ((P.m k).getD []).length ≤ 20
  rz : ∀ k, ∀ r ∈ (P.m k).getD [], RulN r
theorem Nice.zero (l r : Int) : Nice (pl0 l r) 0 := ⟨Nat.le_refl _, Nat.zero_le _, (fun k h => by cases h), (fun k => Nat.zero_le _), (fun k r h => by cases h)⟩
theorem Nice.mono {P : Pl} {n m : Nat} (h : Nice P n) (hm : n ≤ m) : Nice P m := ⟨by have := h.kn; omega, h.us, h.nm, h.rl, h.rz⟩
theorem Nice.put {P : Pl} {n : Nat} (h : Nice P n) (s : By) (rs : List Rul) (hs : s.length ≤ 80) (hl : rs.length ≤ 20) (hr : ∀ r ∈ rs, RulN r) : Nice (putP P s rs) (n + 1) := by
  unfold putP
  refine ⟨?_, h.us, fun k hk => ?_, fun k => ?_, fun k => ?_⟩
  · have := h.kn
    dsimp only
    split
    · omega
    · rw [List.length_cons]; omega
  · dsimp only at hk
    split at hk
    · exact h.nm k hk
    · rcases List.mem_cons.1 hk with e | e
      · rw [e]; exact hs
      · exact h.nm k e
  · dsimp only
    by_cases hk : k = s
    · subst hk; rw [putM_same]; exact hl
    · rw [putM_other _ _ hk]; exact h.rl k
  · dsimp only
    by_cases hk : k = s
    · subst hk; rw [putM_same]; exact hr
    · rw [putM_other _ _ hk]; exact h.rz k
theorem Nice.set {P : Pl} {n : Nat} (h : Nice P n) (s : By) (ts : List By) (hs : s.length ≤ 80) (ht : ts.length ≤ 20) : Nice (setR P s ts).2 (n + 1) := by
  unfold setR
  split
  · exact h.mono (by omega)
  · split
    · exact h.mono (by omega)
    · rename_i h2
      have h2 : (readR ts).2 = 0 := by omega
      split
      · exact h.mono (by omega)
      · exact h.put s _ hs (by rw [readR_le ts h2]; exact ht) (read_ok h2)
theorem Nice.drop {P : Pl} {n : Nat} (h : Nice P n) (s : By) : Nice (dropR P s).2 n := by
  unfold dropR
  split
  · exact h
  · split
    · exact h
    · refine ⟨?_, h.us, fun k hk => h.nm k (List.mem_filter.1 hk).1, fun k => ?_, fun k => ?_⟩
      · have := List.length_filter_le (fun k => !(k == s)) P.ks
        have := h.kn
        show (dropK P.ks s).length ≤ n
        unfold dropK
        omega
      · unfold dropP
        dsimp only
        by_cases hk : k = s
        · subst hk; rw [putM_same]; exact Nat.zero_le _
        · rw [putM_other _ _ hk]; exact h.rl k
      · unfold dropP
        dsimp only
        by_cases hk : k = s
        · subst hk; rw [putM_same]; intro r hr; cases hr
        · rw [putM_other _ _ hk]; exact h.rz k
theorem Nice.usual {P : Pl} {n : Nat} (h : Nice P n) (s : By) (hs : s.length ≤ 80) : Nice (defaultR P s).2 n := by
  unfold defaultR
  split
  · exact h
  · exact ⟨h.kn, hs, h.nm, h.rl, h.rz⟩
theorem Nice.held {P : Pl} {n : Nat} (h : Nice P n) (s : By) : (heldR P s).length ≤ 20 ∧ ∀ r ∈ heldR P s, RulN r := ⟨h.rl _, h.rz _⟩

/-! ### how the names, texts and rules stand behind a put and a drop -/
theorem at_split {ns : List By} {s : By} (h : Asc ns) (hs : s ∈ ns) : ns = ns.take (atK ns s) ++ s :: ns.drop (atK ns s + 1) := by
  have hat := at_head ((at_mem h).2 hs)
  have e := List.getElem?_eq_some_iff.1 hat.2
  have e2 := (List.take_append_drop (atK ns s) ns).symm
  rw [List.drop_eq_getElem_cons hat.1, e.2] at e2
  exact e2
theorem split_not {ns : List By} {s : By} (h : Asc ns) (hs : s ∈ ns) : s ∉ ns.take (atK ns s) ∧ s ∉ ns.drop (atK ns s + 1) := by
  have hnd := asc_nodup h
  rw [at_split h hs] at hnd
  have h2 := List.nodup_append.1 hnd
  exact ⟨fun e => h2.2.2 s e s (List.mem_cons_self ..) rfl, (List.nodup_cons.1 h2.2.1).1⟩
theorem map_other {α : Type} (f g : By → α) (s : By) (hfg : ∀ k, k ≠ s → g k = f k) : ∀ (l : List By), s ∉ l → l.map g = l.map f := fun l h =>
  List.map_congr_left (fun k hk => hfg k (fun e => h (by rw [← e]; exact hk)))
/-- A name that is there: its place is turned. -/
theorem map_set {α : Type} (f g : By → α) {ns : List By} {s : By} (h : Asc ns) (hs : s ∈ ns) (hfg : ∀ k, k ≠ s → g k = f k) : ns.map g = (ns.map f).set (atK ns s) (g s) := by
  have hn := split_not h hs
  have hat := at_head ((at_mem h).2 hs)
  have e : ∀ φ : By → α, ns.map φ = (ns.take (atK ns s)).map φ ++ φ s :: (ns.drop (atK ns s + 1)).map φ := fun φ => by
    conv => lhs; rw [at_split h hs]
    rw [List.map_append, List.map_cons]
  have hl : ((ns.take (atK ns s)).map f).length = atK ns s := by rw [List.length_map, List.length_take]; omega
  rw [e g, e f, map_other f g s hfg _ hn.1, map_other f g s hfg _ hn.2]
  generalize (ns.take (atK ns s)).map f = A at *
  generalize (ns.drop (atK ns s + 1)).map f = Z at *
  generalize atK ns s = k at *
  subst hl
  rw [List.set_append_right _ _ (Nat.le_refl _), Nat.sub_self]
  rfl
theorem map_put {α : Type} (f g : By → α) {ns : List By} {s : By} (hs : s ∉ ns) (hfg : ∀ k, k ≠ s → g k = f k) : (ns.take (atK ns s) ++ [s] ++ ns.drop (atK ns s)).map g = (ns.map f).take (atK ns s) ++ [g s] ++ (ns.map f).drop (atK ns s) := by
  rw [List.map_append, List.map_append, map_other f g s hfg _ (fun e => hs (List.mem_of_mem_take e)), map_other f g s hfg _ (fun e => hs (List.mem_of_mem_drop e)), List.map_take, List.map_drop]
  rfl
theorem map_drop {α : Type} (f g : By → α) {ns : List By} {s : By} (h : Asc ns) (hs : s ∈ ns) (hfg : ∀ k, k ≠ s → g k = f k) : (ns.take (atK ns s) ++ ns.drop (atK ns s + 1)).map g = (ns.map f).take (atK ns s) ++ (ns.map f).drop (atK ns s + 1) := by
  have hn := split_not h hs
  rw [List.map_append, map_other f g s hfg _ hn.1, map_other f g s hfg _ hn.2, List.map_take, List.map_drop]
theorem putP_texts (P : Pl) (s : By) (rs : List Rul) : ∀ k, k ≠ s → textsK (putP P s rs) k = textsK P k := fun k hk => by
  unfold textsK putP; dsimp only; rw [putM_other _ _ hk]
theorem putP_self (P : Pl) (s : By) (rs : List Rul) : textsK (putP P s rs) s = rs.map writtenR := by
  unfold textsK putP; dsimp only; rw [putM_same]; rfl
theorem putP_rules (P : Pl) (s : By) (rs : List Rul) : ∀ k, k ≠ s → ((putP P s rs).m k).getD [] = (P.m k).getD [] := fun k hk => by
  unfold putP; dsimp only; rw [putM_other _ _ hk]
theorem putP_mine (P : Pl) (s : By) (rs : List Rul) : ((putP P s rs).m s).getD [] = rs := by
  unfold putP; dsimp only; rw [putM_same]; rfl
theorem dropP_texts (P : Pl) (s : By) : ∀ k, k ≠ s → textsK (dropP P s) k = textsK P k := fun k hk => by
  unfold textsK dropP; dsimp only; rw [putM_other _ _ hk]
theorem dropP_rules (P : Pl) (s : By) : ∀ k, k ≠ s → ((dropP P s).m k).getD [] = (P.m k).getD [] := fun k hk => by
  unfold dropP; dsimp only; rw [putM_other _ _ hk]
end Go.Proofs.YtiplalbicibahaaGreatDoor
