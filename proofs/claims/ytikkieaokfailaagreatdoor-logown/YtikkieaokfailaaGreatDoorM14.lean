/- Texts of one seat, one behind the other: OwnC, OwnLQ, LoA, LoP, LsA, LsB, LsC, LsD, DkZd, DkZe. -/
import Derived.Test.YtikkieaokfailaaGreatDoorM13
import Derived.Test.YtikkieaokfailaaGreatDoorM12
import Derived.Test.YtikkieaokfailaaGreatDoorM7
import Derived.Test.YtikkieaokfailaaGreatDoorM8
import Derived.BigQuiet
import Derived.Deep.QuietTactic
import Derived.Test.YtikkieaokfailaaGreatDoorM9
namespace Go.Proofs.YtikkieaokfailaaGreatDoor
open Go.RowKit
theorem Ow.sl {w : World} {v : Value} {x : List Int} (h : Ow w v x) : ∃ a n c, v = .slice a n c := by
 obtain ⟨a, c, hv⟩ := own_slO h.own
 exact ⟨a, _, c, hv⟩
theorem getI_set_eq {z : List Int} {m : Nat} {y : Int} (h : m < z.length) : (z.set m y).getD m 0 = y := by simp [List.getD, h]
theorem getI_set_ne {z : List Int} {m t : Nat} {y : Int} (h : m ≠ t) : (z.set m y).getD t 0 = z.getD t 0 := by simp [List.getD, List.getElem?_set_ne h]
set_option maxHeartbeats 6400000 in
set_option maxRecDepth 4000000 in
theorem close_any (p N : Nat) (fv wv : Value) (fs ws : List Value) (ys : List (List Int)) (w : World) (hB : BookAt w p fv wv fs ws ys N) :
  Calls Tryz.prog 85 #[.pointer (some ⟨p, 0, none⟩)] w fun e w' => e = .returned (.bool true) ∧ Keep (BF p fv wv fs ws) w w' := by
 obtain ⟨hC, hT, hlen, hmost, heach⟩ := hB
 obtain ⟨af, cf, rfl⟩ := own_slO hT.f.row
 have hF := hT.f
 have hnd := hT.nodup
 have hf : fs.length ≤ 2000000 := by omega
 have HX : Hid (fs.length = ys.length) := hF.ows.len
 have hp := hC.lt
 obtain ⟨BFx, hBp, hBf⟩ : ∃ S : Nat → Prop, S p ∧ (∀ k, k ∈ blks fs → S k) ∧ (∀ k, S k → BF p (.slice af fs.length cf) wv fs ws k) := ⟨_, .inl rfl, fun k e => .inr (.inl (.inr e)), fun _ h => h⟩
 have HE : Hid (∀ j, (ys.getD j []).length ≤ 1000000) := by
  intro j
  by_cases hj : j < ys.length
  ·have e : ys.getD j [] = ys[j] := by simp [List.getD, List.getElem?_eq_getElem hj]
   rw [e]; exact heach _ (List.getElem_mem hj)
  ·have e : ys.getD j [] = [] := by simp [List.getD, List.getElem?_eq_none (Nat.le_of_not_lt hj)]
   rw [e]; simp
 have hlf : ∀ k, k ∈ blks fs → k < w.heap.size := fun k e => hF.ows.lt k e
 have hFl := hF.lt
 clear heach hlen hmost hT
 go_enter Tryz.func85, Tryz.ntmps85
 go_wp2
 go_loopw [3, 4] (fun i _ wr => ∃ (k : Nat) (zs : List (List Int)), i = .int .i64 k ∧ k ≤ fs.length ∧ BC wr p (.slice af fs.length cf) wv (.slice none 0 0) (.slice none 0 0) N ∧ Half wr (.slice af fs.length cf) fs zs ∧ Hid (∀ j, j < k → zs.getD j [] = List.replicate (ys.getD j []).length (mk j)) ∧ Hid (∀ j, (zs.getD j []).length = (ys.getD j []).length) ∧ Keep BFx w wr) (fun i _ _ => fs.length - (intOf i).toNat)
 case atStart => exact ⟨0, ys, rfl, Nat.zero_le _, hC, hF, (fun j hj => by omega : ∀ j, j < 0 → _), (fun _ => rfl : ∀ j, _), Keep.refl _ _⟩
 case round =>
  clear hC hF
  obtain ⟨k, zs, rfl, hk, hCr, hFr, HZ, HL, hK⟩ := hrel
  have hc0 := hCr.c0
  by_cases hlt : k < fs.length
  ·have hlz : (k : Int) < (fs.length : Int) := by omega
   obtain ⟨gf, capf, ak, nk, ck, hv, hcell, hvk, hok, hnk, hrk⟩ := hFr.cell hlt
   cases hv
   have HN : Hid (nk = (ys.getD k []).length) := by show nk = _; rw [hnk]; exact HL.out k
   have hnb : nk ≤ 1000000 := by have := HN.out; have := HE.out k; omega
   clear hnk hok hrk
   go_wp2
   go_loopw [4] (fun i wr => ∃ (m : Nat) (zs : List (List Int)), i = .int .i64 m ∧ m ≤ nk ∧ BC wr p (.slice (some ⟨gf, 0, none⟩) fs.length cf) wv (.slice none 0 0) (.slice none 0 0) N ∧ Half wr (.slice (some ⟨gf, 0, none⟩) fs.length cf) fs zs ∧ Hid (∀ j, j < k → zs.getD j [] = List.replicate (ys.getD j []).length (mk j)) ∧ Hid (∀ j, (zs.getD j []).length = (ys.getD j []).length) ∧ Hid (∀ t, t < m → (zs.getD k []).getD t 0 = mk k) ∧ Keep BFx w wr) (fun i _ => nk - (intOf i).toNat)
   case atStart => exact ⟨0, zs, rfl, Nat.zero_le _, hCr, hFr, HZ, HL, (fun j hj => by omega : ∀ t, t < 0 → _), hK⟩
   case round =>
    clear hCr hFr HZ HL hK hc0 hcell
    obtain ⟨m, zs, rfl, hm, hCr, hFr, HZ, HL, HM, hK⟩ := hrel
    have hc0 := hCr.c0
    have hcell := hFr.cellAt hvk
    by_cases hmn : m < nk
    ·have hmz : (m : Int) < (nk : Int) := by omega
     obtain ⟨g, hak, hnl, hnc, hwr⟩ := (hFr.ows.get hvk).some (by omega)
     subst hak
     have HNL : Hid (nk = (zs.getD k []).length) := hnl
     clear hnl hnc
     obtain ⟨hfz, hcm⟩ := hwr m
     have hcm' := hcm hmn
     clear hwr hcm
     have hmke : (k : Int) % 125 = mk k := by unfold mk; omega
     go_wp2
     obtain ⟨hF', hK'⟩ := hFr.stored hnd hvk m (mk k) (mk_bd k).1 (mk_bd k).2
     have hC' := hCr.keep hK' (fun e => hFr.not hCr (by decide) (by decide) (.inr e))
     have hky : k < zs.length := by rw [← hFr.ows.len]; exact hlt
     go_roundw
     case rel => exact ⟨m + 1, _, by go_num, by omega, hC', hF', (fun j hj => by rw [getD_set_ne (by omega)]; exact HZ.out j hj : ∀ j, j < k → _), (fun j => by
      by_cases hj : k = j
      ·subst hj; rw [getD_set_eq hky, List.length_set]; exact HL.out k
      ·rw [getD_set_ne hj]; exact HL.out j : ∀ j, _), (fun t ht => by
      rw [getD_set_eq hky]
      by_cases hj : m = t
      ·subst hj; exact getI_set_eq (by have := HNL.out; omega)
      ·rw [getI_set_ne hj]; exact HM.out t (by omega) : ∀ t, t < m + 1 → _), hK.andThen hK' (fun i _ e => hBf.1 i e)⟩
     case measure => simp [intOf]; omega
    ·have hmz : ¬ (m : Int) < (nk : Int) := by omega
     go_wp2
     go_roundw
     case rel => exact ⟨k + 1, zs, by go_num, by omega, hCr, hFr, (fun j hj => by
      by_cases e : j = k
      ·subst e
       have hnn := HN.out
       rw [← hnn]
       exact rep_of (by rw [HL.out j, hnn]) (fun t ht => HM.out t (by omega))
      ·exact HZ.out j (by omega) : ∀ j, j < k + 1 → _), HL, hK⟩
     case measure => simp [intOf]; omega
  ·have hlz : ¬ (k : Int) < (fs.length : Int) := by omega
   have hkf : k = fs.length := by omega
   have HZ2 : Hid (∀ i, i < fs.length → zs.getD i [] = List.replicate (zs.getD i []).length (mk i) ∧ (zs.getD i []).length ≤ 1000000) := by
    intro i hi
    have h1 := HZ.out i (by omega)
    have h2 := HL.out i
    have h3 := HE.out i
    rw [h2]
    exact ⟨h1, h3⟩
   clear HZ HL HE HX hkf
   have hGe : ∀ b, (Value.slice none 0 0).ownBlock = some b → w.heap.size ≤ b := fun b e => by cases e
   go_wp2
   clear hc0 hlz hk hlt
   go_loopw [5, 6, 7] (fun i _ _ wr => ∃ (k : Nat) (a2 : Option Addr) (c2 : Nat) (os : List Value), i = .int .i64 k ∧ k ≤ fs.length ∧ BC wr p (.slice af fs.length cf) wv (.slice a2 k c2) (.slice none 0 0) N ∧ Half wr (.slice af fs.length cf) fs zs ∧ Half wr (.slice a2 k c2) os (outs zs 16 k) ∧ Hid (os.length = k) ∧ Hid (Ofs fs os) ∧ (∀ b, (Value.slice a2 k c2).ownBlock = some b → w.heap.size ≤ b) ∧ Keep BFx w wr) (fun i _ _ _ => fs.length - (intOf i).toNat)
   case atStart => exact ⟨0, none, 0, [], rfl, Nat.zero_le _, hCr, hFr, Half.nil _, rfl, Ofs.nil _, hGe, hK⟩
   case round =>
    clear hCr hFr hK hGe
    obtain ⟨k, a2, c2, os, rfl, hk, hCr, hFr, hOr, HOL, HOF, hGe, hK⟩ := hrel
    have hc0 := hCr.c0
    by_cases hlt : k < fs.length
    ·have hlz : (k : Int) < (fs.length : Int) := by omega
     obtain ⟨gf, capf, ak, nk, ck, hv, hcell, hvk, hok, hnk, hrk⟩ := hFr.cell hlt
     cases hv
     have hzb := (HZ2.out k hlt).2
     have HN : Hid (nk = (zs.getD k []).length) := hnk
     have hG0 := Grow.refl hok
     clear hnk hrk
     go_wp2
     go_loopw [6, 7] (fun l t wx => ∃ (m : Nat) (al : Option Addr) (nl cl : Nat), t = .int .i64 m ∧ m ≤ 16 ∧ l = .slice al nl cl ∧ Grow wr wx (.slice ak nk ck) (.slice al nl cl) (zs.getD k []) (List.replicate m (mk2 k))) (fun _ t _ => 16 - (intOf t).toNat)
     case atStart => exact ⟨0, _, _, _, rfl, Nat.zero_le _, rfl, hG0⟩
     case round =>
      obtain ⟨m, al, nl, cl, rfl, hm, rfl, hG⟩ := hrel
      by_cases hm16 : m < 16
      ·have hmz : (m : Int) < 16 := by omega
       have hmke : (125 : Int) + (k : Int) % 125 = mk2 k := by unfold mk2; omega
       have hbl : (zs.getD k [] ++ List.replicate m (mk2 k)).length + 1 ≤ 1000000000 := by rw [List.length_append, List.length_replicate]; omega
       go_wp2_with (at_builtin; refine wp_grow rfl _ _ rfl _ _ rfl (hG.after ((Keep.refl _ _).alloc _)).own _ 1 1 [mk2 k] rfl (rd_1 _ _ (mk2_bd k)) hbl ?_; intro l' wy ho' hw'; obtain ⟨al', nl', cl', rfl⟩ := ho'.sl)
       have hG' := (hG.after ((Keep.refl _ _).alloc (.cells #[.int .u8 (mk2 k)] 5))).step ho' rfl hw'
       have er : List.replicate m (mk2 k) ++ [mk2 k] = List.replicate (m + 1) (mk2 k) := by rw [List.replicate_succ']
       rw [er] at hG'
       go_roundw
       case rel => exact ⟨m + 1, _, _, _, by go_num, by omega, rfl, hG'⟩
       case measure => simp [intOf]; omega
      ·have hmz : ¬ (m : Int) < 16 := by omega
       have hme : m = 16 := by omega
       subst hme
       have hpn : ¬ (Value.slice ak nk ck).ownBlock = some p := fun e => hFr.not hCr (by decide) (by decide) (.inr (mem_of hvk e))
       have hC1 := hCr.keep hG.keep hpn
       have hF1 := hFr.turn hnd hvk hG.keep (fun b _ e => e) hG.old
       have hO1 := hOr.keep hG.keep (fun b e e2 => by
        rcases e with e | e
        ·exact row_apart hOr.row hFr.ows b (mem_of hvk e2) e
        ·obtain ⟨u, hu, hb⟩ := mem_blks.1 e
         obtain ⟨j, hj⟩ := List.mem_iff_getElem?.1 hu
         have h1 := HOF.out.apart hnd hvk hj hb e2
         have h2 := (List.getElem?_eq_some_iff.1 hj).1
         have h3 := HOL.out
         omega)
       have hx2 := hC1.c2
       have hK1 := hK.andThen hG.keep (fun i _ e => hBf.1 i (mem_of hvk e))
       have hor : _ := hO1.row
       rw [HOL.out] at hor
       go_wp2_with (at_builtin; refine wp_row rfl _ _ rfl _ _ os rfl hor _ rfl hG.own.one (by omega) ?_; intro g3 cap3 w3 hown3 hk3 hp3; have hC3 := hC1.keep hk3 (fun e => hO1.not hC1 (by decide) (by decide) (.inl e)); have hx3 := hC3.c2; have hf3 := hC3.fz 2)
       have hk3' : Keep (fun b => (Value.slice a2 k c2).ownBlock = some b) wr w3 := hk3
       have hp3' : (Value.slice a2 k c2).ownBlock = some g3 ∨ wr.heap.size ≤ g3 := hp3
       have hF3 := hF1.keep hk3' (fun b e e2 => absurd (hGe b e2) (by have := hFl b e; omega))
       have hO3 := hO1.snoc hG.own (by rw [HOL.out]; exact hown3) hk3'
       rw [← outs_succ] at hO3
       have hkp : Keep (fun b => b = p) w3 (w3.setCell ⟨p, 2, none⟩ (.slice (some ⟨g3, 0, none⟩) (k + 1) cap3)) := Keep.setCell (S := fun b => b = p) (Keep.refl _ _) rfl _
       have hC4 := hC3.set2 (.slice (some ⟨g3, 0, none⟩) (k + 1) cap3)
       have hF4 := hF3.keep hkp (fun b e h => hF3.not hC3 (by decide) (by decide) (by rw [← h]; exact e))
       have hO4 := hO3.keep hkp (fun b e h => hO3.not hC3 (by decide) (by decide) (by rw [← h]; exact e))
       have hK4 := (hK1.andThen hk3' (fun i hi e => absurd (hGe i e) (by omega))).andThen hkp (fun i _ e => by rw [e]; exact hBp)
       have hOF4 : Ofs fs (os ++ [.slice al nl cl]) := HOF.out.snoc (by rw [HOL.out]; exact hvk) (fun b e => (hG.blk b e).imp id (fun h hm => absurd (hlf b hm) (by have := hK.size; omega)))
       have hs1 := hK1.size
       go_roundw
       case rel => exact ⟨k + 1, _, _, _, by go_num, by omega, hC4, hF4, hO4, (by show (os ++ [_]).length = k + 1; rw [List.length_append, HOL.out]; rfl), hOF4, (fun b e => by have e' : g3 = b := Option.some.inj e; subst e'; rcases hp3' with h | h; exact hGe _ h; omega), hK4⟩
       case measure => simp [intOf]; omega
    ·have hlz : ¬ (k : Int) < (fs.length : Int) := by omega
     have hkf : k = fs.length := by omega
     subst hkf
     have hN0 : ∀ b, (Value.slice none 0 0).ownBlock = some b → w.heap.size ≤ b := fun b e => by cases e
     have hN1 : ∀ b, (Value.slice none 0 0).ownBlock = some b → ¬ (Value.slice a2 fs.length c2).ownBlock = some b := fun b e => by cases e
     have hc2 := hCr.c2
     go_wp2_with (go_at_call 125; refine (look_any p N _ _ _ _ fs os zs (outs zs 16 fs.length) _ 16 _ hCr hFr hOr hf HOL.out HZ2.out (fun i hi => outs_get hi) (by omega)).mono ?_; rintro e wz ⟨rfl, hwz⟩; rw [hwz]; clear hwz)
     clear hc0 hlz hk hlt hc2
     go_loopw [8, 9, 10] (fun i _ _ wr => ∃ (k : Nat) (a3 : Option Addr) (c3 : Nat) (ms : List Value), i = .int .i64 k ∧ k ≤ fs.length ∧ BC wr p (.slice af fs.length cf) wv (.slice a2 fs.length c2) (.slice a3 k c3) N ∧ Half wr (.slice af fs.length cf) fs zs ∧ Half wr (.slice a2 fs.length c2) os (outs zs 16 fs.length) ∧ Half wr (.slice a3 k c3) ms (outs zs 700 k) ∧ Hid (ms.length = k) ∧ Hid (Ofs fs ms) ∧ (∀ b, (Value.slice a3 k c3).ownBlock = some b → w.heap.size ≤ b) ∧ (∀ b, (Value.slice a3 k c3).ownBlock = some b → ¬ (Value.slice a2 fs.length c2).ownBlock = some b) ∧ Keep BFx w wr) (fun i _ _ _ => fs.length - (intOf i).toNat)
     case atStart => exact ⟨0, none, 0, [], rfl, Nat.zero_le _, hCr, hFr, hOr, Half.nil _, rfl, Ofs.nil _, hN0, hN1, hK⟩
     case round =>
      clear hCr hFr hOr hK hN0 hN1
      obtain ⟨k, a3, c3, ms, rfl, hk, hCr, hFr, hOr, hMr, HML, HMF, hGm, hGo, hK⟩ := hrel
      have hc0 := hCr.c0
      by_cases hlt : k < fs.length
      ·have hlz : (k : Int) < (fs.length : Int) := by omega
       obtain ⟨gf, capf, ak, nk, ck, hv, hcell, hvk, hok, hnk, hrk⟩ := hFr.cell hlt
       cases hv
       have hzb := (HZ2.out k hlt).2
       clear hnk hrk
       have hM0 : wr.ownsRow wr.heap.size 5 1 (.slice none 0 0) 0 (bc (List.replicate 0 (mk2 k))) := World.ownsRow_nil _ _ _ _
       go_wp2
       go_loopw [9, 10] (fun m t wx => ∃ (c : Nat) (am : Option Addr) (cm : Nat), t = .int .i64 c ∧ c ≤ 700 ∧ m = .slice am c cm ∧ wx.ownsRow wr.heap.size 5 1 (.slice am c cm) c (bc (List.replicate c (mk2 k))) ∧ Below wr.heap.size wr wx) (fun _ t _ => 700 - (intOf t).toNat)
       case atStart => exact ⟨0, none, 0, rfl, Nat.zero_le _, rfl, hM0, Below.refl _ _⟩
       case round =>
        obtain ⟨c, am, cm, rfl, hc, rfl, hMo, hb⟩ := hrel
        by_cases hc7 : c < 700
        ·have hcz : (c : Int) < 700 := by omega
         have hmke : (125 : Int) + (k : Int) % 125 = mk2 k := by unfold mk2; omega
         go_wp2_with (at_builtin; refine wp_appK rfl _ _ rfl _ _ c _ rfl (hMo.alloc _) _ 1 1 [mk2 k] rfl (rd_1 _ _ (mk2_bd k)) (by omega) (by have := hb.size; simp; omega) ?_; intro v' wy ho' hgr' _; obtain ⟨am', cm', rfl⟩ := own_slO ho')
         have er : List.replicate c (mk2 k) ++ [mk2 k] = List.replicate (c + 1) (mk2 k) := by rw [List.replicate_succ']
         rw [er] at ho'
         have hb' : Below _ _ wy := (hb.alloc hb.size _).grown hgr' (by have := hb.size; simp; omega) (fun j e => (hMo.lt j e).1)
         go_roundw
         case rel => exact ⟨c + 1, _, _, by go_num, by omega, rfl, ho', hb'⟩
         case measure => simp [intOf]; omega
        ·have hcz : ¬ (c : Int) < 700 := by omega
         have hce : c = 700 := by omega
         subst hce
         go_upto_region 27 with fail
         have kX := (Keep.ofBelow (S := fun _ => False) hb).drew
         have hCB := hCr.keep kX (fun h => h)
         have hFB := hFr.keep kX (fun _ _ h => h)
         have hOB := hOr.keep kX (fun _ _ h => h)
         have hMB := hMr.keep kX (fun _ _ h => h)
         have hKB := hK.andThen kX (fun _ _ h => h.elim)
         have hKs := hK.size
         have hoB := hFB.ows.get hvk
         obtain ⟨_, _, hvm, hRm⟩ := Rd.ofOwn (own_drew hMo) (xs := List.replicate 700 (mk2 k)) (fun x hx => by rw [List.eq_of_mem_replicate hx]; exact mk2_bd k)
         cases hvm
         clear kX hcell hc0 hM0 hMo hCr hFr hOr hMr hc hc7 hcz hok
         refine wp_region_px (fun w' => w'.cell? ⟨p, 0, none⟩ = some (.slice (some ⟨gf, 0, none⟩) fs.length cf) ∧ w'.cell? ⟨gf, k, none⟩ = some (.slice ak nk ck)) 19 (by kernel_rfl) (by kernel_rfl) ?_
         generalize World.drew _ = WB at hCB hFB hOB hMB hKB hoB hRm ⊢
         have hSB : WB.cell? ⟨p, 0, none⟩ = some (.slice (some ⟨gf, 0, none⟩) fs.length cf) ∧ WB.cell? ⟨gf, k, none⟩ = some (.slice ak nk ck) := ⟨hCB.c0, hFB.cellAt hvk⟩
         obtain ⟨v13, W13, hrun13, ho13, hw13⟩ := run_grow (w := WB) 29 hoB hRm (by omega)
         obtain ⟨a13, n13, c13, rfl⟩ := ho13.sl
         have hk13 := hw13.keep
         have hpn : ¬ (Value.slice ak nk ck).ownBlock = some p := fun e => hFB.not hCB (by decide) (by decide) (.inr (mem_of hvk e))
         have hC13 := hCB.keep hk13 hpn
         have hF13 := hFB.grown hnd hvk hw13 ho13
         have e7 : List.replicate 700 (mk2 k) = List.replicate 16 (mk2 k) ++ List.replicate 684 (mk2 k) := by rw [List.replicate_append_replicate]
         have ho13' := ho13
         rw [e7] at ho13'
         have hO13 := hOB.beside HOF.out hnd hvk hoB (fun _ => outs_get hlt) hw13 (by omega) ho13'
         have hM13 := hMB.keep hk13 (fun b e e2 => by
          rcases e with e | e
          ·exact row_apart hMB.row hFB.ows b (mem_of hvk e2) e
          ·obtain ⟨u, hu, hb⟩ := mem_blks.1 e
           obtain ⟨j, hj⟩ := List.mem_iff_getElem?.1 hu
           have h1 := HMF.out.apart hnd hvk hj hb e2
           have h2 := (List.getElem?_eq_some_iff.1 hj).1
           have h3 := HML.out
           omega)
         have hK13 := hKB.andThen hk13 (fun i _ e => hBf.1 i (mem_of hvk e))
         have hbl13 : ∀ b, (Value.slice a13 n13 c13).ownBlock = some b → (Value.slice ak nk ck).ownBlock = some b ∨ b ∉ blks fs := fun b e => (hw13.blk b e).imp id (fun h hm => absurd (hlf b hm) (by have := hKB.size; omega))
         have hS13 : W13.cell? ⟨p, 0, none⟩ = some (.slice (some ⟨gf, 0, none⟩) fs.length cf) ∧ W13.cell? ⟨gf, k, none⟩ = some (.slice ak nk ck) := ⟨hC13.c0, hF13.cellAt hvk⟩
         have kA : Keep (fun _ => False) W13 (W13.alloc (.cells #[.slice a13 n13 c13] 29)) := (Keep.refl _ W13).alloc _
         have hC14 := hC13.keep kA (fun h => h)
         have hF14 := hF13.keep kA (fun _ _ h => h)
         have hO14 := hO13.keep kA (fun _ _ h => h)
         have hM14 := hM13.keep kA (fun _ _ h => h)
         have ho14 := ho13.keep kA (fun _ _ h => h)
         have hK14 := hK13.andThen kA (fun _ _ h => h.elim)
         have hb14 : (W13.alloc (.cells #[.slice a13 n13 c13] 29)).heap[W13.heap.size]? = some (.cells #[.slice a13 n13 c13] 29 (0, 0)) := heap_alloc_new _ _
         obtain ⟨W14, HW14⟩ : ∃ W14, Hid (W14 = W13.alloc (.cells #[.slice a13 n13 c13] 29)) := ⟨_, rfl⟩
         rw [← HW14.out] at hC14 hF14 hO14 hM14 ho14 hK14 hb14
         clear kA
         have hS14 : W14.cell? ⟨p, 0, none⟩ = some (.slice (some ⟨gf, 0, none⟩) fs.length cf) ∧ W14.cell? ⟨gf, k, none⟩ = some (.slice ak nk ck) := ⟨hC14.c0, hF14.cellAt hvk⟩
         have hmr := hM14.row
         rw [HML.out] at hmr
         obtain ⟨g15, cap15, W15, hrun15, ho15, hk15, hp15⟩ := run_row (w := W14) 30 hmr hb14 rfl (by omega)
         have hC15 := hC14.keep hk15 (fun e => hM14.not hC14 (by decide) (by decide) (.inl e))
         have hF15 := hF14.keep hk15 (fun b e e2 => absurd (hGm b e2) (by have := hFl b e; omega))
         have hO15 := hO14.keep hk15 (fun b e e2 => by
          rcases e with e | e
          ·exact hGo b e2 e
          ·exact row_apart hM14.row hO14.ows b e e2)
         have hM15 := hM14.snoc ho14 (by rw [HML.out]; exact ho15) hk15
         rw [← outs_succ] at hM15
         have hS15 : W15.cell? ⟨p, 0, none⟩ = some (.slice (some ⟨gf, 0, none⟩) fs.length cf) ∧ W15.cell? ⟨gf, k, none⟩ = some (.slice ak nk ck) := ⟨hC15.c0, hF15.cellAt hvk⟩
         have hx3 := hC15.c3
         have hx4 := hC15.fz 3
         have hkE : Keep (fun b => b = p) W15 (W15.setCell ⟨p, 3, none⟩ (.slice (some ⟨g15, 0, none⟩) (k + 1) cap15)) := Keep.setCell (S := fun b => b = p) (Keep.refl _ _) rfl _
         have hCE := hC15.set3 (.slice (some ⟨g15, 0, none⟩) (k + 1) cap15)
         have hFE := hF15.keep hkE (fun b e h => hF15.not hC15 (by decide) (by decide) (by rw [← h]; exact e))
         have hOE := hO15.keep hkE (fun b e h => hO15.not hC15 (by decide) (by decide) (by rw [← h]; exact e))
         have hME := hM15.keep hkE (fun b e h => hM15.not hC15 (by decide) (by decide) (by rw [← h]; exact e))
         have hKE := (hK14.andThen hk15 (fun i hi e => absurd (hGm i e) (by omega))).andThen hkE (fun i _ e => by rw [e]; exact hBp)
         have hSE : (W15.setCell ⟨p, 3, none⟩ (.slice (some ⟨g15, 0, none⟩) (k + 1) cap15)).cell? ⟨p, 0, none⟩ = some (.slice (some ⟨gf, 0, none⟩) fs.length cf) ∧ (W15.setCell ⟨p, 3, none⟩ (.slice (some ⟨g15, 0, none⟩) (k + 1) cap15)).cell? ⟨gf, k, none⟩ = some (.slice ak nk ck) := ⟨hCE.c0, hFE.cellAt hvk⟩
         have hMF : Ofs fs (ms ++ [.slice a13 n13 c13]) := HMF.out.snoc (by rw [HML.out]; exact hvk) hbl13
         have hO14l := hO14.lt
         have hs14 := hK14.size
         clear hw13 ho13 ho13' e7 hbl13 hF13 hO13 hM13 hK13 hk13 hFB hOB hMB hKB hoB hRm hF14 hM14 ho14 hK14 hmr hF15 hO15 hM15 hkE
         refine px_rd 0 ?v0 (by kernel_rfl) (fun _ _ d _ _ h => by cases d <;> exact h) (by kernel_rfl) hSB rfl rfl rfl (fun w' hS => ?h0) ?_
         case h0 => first | (go_simp; rfl) | go_simp
         simp only [lxa, lxb, lxc]
         refine px_rd 1 ?v1 (by kernel_rfl) (fun _ _ d _ _ h => by cases d <;> exact h) (by kernel_rfl) hSB rfl rfl rfl (fun w' hS => ?h1) ?_
         case h1 => first | (go_simp; rfl) | go_simp
         simp only [lxa, lxb, lxc]
         refine px_rd 2 ?v2 (by kernel_rfl) (fun _ _ d _ _ h => by cases d <;> exact h) (by kernel_rfl) hSB rfl rfl rfl (fun w' hS => ?h2) ?_
         case h2 => first | (go_simp; rfl) | go_simp
         simp only [lxa, lxb, lxc]
         refine px_rd 3 ?v3 (by kernel_rfl) (fun _ _ d _ _ h => by cases d <;> exact h) (by kernel_rfl) hSB rfl rfl rfl (fun w' hS => ?h3) ?_
         case h3 => first | (go_simp; rfl) | go_simp
         simp only [lxa, lxb, lxc]
         refine px_rd 5 ?v5 (by kernel_rfl) (fun _ _ d _ _ h => by cases d <;> exact h) (by kernel_rfl) hSB rfl rfl rfl (fun w' hS => ?h5) ?_
         case h5 => first | (go_simp; rfl) | go_simp
         simp only [lxa, lxb, lxc]
         refine px_rd 6 ?v6 (by kernel_rfl) (fun _ _ d _ _ h => by cases d <;> exact h) (by kernel_rfl) hSB rfl rfl rfl (fun w' hS => ?h6) ?_
         case h6 => first | (go_simp; rfl) | go_simp
         simp only [lxa, lxb, lxc]
         refine px_rd 7 ?v7 (by kernel_rfl) (fun _ _ d _ _ h => by cases d <;> exact h) (by kernel_rfl) hSB rfl rfl rfl (fun w' hS => ?h7) ?_
         case h7 => first | (go_simp; rfl) | go_simp
         simp only [lxa, lxb, lxc]
         refine px_rd 8 (.slice (some ⟨gf, 0, none⟩) fs.length cf) (by kernel_rfl) (fun _ _ d _ _ h => by cases d <;> exact h) (by kernel_rfl) hSB rfl rfl rfl (fun w' hS => ?h8) ?_
         case h8 => have hq := hS.1; first | (go_simp; rfl) | go_simp
         simp only [lxa, lxb, lxc]
         refine px_rd 9 ?v9 (by kernel_rfl) (fun _ _ d _ _ h => by cases d <;> exact h) (by kernel_rfl) hSB rfl rfl rfl (fun w' hS => ?h9) ?_
         case h9 => first | (go_simp; rfl) | go_simp
         simp only [lxa, lxb, lxc]
         refine px_rd 10 (.pointer (some ⟨gf, k, none⟩)) (by kernel_rfl) (fun _ _ d _ _ h => by cases d <;> exact h) (by kernel_rfl) hSB rfl rfl rfl (fun w' hS => ?h10) ?_
         case h10 => first | (go_simp; rfl) | go_simp
         simp only [lxa, lxb, lxc]
         refine px_rd 11 (.slice ak nk ck) (by kernel_rfl) (fun _ _ d _ _ h => by cases d <;> exact h) (by kernel_rfl) hSB rfl rfl rfl (fun w' hS => ?h11) ?_
         case h11 => have hq := hS.2; first | (go_simp; rfl) | go_simp
         simp only [lxa, lxb, lxc]
         refine px_rd 12 ?v12 (by kernel_rfl) (fun _ _ d _ _ h => by cases d <;> exact h) (by kernel_rfl) hSB rfl rfl rfl (fun w' hS => ?h12) ?_
         case h12 => first | (go_simp; rfl) | go_simp
         simp only [lxa, lxb, lxc]
         refine px_via 4 ?ll ?aa W14 (fun tail => ?br) ?tl
         case br =>
          refine px_two 4 13 (by kernel_rfl) ?pA ?pB
          case pA =>
           refine stepP_val (w' := WB) (.slice a3 k c3) rfl rfl rfl ?eA4 hSB ?_
           case eA4 => have hq := hCB.c3; first | (go_simp; rfl) | go_simp
           simp only [lxa, lxb, lxc]
           refine px_one 13 (by kernel_rfl) ?_
           refine stepP_val (w' := W13) (.slice a13 n13 c13) rfl rfl rfl ?eA13 hS13 ?_
           case eA13 => exact run_app_op' rfl rfl rfl hrun13
           simp only [lxa, lxb, lxc]
           refine px_one 14 (by kernel_rfl) ?_
           refine stepP_val (w' := W14) (.slice (some ⟨W13.heap.size, 0, none⟩) 1 1) rfl rfl rfl ?eA14 hS14 ?_
           case eA14 => first | (rw [HW14.out]; go_simp; rfl) | (rw [HW14.out]; go_simp)
           simp only [lxa, lxb, lxc]
           exact tail
          case pB =>
           refine stepP_val (w' := W13) (.slice a13 n13 c13) rfl rfl rfl ?eB13 hS13 ?_
           case eB13 => exact run_app_op' rfl rfl rfl hrun13
           simp only [lxa, lxb, lxc]
           refine px_two 4 14 (by kernel_rfl) ?pC ?pD
           case pC =>
            refine stepP_val (w' := W13) (.slice a3 k c3) rfl rfl rfl ?eC4 hS13 ?_
            case eC4 => have hq := hC13.c3; first | (go_simp; rfl) | go_simp
            simp only [lxa, lxb, lxc]
            refine px_one 14 (by kernel_rfl) ?_
            refine stepP_val (w' := W14) (.slice (some ⟨W13.heap.size, 0, none⟩) 1 1) rfl rfl rfl ?eC14 hS14 ?_
            case eC14 => first | (rw [HW14.out]; go_simp; rfl) | (rw [HW14.out]; go_simp)
            simp only [lxa, lxb, lxc]
            exact tail
           case pD =>
            refine stepP_val (w' := W14) (.slice (some ⟨W13.heap.size, 0, none⟩) 1 1) rfl rfl rfl ?eD14 hS14 ?_
            case eD14 => first | (rw [HW14.out]; go_simp; rfl) | (rw [HW14.out]; go_simp)
            simp only [lxa, lxb, lxc]
            refine px_one 4 (by kernel_rfl) ?_
            refine stepP_val (w' := W14) (.slice a3 k c3) rfl rfl rfl ?eD4 hS14 ?_
            case eD4 => have hq := hC14.c3; first | (go_simp; rfl) | go_simp
            simp only [lxa, lxb, lxc]
            exact tail
         case tl =>
          refine px_one 15 (by kernel_rfl) ?_
          refine stepP_val (w' := W15) (.slice (some ⟨g15, 0, none⟩) (k + 1) cap15) rfl rfl rfl ?eT15 hS15 ?_
          case eT15 => exact run_app_op' rfl rfl rfl hrun15
          simp only [lxa, lxb, lxc]
          refine px_rd 16 ?v16 (by kernel_rfl) (fun _ _ d _ _ h => by cases d <;> exact h) (by kernel_rfl) hS15 rfl rfl rfl (fun w' hS => ?h16) ?_
          case h16 => first | (go_simp; rfl) | go_simp
          simp only [lxa, lxb, lxc]
          refine px_rd 17 ?v17 (by kernel_rfl) (fun _ _ d _ _ h => by cases d <;> exact h) (by kernel_rfl) hS15 rfl rfl rfl (fun w' hS => ?h17) ?_
          case h17 => first | (go_simp; rfl) | go_simp
          simp only [lxa, lxb, lxc]
          refine px_one 18 (by kernel_rfl) ?_
          refine stepP_skip (w' := W15.setCell ⟨p, 3, none⟩ (.slice (some ⟨g15, 0, none⟩) (k + 1) cap15)) rfl rfl rfl ?e18 hSE ?_
          case e18 => first | (go_simp; rfl) | go_simp
          refine px_nil (by kernel_rfl) ?_
          go_wp2
          go_roundw
          case rel => exact ⟨k + 1, _, _, _, by go_num, by omega, hCE, hFE, hOE, hME, (by show (ms ++ [_]).length = k + 1; rw [List.length_append, HML.out]; rfl), hMF, (fun b e => by have e' : g15 = b := Option.some.inj e; subst e'; rcases hp15 with h | h; exact hGm _ h; omega), (fun b e e2 => by have e' : g15 = b := Option.some.inj e; subst e'; rcases hp15 with h | h; exact hGo _ h e2; exact absurd (hO14l _ (.inl e2)) (by omega)), hKE⟩
          case measure => simp [intOf]; omega
      ·have hlz : ¬ (k : Int) < (fs.length : Int) := by omega
       have hkf : k = fs.length := by omega
       subst hkf
       have hc2 := hCr.c2
       have hc3 := hCr.c3
       have t1 : True := trivial
       go_wp2_with (first
        | (go_at_call 125; clear t1; refine (look_any p N _ _ _ _ fs ms zs (outs zs 700 fs.length) _ 700 _ hCr hFr hMr hf HML.out HZ2.out (fun i hi => outs_get hi) (by omega)).mono ?_; rintro e wz ⟨rfl, hwz⟩; rw [hwz]; clear hwz)
        | (go_at_call 125; refine (look_any p N _ _ _ _ fs os zs (outs zs 16 fs.length) _ 16 _ hCr hFr hOr hf HOL.out HZ2.out (fun i hi => outs_get hi) (by omega)).mono ?_; rintro e wz ⟨rfl, hwz⟩; rw [hwz]; clear hwz))
       go_ret
       exact ⟨rfl, hK.mono hBf.2⟩
theorem bookClose_any (p N : Nat) (fv wv : Value) (fs ws : List Value) (ys : List (List Int)) (w : World) (hB : BookAt w p fv wv fs ws ys N) :
  Calls Tryz.prog 36 #[.pointer (some ⟨p, 0, none⟩)] w fun e w' => e = .returned (.bool true) ∧ Keep (BF p fv wv fs ws) w w' := by
 have hf : fs.length ≤ 2000000 := by have := hB.len; have := hB.most; omega
 go_enter Tryz.func36, Tryz.ntmps36
 go_wp2_with (first
  | (go_at_call 84; refine (stands_any p N fv wv _ _ fs ws ys _ hB.cell hB.two hf).mono ?_; rintro e w1 ⟨rfl, d, hw1⟩; have hk1 : Keep (fun _ => False) w w1 := (by rw [hw1]; exact keep_drewN (Keep.refl _ _) d); clear hw1)
  | (go_at_call 85; refine (close_any p N fv wv fs ws ys _ (hB.keep hk1 (fun _ _ h => h))).mono ?_; rintro e w2 ⟨rfl, hk2⟩))
 go_ret
 exact ⟨rfl, (hk1.mono (fun _ h => h.elim)).trans hk2⟩
end Go.Proofs.YtikkieaokfailaaGreatDoor

namespace Go.Proofs.YtikkieaokfailaaGreatDoor
open Go.RowKit
def LBq (Fp : Nat → Prop) (pn pk m : Nat) (W : World) : Prop :=
 ∃ (lv mv : Value) (ls ms : List Value) (xs : List (List Int)) (fv wv : Value) (fs ws : List Value) (ys : List (List Int)) (N : Nat),
  LoanAt W pn lv mv ls ms xs ∧ BookAt W pk fv wv fs ws ys N ∧ (∀ j, LF pn lv mv ls ms j → ¬ BF pk fv wv fs ws j) ∧ (∀ j, LF pn lv mv ls ms j → Fp j) ∧ (∀ j, BF pk fv wv fs ws j → Fp j) ∧ ls.length ≤ m ∧ (∀ x ∈ xs, x.length ≤ 3000)
theorem LBq.keep {Fp S : Nat → Prop} {pn pk m : Nat} {W W' : World} (h : LBq Fp pn pk m W) (k : Keep S W W') (hS : ∀ j, Fp j → ¬ S j) : LBq Fp pn pk m W' := by
 obtain ⟨lv, mv, ls, ms, xs, fv, wv, fs, ws, ys, N, h1, h2, h3, h4, h5, h6, h7⟩ := h
 exact ⟨lv, mv, ls, ms, xs, fv, wv, fs, ws, ys, N, h1.keep k (fun j q => hS j (h4 j q)), h2.keep k (fun j q => hS j (h5 j q)), h3, h4, h5, h6, h7⟩
theorem LBq.ext {Fp : Nat → Prop} {pn pk m : Nat} {W W' : World} (h : LBq Fp pn pk m W) (hx : Below W.heap.size W W') : LBq Fp pn pk m W' :=
 h.keep (Keep.ofBelow (S := fun _ => False) hx) (fun _ _ q => q)
theorem LBq.mono {Fp Fq : Nat → Prop} {pn pk m : Nat} {W : World} (h : LBq Fp pn pk m W) (hm : ∀ j, j < W.heap.size → Fp j → Fq j) : LBq Fq pn pk m W := by
 obtain ⟨lv, mv, ls, ms, xs, fv, wv, fs, ws, ys, N, h1, h2, h3, h4, h5, h6, h7⟩ := h
 exact ⟨lv, mv, ls, ms, xs, fv, wv, fs, ws, ys, N, h1, h2, h3, fun j q => hm j (h1.lt j q) (h4 j q), fun j q => hm j (h2.lt j q) (h5 j q), h6, h7⟩
theorem takeQ {Fp : Nat → Prop} {pn pk m : Nat} {W : World} (h : LBq Fp pn pk m W) (u : Value) (x : List Int) (hu : Ow W u x) (hn : ∀ k, u.ownBlock = some k → ¬ Fp k) (hl : x.length ≤ 100000) :
  Calls Tryz.prog 34 #[.pointer (some ⟨pk, 0, none⟩), u] W fun e W' => ∃ r, e = .returned r ∧ LBq (fun j => Fp j ∨ u.ownBlock = some j ∨ (W.heap.size ≤ j ∧ j < W'.heap.size)) pn pk m W' ∧ Keep Fp W W' := by
 obtain ⟨lv, mv, ls, ms, xs, fv, wv, fs, ws, zs, N, h1, h2, h3, h4, h5, h6, h7⟩ := h
 refine (bookBytes_any pk N fv wv fs ws zs u x W h2 hu (fun j e s => hn j e (h5 j s)) (by omega)).mono ?_
 rintro e W' ⟨r, fv', wv', fs', ws', ys', N', rfl, hb', hf', hk'⟩
 refine ⟨r, rfl, ⟨_, _, _, _, _, _, _, _, _, _, _, h1.keep hk' (fun j q s => h3 j q s), hb', fun j e s => ?_, fun j e => .inl (h4 j e), fun j e => ?_, h6, h7⟩, hk'.mono h5⟩
 ·rcases hf' j s with s | s | s
  ·exact h3 j e s
  ·exact hn j s (h4 j e)
  ·have := h1.lt j e; omega
 ·rcases hf' j e with e' | e' | e'
  ·exact .inl (h5 j e')
  ·exact .inr (.inl e')
  ·exact .inr (.inr ⟨e', hb'.lt j e⟩)
theorem backQ {Fp : Nat → Prop} {pn pk m : Nat} {W : World} (h : LBq Fp pn pk m W) (hm : m ≤ 1000) :
  Calls Tryz.prog 35 #[.pointer (some ⟨pn, 0, none⟩)] W fun e W' => e = .returned (.bool true) ∧ Keep Fp W W' ∧ ∃ fv wv fs ws ys N, BookAt W' pk fv wv fs ws ys N ∧ ∀ j, BF pk fv wv fs ws j → Fp j := by
 obtain ⟨lv, mv, ls, ms, xs, fv, wv, fs, ws, zs, N, h1, h2, h3, h4, h5, h6, h7⟩ := h
 refine (loanBack_any pn lv mv ls ms xs W h1 (by omega) (fun x hx => by have := h7 x hx; omega)).mono ?_
 rintro e W' ⟨rfl, hk⟩
 exact ⟨rfl, hk.mono h4, _, _, _, _, _, _, h2.keep hk (fun j e s => h3 j s e), h5⟩
theorem LBq.start (w : World) : LBq (fun j => j = w.heap.size ∨ j = w.heap.size + 1) w.heap.size (w.heap.size + 1) 0 ((w.alloc (.cells #[.slice none 0 0, .slice none 0 0] 73)).alloc (.cells #[.slice none 0 0, .slice none 0 0, .slice none 0 0, .slice none 0 0, .int .i64 0] 76)) := by
 have hL := (LoanAt.new w).keep (S := fun _ => False) ((Keep.refl _ _).alloc (.cells #[.slice none 0 0, .slice none 0 0, .slice none 0 0, .slice none 0 0, .int .i64 0] 76)) (fun _ _ h => h)
 have hK := BookAt.new (w.alloc (.cells #[.slice none 0 0, .slice none 0 0] 73))
 have e1 : (w.alloc (.cells #[.slice none 0 0, .slice none 0 0] 73)).heap.size = w.heap.size + 1 := by simp
 rw [e1] at hK
 refine ⟨_, _, _, _, _, _, _, _, _, _, _, hL, hK, ?_, ?_, ?_, by simp, fun x hx => by cases hx⟩
 ·rintro j (rfl | (e | e) | (e | e)) f
  ·rcases f with f | (f | f) | (f | f) <;> first | (cases f; done) | omega
  all_goals cases e
 ·rintro j (rfl | (e | e) | (e | e)) <;> first | (cases e; done) | omega
 ·rintro j (rfl | (e | e) | (e | e)) <;> first | (cases e; done) | omega
end Go.Proofs.YtikkieaokfailaaGreatDoor

namespace Go.Proofs.YtikkieaokfailaaGreatDoor
open Go.RowKit Go.Joins
structure Lt where
 g : Nat
 n : Nat
 cap : Nat
 ys : List Int
def Lt.v (t : Lt) : Value := .slice (some ⟨t.g, 0, none⟩) t.n t.cap
def LBt (Fp : Nat → Prop) (pn pk m : Nat) (T : List Lt) (W : World) : Prop :=
 ∃ (lv mv : Value) (ls ms : List Value) (xs : List (List Int)) (fv wv : Value) (fs ws : List Value) (ys : List (List Int)) (N : Nat),
  LoanAt W pn lv mv ls ms xs ∧ BookAt W pk fv wv fs ws ys N ∧ (∀ j, LF pn lv mv ls ms j → ¬ BF pk fv wv fs ws j) ∧ (∀ j, LF pn lv mv ls ms j → Fp j) ∧ (∀ j, BF pk fv wv fs ws j → Fp j) ∧ ls.length ≤ m ∧ (∀ x ∈ xs, x.length ≤ 3000) ∧ ∀ t ∈ T, ∃ j : Nat, ls[j]? = some (Value.slice (some ⟨t.g, 0, none⟩) (t.n + 5) t.cap) ∧ xs[j]? = some (t.ys ++ marks5) ∧ t.ys.length = t.n
section
variable {Fp Fq S : Nat → Prop} {pn pk m : Nat} {T : List Lt} {W W' : World}
theorem LBt.keep (h : LBt Fp pn pk m T W) (k : Keep S W W') (hS : ∀ j, Fp j → ¬ S j) : LBt Fp pn pk m T W' := by
 obtain ⟨lv, mv, ls, ms, xs, fv, wv, fs, ws, ys, N, h1, h2, h3, h4, h5, h6, h7, h8⟩ := h
 exact ⟨lv, mv, ls, ms, xs, fv, wv, fs, ws, ys, N, h1.keep k (fun j q => hS j (h4 j q)), h2.keep k (fun j q => hS j (h5 j q)), h3, h4, h5, h6, h7, h8⟩
theorem LBt.q (h : LBt Fp pn pk m T W) : LBq Fp pn pk m W := by
 obtain ⟨lv, mv, ls, ms, xs, fv, wv, fs, ws, ys, N, h1, h2, h3, h4, h5, h6, h7, h8⟩ := h
 exact ⟨lv, mv, ls, ms, xs, fv, wv, fs, ws, ys, N, h1, h2, h3, h4, h5, h6, h7⟩
theorem LBq.t (h : LBq Fp pn pk m W) : LBt Fp pn pk m [] W := by
 obtain ⟨lv, mv, ls, ms, xs, fv, wv, fs, ws, ys, N, h1, h2, h3, h4, h5, h6, h7⟩ := h
 exact ⟨lv, mv, ls, ms, xs, fv, wv, fs, ws, ys, N, h1, h2, h3, h4, h5, h6, h7, fun t ht => by cases ht⟩
theorem LBt.rd (h : LBt Fp pn pk m T W) {t : Lt} (ht : t ∈ T) : Rd W (some ⟨t.g, 0, none⟩) t.n t.cap t.ys ∧ Fp t.g := by
 obtain ⟨lv, mv, ls, ms, xs, fv, wv, fs, ws, ys, N, h1, h2, h3, h4, h5, h6, h7, h8⟩ := h
 obtain ⟨j, e1, e2, e3⟩ := h8 t ht
 have o := h1.two.f.ows.get e1
 rw [show xs.getD j [] = t.ys ++ marks5 by simp [List.getD, e2]] at o
 obtain ⟨a, c, e, r⟩ := o.rd
 injection e with e4 e5 e6
 subst e4 e6
 refine ⟨?_, h4 _ (Or.inr (Or.inl (Or.inr (mem_of e1 rfl))))⟩
 have r2 := r.takeK (k := t.n) (by rw [List.length_append]; omega)
 rwa [List.take_append_of_le_length (by omega), List.take_of_length_le (by omega)] at r2
theorem lendT (h : LBt Fp pn pk m T W) (hm : m ≤ 1000) (a : Option Addr) (n c : Nat) (ys : List Int) (hR : Rd W a n c ys) (hn : n ≤ 2000) :
  Calls Tryz.prog 31 #[.pointer (some ⟨pn, 0, none⟩), .slice a n c] W fun e W' => ∃ g cap, e = .returned (.slice (some ⟨g, 0, none⟩) n cap) ∧ LBt (fun j => Fp j ∨ (W.heap.size ≤ j ∧ j < W'.heap.size)) pn pk (m + 1) (T ++ [⟨g, n, cap, ys⟩]) W' ∧ Keep Fp W W' := by
 obtain ⟨lv, mv, ls, ms, xs, fv, wv, fs, ws, zs, N, h1, h2, h3, h4, h5, h6, h7, h8⟩ := h
 have hml : ms.length = ls.length := h1.two.g.ows.len.trans h1.two.f.ows.len.symm
 have hxl : ls.length = xs.length := h1.two.f.ows.len
 have hyl := hR.len
 refine (loanBytes_any pn lv mv ls ms xs a n c ys W h1 hR (by omega) (by omega) (by omega)).mono ?_
 rintro e W' ⟨g, cap, lv', mv', ml, rfl, L', hr', hg, hf, hk⟩
 refine ⟨g, cap, rfl, ⟨_, _, _, _, _, _, _, _, _, _, _, L', h2.keep hk (fun j e s => h3 j s e), fun j e s => ?_, fun j e => ?_, fun j e => .inl (h5 j e), by rw [List.length_append]; simp; omega, fun x hx => ?_, fun t ht => ?_⟩, hk.mono h4⟩
 ·rcases hf j e with e | e
  ·exact h3 j e s
  ·have := h2.lt j s; omega
 ·rcases hf j e with e' | e'
  ·exact .inl (h4 j e')
  ·exact .inr ⟨e', L'.lt j e⟩
 ·rcases List.mem_append.1 hx with hx | hx
  ·exact h7 x hx
  ·simp at hx
   rw [hx, List.length_append]
   have : marks5.length = 5 := rfl
   omega
 ·rcases List.mem_append.1 ht with ht | ht
  ·obtain ⟨j, e1, e2, e3⟩ := h8 t ht
   have hj : j < ls.length := (List.getElem?_eq_some_iff.1 e1).1
   exact ⟨j, by rw [List.getElem?_append_left hj]; exact e1, by rw [List.getElem?_append_left (by omega)]; exact e2, e3⟩
  ·obtain rfl : t = ⟨g, n, cap, ys⟩ := by simpa using ht
   exact ⟨ls.length, by simp, by rw [hxl]; simp, hyl⟩
end
structure Sx (B : Nat) (w : World) (sb d rd pn m : Nat) (T : List Lt) (Z : Nat → Prop) (pl pr : Value) (l : Lg) (k : Dk) (l' : Lg) (k' : Dk) : Prop where
 ex : ∃ (P R Q : Nat → Prop), w.heap[sb]? = some (.cells #[.pointer (some ⟨d, 0, none⟩), pl, .pointer (some ⟨rd, 0, none⟩), pr] 51 (0, 0)) ∧ PH w P d pl (some l) k ∧ RH w R rd pr (some l') k' ∧ LBt Q pn (pn + 1) m T w ∧ (∀ i, P i → ¬ R i ∧ ¬ Q i) ∧ (∀ i, R i → ¬ Q i) ∧ (¬ P sb ∧ ¬ R sb ∧ ¬ Q sb ∧ ¬ Z sb) ∧ (∀ i, Z i → ¬ P i ∧ ¬ R i ∧ ¬ Q i ∧ i < w.heap.size) ∧ (∀ i, P i ∨ R i ∨ Q i → B ≤ i ∧ i < w.heap.size)
 sn : B ≤ sb
 pw : Pw w
 pB : 0 < B
def Sk (B : Nat) (Z : Nat → Prop) (i : Nat) : Prop := B ≤ i ∧ ¬ Z i
section
variable {B : Nat} {w w' : World} {sb d rd pn m : Nat} {T : List Lt} {Z S : Nat → Prop} {pl pr : Value} {l l' : Lg} {k k' : Dk}
theorem Sx.sz (h : Sx B w sb d rd pn m T Z pl pr l k l' k') : sb < w.heap.size ∧ B ≤ w.heap.size := by
 obtain ⟨P, R, Q, h1, _⟩ := h.ex
 have := (Array.getElem?_eq_some_iff.1 h1).1
 have := h.sn
 exact ⟨by omega, by omega⟩
theorem Sx.blk (h : Sx B w sb d rd pn m T Z pl pr l k l' k') : w.heap[sb]? = some (.cells #[.pointer (some ⟨d, 0, none⟩), pl, .pointer (some ⟨rd, 0, none⟩), pr] 51 (0, 0)) := by
 obtain ⟨P, R, Q, h1, _⟩ := h.ex
 exact h1
theorem Sx.zed {Z' : Nat → Prop} (h : Sx B w sb d rd pn m T Z pl pr l k l' k') (hz : ∀ i, Z' i → Z i) : Sx B w sb d rd pn m T Z' pl pr l k l' k' := by
 obtain ⟨P, R, Q, h1, h2, h3, h4, h5, h6, ⟨x1, x2, x3, x4⟩, h8, h9⟩ := h.ex
 exact ⟨⟨P, R, Q, h1, h2, h3, h4, h5, h6, ⟨x1, x2, x3, fun e => x4 (hz _ e)⟩, fun i hi => h8 i (hz i hi), h9⟩, h.sn, h.pw, h.pB⟩
theorem Sx.more (h : Sx B w sb d rd pn m T Z pl pr l k l' k') (hk : Keep S w w') (hS : ∀ i, S i → Z i ∧ B ≤ i) : Sx B w' sb d rd pn m T (fun i => Z i ∨ (w.heap.size ≤ i ∧ i < w'.heap.size)) pl pr l k l' k' := by
 have hsz := h.sz.1
 have hg : ¬ S 0 := fun e => by have := (hS _ e).2; have := h.pB; omega
 obtain ⟨P, R, Q, h1, h2, h3, h4, h5, h6, ⟨x1, x2, x3, x4⟩, h8, h9⟩ := h.ex
 have hs := hk.size
 refine ⟨⟨P, R, Q, box_keep h1 hk (fun e => x4 (hS _ e).1), h2.keep hk (fun i hi e => (h8 i (hS i e).1).1 hi) hg, h3.keep hk (fun i hi e => (h8 i (hS i e).1).2.1 hi), h4.keep hk (fun i hi e => (h8 i (hS i e).1).2.2.1 hi), h5, h6, ⟨x1, x2, x3, fun e => ?_⟩, fun i hi => ?_, fun i hi => ⟨(h9 i hi).1, Nat.lt_of_lt_of_le (h9 i hi).2 hs⟩⟩, h.sn, h.pw.keep hk hg, h.pB⟩
 ·rcases e with e | e
  ·exact x4 e
  ·omega
 ·rcases hi with e | e
  ·obtain ⟨a1, a2, a3, a4⟩ := h8 i e
   exact ⟨a1, a2, a3, by omega⟩
  ·exact ⟨fun q => by have := (h9 i (Or.inl q)).2; omega, fun q => by have := (h9 i (Or.inr (Or.inl q))).2; omega, fun q => by have := (h9 i (Or.inr (Or.inr q))).2; omega, e.2⟩
theorem Sx.keep (h : Sx B w sb d rd pn m T Z pl pr l k l' k') (hk : Keep S w w') (hS : ∀ i, S i → Z i ∧ B ≤ i) : Sx B w' sb d rd pn m T Z pl pr l k l' k' := (h.more hk hS).zed fun _ e => Or.inl e
theorem Sx.below (h : Sx B w sb d rd pn m T Z pl pr l k l' k') (hb : Below w.heap.size w w') : Sx B w' sb d rd pn m T Z pl pr l k l' k' := h.keep (S := fun _ => False) (Keep.ofBelow hb) (fun _ e => e.elim)
theorem Sx.tr (h : Sx B w sb d rd pn m T Z pl pr l k l' k') {t : Lt} (ht : t ∈ T) : Rd w (some ⟨t.g, 0, none⟩) t.n t.cap t.ys := by
 obtain ⟨P, R, Q, _, _, _, h4, _⟩ := h.ex
 exact (h4.rd ht).1
theorem Sx.up (h : Sx B w sb d rd pn m T Z pl pr l k l' k') {m' : Nat} (hm : m ≤ m') : Sx B w sb d rd pn m' T Z pl pr l k l' k' := by
 obtain ⟨P, R, Q, h1, h2, h3, ⟨lv, mv, ls, ms, xs, fv, wv, fs, ws, ys, N, b1, b2, b3, b4, b5, b6, b7, b8⟩, h5⟩ := h.ex
 exact ⟨⟨P, R, Q, h1, h2, h3, ⟨lv, mv, ls, ms, xs, fv, wv, fs, ws, ys, N, b1, b2, b3, b4, b5, Nat.le_trans b6 hm, b7, b8⟩, h5⟩, h.sn, h.pw, h.pB⟩
theorem Sx.zlt (h : Sx B w sb d rd pn m T Z pl pr l k l' k') {i : Nat} (hi : Z i) : i < w.heap.size := by
 obtain ⟨P, R, Q, _, _, _, _, _, _, _, h8, _⟩ := h.ex
 exact (h8 i hi).2.2.2
theorem Sx.tlt (h : Sx B w sb d rd pn m T Z pl pr l k l' k') {t : Lt} (ht : t ∈ T) : t.g < w.heap.size := by
 obtain ⟨P, R, Q, _, _, _, h4, _, _, _, _, h9⟩ := h.ex
 exact (h9 _ (Or.inr (Or.inr (h4.rd ht).2))).2
theorem Sx.hr (h : Sx B w sb d rd pn m T Z pl pr l k l' k') : Rise k.fs := by
 obtain ⟨P, R, Q, _, ⟨F, _, hD, _⟩, _⟩ := h.ex
 exact hD.good.rise
theorem Sx.log (h : Sx B w sb d rd pn m T Z pl pr l k l' k') : ∃ F H lb, pl = .pointer (some ⟨lb, 0, none⟩) ∧ LogAt w F H lb d l k ∧ (∀ i, F i ∨ H i ∨ i = lb → B ≤ i ∧ i < w.heap.size ∧ ¬ Z i ∧ ∀ t ∈ T, t.g ≠ i) ∧ ∀ l2 k2 w', Lgp w F H lb d l2 k2 w' → Sx B w' sb d rd pn m T Z pl pr l2 k2 l' k' ∧ Keep (Sk B Z) w w' := by
 have hsz := h.sz.1
 obtain ⟨P, R, Q, h1, h2, h3, h4, h5, h6, ⟨x1, x2, x3, x4⟩, h8, h9⟩ := h.ex
 have hsn := h.sn
 have hpB := h.pB
 obtain ⟨F, H, lb, rfl, y1, y2, y3⟩ := h2.log (by omega)
 refine ⟨F, H, lb, rfl, y2, fun i hi => ?_, fun l2 k2 w' hp => ?_⟩
 ·have hPi := y1 i hi
  have a := h9 i (Or.inl hPi)
  exact ⟨a.1, a.2, fun z => (h8 i z).1 hPi, fun t ht e => (h5 i hPi).2 (e ▸ (h4.rd ht).2)⟩
 ·obtain ⟨P', a1, a2, a3, a4⟩ := y3 l2 k2 w' hp
  have hs := a2.size
  have hg : ¬ P 0 := fun e => by have := (h9 _ (Or.inl e)).1; omega
  have hn : ∀ i, i < w.heap.size → ¬ P i → ¬ P' i := fun i q1 q2 q3 => (a3 i q3).elim q2 (fun q4 => by omega)
  refine ⟨⟨⟨P', R, Q, box_keep h1 a2 x1, a1, h3.keep a2 (fun i hi e => (h5 i e).1 hi), h4.keep a2 (fun i hi e => (h5 i e).2 hi), fun i hi => ?_, h6, ⟨hn _ hsz x1, x2, x3, x4⟩, fun i hi => ?_, fun i hi => ?_⟩, hsn, h.pw.keep a2 hg, hpB⟩, a2.mono fun i hi => ⟨(h9 i (Or.inl hi)).1, fun z => (h8 i z).1 hi⟩⟩
  ·rcases a3 i hi with e | e
   ·exact h5 i e
   ·exact ⟨fun q => by have := (h9 i (Or.inr (Or.inl q))).2; omega, fun q => by have := (h9 i (Or.inr (Or.inr q))).2; omega⟩
  ·obtain ⟨q1, q2, q3, q4⟩ := h8 i hi
   exact ⟨hn i q4 q1, q2, q3, by omega⟩
  ·rcases hi with hi | hi
   ·refine ⟨?_, a4 i hi⟩
    rcases a3 i hi with e | e
    ·exact (h9 i (Or.inl e)).1
    ·omega
   ·have := h9 i (Or.inr hi)
    omega
theorem Sx.rlog (h : Sx B w sb d rd pn m T Z pl pr l k l' k') : ∃ G H rl, pr = .pointer (some ⟨rl, 0, none⟩) ∧ RLogAt w G H rl rd l' k' ∧ (∀ i, G i ∨ H i ∨ i = rl → B ≤ i ∧ i < w.heap.size ∧ ¬ Z i ∧ ∀ t ∈ T, t.g ≠ i) ∧ ∀ l2 k2 w', Rgp w G H rl rd l2 k2 w' → Sx B w' sb d rd pn m T Z pl pr l k l2 k2 ∧ Keep (Sk B Z) w w' := by
 have hsz := h.sz.1
 obtain ⟨P, R, Q, h1, h2, h3, h4, h5, h6, ⟨x1, x2, x3, x4⟩, h8, h9⟩ := h.ex
 have hsn := h.sn
 have hpB := h.pB
 obtain ⟨G, H, rl, rfl, y1, y2, y3⟩ := h3.log
 refine ⟨G, H, rl, rfl, y2, fun i hi => ?_, fun l2 k2 w' hp => ?_⟩
 ·have hRi := y1 i hi
  have a := h9 i (Or.inr (Or.inl hRi))
  exact ⟨a.1, a.2, fun z => (h8 i z).2.1 hRi, fun t ht e => h6 i hRi (e ▸ (h4.rd ht).2)⟩
 ·obtain ⟨R', a1, a2, a3, a4⟩ := y3 l2 k2 w' hp
  have hs := a2.size
  have hg : ¬ R 0 := fun e => by have := (h9 _ (Or.inr (Or.inl e))).1; omega
  have hn : ∀ i, i < w.heap.size → ¬ R i → ¬ R' i := fun i q1 q2 q3 => (a3 i q3).elim q2 (fun q4 => by omega)
  refine ⟨⟨⟨P, R', Q, box_keep h1 a2 x2, h2.keep a2 (fun i hi e => (h5 i hi).1 e) hg, a1, h4.keep a2 (fun i hi e => h6 i e hi), fun i hi => ⟨hn i (h9 i (Or.inl hi)).2 (h5 i hi).1, (h5 i hi).2⟩, fun i hi => ?_, ⟨x1, hn _ hsz x2, x3, x4⟩, fun i hi => ?_, fun i hi => ?_⟩, hsn, h.pw.keep a2 hg, hpB⟩, a2.mono fun i hi => ⟨(h9 i (Or.inr (Or.inl hi))).1, fun z => (h8 i z).2.1 hi⟩⟩
  ·rcases a3 i hi with e | e
   ·exact h6 i e
   ·exact fun q => by have := (h9 i (Or.inr (Or.inr q))).2; omega
  ·obtain ⟨q1, q2, q3, q4⟩ := h8 i hi
   exact ⟨q1, hn i q4 q2, q3, by omega⟩
  ·rcases hi with hi | hi | hi
   ·have := h9 i (Or.inl hi); omega
   ·refine ⟨?_, a4 i hi⟩
    rcases a3 i hi with e | e
    ·exact (h9 i (Or.inr (Or.inl e))).1
    ·omega
   ·have := h9 i (Or.inr (Or.inr hi)); omega
theorem Sx.lend (h : Sx B w sb d rd pn m T Z pl pr l k l' k') (hm : m ≤ 1000) (a : Option Addr) (n c : Nat) (ys : List Int) (hR : Rd w a n c ys) (hn : n ≤ 2000) :
  Calls Tryz.prog 31 #[.pointer (some ⟨pn, 0, none⟩), .slice a n c] w fun e w' => ∃ g cap, e = .returned (.slice (some ⟨g, 0, none⟩) n cap) ∧ Sx B w' sb d rd pn (m + 1) (T ++ [⟨g, n, cap, ys⟩]) Z pl pr l k l' k' ∧ Keep (Sk B Z) w w' := by
 have hsz := h.sz
 obtain ⟨P, R, Q, h1, h2, h3, h4, h5, h6, ⟨x1, x2, x3, x4⟩, h8, h9⟩ := h.ex
 have hsn := h.sn
 have hpB := h.pB
 refine (lendT h4 hm a n c ys hR hn).mono ?_
 rintro e w' ⟨g, cap, rfl, hL, hk⟩
 have hs := hk.size
 have hg : ¬ Q 0 := fun e => by have := (h9 _ (Or.inr (Or.inr e))).1; omega
 refine ⟨g, cap, rfl, ⟨⟨P, R, _, box_keep h1 hk x3, h2.keep hk (fun i hi e => (h5 i hi).2 e) hg, h3.keep hk (fun i hi e => h6 i hi e), hL, fun i hi => ⟨(h5 i hi).1, fun q => ?_⟩, fun i hi q => ?_, ⟨x1, x2, fun q => ?_, x4⟩, fun i hi => ?_, fun i hi => ?_⟩, hsn, h.pw.keep hk hg, hpB⟩, hk.mono fun i hi => ⟨(h9 i (Or.inr (Or.inr hi))).1, fun z => (h8 i z).2.2.1 hi⟩⟩
 ·rcases q with q | q
  ·exact (h5 i hi).2 q
  ·have := (h9 i (Or.inl hi)).2; omega
 ·rcases q with q | q
  ·exact h6 i hi q
  ·have := (h9 i (Or.inr (Or.inl hi))).2; omega
 ·rcases q with q | q
  ·exact x3 q
  ·omega
 ·obtain ⟨q1, q2, q3, q4⟩ := h8 i hi
  exact ⟨q1, q2, fun q => q.elim q3 (fun q => by omega), by omega⟩
 ·rcases hi with hi | hi | hi | hi
  ·have := h9 i (Or.inl hi); omega
  ·have := h9 i (Or.inr (Or.inl hi)); omega
  ·have := h9 i (Or.inr (Or.inr hi)); omega
  ·omega
theorem Sx.take (h : Sx B w sb d rd pn m T Z pl pr l k l' k') (u : Value) (x : List Int) (hu : Ow w u x) (hz : ∀ i, u.ownBlock = some i → Z i ∧ B ≤ i) (hl : x.length ≤ 100000) :
  Calls Tryz.prog 34 #[.pointer (some ⟨pn + 1, 0, none⟩), u] w fun e w' => ∃ r, e = .returned r ∧ Sx B w' sb d rd pn m [] (fun _ => False) pl pr l k l' k' ∧ Below B w w' := by
 have hsz := h.sz
 obtain ⟨P, R, Q, h1, h2, h3, h4, h5, h6, ⟨x1, x2, x3, x4⟩, h8, h9⟩ := h.ex
 have hsn := h.sn
 have hpB := h.pB
 refine (takeQ h4.q u x hu (fun i e q => (h8 i (hz i e).1).2.2.1 q) hl).mono ?_
 rintro e w' ⟨r, rfl, hL, hk⟩
 have hs := hk.size
 have hg : ¬ Q 0 := fun e => by have := (h9 _ (Or.inr (Or.inr e))).1; omega
 refine ⟨r, rfl, ⟨⟨P, R, _, box_keep h1 hk x3, h2.keep hk (fun i hi e => (h5 i hi).2 e) hg, h3.keep hk (fun i hi e => h6 i hi e), hL.t, fun i hi => ⟨(h5 i hi).1, fun q => ?_⟩, fun i hi q => ?_, ⟨x1, x2, fun q => ?_, fun e => e⟩, fun i hi => hi.elim, fun i hi => ?_⟩, hsn, h.pw.keep hk hg, hpB⟩, hk.below hsz.2 fun i hi => (h9 i (Or.inr (Or.inr hi))).1⟩
 ·rcases q with q | q | q
  ·exact (h5 i hi).2 q
  ·exact (h8 i (hz i q).1).1 hi
  ·have := (h9 i (Or.inl hi)).2; omega
 ·rcases q with q | q | q
  ·exact h6 i hi q
  ·exact (h8 i (hz i q).1).2.1 hi
  ·have := (h9 i (Or.inr (Or.inl hi))).2; omega
 ·rcases q with q | q | q
  ·exact x3 q
  ·exact x4 (hz _ q).1
  ·omega
 ·rcases hi with hi | hi | hi | hi | hi
  ·have := h9 i (Or.inl hi); omega
  ·have := h9 i (Or.inr (Or.inl hi)); omega
  ·have := h9 i (Or.inr (Or.inr hi)); omega
  ·have := hz i hi; have := (h8 i (hz i hi).1).2.2.2; omega
  ·omega
theorem Sx.rrd (h : Sx B w sb d rd pn m T Z pl pr l k l' k') {a : Option Addr} {N c : Nat} {rs : List (List Int)} (ho : w.ownsRow 0 29 1 (.slice a N c) N (T.map Lt.v)) (hT : T.map Lt.ys = rs) (hl : T.length = N) (hN : N ≤ 1000) :
  RRd w a N rs ∧ ∀ S : Nat → Prop, (∀ t ∈ T, ¬ S t.g) → (∀ g, (Value.slice a N c).ownBlock = some g → ¬ S g) → RNot w a N S := by
 have hc : 0 < N → ∃ g, a = some ⟨g, 0, none⟩ ∧ ∀ j, j < N → ∃ t, T[j]? = some t ∧ w.cell? ⟨g, j, none⟩ = some t.v := fun h0 => by
  rcases ho.2 with ⟨_, h9⟩ | ⟨g, cap, cur, h9, _⟩
  ·omega
  ·injection h9 with h9
   subst h9
   refine ⟨g, rfl, fun j hj => ?_⟩
   have hj2 : T[j]? = some T[j] := List.getElem?_eq_getElem (by omega)
   have hm : (T.map Lt.v)[j]? = some (Lt.v T[j]) := by rw [List.getElem?_map, hj2]; rfl
   have hcc := ho.cells (g := g) rfl j _ hm
   rw [add_flat, Nat.zero_add] at hcc
   exact ⟨_, hj2, hcc⟩
 refine ⟨⟨by rw [← hT, List.length_map]; exact hl, by omega, fun h0 => ?_⟩, fun S hS hg => ⟨fun ad e => ?_, fun b off e j hj aj nj cj hcj ad ea => ?_⟩⟩
 ·obtain ⟨g, e, hj⟩ := hc h0
  refine ⟨g, 0, e, fun j hjn => ?_⟩
  obtain ⟨t, h1, h2⟩ := hj j hjn
  refine ⟨_, _, _, by rw [Nat.zero_add]; exact h2, ?_⟩
  have : rs.getD j [] = t.ys := by rw [← hT, List.getD_eq_getElem?_getD, List.getElem?_map, h1]; rfl
  rw [this]
  exact h.tr (List.mem_of_getElem? h1)
 ·by_cases h0 : 0 < N
  ·obtain ⟨g, e2, _⟩ := hc h0
   rw [e2] at e
   injection e with e
   subst e
   exact hg g (by rw [e2]; rfl)
  ·rcases ho.2 with ⟨h9, _⟩ | ⟨g, cap, cur, h9, _⟩
   ·injection h9 with h9
    rw [h9] at e
    cases e
   ·injection h9 with h9
    rw [h9] at e
    injection e with e
    subst e
    exact hg g (by rw [h9]; rfl)
 ·obtain ⟨g, e2, hq⟩ := hc (by omega)
  rw [e2] at e
  injection e with e
  injection e with e3 e4
  subst e3 e4
  obtain ⟨t, h1, h2⟩ := hq j hj
  rw [Nat.zero_add, h2] at hcj
  injection hcj with hcj
  injection hcj with hcj
  subst hcj
  injection ea with ea
  subst ea
  exact hS t (List.mem_of_getElem? h1)
theorem Sx.back (h : Sx B w sb d rd pn m T Z pl pr l k l k) (hm : m ≤ 1000) :
  Calls Tryz.prog 35 #[.pointer (some ⟨pn, 0, none⟩)] w fun e w' => e = .returned (.bool true) ∧ Below B w w' ∧ ∃ (Q : Nat → Prop) (fv wv : Value) (fs ws : List Value) (ys : List (List Int)) (N : Nat), BookAt w' (pn + 1) fv wv fs ws ys N ∧ (∀ j, BF (pn + 1) fv wv fs ws j → Q j) ∧ ∀ w2, Keep Q w' w2 → Sd B w2 sb d rd (some l) k ∧ Below B w' w2 := by
 have hsz := h.sz
 obtain ⟨P, R, Q, h1, h2, h3, h4, h5, h6, ⟨x1, x2, x3, x4⟩, h8, h9⟩ := h.ex
 have hsn := h.sn
 have hpB := h.pB
 have hg : ¬ Q 0 := fun e => by have := (h9 _ (Or.inr (Or.inr e))).1; omega
 refine (backQ h4.q hm).mono ?_
 rintro e w' ⟨rfl, hk, fv, wv, fs, ws, ys, N, hB, hF⟩
 have hs := hk.size
 refine ⟨rfl, hk.below hsz.2 fun i hi => (h9 i (Or.inr (Or.inr hi))).1, Q, fv, wv, fs, ws, ys, N, hB, hF, fun w2 hk2 => ?_⟩
 have hkk := hk.trans hk2
 have hs2 := hk2.size
 exact ⟨⟨⟨P, R, pl, pr, box_keep h1 hkk x3, h2.keep hkk (fun i hi e => (h5 i hi).2 e) hg, h3.keep hkk (fun i hi e => h6 i hi e), fun i hi => (h5 i hi).1, x1, x2, fun i hi => ⟨(h9 i (hi.elim Or.inl (fun e => Or.inr (Or.inl e)))).1, Nat.lt_of_lt_of_le (h9 i (hi.elim Or.inl (fun e => Or.inr (Or.inl e)))).2 hkk.size⟩⟩, hsn, h.pw.keep hkk hg, hpB⟩, hk2.below (by omega) fun i hi => (h9 i (Or.inr (Or.inr hi))).1⟩
theorem Sd.sx (h : Sd B w sb d rd (some l) k) (hB : B ≤ w.heap.size) : ∃ pl pr, Sx B ((w.alloc (.cells #[.slice none 0 0, .slice none 0 0] 73)).alloc (.cells #[.slice none 0 0, .slice none 0 0, .slice none 0 0, .slice none 0 0, .int .i64 0] 76)) sb d rd w.heap.size 0 [] (fun _ => False) pl pr l k l k := by
 obtain ⟨P, R, pl, pr, h1, h2, h3, h4, h5, h6, h7⟩ := h.ex
 have hb : Below w.heap.size w ((w.alloc (.cells #[.slice none 0 0, .slice none 0 0] 73)).alloc (.cells #[.slice none 0 0, .slice none 0 0, .slice none 0 0, .slice none 0 0, .int .i64 0] 76)) := ((Below.refl _ _).alloc (Nat.le_refl _) _).alloc (by simp) _
 have hsz : ((w.alloc (.cells #[.slice none 0 0, .slice none 0 0] 73)).alloc (.cells #[.slice none 0 0, .slice none 0 0, .slice none 0 0, .slice none 0 0, .int .i64 0] 76)).heap.size = w.heap.size + 2 := by simp
 have b0 : Keep (fun _ => False) w _ := Keep.ofBelow hb
 have hlt := (Array.getElem?_eq_some_iff.1 h1).1
 refine ⟨pl, pr, ⟨P, R, _, box_below h1 hb, h2.keep b0 (fun _ _ e => e) (fun e => e), h3.keep b0 (fun _ _ e => e), (LBq.start w).t, fun i hi => ⟨h4 i hi, fun q => ?_⟩, fun i hi q => ?_, ⟨h5, h6, fun q => ?_, fun e => e⟩, fun i hi => hi.elim, fun i hi => ?_⟩, h.sn, h.pw.keep b0 (fun e => e), h.pB⟩
 ·have := (h7 i (Or.inl hi)).2; omega
 ·have := (h7 i (Or.inr hi)).2; omega
 ·omega
 ·rw [hsz]
  rcases hi with hi | hi | hi
  ·have := h7 i (Or.inl hi); omega
  ·have := h7 i (Or.inr hi); omega
  ·omega
end
end Go.Proofs.YtikkieaokfailaaGreatDoor

namespace Go.Proofs.YtikkieaokfailaaGreatDoor
open Go.RowKit Go.Joins
def RcS (rs : List (List Int)) : Prop := ∀ r ∈ rs, r.length ≤ 200
theorem rcs_append {l : Lg} (h : RcS l.recs) (k : Dk) (xs : List Int) (hx : xs.length ≤ 200) : RcS (appendT l k xs).2.1.recs := by
 unfold appendT
 split
 ·exact h
 ·unfold appendL
  dsimp only
  split
  ·intro r hr
   rcases List.mem_append.1 hr with hr | hr
   ·exact h r hr
   ·rw [List.mem_singleton.1 hr]
    omega
  ·exact h
theorem rcs_rebase {l : Lg} (h : RcS l.recs) (k : Dk) (rs : List (List Int)) (hx : ∀ r ∈ rs, r.length ≤ 200) : RcS (rebaseT l k rs).2.1.recs := by
 unfold rebaseT
 split
 ·exact h
 ·split
  ·exact h
  ·obtain ⟨dn, e | e⟩ := rebase_cases l k rs
   ·rw [e]; exact h
   ·rw [e]; exact hx
structure Po (n : Nat) (l : Lg) (k : Dk) : Prop where
 fl : k.fs.length ≤ 30 + 14 * n
 st : k.steps ≤ 100 + 5300 * n
 lg : LgB n l
 rc : RcS l.recs
section
variable {n : Nat} {l : Lg} {k : Dk}
theorem Po.append (h : Po n l k) (hr : Rise k.fs) (xs : List Int) (hx : xs.length ≤ 200) : Po (n + 1) (appendT l k xs).2.1 (appendT l k xs).2.2 := by
 have hrc := rcs_append h.rc k xs hx
 obtain ⟨g1, g2, g3, g4, g5, g6⟩ := h.lg
 have t1 := (tw_append l k xs hr).2
 have t3 := z0_append g6 k xs
 have h3 := h.fl
 have h4 := h.st
 have l1 := lay_gr l.most l.ch (formL xs) l.dn k
 rw [formL_len] at l1
 have e : appendT l k xs = appendL l k xs := by unfold appendT; rw [if_neg (by omega)]
 rw [e] at t1 t3 hrc ⊢
 refine ⟨by omega, ?_, ⟨?_, ?_, ?_, g4, ?_, t3⟩, hrc⟩
 ·show (layL l.most l.ch (formL xs) l.dn k).2.2.2.steps ≤ _; omega
 ·show (layL l.most l.ch (formL xs) l.dn k).2.1.g < _; omega
 ·show (layL l.most l.ch (formL xs) l.dn k).2.1.cnt ≤ _; omega
 ·show (layL l.most l.ch (formL xs) l.dn k).2.1.size ≤ _; omega
 ·unfold appendL
  dsimp only
  split
  ·rw [List.length_append, List.length_singleton]; omega
  ·omega
theorem Po.rebase (h : Po n l k) (hn : n ≤ 200) (hr : Rise k.fs) (rs : List (List Int)) (hx : ∀ r ∈ rs, r.length ≤ 200) (hl : rs.length ≤ 12) : Po (n + 1) (rebaseT l k rs).2.1 (rebaseT l k rs).2.2 := by
 have hrc := rcs_rebase h.rc k rs hx
 have hlg := h.lg
 obtain ⟨g1, g2, g3, g4, g5, g6⟩ := h.lg
 have t1 := (tw_rebase l k rs hr).2
 have t3 := z0_rebase g6 k rs
 have h3 := h.fl
 have h4 := h.st
 have q1 := rebase_st l k rs
 refine ⟨by omega, ?_, ?_, hrc⟩
 ·unfold rebaseT
  split
  ·dsimp only; omega
  ·split
   ·dsimp only; omega
   ·omega
 ·unfold rebaseT at t3 ⊢
  split
  ·exact hlg.next
  ·split
   ·exact hlg.next
   ·rename_i b1 b2
    rw [if_neg b1, if_neg b2] at t3
    obtain ⟨dn, e | e⟩ := rebase_cases l k rs
    ·rw [e]; exact ⟨g1, by show l.ch.cnt ≤ _; omega, by show l.ch.size ≤ _; omega, g4, by show l.recs.length ≤ _; omega, g6⟩
    ·obtain ⟨_, _, a3, a4⟩ := layAll_gr l.most rs ⟨l.ch.g + 1, 0, 0, false⟩ l.dn k
     have a5 := layAll_sz l.most rs ⟨l.ch.g + 1, 0, 0, false⟩ l.dn k hx
     rw [e] at t3 ⊢
     dsimp only at a3 a4 a5
     exact ⟨by dsimp only; omega, by dsimp only; omega, by dsimp only; omega, g4, by dsimp only; omega, t3⟩
end
theorem own_open : ∃ l k, opI 100 (newK 8000) = (some l, k) ∧ Po 1 l k := by
 have h0 : (openL 100 (newK 8000)).1 = 0 := by kernel_rfl
 have hg := newK_good (room := 8000) (by omega)
 have t1 := (tw_open 100 (newK 8000) hg.rise).2
 obtain ⟨o1, o2, o3⟩ := open_gr 100 (newK 8000)
 obtain ⟨b1, b2, b3⟩ := open_bd 100 (newK 8000) hg.rise hg.rbd
 have u0 : used (newK 8000).fs = 0 := rfl
 have u1 : (newK 8000).fs.length = 0 := rfl
 have u2 : (newK 8000).steps = 0 := rfl
 refine ⟨(openL 100 (newK 8000)).2.1, (openL 100 (newK 8000)).2.2, ?_, ⟨by omega, by omega, ⟨b3, by omega, by omega, by omega, by omega, z0_open 100 (newK 8000)⟩, by rw [show (openL 100 (newK 8000)).2.1.recs = [] by kernel_rfl]; exact fun r hr => by cases hr⟩⟩
 unfold opI
 rw [if_neg (by omega)]
 show (opO 100 (newK 8000), (openL 100 (newK 8000)).2.2) = _
 unfold opO
 rw [if_pos h0]
end Go.Proofs.YtikkieaokfailaaGreatDoor

namespace Go.Proofs.YtikkieaokfailaaGreatDoor
open Go.RowKit Go.Joins
section
variable {g : Nat} {O : Nm → Option Fle} {k : Dk} {n : Nat} {B : Nat → List Int} {Z : Nat → Nat}
end
section
variable {g : Nat} {O : Nm → Option Fle} {m u : Nat} {c : Ch} {k : Dk} {all : List (List Int)}
end
end Go.Proofs.YtikkieaokfailaaGreatDoor

namespace Go.Proofs.YtikkieaokfailaaGreatDoor
open Go.RowKit Go.Joins
structure Gn (k : Dk) (g : Nat) (S : List (List (List Int))) : Prop where
 good : k.Good
 gl : 0 < g ∧ g < 18446744073709551616
 base : (g = 1 ∧ look k.fs sBase = none) ∨ look k.fs sBase = some ⟨baseL g, 12⟩
 yes : ∀ j, j < S.length → look k.fs (segN g (j + 1)) = some ⟨forms (S.getD j []), (forms (S.getD j [])).length⟩
 no : look k.fs (segN g (S.length + 1)) = none
 rl : ∀ t ∈ S, ∀ r ∈ t, r.length ≤ 1048576
 few : S.length ≤ 1000
theorem Gn.of {k k' : Dk} {g : Nat} {S : List (List (List Int))} (h : Gn k g S) (hg : k'.Good) (e : ∀ s, (s = sBase ∨ ∃ j, s = segN g (j + 1)) → look k'.fs s = look k.fs s) : Gn k' g S :=
 ⟨hg, h.gl, by rw [e sBase (Or.inl rfl)]; exact h.base, fun j hj => by rw [e _ (Or.inr ⟨j, rfl⟩)]; exact h.yes j hj, by rw [e _ (Or.inr ⟨_, rfl⟩)]; exact h.no, h.rl, h.few⟩
theorem Gn.rest {k : Dk} {g : Nat} {S : List (List (List Int))} (h : Gn k g S) (keep : List Int) (hg : (restK k keep).Good) : Gn (restK k keep) g S := by
 have hsome : ∀ s b, look k.fs s = some ⟨b, b.length⟩ → look (restL k.fs keep) s = some ⟨b, b.length⟩ := fun s b hs => by
  rcases look_restG k.fs keep s with ⟨e, _⟩ | ⟨f, x, q1, q2⟩
  ·rw [hs] at e; cases e
  ·rw [hs] at q1
   cases q1
   rw [q2, if_pos rfl]
 have hnone : ∀ s, look k.fs s = none → look (restL k.fs keep) s = none := fun s hs => by
  rcases look_restG k.fs keep s with ⟨_, e⟩ | ⟨f, x, q1, _⟩
  ·exact e
  ·rw [hs] at q1; cases q1
 refine ⟨hg, h.gl, ?_, fun j hj => hsome _ _ (h.yes j hj), hnone _ h.no, h.rl, h.few⟩
 rcases h.base with ⟨e1, e2⟩ | e
 ·exact Or.inl ⟨e1, hnone _ e2⟩
 ·refine Or.inr ?_
  have hl := baseL_len g
  have e' : look k.fs sBase = some ⟨baseL g, (baseL g).length⟩ := by rw [hl]; exact e
  have := hsome _ _ e'
  rw [hl] at this
  exact this
end Go.Proofs.YtikkieaokfailaaGreatDoor

namespace Go.Proofs.YtikkieaokfailaaGreatDoor
open Go.RowKit Go.Joins
end Go.Proofs.YtikkieaokfailaaGreatDoor

namespace Go.Proofs.YtikkieaokfailaaGreatDoor
open Go.ChangeShapes Go.WideShapes Go.ChangeAt Go.RowKit Go.Joins
def tw (xs : List (List Int)) : List (List Int) := (xs.take 12).map (List.take 200)
theorem tw_len (xs : List (List Int)) : (tw xs).length ≤ 12 := by unfold tw; rw [List.length_map, List.length_take]; omega
theorem tw_rl (xs : List (List Int)) : ∀ r ∈ tw xs, r.length ≤ 200 := fun r hr => by
 obtain ⟨x, _, rfl⟩ := List.mem_map.1 hr
 rw [List.length_take]
 omega
set_option maxHeartbeats 2000000 in
theorem twins_any (a : Option Addr) (n c : Nat) (xs : List (List Int)) (w : World) (hR : RRd w a n xs) :
  Calls Tryz.prog 28 #[.slice a n c] w fun e w' => ∃ v, e = .returned v ∧ RcA w' (fun i => w.heap.size ≤ i ∧ i < w'.heap.size) v (tw xs) ∧ Below w.heap.size w w' := by
 have Hn : Hid (xs.length = n) := hR.len
 have hnm := hR.most
 go_enter Tryz.func28, Tryz.ntmps28
 go_upto_region 3 with fail
 go_loopw [3, 4] (fun s3 s4 wr => ∃ (j : Nat) (v : Value), s3 = v ∧ s4 = .int .i64 j ∧ j ≤ n ∧ j ≤ 12 ∧ Hid (RcA wr (fun i => w.heap.size ≤ i ∧ i < wr.heap.size) v ((xs.take j).map (List.take 200))) ∧ Hid (Below w.heap.size w wr)) (fun _ s4 _ => 12 - (intOf s4).toNat)
 case atStart =>
  refine ⟨0, _, rfl, rfl, by omega, by omega, ?_, Below.refl _ _⟩
  show RcA _ _ _ ((xs.take 0).map _)
  rw [List.take_zero]
  exact rcA_nil _ _
 case round =>
  obtain ⟨j, v, rfl, rfl, hjn, hj12, HR, HB⟩ := hrel
  by_cases hlt : j < n ∧ j < 12
  ·have hcl : (j : Int) < (n : Int) := by omega
   have hcl12 : (j : Int) < 12 := by omega
   have hRr := hR.below HB.out
   obtain ⟨bb, off, rfl, hce⟩ := hRr.flat (by omega)
   obtain ⟨aj, nj, cj, hcj, hrj⟩ := hce j hlt.1
   clear hce hRr
   have hfew := few200O aj nj cj _ wr hrj
   have hbd := hrj.bytes.take 200
   obtain ⟨x, hx⟩ : ∃ x, xs[j]? = some x := ⟨_, List.getElem?_eq_getElem (by rw [Hn.out]; exact hlt.1)⟩
   have hxd : xs.getD j [] = x := by rw [List.getD_eq_getElem?_getD, hx]; rfl
   rw [hxd] at hfew hbd
   have HTk : Hid ((xs.take (j + 1)).map (List.take 200) = (xs.take j).map (List.take 200) ++ [x.take 200]) := by
    show _ = _
    rw [List.take_add_one, hx, List.map_append]
    rfl
   obtain ⟨⟨vs, ov, hvs⟩, hvo⟩ := HR.out
   have hlj : ((xs.take j).map (List.take 200)).length = j := by rw [List.length_map, List.length_take, Hn.out]; omega
   have HLj : Hid (((xs.take j).map (List.take 200)).length = j) := hlj
   have ovj := ov
   rw [hlj] at ovj
   obtain ⟨av, cv, hv⟩ := own_sl ovj
   subst hv
   obtain ⟨r, Hr⟩ : ∃ r, Hid (x.take 200 = r) := ⟨_, rfl⟩
   rw [Hr.out] at hfew hbd
   have HTk2 : Hid ((xs.take (j + 1)).map (List.take 200) = (xs.take j).map (List.take 200) ++ [r]) := by show _ = _; rw [HTk.out, Hr.out]
   clear hrj hx hxd hlj HTk
   go_wp2_with (first
    | (go_at_call 17; refine hfew.mono ?_; rintro e w5 ⟨a5, n5, c5, rfl, hn5, o5, hr5, hg5, hb5⟩; have ov5 := own_keep (S := fun _ => False) ovj (Keep.ofBelow hb5) (fun _ _ h => h))
    | (at_builtin; refine wp_appRow rfl (.tmp 15) (.tmp 21) rfl 0 (.slice av j cv) j vs rfl ov5 a5 n5 c5 rfl (by omega) (Nat.zero_le _) ?_; intro v6 w6 o6 hk6 hwh6; obtain ⟨a6, c6, rfl⟩ := own_sl o6))
   have h0s := HB.out.size
   have h5s := hb5.size
   have h6s := hk6.size
   have hlen := hr5.len
   have hB5 : Below w.heap.size w w5 := HB.out.trans (hb5.mono h0s)
   have hB6 : Below w.heap.size w w6 := hB5.trans (hk6.low hB5.size (fun i hi => (hvo i hi).1))
   have hR6 : RcA w6 (fun i => w.heap.size ≤ i ∧ i < w6.heap.size) (.slice a6 (j + 1) c6) ((xs.take j).map (List.take 200) ++ [r]) := by
    refine RcA.app (w := w5) (vs := vs) (v := .slice av j cv) (u := .slice a5 n5 c5) (by rw [HLj.out]; exact ov5) (fun i r hr => ?_) (by rw [HLj.out]; exact o6) hk6 (by rw [hlen]; exact own_weak o5 (Nat.zero_le _)) (fun g hg => ?_) hbd (fun g hg => ?_)
    ·obtain ⟨u2, m1, m2, m3, m4⟩ := hvs i r hr
     exact ⟨u2, m1, own_keep (S := fun _ => False) m2 (Keep.ofBelow hb5) (fun _ _ h => h), fun g hg => by have := m3 g hg; exact ⟨this.1, by omega⟩, m4⟩
    ·have := o5.lt g hg
     exact ⟨by omega, by omega⟩
    ·rcases hwh6 with h9 | ⟨g9, h9, h10⟩
     ·have := hvo g (by rw [← h9]; exact hg)
      exact ⟨this.1, by omega⟩
     ·rw [h9] at hg
      injection hg with hg
      subst hg
      refine ⟨by omega, ?_⟩
      obtain ⟨cur, e⟩ := own_blkT o6 h9
      exact (Array.getElem?_eq_some_iff.1 e).1
   exact ⟨⟨j + 1, _, rfl, by go_num, by omega, by omega, by show RcA _ _ _ _; rw [HTk2.out]; exact hR6, hB6⟩, by simp [intOf]; omega⟩
  ·have hend : ¬ (j : Int) < (n : Int) ∨ ((j : Int) < (n : Int) ∧ ¬ (j : Int) < 12) := by omega
   have hR9 := HR.out
   have e12 : xs.take j = xs.take 12 := by
    by_cases h12 : j = 12
    ·rw [h12]
    ·rw [List.take_of_length_le (by rw [Hn.out]; omega), List.take_of_length_le (by rw [Hn.out]; omega)]
   rw [e12] at hR9
   clear e12
   rcases hend with hcl | ⟨hcl, hcl12⟩ <;> (
    go_wp2
    go_ret
    exact ⟨_, rfl, hR9, HB.out⟩)
theorem RcA.rrd {w : World} {A : Nat → Prop} {al : Option Addr} {N cl : Nat} {rs : List (List Int)} (h : RcA w A (.slice al N cl) rs) (hN : rs.length = N) (hm : N ≤ 9223372036854775807) : RRd w al N rs := by
 refine ⟨hN, hm, fun h0 => ?_⟩
 obtain ⟨g, _, _, _, e, _⟩ := h.cell hN 0 h0
 refine ⟨g, 0, e, fun j hj => ?_⟩
 obtain ⟨g', a, n, c, e', h1, h2⟩ := h.cell hN j hj
 rw [e] at e'
 injection e' with e'
 injection e' with e'
 subst e'
 rw [Nat.zero_add]
 exact ⟨a, n, c, h1, h2⟩
theorem RcA.rnot {w : World} {A S : Nat → Prop} {al : Option Addr} {N cl : Nat} {rs : List (List Int)} (h : RcA w A (.slice al N cl) rs) (hN : rs.length = N) (hS : ∀ i, A i → ¬ S i) : RNot w al N S := by
 obtain ⟨⟨vs, ov, hvs⟩, hvo⟩ := h
 refine ⟨fun ad e => ?_, fun b off e j hj aj nj cj hc ad ha => ?_⟩
 ·rcases ov.2 with ⟨e1, _⟩ | ⟨g, cap, cur, e1, _⟩
  ·injection e1 with e1
   rw [e1] at e; cases e
  ·injection e1 with e1
   rw [e1] at e
   injection e with e
   rw [← e]
   exact hS g (hvo g (by rw [e1]; rfl))
 ·rcases ov.2 with ⟨e1, _⟩ | ⟨g, cap, cur, e1, _⟩
  ·injection e1 with e1
   rw [e1] at e; cases e
  ·have e1' := e1
   injection e1 with e1
   rw [e1] at e
   injection e with e
   injection e with e2 e3
   subst e2 e3
   obtain ⟨r, hr⟩ : ∃ r, rs[j]? = some r := ⟨_, List.getElem?_eq_getElem (by omega)⟩
   obtain ⟨u, h1, h2, h3, h4⟩ := hvs j r hr
   have ov2 := ov
   rw [e1'] at ov2
   have hc2 := ov2.cells (g := g) rfl j _ h1
   rw [add_flat] at hc2
   rw [hc] at hc2
   injection hc2 with hc2
   subst hc2
   subst ha
   rcases h2.2 with ⟨e5, _⟩ | ⟨g2, cap2, cur2, e5, _⟩
   ·injection e5 with e5; cases e5
   ·have e6 := e5
    injection e5 with e5
    injection e5 with e5
    subst e5
    exact hS g2 (h3 g2 rfl)
end Go.Proofs.YtikkieaokfailaaGreatDoor

namespace Go.Proofs.YtikkieaokfailaaGreatDoor
open Go.RowKit Go.Joins
theorem put_drop_self {l : Fls} (hr : Rise l) {s : Nm} {f : Fle} (h : look l s = some f) : putL (dropL l s) s f = l := by
 induction l with
 | nil => cases h
 | cons q r ih =>
  obtain ⟨n, g⟩ := q
  unfold look at h
  have hnot : ∀ p ∈ r, p.1 ≠ n := fun p hp e => ltN_irrefl n (by have := hr.1 p hp; rw [e] at this; exact this)
  split at h
  ·rename_i e
   cases h
   subst e
   have hd : dropL r n = r := by
    have : ∀ (r : Fls), (∀ p ∈ r, p.1 ≠ n) → dropL r n = r := fun r => by
     induction r with
     | nil => intro _; rfl
     | cons y t iht =>
      intro hy
      obtain ⟨m, x⟩ := y
      unfold dropL
      rw [if_neg (hy (m, x) (List.mem_cons_self ..)), iht (fun p hp => hy p (List.mem_cons_of_mem _ hp))]
    exact this r hnot
   unfold dropL
   rw [if_pos rfl, hd]
   have h2 : ∀ x, r.head? = some x → ltN n x.1 := fun x hx => by
    cases r with
    | nil => cases hx
    | cons y t => cases hx; exact hr.1 _ (List.mem_cons_self ..)
   exact put_split (p := []) (q := r) (fun x hx => by cases hx) h2
  ·rename_i e
   have hs := look_mem h
   have hlt : ltN n s := hr.1 _ hs
   unfold dropL
   rw [if_neg e]
   unfold putL
   rw [if_neg (fun h => ltN_irrefl _ (ltN_trans h hlt)), if_neg e, ih hr.2 h]
theorem put_dropped {l : Fls} (hr : Rise l) (t : Nm) (f : Fle) : putL (dropL l t) t f = putL l t f := by
 induction l with
 | nil => rfl
 | cons q r ih =>
  obtain ⟨n, g⟩ := q
  have hid : ∀ (r : Fls), (∀ p ∈ r, ltN t p.1) → dropL r t = r := fun r => by
   induction r with
   | nil => intro _; rfl
   | cons y u iht =>
    intro hy
    obtain ⟨m, x⟩ := y
    have hm : ltN t m := hy (m, x) (List.mem_cons_self ..)
    unfold dropL
    rw [if_neg (fun e => by subst e; exact ltN_irrefl _ hm), iht (fun p hp => hy p (List.mem_cons_of_mem _ hp))]
  by_cases e : n = t
  ·subst e
   have h2 : dropL ((n, g) :: r) n = r := by
    unfold dropL
    rw [if_pos rfl, hid r hr.1]
   rw [h2]
   have h3 : putL ((n, g) :: r) n f = (n, f) :: r := by unfold putL; rw [if_neg (ltN_irrefl n), if_pos rfl]
   rw [h3]
   refine put_split (p := []) (q := r) (fun x hx => by cases hx) (fun x hx => ?_)
   cases r with
   | nil => cases hx
   | cons y u => cases hx; exact hr.1 _ (List.mem_cons_self ..)
  ·by_cases hlt : ltN t n
   ·have h2 : dropL ((n, g) :: r) t = (n, g) :: r := hid _ (fun p hp => by
     rcases List.mem_cons.1 hp with rfl | hp
     ·exact hlt
     ·exact ltN_trans hlt (hr.1 p hp))
    rw [h2]
   ·unfold dropL
    rw [if_neg e]
    unfold putL
    rw [if_neg hlt, if_neg e, if_neg hlt, if_neg e, ih hr.2]
def renE (k : Dk) (s t : Nm) : Nat := if k.off then 13 else if isNm t = false then 4 else if isNm s = false then 4 else if look k.fs s = none then 7 else 0
set_option maxRecDepth 100000 in
set_option maxHeartbeats 4000000 in
theorem refRename_no (rd : Nat) (G : Nat → Prop) (k : Dk) (s t : Nm) (hs : s.size ≤ 9223372036854775807) (ht : t.size ≤ 9223372036854775807) (w : World) (hR : RefAt w G rd k) (hne : renE k s t ≠ 0) :
  Calls Tryz.prog 80 #[.pointer (some ⟨rd, 0, none⟩), .string s, .string t] w fun e w' => e = .returned (.int .i64 (renE k s t : Int)) ∧ w' = w := by
 have hF := first_any rd G k s hs false w hR
 have hRt := right_any t ht w
 have hA := at_any rd G k s w hR
 unfold renE at hne ⊢
 unfold firstK at hF
 clear hR
 cases on : k.off with
 | true =>
  rw [on, if_pos rfl] at hF
  rw [if_pos rfl]
  clear hne on
  go_enter Tryz.func80, Tryz.ntmps80
  go_wp2_with (first
   | (go_at_call 55; refine hF.mono ?_; rintro e w1 ⟨rfl, hw1⟩; replace hw1 := hw1.symm; subst hw1))
  go_ret
  exact ⟨rfl, rfl⟩
 | false =>
  rw [on, if_neg (by decide)] at hF hne
  rw [if_neg (by decide)]
  clear on
  cases hn : isNm s with
  | false =>
   rw [hn, if_pos rfl] at hF
   have e : (if isNm t = false then 4 else if false = false then 4 else if look k.fs s = none then 7 else 0 : Nat) = 4 := by split <;> simp
   rw [e]
   clear hne hn e
   go_enter Tryz.func80, Tryz.ntmps80
   go_wp2_with (first
    | (go_at_call 55; refine hF.mono ?_; rintro e w1 ⟨rfl, hw1⟩; replace hw1 := hw1.symm; subst hw1))
   go_ret
   exact ⟨rfl, rfl⟩
  | true =>
   rw [hn, if_neg (by decide), if_neg (by simp)] at hF
   cases hn2 : isNm t with
   | false =>
    rw [if_pos rfl]
    rw [hn2] at hRt
    clear hne hn hn2
    go_enter Tryz.func80, Tryz.ntmps80
    go_wp2_with (first
     | (go_at_call 55; refine hF.mono ?_; rintro e w1 ⟨rfl, hw1⟩; replace hw1 := hw1.symm; subst hw1)
     | (go_at_call 93; refine hRt.mono ?_; rintro e w1 ⟨rfl, hw1⟩; replace hw1 := hw1.symm; subst hw1))
    go_ret
    exact ⟨rfl, rfl⟩
   | true =>
    rw [hn, hn2, if_neg (by decide), if_neg (by decide)] at hne
    rw [if_neg (by decide), if_neg (by decide)]
    rw [hn2] at hRt
    have hl : look k.fs s = none := Classical.byContradiction (fun h => hne (if_neg h))
    rw [if_pos hl]
    rw [ixL_none hl] at hA
    clear hne hn hn2 hl
    go_enter Tryz.func80, Tryz.ntmps80
    go_wp2_with (first
     | (go_at_call 55; refine hF.mono ?_; rintro e w1 ⟨rfl, hw1⟩; replace hw1 := hw1.symm; subst hw1)
     | (go_at_call 93; refine hRt.mono ?_; rintro e w1 ⟨rfl, hw1⟩; replace hw1 := hw1.symm; subst hw1)
     | (go_at_call 57; refine hA.mono ?_; rintro e w1 ⟨rfl, hw1⟩; replace hw1 := hw1.symm; subst hw1))
    go_ret
    exact ⟨rfl, rfl⟩
theorem renameK_no (k : Dk) (s t : Nm) (h : renE k s t ≠ 0) : renameK k s t = (renE k s t, k) := by
 unfold renE at h ⊢
 unfold renameK stepK
 cases on : k.off <;> cases h1 : isNm t <;> cases h2 : isNm s <;> cases h3 : look k.fs s <;> simp_all
theorem renameK_yes (k : Dk) (s t : Nm) (h : renE k s t = 0) : k.off = false ∧ isNm s = true ∧ isNm t = true ∧ ∃ f, look k.fs s = some f ∧ renameK k s t = if (passK k).1 ≠ 0 then passK k else (0, { (passK k).2 with fs := putL (dropL (passK k).2.fs s) t f }) := by
 unfold renE at h
 unfold renameK stepK
 cases on : k.off <;> cases h1 : isNm t <;> cases h2 : isNm s <;> cases h3 : look k.fs s <;> simp_all
end Go.Proofs.YtikkieaokfailaaGreatDoor

namespace Go.Proofs.YtikkieaokfailaaGreatDoor
open Go.RowKit Go.Joins
theorem RefAt.wide {w : World} {G G' : Nat → Prop} {rd : Nat} {k : Dk} (h : RefAt w G rd k) (hG : ∀ i, G i → G' i) (hl : ∀ i, G' i → i < w.heap.size) : RefAt w G' rd k := by
 obtain ⟨⟨v, sl, h1, h2, h3, h4, h5⟩, h6, h7, h8⟩ := h
 exact ⟨⟨v, sl, h1, h2, fun g hg => hG g (h3 g hg), fun x hx => ⟨(h4 x hx).1, fun g hg => hG g ((h4 x hx).2 g hg)⟩, h5⟩, hG _ h6, hl, h8⟩
set_option maxRecDepth 100000 in
set_option maxHeartbeats 8000000 in
theorem refRename_go (rd : Nat) (G : Nat → Prop) (k : Dk) (s t : Nm) (hs : s.size ≤ 9223372036854775807) (ht : t.size ≤ 9223372036854775807) (hst : k.steps < 1000000) (hfl : k.fs.length < 1000000) (w : World) (hR : RefAt w G rd k) (on : k.off = false) (hns : isNm s = true) (hnt : isNm t = true) (f : Fle) (hlk : look k.fs s = some f) :
  Calls Tryz.prog 80 #[.pointer (some ⟨rd, 0, none⟩), .string s, .string t] w fun e w' => ((passK k).1 ≠ 0 ∧ e = .returned (.int .i64 ((passK k).1 : Int)) ∧ Rp w G rd (passK k).2 w') ∨ ((passK k).1 = 0 ∧ e = .returned (.int .i64 0) ∧ Rp w G rd { (passK k).2 with fs := putL (dropL (passK k).2.fs s) t f } w') := by
 have hF := first_any rd G k s hs false w hR
 have hf0 : firstK k s false = 0 := by unfold firstK; rw [on, hns]; simp
 rw [hf0] at hF
 have hRt := right_any t ht w
 rw [hnt] at hRt
 obtain ⟨j, hj, hix0, hjl⟩ := ixL_some hlk 0
 rw [Nat.zero_add] at hj
 have hA := at_any rd G k s w hR
 rw [hj] at hA
 have hjn : ¬ (j : Int) < 0 := by omega
 have hP := power_any rd G k hst w hR
 have hpfs := pass_fs k
 have hgp := good_pass hR.good
 obtain ⟨P, HPe⟩ : ∃ P, Hid (passK k = P) := ⟨_, rfl⟩
 rw [HPe.out] at hP hpfs hgp ⊢
 obtain ⟨en, k1⟩ := P
 dsimp only at hP hpfs hgp ⊢
 have hlk1 : look k1.fs s = some f := by rw [hpfs]; exact hlk
 have hA1 := fun w G hR => at_any rd G k1 s w hR
 rw [show ixL k1.fs s 0 = (j : Int) by rw [hpfs]; exact hj] at hA1
 have hfl1 : k1.fs.length < 1000000 := by rw [hpfs]; exact hfl
 rw [← hpfs] at hix0 hjl
 have hix : Hid (k1.fs[j]? = some (s, f)) := hix0
 have Hpfs : Hid (k1.fs = k.fs) := hpfs
 have Hlk : Hid (look k1.fs s = some f) := hlk1
 clear HPe hix0 hj hlk hlk1 hpfs hf0
 by_cases hen : en = 0
 ·subst hen
  refine Calls.mono (R := fun e' w' => e' = Ending.returned (.int .i64 0) ∧ Rp w G rd { k1 with fs := putL (dropL k1.fs s) t f } w') ?_ (fun e' w' h => Or.inr ⟨rfl, h⟩)
  by_cases hst2 : s = t
  ·subst hst2
   have hsame : ({ k1 with fs := putL (dropL k1.fs s) s f } : Dk) = k1 := by rw [put_drop_self hgp.rise Hlk.out]
   rw [hsame]
   have hne := nm_eq s
   clear hsame
   go_enter Tryz.func80, Tryz.ntmps80
   go_wp2_with (first
    | (go_at_call 55; refine hF.mono ?_; rintro e w1 ⟨rfl, hw1⟩; replace hw1 := hw1.symm; subst hw1)
    | (go_at_call 93; refine hRt.mono ?_; rintro e w1 ⟨rfl, hw1⟩; replace hw1 := hw1.symm; subst hw1)
    | (go_at_call 57; refine hA.mono ?_; rintro e w1 ⟨rfl, hw1⟩; replace hw1 := hw1.symm; subst hw1)
    | (go_at_call 56; refine hP.mono ?_; rintro e w2 ⟨rfl, hRp⟩))
   go_ret
   exact ⟨rfl, hRp⟩
  ·have hne := nm_neq hst2
   have Hst : Hid (¬ s = t) := hst2
   have hgD1 := good_drop hgp s
   obtain ⟨kd, hkd⟩ : ∃ kd : Dk, kd = { k1 with fs := dropL k1.fs s } := ⟨_, rfl⟩
   rw [← hkd] at hgD1
   have hkdfs : kd.fs = dropL k1.fs s := by rw [hkd]
   have hgD2 := good_drop hgD1 t
   obtain ⟨ke, hke⟩ : ∃ ke : Dk, ke = { kd with fs := dropL kd.fs t } := ⟨_, rfl⟩
   rw [← hke] at hgD2
   have hkefs : ke.fs = dropL kd.fs t := by rw [hke]
   have hfin : ({ ke with fs := putL ke.fs t f } : Dk) = { k1 with fs := putL (dropL k1.fs s) t f } := by
    rw [hkefs, put_dropped hgD1.rise, hkdfs, hke, hkd]
   have hno : look ke.fs t = none := by rw [hkefs, look_drop, if_pos rfl]
   obtain ⟨_, hsf, hbd⟩ := look_good hgp Hlk.out
   have hgN : ({ ke with fs := putL ke.fs t f } : Dk).Good := by
    have h1 := used_drop k1.fs hgp.rise s
    rw [Hlk.out] at h1
    have h2 := used_put kd.fs hgD1.rise t f
    have h3 : lenO (some f) = f.b.length := rfl
    have h4 := hgp.used
    have h5 : kd.room = k1.room := by rw [hkd]
    rw [h3, ← hkdfs] at h1
    have h6 := good_put hgD1 hnt hsf hbd (by omega)
    have h7 : ({ kd with fs := putL kd.fs t f } : Dk) = { ke with fs := putL ke.fs t f } := by rw [hkefs, put_dropped hgD1.rise, hke]
    rw [← h7]
    exact h6
   have hflD : kd.fs.length < 1000000 := by rw [hkdfs]; exact Nat.lt_of_le_of_lt (len_drop _ _) hfl1
   have hflE : ke.fs.length < 1000000 := by rw [hkefs]; exact Nat.lt_of_le_of_lt (len_drop _ _) hflD
   have Hkd : Hid (kd = { k1 with fs := dropL k1.fs s }) := hkd
   have Hke : Hid (ke = { kd with fs := dropL kd.fs t }) := hke
   have Hfin : Hid (({ ke with fs := putL ke.fs t f } : Dk) = { k1 with fs := putL (dropL k1.fs s) t f }) := hfin
   clear hkd hke hkdfs hkefs hfin hst2
   go_enter Tryz.func80, Tryz.ntmps80
   go_upto_region 10 with (first
    | (go_at_call 55; refine hF.mono ?_; rintro e w1 ⟨rfl, hw1⟩; replace hw1 := hw1.symm; subst hw1)
    | (go_at_call 93; refine hRt.mono ?_; rintro e w1 ⟨rfl, hw1⟩; replace hw1 := hw1.symm; subst hw1)
    | (go_at_call 57; refine hA.mono ?_; rintro e w1 ⟨rfl, hw1⟩; replace hw1 := hw1.symm; subst hw1)
    | (go_at_call 56; refine hP.mono ?_; rintro e w2 ⟨rfl, G2, hR2, hk2, hG2⟩))
   refine wp_region_lx (fun w' => Below w2.drew.heap.size w2.drew w') [10] 11 (by kernel_rfl) (by kernel_rfl) ?_
   have hVX : Below w2.heap.size w2 w2.drew := (Below.refl _ _).drew
   have hRX := hR2.below hVX
   clear hA hF hP hRt hne hjn
   obtain ⟨g0, cap0, aj, cj, q0, hcap0, qs, q1, q2, hLi, _, _, _⟩ := hRX.rowj hix.out
   obtain ⟨N, HN⟩ : ∃ N, Hid (k1.fs.length = N) := ⟨_, rfl⟩
   obtain ⟨ln, HLn⟩ : ∃ ln, Hid (f.b.length = ln) := ⟨_, rfl⟩
   rw [HN.out] at q0 hcap0 hjl
   rw [HLn.out] at q1 hLi
   have hcF : ∀ w', Below w2.drew.heap.size w2.drew w' → w'.cell? ⟨rd, 0, none⟩ = some (.slice (some ⟨g0, 0, none⟩) N cap0) := fun w' hb => (hb.cell (p := ⟨rd, 0, none⟩) (World.block_lt_of_cell? _ _ q0)).trans q0
   have hcS : ∀ w', Below w2.drew.heap.size w2.drew w' → w'.cell? ⟨g0, j * 3, none⟩ = some (.string s) := fun w' hb => (hb.cell (p := ⟨g0, j * 3, none⟩) (World.block_lt_of_cell? _ _ qs)).trans qs
   have hcB : ∀ w', Below w2.drew.heap.size w2.drew w' → w'.cell? ⟨g0, j * 3 + 1, none⟩ = some (.slice aj ln cj) := fun w' hb => (hb.cell (p := ⟨g0, j * 3 + 1, none⟩) (World.block_lt_of_cell? _ _ q1)).trans q1
   have hcN : ∀ w', Below w2.drew.heap.size w2.drew w' → w'.cell? ⟨g0, j * 3 + 2, none⟩ = some (.int .i64 (f.safe : Int)) := fun w' hb => (hb.cell (p := ⟨g0, j * 3 + 2, none⟩) (World.block_lt_of_cell? _ _ q2)).trans q2
   have hjN0 : (0 : Int) ≤ (j : Int) := by omega
   have hjN : (j : Int) < (N : Int) := by omega
   clear q0 q1 q2 qs
   generalize w2.drew = X at *
   have HSX : Below X.heap.size X X := Below.refl _ _
   refine lx_r 0 _ HSX ?_; simp only [lxa, lxb, lxc]
   refine lx_r 1 _ HSX ?_; simp only [lxa, lxb, lxc]
   refine lx_r 2 _ HSX ?_; simp only [lxa, lxb, lxc]
   refine lx_r 3 (.slice (some ⟨g0, 0, none⟩) N cap0) HSX ?_ (hv := fun w' hS => by have q := hcF _ hS; first | (go_simp; rfl) | go_simp); simp only [lxa, lxb, lxc]
   refine lx_r 4 _ HSX ?_; simp only [lxa, lxb, lxc]
   refine lx_r 5 _ HSX ?_; simp only [lxa, lxb, lxc]
   have hX0 : Below X.heap.size X (X.alloc (.cells #[.string ByteArray.empty, .slice none 0 0, .int .i64 0] 113)) := (Below.refl _ _).alloc (Nat.le_refl _) _
   have hbox := alloc_at X (.cells #[.string ByteArray.empty, .slice none 0 0, .int .i64 0] 113)
   have hltX := hRX.lt
   obtain ⟨b, hb⟩ : ∃ b, X.heap.size = b := ⟨_, rfl⟩
   obtain ⟨X0, hX0e⟩ : ∃ X0, X.alloc (.cells #[.string ByteArray.empty, .slice none 0 0, .int .i64 0] 113) = X0 := ⟨_, rfl⟩
   have HX0e : Hid (X.alloc (.cells #[.string ByteArray.empty, .slice none 0 0, .int .i64 0] 113) = X0) := hX0e
   rw [hX0e] at hX0 hbox
   have rb := hbox
   rw [hb] at rb
   have rb1 := block_setCell (i := 0) rb (.string s)
   have rb2 := block_setCell (i := 1) rb1 (.slice aj ln cj)
   have rb3 := block_setCell (i := 2) rb2 (.int .i64 (f.safe : Int))
   have c0 := cell_of_block rb 0
   have z0 := unfrozen_of_block rb 0
   have c1 := cell_of_block rb1 1
   have z1 := unfrozen_of_block rb1 1
   have c2 := cell_of_block rb2 2
   have z2 := unfrozen_of_block rb2 2
   simp at c0 c1 c2
   have hXY : Below X.heap.size X (((X0.setCell ⟨b, 0, none⟩ (.string s)).setCell ⟨b, 1, none⟩ (.slice aj ln cj)).setCell ⟨b, 2, none⟩ (.int .i64 (f.safe : Int))) := ((hX0.setCell (p := ⟨b, 0, none⟩) (by show X.heap.size ≤ b; omega) _).setCell (p := ⟨b, 1, none⟩) (by show X.heap.size ≤ b; omega) _).setCell (p := ⟨b, 2, none⟩) (by show X.heap.size ≤ b; omega) _
   have hYb : (((X0.setCell ⟨b, 0, none⟩ (.string s)).setCell ⟨b, 1, none⟩ (.slice aj ln cj)).setCell ⟨b, 2, none⟩ (.int .i64 (f.safe : Int))).heap[b]? = some (.cells #[.string s, .slice aj ln cj, .int .i64 (f.safe : Int)] 113 (0, 0)) := by rw [rb3]; rfl
   have hTail : ∀ Y, Below X.heap.size X Y → Y.heap[b]? = some (.cells #[.string s, .slice aj ln cj, .int .i64 (f.safe : Int)] 113 (0, 0)) → RefAt Y G2 rd k1 ∧ Lies Y G2 (.slice aj ln cj) f := fun Y hbY hYb => ⟨hRX.below hbY, hLi.keep (S := fun _ => False) (Keep.ofBelow hbY) (fun _ _ h => h) (fun _ h => h)⟩
   clear rb rb1 rb2 rb3 hX0e
   refine lx_two 6 9 (by kernel_rfl) ?_ ?_
   ·refine stepT_call 57 ?a6x rfl rfl rfl ?r6x ?_
    case r6x => first | (go_simp; rfl) | go_simp
    refine (hA1 _ _ hRX).mono ?_
    rintro e w4 ⟨rfl, hw4⟩
    replace hw4 := hw4.symm
    subst hw4
    refine ⟨_, rfl, fun _ => HSX, ?_⟩
    simp only [lxa, lxb, lxc]
    refine lx_r 7 (.pointer (some ⟨g0, j * 3, none⟩)) HSX ?_; simp only [lxa, lxb, lxc]
    refine lx_r 8 (.agg #[.string s, .slice aj ln cj, .int .i64 (f.safe : Int)]) HSX ?_ (hv := fun w' hS => by have q := hcS _ hS; have q1 := hcB _ hS; have q2 := hcN _ hS; first | (go_simp; rfl) | go_simp); simp only [lxa, lxb, lxc]
    refine lx_one 9 (by kernel_rfl) (stepT_val (w' := X0) (.pointer (some ⟨b, 0, none⟩)) rfl rfl rfl ?r9x (fun _ => hX0) ?_)
    case r9x => (go_simp; exact HX0e.out)
    simp only [lxa, lxb, lxc]
    refine lx_one 10 (by kernel_rfl) (stepT_store (w' := ((X0.setCell ⟨b, 0, none⟩ (.string s)).setCell ⟨b, 1, none⟩ (.slice aj ln cj)).setCell ⟨b, 2, none⟩ (.int .i64 (f.safe : Int))) rfl rfl rfl ?r10x (fun h => by cases h) ?_)
    case r10x => first | (go_simp; rfl) | go_simp
    refine lx_nil (by kernel_rfl) ?_
    obtain ⟨hRY, hLY⟩ := hTail _ hXY hYb
    generalize ((X0.setCell ⟨b, 0, none⟩ (.string s)).setCell ⟨b, 1, none⟩ (.slice aj ln cj)).setCell ⟨b, 2, none⟩ (.int .i64 (f.safe : Int)) = Y at *
    have hrdY : rd < Y.heap.size := hRY.lt rd hRY.grd
    have hbY : b < Y.heap.size := (Array.getElem?_eq_some_iff.1 hYb).1
    have hbne : b ≠ rd := fun e => by have := hltX rd hRX.grd; omega
    have hD1 := refDrop_any rd G2 k1 s hfl1 Y hRY
    rw [← Hkd.out] at hD1
    clear c0 c1 c2 z0 z1 z2 hcF hcS hcB hcN hA1 hTail hbox
    go_upto_region 12 with (first
     | (go_at_call 123; refine hD1.mono ?_; rintro e V1 ⟨rfl, ⟨G3, hR3, hk3, hG3⟩, hkk1⟩))
    have hD2 := refDrop_any rd G3 kd t hflD V1 hR3
    rw [← Hke.out] at hD2
    clear hD1
    go_upto_region 13 with (first
     | (go_at_call 123; refine hD2.mono ?_; rintro e V2 ⟨rfl, ⟨G4, hR4, hk4, hG4⟩, hkk2⟩))
    have hb2 := box_keep (box_keep hYb hkk1 hbne) hkk2 hbne
    have hG4b : ∀ i, G4 i → ¬ i = b := fun i hi e => by
     have h1 := hk3.size
     rcases hG4 i hi with h | h
     ·rcases hG3 i h with h | h
      ·have := hltX i h; omega
      ·omega
     ·omega
    have hLv : Lies V2 G2 (.slice aj ln cj) f := (hLY.keep hkk1 (fun i hi e => by
     obtain ⟨cur, h2⟩ := own_blk hLY.1 hi
     subst e
     obtain ⟨⟨v, sl, h3, _⟩, _⟩ := hRY
     rw [h3] at h2; cases h2) (fun _ h => h)).keep hkk2 (fun i hi e => by
     obtain ⟨cur, h2⟩ := own_blk hLY.1 hi
     subst e
     obtain ⟨⟨v, sl, h3, _⟩, _⟩ := hRY
     rw [h3] at h2; cases h2) (fun _ h => h)
    have hkS : Keep (fun i => i = b) V2 (V2.setCell ⟨b, 0, none⟩ (.string t)) := (Keep.refl (fun i => i = b) V2).setCell (p := ⟨b, 0, none⟩) rfl _
    have hR5 := hR4.keep hkS hG4b
    have hL5 := hLv.keep hkS (fun i hi e => by have := hltX i (hLv.2 i hi); omega) (fun _ h => h)
    have hb3 := block_setCell (i := 0) hb2 (.string t)
    have y0 := cell_of_block hb2 0
    have yz := unfrozen_of_block hb2 0
    have x0 := cell_of_block hb3 0
    have x1 := cell_of_block hb3 1
    have x2 := cell_of_block hb3 2
    simp at y0 x0 x1 x2
    have hsz12 : Y.heap.size ≤ V2.heap.size := Nat.le_trans hkk1.size hkk2.size
    have hR6 : RefAt (V2.setCell ⟨b, 0, none⟩ (.string t)) (fun i => G4 i ∨ G2 i) rd ke := hR5.wide (fun _ h => Or.inl h) (fun i hi => by
     rcases hi with h | h
     ·exact hR5.lt i h
     ·have h1 := hltX i h
      have h2 := hXY.size
      have h3 := hkS.size
      omega)
    have hPt := refPut_any rd _ ke t hno f aj ln cj hflE _ hR6 hgN ⟨hL5.1, fun g hg => Or.inr (hL5.2 g hg)⟩
    clear hD2
    go_wp2_with (first
     | (go_at_call 58; refine hPt.mono ?_; rintro e V4 ⟨rfl, hRp⟩))
    go_ret
    rw [Hfin.out] at hRp
    have hgr : G2 rd := hRY.grd
    have hkT : Keep G2 X (V2.setCell ⟨b, 0, none⟩ (.string t)) := ((Keep.ofBelow hXY).trans ((hkk1.trans hkk2).mono (fun i e => by subst e; exact hgr))).andThen hkS (fun i hi e => by omega)
    refine ⟨rfl, Rp.next hk2 hG2 (Rp.next (Keep.ofBelow hVX) (fun i hi => Or.inl hi) (Rp.next hkT (fun i hi => ?_) hRp))⟩
    have h1 := hXY.size
    have h2 := hk3.size
    rcases hi with h | h
    ·rcases hG4 i h with h | h
     ·rcases hG3 i h with h | h
      ·exact Or.inl h
      ·exact Or.inr (by omega)
     ·exact Or.inr (by omega)
    ·exact Or.inl h
   ·refine stepT_val (w' := X0) (.pointer (some ⟨b, 0, none⟩)) rfl rfl rfl ?r9y (fun _ => hX0) ?_
    case r9y => (go_simp; exact HX0e.out)
    simp only [lxa, lxb, lxc]
    refine lx_one 6 (by kernel_rfl) (stepT_call 57 ?a6y rfl rfl rfl ?r6y ?_)
    case r6y => first | (go_simp; rfl) | go_simp
    refine (hA1 _ _ (hRX.below hX0)).mono ?_
    rintro e w4 ⟨rfl, hw4⟩
    replace hw4 := hw4.symm
    subst hw4
    refine ⟨_, rfl, fun _ => hX0, ?_⟩
    simp only [lxa, lxb, lxc]
    refine lx_r 7 (.pointer (some ⟨g0, j * 3, none⟩)) hX0 ?_; simp only [lxa, lxb, lxc]
    refine lx_r 8 (.agg #[.string s, .slice aj ln cj, .int .i64 (f.safe : Int)]) hX0 ?_ (hv := fun w' hS => by have q := hcS _ hS; have q1 := hcB _ hS; have q2 := hcN _ hS; first | (go_simp; rfl) | go_simp); simp only [lxa, lxb, lxc]
    refine lx_one 10 (by kernel_rfl) (stepT_store (w' := ((X0.setCell ⟨b, 0, none⟩ (.string s)).setCell ⟨b, 1, none⟩ (.slice aj ln cj)).setCell ⟨b, 2, none⟩ (.int .i64 (f.safe : Int))) rfl rfl rfl ?r10y (fun h => by cases h) ?_)
    case r10y => first | (go_simp; rfl) | go_simp
    refine lx_nil (by kernel_rfl) ?_
    obtain ⟨hRY, hLY⟩ := hTail _ hXY hYb
    generalize ((X0.setCell ⟨b, 0, none⟩ (.string s)).setCell ⟨b, 1, none⟩ (.slice aj ln cj)).setCell ⟨b, 2, none⟩ (.int .i64 (f.safe : Int)) = Y at *
    have hrdY : rd < Y.heap.size := hRY.lt rd hRY.grd
    have hbY : b < Y.heap.size := (Array.getElem?_eq_some_iff.1 hYb).1
    have hbne : b ≠ rd := fun e => by have := hltX rd hRX.grd; omega
    have hD1 := refDrop_any rd G2 k1 s hfl1 Y hRY
    rw [← Hkd.out] at hD1
    clear c0 c1 c2 z0 z1 z2 hcF hcS hcB hcN hA1 hTail hbox
    go_upto_region 12 with (first
     | (go_at_call 123; refine hD1.mono ?_; rintro e V1 ⟨rfl, ⟨G3, hR3, hk3, hG3⟩, hkk1⟩))
    have hD2 := refDrop_any rd G3 kd t hflD V1 hR3
    rw [← Hke.out] at hD2
    clear hD1
    go_upto_region 13 with (first
     | (go_at_call 123; refine hD2.mono ?_; rintro e V2 ⟨rfl, ⟨G4, hR4, hk4, hG4⟩, hkk2⟩))
    have hb2 := box_keep (box_keep hYb hkk1 hbne) hkk2 hbne
    have hG4b : ∀ i, G4 i → ¬ i = b := fun i hi e => by
     have h1 := hk3.size
     rcases hG4 i hi with h | h
     ·rcases hG3 i h with h | h
      ·have := hltX i h; omega
      ·omega
     ·omega
    have hLv : Lies V2 G2 (.slice aj ln cj) f := (hLY.keep hkk1 (fun i hi e => by
     obtain ⟨cur, h2⟩ := own_blk hLY.1 hi
     subst e
     obtain ⟨⟨v, sl, h3, _⟩, _⟩ := hRY
     rw [h3] at h2; cases h2) (fun _ h => h)).keep hkk2 (fun i hi e => by
     obtain ⟨cur, h2⟩ := own_blk hLY.1 hi
     subst e
     obtain ⟨⟨v, sl, h3, _⟩, _⟩ := hRY
     rw [h3] at h2; cases h2) (fun _ h => h)
    have hkS : Keep (fun i => i = b) V2 (V2.setCell ⟨b, 0, none⟩ (.string t)) := (Keep.refl (fun i => i = b) V2).setCell (p := ⟨b, 0, none⟩) rfl _
    have hR5 := hR4.keep hkS hG4b
    have hL5 := hLv.keep hkS (fun i hi e => by have := hltX i (hLv.2 i hi); omega) (fun _ h => h)
    have hb3 := block_setCell (i := 0) hb2 (.string t)
    have y0 := cell_of_block hb2 0
    have yz := unfrozen_of_block hb2 0
    have x0 := cell_of_block hb3 0
    have x1 := cell_of_block hb3 1
    have x2 := cell_of_block hb3 2
    simp at y0 x0 x1 x2
    have hsz12 : Y.heap.size ≤ V2.heap.size := Nat.le_trans hkk1.size hkk2.size
    have hR6 : RefAt (V2.setCell ⟨b, 0, none⟩ (.string t)) (fun i => G4 i ∨ G2 i) rd ke := hR5.wide (fun _ h => Or.inl h) (fun i hi => by
     rcases hi with h | h
     ·exact hR5.lt i h
     ·have h1 := hltX i h
      have h2 := hXY.size
      have h3 := hkS.size
      omega)
    have hPt := refPut_any rd _ ke t hno f aj ln cj hflE _ hR6 hgN ⟨hL5.1, fun g hg => Or.inr (hL5.2 g hg)⟩
    clear hD2
    go_wp2_with (first
     | (go_at_call 58; refine hPt.mono ?_; rintro e V4 ⟨rfl, hRp⟩))
    go_ret
    rw [Hfin.out] at hRp
    have hgr : G2 rd := hRY.grd
    have hkT : Keep G2 X (V2.setCell ⟨b, 0, none⟩ (.string t)) := ((Keep.ofBelow hXY).trans ((hkk1.trans hkk2).mono (fun i e => by subst e; exact hgr))).andThen hkS (fun i hi e => by omega)
    refine ⟨rfl, Rp.next hk2 hG2 (Rp.next (Keep.ofBelow hVX) (fun i hi => Or.inl hi) (Rp.next hkT (fun i hi => ?_) hRp))⟩
    have h1 := hXY.size
    have h2 := hk3.size
    rcases hi with h | h
    ·rcases hG4 i h with h | h
     ·rcases hG3 i h with h | h
      ·exact Or.inl h
      ·exact Or.inr (by omega)
     ·exact Or.inr (by omega)
    ·exact Or.inl h
 ·have hne : ((en : Int) != 0) = true := by simp; omega
  have hne2 : ((en : Int) == 0) = false := by simp; omega
  go_enter Tryz.func80, Tryz.ntmps80
  go_wp2_with (first
   | (go_at_call 55; refine hF.mono ?_; rintro e w1 ⟨rfl, hw1⟩; replace hw1 := hw1.symm; subst hw1)
   | (go_at_call 93; refine hRt.mono ?_; rintro e w1 ⟨rfl, hw1⟩; replace hw1 := hw1.symm; subst hw1)
   | (go_at_call 57; refine hA.mono ?_; rintro e w1 ⟨rfl, hw1⟩; replace hw1 := hw1.symm; subst hw1)
   | (go_at_call 56; refine hP.mono ?_; rintro e w2 ⟨rfl, hRp⟩))
  go_ret
  exact Or.inl ⟨hen, rfl, hRp⟩
theorem refRename_any (rd : Nat) (G : Nat → Prop) (k : Dk) (s t : Nm) (hs : s.size ≤ 9223372036854775807) (ht : t.size ≤ 9223372036854775807) (hst : k.steps < 1000000) (hfl : k.fs.length < 1000000) (w : World) (hR : RefAt w G rd k) :
  Calls Tryz.prog 80 #[.pointer (some ⟨rd, 0, none⟩), .string s, .string t] w fun e w' => e = .returned (.int .i64 (renameK k s t).1) ∧ Rp w G rd (renameK k s t).2 w' := by
 by_cases h : renE k s t = 0
 ·obtain ⟨on, hns, hnt, f, hlk, e⟩ := renameK_yes k s t h
  rw [e]
  refine (refRename_go rd G k s t hs ht hst hfl w hR on hns hnt f hlk).mono ?_
  rintro e w' (⟨h0, rfl, hDp⟩ | ⟨h0, rfl, hDp⟩)
  ·rw [if_pos h0]
   exact ⟨rfl, hDp⟩
  ·rw [if_neg (by simp [h0])]
   exact ⟨rfl, hDp⟩
 ·rw [renameK_no k s t h]
  refine (refRename_no rd G k s t hs ht w hR h).mono ?_
  rintro e w' ⟨rfl, rfl⟩
  exact ⟨rfl, Rp.refl hR⟩
end Go.Proofs.YtikkieaokfailaaGreatDoor
