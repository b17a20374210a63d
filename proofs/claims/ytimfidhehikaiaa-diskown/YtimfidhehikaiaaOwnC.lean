/- A book: closeBytes. -/
import Derived.Test.YtimfidhehikaiaaOwnG
namespace Go.Proofs.Ytimfidhehikaiaa
open Go.RowKit

theorem Ow.sl {w : World} {v : Value} {x : List Int} (h : Ow w v x) : ∃ a n c, v = .slice a n c := by
  obtain ⟨a, c, hv⟩ := own_sl h.own
  exact ⟨a, _, c, hv⟩
theorem getI_set_eq {z : List Int} {m : Nat} {y : Int} (h : m < z.length) : (z.set m y).getD m 0 = y := by simp [List.getD, h]
theorem getI_set_ne {z : List Int} {m t : Nat} {y : Int} (h : m ≠ t) : (z.set m y).getD t 0 = z.getD t 0 := by simp [List.getD, List.getElem?_set_ne h]

set_option maxHeartbeats 6400000 in
set_option maxRecDepth 4000000 in
theorem close_any (p N : Nat) (fv wv : Value) (fs ws : List Value) (ys : List (List Int)) (w : World) (hB : BookAt w p fv wv fs ws ys N) :
    Calls Try.prog 59 #[.pointer (some ⟨p, 0, none⟩)] w fun e w' => e = .returned (.bool true) ∧ Keep (BF p fv wv fs ws) w w' := by
  obtain ⟨hC, hT, hlen, hmost, heach⟩ := hB
  obtain ⟨af, cf, rfl⟩ := own_sl hT.f.row
  have hF := hT.f
  have hnd := hT.nodup
  have hf : fs.length ≤ 2000000 := by omega
  have HX : Hid (fs.length = ys.length) := hF.ows.len
  have hp := hC.lt
  obtain ⟨BFx, hBp, hBf⟩ : ∃ S : Nat → Prop, S p ∧ (∀ k, k ∈ blks fs → S k) ∧ (∀ k, S k → BF p (.slice af fs.length cf) wv fs ws k) := ⟨_, .inl rfl, fun k e => .inr (.inl (.inr e)), fun _ h => h⟩
  have HE : Hid (∀ j, (ys.getD j []).length ≤ 1000000) := by
    intro j
    by_cases hj : j < ys.length
    · have e : ys.getD j [] = ys[j] := by simp [List.getD, List.getElem?_eq_getElem hj]
      rw [e]; exact heach _ (List.getElem_mem hj)
    · have e : ys.getD j [] = [] := by simp [List.getD, List.getElem?_eq_none (Nat.le_of_not_lt hj)]
      rw [e]; simp
  have hlf : ∀ k, k ∈ blks fs → k < w.heap.size := fun k e => hF.ows.lt k e
  have hFl := hF.lt
  clear heach hlen hmost hT
  go_enter Try.func59, Try.ntmps59
  go_wp2
  go_loopw [3, 4] (fun i _ wr => ∃ (k : Nat) (zs : List (List Int)), i = .int .i64 k ∧ k ≤ fs.length ∧ BC wr p (.slice af fs.length cf) wv (.slice none 0 0) (.slice none 0 0) N ∧ Half wr (.slice af fs.length cf) fs zs ∧ Hid (∀ j, j < k → zs.getD j [] = List.replicate (ys.getD j []).length (mk j)) ∧ Hid (∀ j, (zs.getD j []).length = (ys.getD j []).length) ∧ Keep BFx w wr) (fun i _ _ => fs.length - (intOf i).toNat)
  case atStart => exact ⟨0, ys, rfl, Nat.zero_le _, hC, hF, (fun j hj => by omega : ∀ j, j < 0 → _), (fun _ => rfl : ∀ j, _), Keep.refl _ _⟩
  case round =>
    clear hC hF
    obtain ⟨k, zs, rfl, hk, hCr, hFr, HZ, HL, hK⟩ := hrel
    have hc0 := hCr.c0
    by_cases hlt : k < fs.length
    · have hlz : (k : Int) < (fs.length : Int) := by omega
      obtain ⟨gf, capf, ak, nk, ck, hv, hcell, hvk, hok, hnk, hrk⟩ := hFr.cell hlt
      cases hv
      have HN : Hid (nk = (ys.getD k []).length) := by show nk = _; rw [hnk]; exact HL.out k
      have hnb : nk ≤ 1000000 := by have := HN.out; have := HE.out k; omega
      clear hnk hok hrk
      go_wp2
      go_loopw [4] (fun i wr => ∃ (m : Nat) (zs : List (List Int)), i = .int .i64 m ∧ m ≤ nk ∧ BC wr p (.slice (some ⟨gf, 0, none⟩) fs.length cf) wv (.slice none 0 0) (.slice none 0 0) N ∧ Half wr (.slice (some ⟨gf, 0, none⟩) fs.length cf) fs zs ∧ Hid (∀ j, j < k → zs.getD j [] = List.replicate (ys.getD j []).length (mk j)) ∧ Hid (∀ j, (zs.getD j []).length = (ys.getD j []).length) ∧ Hid (∀ t, t < m → (zs.getD k []).getD t 0 = mk k) ∧ Keep BFx w wr) (fun i _ => nk - (intOf i).toNat)
      case atStart => exact ⟨0, zs, rfl, Nat.zero_le _, hCr, hFr, HZ, HL, (fun j hj => by omega : ∀ t, t < 0 → _), hK⟩
      case round =>
        clear hCr hFr HZ HL hK hc0 hcell
        obtain ⟨m, zs, rfl, hm, hCr, hFr, HZ, HL, HM, hK⟩ := hrel
        have hc0 := hCr.c0
        have hcell := hFr.cellAt hvk
        by_cases hmn : m < nk
        · have hmz : (m : Int) < (nk : Int) := by omega
          obtain ⟨g, hak, hnl, hnc, hwr⟩ := (hFr.ows.get hvk).some (by omega)
          subst hak
          have HNL : Hid (nk = (zs.getD k []).length) := hnl
          clear hnl hnc
          obtain ⟨hfz, hcm⟩ := hwr m
          have hcm' := hcm hmn
          clear hwr hcm
          have hmke : (k : Int) % 125 = mk k := by unfold mk; omega
          go_wp2
          obtain ⟨hF', hK'⟩ := hFr.stored hnd hvk m (mk k) (mk_bd k).1 (mk_bd k).2
          have hC' := hCr.keep hK' (fun e => hFr.not hCr (by decide) (by decide) (.inr e))
          have hky : k < zs.length := by rw [← hFr.ows.len]; exact hlt
          go_roundw
          case rel => exact ⟨m + 1, _, by go_num, by omega, hC', hF', (fun j hj => by rw [getD_set_ne (by omega)]; exact HZ.out j hj : ∀ j, j < k → _), (fun j => by
            by_cases hj : k = j
            · subst hj; rw [getD_set_eq hky, List.length_set]; exact HL.out k
            · rw [getD_set_ne hj]; exact HL.out j : ∀ j, _), (fun t ht => by
            rw [getD_set_eq hky]
            by_cases hj : m = t
            · subst hj; exact getI_set_eq (by have := HNL.out; omega)
            · rw [getI_set_ne hj]; exact HM.out t (by omega) : ∀ t, t < m + 1 → _), hK.andThen hK' (fun i _ e => hBf.1 i e)⟩
          case measure => simp [intOf]; omega
        · have hmz : ¬ (m : Int) < (nk : Int) := by omega
          go_wp2
          go_roundw
          case rel => exact ⟨k + 1, zs, by go_num, by omega, hCr, hFr, (fun j hj => by
            by_cases e : j = k
            · subst e
              have hnn := HN.out
              rw [← hnn]
              exact rep_of (by rw [HL.out j, hnn]) (fun t ht => HM.out t (by omega))
            · exact HZ.out j (by omega) : ∀ j, j < k + 1 → _), HL, hK⟩
          case measure => simp [intOf]; omega
    · have hlz : ¬ (k : Int) < (fs.length : Int) := by omega
      have hkf : k = fs.length := by omega
      have HZ2 : Hid (∀ i, i < fs.length → zs.getD i [] = List.replicate (zs.getD i []).length (mk i) ∧ (zs.getD i []).length ≤ 1000000) := by
        intro i hi
        have h1 := HZ.out i (by omega)
        have h2 := HL.out i
        have h3 := HE.out i
        rw [h2]
        exact ⟨h1, h3⟩
      clear HZ HL HE HX hkf
      have hGe : ∀ b, (Value.slice none 0 0).ownBlock = some b → w.heap.size ≤ b := fun b e => by cases e
      go_wp2
      clear hc0 hlz hk hlt
      go_loopw [5, 6, 7] (fun i _ _ wr => ∃ (k : Nat) (a2 : Option Addr) (c2 : Nat) (os : List Value), i = .int .i64 k ∧ k ≤ fs.length ∧ BC wr p (.slice af fs.length cf) wv (.slice a2 k c2) (.slice none 0 0) N ∧ Half wr (.slice af fs.length cf) fs zs ∧ Half wr (.slice a2 k c2) os (outs zs 16 k) ∧ Hid (os.length = k) ∧ Hid (Ofs fs os) ∧ (∀ b, (Value.slice a2 k c2).ownBlock = some b → w.heap.size ≤ b) ∧ Keep BFx w wr) (fun i _ _ _ => fs.length - (intOf i).toNat)
      case atStart => exact ⟨0, none, 0, [], rfl, Nat.zero_le _, hCr, hFr, Half.nil _, rfl, Ofs.nil _, hGe, hK⟩
      case round =>
        clear hCr hFr hK hGe
        obtain ⟨k, a2, c2, os, rfl, hk, hCr, hFr, hOr, HOL, HOF, hGe, hK⟩ := hrel
        have hc0 := hCr.c0
        by_cases hlt : k < fs.length
        · have hlz : (k : Int) < (fs.length : Int) := by omega
          obtain ⟨gf, capf, ak, nk, ck, hv, hcell, hvk, hok, hnk, hrk⟩ := hFr.cell hlt
          cases hv
          have hzb := (HZ2.out k hlt).2
          have HN : Hid (nk = (zs.getD k []).length) := hnk
          have hG0 := Grow.refl hok
          clear hnk hrk
          go_wp2
          go_loopw [6, 7] (fun l t wx => ∃ (m : Nat) (al : Option Addr) (nl cl : Nat), t = .int .i64 m ∧ m ≤ 16 ∧ l = .slice al nl cl ∧ Grow wr wx (.slice ak nk ck) (.slice al nl cl) (zs.getD k []) (List.replicate m (mk2 k))) (fun _ t _ => 16 - (intOf t).toNat)
          case atStart => exact ⟨0, _, _, _, rfl, Nat.zero_le _, rfl, hG0⟩
          case round =>
            obtain ⟨m, al, nl, cl, rfl, hm, rfl, hG⟩ := hrel
            by_cases hm16 : m < 16
            · have hmz : (m : Int) < 16 := by omega
              have hmke : (125 : Int) + (k : Int) % 125 = mk2 k := by unfold mk2; omega
              have hbl : (zs.getD k [] ++ List.replicate m (mk2 k)).length + 1 ≤ 1000000000 := by rw [List.length_append, List.length_replicate]; omega
              go_wp2_with (at_builtin; refine wp_grow rfl _ _ rfl _ _ rfl (hG.after ((Keep.refl _ _).alloc _)).own _ 1 1 [mk2 k] rfl (rd_1 _ _ (mk2_bd k)) hbl ?_; intro l' wy ho' hw'; obtain ⟨al', nl', cl', rfl⟩ := ho'.sl)
              have hG' := (hG.after ((Keep.refl _ _).alloc (.cells #[.int .u8 (mk2 k)] 5))).step ho' rfl hw'
              have er : List.replicate m (mk2 k) ++ [mk2 k] = List.replicate (m + 1) (mk2 k) := by rw [List.replicate_succ']
              rw [er] at hG'
              go_roundw
              case rel => exact ⟨m + 1, _, _, _, by go_num, by omega, rfl, hG'⟩
              case measure => simp [intOf]; omega
            · have hmz : ¬ (m : Int) < 16 := by omega
              have hme : m = 16 := by omega
              subst hme
              have hpn : ¬ (Value.slice ak nk ck).ownBlock = some p := fun e => hFr.not hCr (by decide) (by decide) (.inr (mem_of hvk e))
              have hC1 := hCr.keep hG.keep hpn
              have hF1 := hFr.turn hnd hvk hG.keep (fun b _ e => e) hG.old
              have hO1 := hOr.keep hG.keep (fun b e e2 => by
                rcases e with e | e
                · exact row_apart hOr.row hFr.ows b (mem_of hvk e2) e
                · obtain ⟨u, hu, hb⟩ := mem_blks.1 e
                  obtain ⟨j, hj⟩ := List.mem_iff_getElem?.1 hu
                  have h1 := HOF.out.apart hnd hvk hj hb e2
                  have h2 := (List.getElem?_eq_some_iff.1 hj).1
                  have h3 := HOL.out
                  omega)
              have hx2 := hC1.c2
              have hK1 := hK.andThen hG.keep (fun i _ e => hBf.1 i (mem_of hvk e))
              have hor : _ := hO1.row
              rw [HOL.out] at hor
              go_wp2_with (at_builtin; refine wp_row rfl _ _ rfl _ _ os rfl hor _ rfl hG.own.one (by omega) ?_; intro g3 cap3 w3 hown3 hk3 hp3; have hC3 := hC1.keep hk3 (fun e => hO1.not hC1 (by decide) (by decide) (.inl e)); have hx3 := hC3.c2; have hf3 := hC3.fz 2)
              have hk3' : Keep (fun b => (Value.slice a2 k c2).ownBlock = some b) wr w3 := hk3
              have hp3' : (Value.slice a2 k c2).ownBlock = some g3 ∨ wr.heap.size ≤ g3 := hp3
              have hF3 := hF1.keep hk3' (fun b e e2 => absurd (hGe b e2) (by have := hFl b e; omega))
              have hO3 := hO1.snoc hG.own (by rw [HOL.out]; exact hown3) hk3'
              rw [← outs_succ] at hO3
              have hkp : Keep (fun b => b = p) w3 (w3.setCell ⟨p, 2, none⟩ (.slice (some ⟨g3, 0, none⟩) (k + 1) cap3)) := Keep.setCell (S := fun b => b = p) (Keep.refl _ _) rfl _
              have hC4 := hC3.set2 (.slice (some ⟨g3, 0, none⟩) (k + 1) cap3)
              have hF4 := hF3.keep hkp (fun b e h => hF3.not hC3 (by decide) (by decide) (by rw [← h]; exact e))
              have hO4 := hO3.keep hkp (fun b e h => hO3.not hC3 (by decide) (by decide) (by rw [← h]; exact e))
              have hK4 := (hK1.andThen hk3' (fun i hi e => absurd (hGe i e) (by omega))).andThen hkp (fun i _ e => by rw [e]; exact hBp)
              have hOF4 : Ofs fs (os ++ [.slice al nl cl]) := HOF.out.snoc (by rw [HOL.out]; exact hvk) (fun b e => (hG.blk b e).imp id (fun h hm => absurd (hlf b hm) (by have := hK.size; omega)))
              have hs1 := hK1.size
              go_roundw
              case rel => exact ⟨k + 1, _, _, _, by go_num, by omega, hC4, hF4, hO4, (by show (os ++ [_]).length = k + 1; rw [List.length_append, HOL.out]; rfl), hOF4, (fun b e => by have e' : g3 = b := Option.some.inj e; subst e'; rcases hp3' with h | h; exact hGe _ h; omega), hK4⟩
              case measure => simp [intOf]; omega
        · have hlz : ¬ (k : Int) < (fs.length : Int) := by omega
          have hkf : k = fs.length := by omega
          subst hkf
          have hN0 : ∀ b, (Value.slice none 0 0).ownBlock = some b → w.heap.size ≤ b := fun b e => by cases e
          have hN1 : ∀ b, (Value.slice none 0 0).ownBlock = some b → ¬ (Value.slice a2 fs.length c2).ownBlock = some b := fun b e => by cases e
          have hc2 := hCr.c2
          go_wp2_with (go_at_call 73; refine (look_any p N _ _ _ _ fs os zs (outs zs 16 fs.length) _ 16 _ hCr hFr hOr hf HOL.out HZ2.out (fun i hi => outs_get hi) (by omega)).mono ?_; rintro e wz ⟨rfl, hwz⟩; rw [hwz]; clear hwz)
          clear hc0 hlz hk hlt hc2
          go_loopw [8, 9, 10] (fun i _ _ wr => ∃ (k : Nat) (a3 : Option Addr) (c3 : Nat) (ms : List Value), i = .int .i64 k ∧ k ≤ fs.length ∧ BC wr p (.slice af fs.length cf) wv (.slice a2 fs.length c2) (.slice a3 k c3) N ∧ Half wr (.slice af fs.length cf) fs zs ∧ Half wr (.slice a2 fs.length c2) os (outs zs 16 fs.length) ∧ Half wr (.slice a3 k c3) ms (outs zs 700 k) ∧ Hid (ms.length = k) ∧ Hid (Ofs fs ms) ∧ (∀ b, (Value.slice a3 k c3).ownBlock = some b → w.heap.size ≤ b) ∧ (∀ b, (Value.slice a3 k c3).ownBlock = some b → ¬ (Value.slice a2 fs.length c2).ownBlock = some b) ∧ Keep BFx w wr) (fun i _ _ _ => fs.length - (intOf i).toNat)
          case atStart => exact ⟨0, none, 0, [], rfl, Nat.zero_le _, hCr, hFr, hOr, Half.nil _, rfl, Ofs.nil _, hN0, hN1, hK⟩
          case round =>
            clear hCr hFr hOr hK hN0 hN1
            obtain ⟨k, a3, c3, ms, rfl, hk, hCr, hFr, hOr, hMr, HML, HMF, hGm, hGo, hK⟩ := hrel
            have hc0 := hCr.c0
            by_cases hlt : k < fs.length
            · have hlz : (k : Int) < (fs.length : Int) := by omega
              obtain ⟨gf, capf, ak, nk, ck, hv, hcell, hvk, hok, hnk, hrk⟩ := hFr.cell hlt
              cases hv
              have hzb := (HZ2.out k hlt).2
              clear hnk hrk
              have hM0 : wr.ownsRow wr.heap.size 5 1 (.slice none 0 0) 0 (bc (List.replicate 0 (mk2 k))) := World.ownsRow_nil _ _ _ _
              go_wp2
              go_loopw [9, 10] (fun m t wx => ∃ (c : Nat) (am : Option Addr) (cm : Nat), t = .int .i64 c ∧ c ≤ 700 ∧ m = .slice am c cm ∧ wx.ownsRow wr.heap.size 5 1 (.slice am c cm) c (bc (List.replicate c (mk2 k))) ∧ Below wr.heap.size wr wx) (fun _ t _ => 700 - (intOf t).toNat)
              case atStart => exact ⟨0, none, 0, rfl, Nat.zero_le _, rfl, hM0, Below.refl _ _⟩
              case round =>
                obtain ⟨c, am, cm, rfl, hc, rfl, hMo, hb⟩ := hrel
                by_cases hc7 : c < 700
                · have hcz : (c : Int) < 700 := by omega
                  have hmke : (125 : Int) + (k : Int) % 125 = mk2 k := by unfold mk2; omega
                  go_wp2_with (at_builtin; refine wp_appK rfl _ _ rfl _ _ c _ rfl (hMo.alloc _) _ 1 1 [mk2 k] rfl (rd_1 _ _ (mk2_bd k)) (by omega) (by have := hb.size; simp; omega) ?_; intro v' wy ho' hgr' _; obtain ⟨am', cm', rfl⟩ := own_sl ho')
                  have er : List.replicate c (mk2 k) ++ [mk2 k] = List.replicate (c + 1) (mk2 k) := by rw [List.replicate_succ']
                  rw [er] at ho'
                  have hb' : Below _ _ wy := (hb.alloc hb.size _).grown hgr' (by have := hb.size; simp; omega) (fun j e => (hMo.lt j e).1)
                  go_roundw
                  case rel => exact ⟨c + 1, _, _, by go_num, by omega, rfl, ho', hb'⟩
                  case measure => simp [intOf]; omega
                · have hcz : ¬ (c : Int) < 700 := by omega
                  have hce : c = 700 := by omega
                  subst hce
                  go_upto_region 27 with fail
                  have kX := (Keep.ofBelow (S := fun _ => False) hb).drew
                  have hCB := hCr.keep kX (fun h => h)
                  have hFB := hFr.keep kX (fun _ _ h => h)
                  have hOB := hOr.keep kX (fun _ _ h => h)
                  have hMB := hMr.keep kX (fun _ _ h => h)
                  have hKB := hK.andThen kX (fun _ _ h => h.elim)
                  have hKs := hK.size
                  have hoB := hFB.ows.get hvk
                  obtain ⟨_, _, hvm, hRm⟩ := Rd.ofOwn (own_drew hMo) (xs := List.replicate 700 (mk2 k)) (fun x hx => by rw [List.eq_of_mem_replicate hx]; exact mk2_bd k)
                  cases hvm
                  clear kX hcell hc0 hM0 hMo hCr hFr hOr hMr hc hc7 hcz hok
                  refine wp_region_px (fun w' => w'.cell? ⟨p, 0, none⟩ = some (.slice (some ⟨gf, 0, none⟩) fs.length cf) ∧ w'.cell? ⟨gf, k, none⟩ = some (.slice ak nk ck)) 19 (by kernel_rfl) (by kernel_rfl) ?_
                  generalize World.drew _ = WB at hCB hFB hOB hMB hKB hoB hRm ⊢
                  have hSB : WB.cell? ⟨p, 0, none⟩ = some (.slice (some ⟨gf, 0, none⟩) fs.length cf) ∧ WB.cell? ⟨gf, k, none⟩ = some (.slice ak nk ck) := ⟨hCB.c0, hFB.cellAt hvk⟩
                  obtain ⟨v13, W13, hrun13, ho13, hw13⟩ := run_grow (w := WB) 31 hoB hRm (by omega)
                  obtain ⟨a13, n13, c13, rfl⟩ := ho13.sl
                  have hk13 := hw13.keep
                  have hpn : ¬ (Value.slice ak nk ck).ownBlock = some p := fun e => hFB.not hCB (by decide) (by decide) (.inr (mem_of hvk e))
                  have hC13 := hCB.keep hk13 hpn
                  have hF13 := hFB.grown hnd hvk hw13 ho13
                  have e7 : List.replicate 700 (mk2 k) = List.replicate 16 (mk2 k) ++ List.replicate 684 (mk2 k) := by rw [List.replicate_append_replicate]
                  have ho13' := ho13
                  rw [e7] at ho13'
                  have hO13 := hOB.beside HOF.out hnd hvk hoB (fun _ => outs_get hlt) hw13 (by omega) ho13'
                  have hM13 := hMB.keep hk13 (fun b e e2 => by
                    rcases e with e | e
                    · exact row_apart hMB.row hFB.ows b (mem_of hvk e2) e
                    · obtain ⟨u, hu, hb⟩ := mem_blks.1 e
                      obtain ⟨j, hj⟩ := List.mem_iff_getElem?.1 hu
                      have h1 := HMF.out.apart hnd hvk hj hb e2
                      have h2 := (List.getElem?_eq_some_iff.1 hj).1
                      have h3 := HML.out
                      omega)
                  have hK13 := hKB.andThen hk13 (fun i _ e => hBf.1 i (mem_of hvk e))
                  have hbl13 : ∀ b, (Value.slice a13 n13 c13).ownBlock = some b → (Value.slice ak nk ck).ownBlock = some b ∨ b ∉ blks fs := fun b e => (hw13.blk b e).imp id (fun h hm => absurd (hlf b hm) (by have := hKB.size; omega))
                  have hS13 : W13.cell? ⟨p, 0, none⟩ = some (.slice (some ⟨gf, 0, none⟩) fs.length cf) ∧ W13.cell? ⟨gf, k, none⟩ = some (.slice ak nk ck) := ⟨hC13.c0, hF13.cellAt hvk⟩
                  have kA : Keep (fun _ => False) W13 (W13.alloc (.cells #[.slice a13 n13 c13] 31)) := (Keep.refl _ W13).alloc _
                  have hC14 := hC13.keep kA (fun h => h)
                  have hF14 := hF13.keep kA (fun _ _ h => h)
                  have hO14 := hO13.keep kA (fun _ _ h => h)
                  have hM14 := hM13.keep kA (fun _ _ h => h)
                  have ho14 := ho13.keep kA (fun _ _ h => h)
                  have hK14 := hK13.andThen kA (fun _ _ h => h.elim)
                  have hb14 : (W13.alloc (.cells #[.slice a13 n13 c13] 31)).heap[W13.heap.size]? = some (.cells #[.slice a13 n13 c13] 31 (0, 0)) := heap_alloc_new _ _
                  obtain ⟨W14, HW14⟩ : ∃ W14, Hid (W14 = W13.alloc (.cells #[.slice a13 n13 c13] 31)) := ⟨_, rfl⟩
                  rw [← HW14.out] at hC14 hF14 hO14 hM14 ho14 hK14 hb14
                  clear kA
                  have hS14 : W14.cell? ⟨p, 0, none⟩ = some (.slice (some ⟨gf, 0, none⟩) fs.length cf) ∧ W14.cell? ⟨gf, k, none⟩ = some (.slice ak nk ck) := ⟨hC14.c0, hF14.cellAt hvk⟩
                  have hmr := hM14.row
                  rw [HML.out] at hmr
                  obtain ⟨g15, cap15, W15, hrun15, ho15, hk15, hp15⟩ := run_row (w := W14) 40 hmr hb14 rfl (by omega)
                  have hC15 := hC14.keep hk15 (fun e => hM14.not hC14 (by decide) (by decide) (.inl e))
                  have hF15 := hF14.keep hk15 (fun b e e2 => absurd (hGm b e2) (by have := hFl b e; omega))
                  have hO15 := hO14.keep hk15 (fun b e e2 => by
                    rcases e with e | e
                    · exact hGo b e2 e
                    · exact row_apart hM14.row hO14.ows b e e2)
                  have hM15 := hM14.snoc ho14 (by rw [HML.out]; exact ho15) hk15
                  rw [← outs_succ] at hM15
                  have hS15 : W15.cell? ⟨p, 0, none⟩ = some (.slice (some ⟨gf, 0, none⟩) fs.length cf) ∧ W15.cell? ⟨gf, k, none⟩ = some (.slice ak nk ck) := ⟨hC15.c0, hF15.cellAt hvk⟩
                  have hx3 := hC15.c3
                  have hx4 := hC15.fz 3
                  have hkE : Keep (fun b => b = p) W15 (W15.setCell ⟨p, 3, none⟩ (.slice (some ⟨g15, 0, none⟩) (k + 1) cap15)) := Keep.setCell (S := fun b => b = p) (Keep.refl _ _) rfl _
                  have hCE := hC15.set3 (.slice (some ⟨g15, 0, none⟩) (k + 1) cap15)
                  have hFE := hF15.keep hkE (fun b e h => hF15.not hC15 (by decide) (by decide) (by rw [← h]; exact e))
                  have hOE := hO15.keep hkE (fun b e h => hO15.not hC15 (by decide) (by decide) (by rw [← h]; exact e))
                  have hME := hM15.keep hkE (fun b e h => hM15.not hC15 (by decide) (by decide) (by rw [← h]; exact e))
                  have hKE := (hK14.andThen hk15 (fun i hi e => absurd (hGm i e) (by omega))).andThen hkE (fun i _ e => by rw [e]; exact hBp)
                  have hSE : (W15.setCell ⟨p, 3, none⟩ (.slice (some ⟨g15, 0, none⟩) (k + 1) cap15)).cell? ⟨p, 0, none⟩ = some (.slice (some ⟨gf, 0, none⟩) fs.length cf) ∧ (W15.setCell ⟨p, 3, none⟩ (.slice (some ⟨g15, 0, none⟩) (k + 1) cap15)).cell? ⟨gf, k, none⟩ = some (.slice ak nk ck) := ⟨hCE.c0, hFE.cellAt hvk⟩
                  have hMF : Ofs fs (ms ++ [.slice a13 n13 c13]) := HMF.out.snoc (by rw [HML.out]; exact hvk) hbl13
                  have hO14l := hO14.lt
                  have hs14 := hK14.size
                  clear hw13 ho13 ho13' e7 hbl13 hF13 hO13 hM13 hK13 hk13 hFB hOB hMB hKB hoB hRm hF14 hM14 ho14 hK14 hmr hF15 hO15 hM15 hkE
                  refine px_rd 0 ?v0 (by kernel_rfl) (fun _ _ d _ _ h => by cases d <;> exact h) (by kernel_rfl) hSB rfl rfl rfl (fun w' hS => ?h0) ?_
                  case h0 => first | (go_simp; rfl) | go_simp
                  simp only [List.setIfInBounds_toArray, List.set_cons_zero, List.set_cons_succ]
                  refine px_rd 1 ?v1 (by kernel_rfl) (fun _ _ d _ _ h => by cases d <;> exact h) (by kernel_rfl) hSB rfl rfl rfl (fun w' hS => ?h1) ?_
                  case h1 => first | (go_simp; rfl) | go_simp
                  simp only [List.setIfInBounds_toArray, List.set_cons_zero, List.set_cons_succ]
                  refine px_rd 2 ?v2 (by kernel_rfl) (fun _ _ d _ _ h => by cases d <;> exact h) (by kernel_rfl) hSB rfl rfl rfl (fun w' hS => ?h2) ?_
                  case h2 => first | (go_simp; rfl) | go_simp
                  simp only [List.setIfInBounds_toArray, List.set_cons_zero, List.set_cons_succ]
                  refine px_rd 3 ?v3 (by kernel_rfl) (fun _ _ d _ _ h => by cases d <;> exact h) (by kernel_rfl) hSB rfl rfl rfl (fun w' hS => ?h3) ?_
                  case h3 => first | (go_simp; rfl) | go_simp
                  simp only [List.setIfInBounds_toArray, List.set_cons_zero, List.set_cons_succ]
                  refine px_rd 5 ?v5 (by kernel_rfl) (fun _ _ d _ _ h => by cases d <;> exact h) (by kernel_rfl) hSB rfl rfl rfl (fun w' hS => ?h5) ?_
                  case h5 => first | (go_simp; rfl) | go_simp
                  simp only [List.setIfInBounds_toArray, List.set_cons_zero, List.set_cons_succ]
                  refine px_rd 6 ?v6 (by kernel_rfl) (fun _ _ d _ _ h => by cases d <;> exact h) (by kernel_rfl) hSB rfl rfl rfl (fun w' hS => ?h6) ?_
                  case h6 => first | (go_simp; rfl) | go_simp
                  simp only [List.setIfInBounds_toArray, List.set_cons_zero, List.set_cons_succ]
                  refine px_rd 7 ?v7 (by kernel_rfl) (fun _ _ d _ _ h => by cases d <;> exact h) (by kernel_rfl) hSB rfl rfl rfl (fun w' hS => ?h7) ?_
                  case h7 => first | (go_simp; rfl) | go_simp
                  simp only [List.setIfInBounds_toArray, List.set_cons_zero, List.set_cons_succ]
                  refine px_rd 8 (.slice (some ⟨gf, 0, none⟩) fs.length cf) (by kernel_rfl) (fun _ _ d _ _ h => by cases d <;> exact h) (by kernel_rfl) hSB rfl rfl rfl (fun w' hS => ?h8) ?_
                  case h8 => have hq := hS.1; first | (go_simp; rfl) | go_simp
                  simp only [List.setIfInBounds_toArray, List.set_cons_zero, List.set_cons_succ]
                  refine px_rd 9 ?v9 (by kernel_rfl) (fun _ _ d _ _ h => by cases d <;> exact h) (by kernel_rfl) hSB rfl rfl rfl (fun w' hS => ?h9) ?_
                  case h9 => first | (go_simp; rfl) | go_simp
                  simp only [List.setIfInBounds_toArray, List.set_cons_zero, List.set_cons_succ]
                  refine px_rd 10 (.pointer (some ⟨gf, k, none⟩)) (by kernel_rfl) (fun _ _ d _ _ h => by cases d <;> exact h) (by kernel_rfl) hSB rfl rfl rfl (fun w' hS => ?h10) ?_
                  case h10 => first | (go_simp; rfl) | go_simp
                  simp only [List.setIfInBounds_toArray, List.set_cons_zero, List.set_cons_succ]
                  refine px_rd 11 (.slice ak nk ck) (by kernel_rfl) (fun _ _ d _ _ h => by cases d <;> exact h) (by kernel_rfl) hSB rfl rfl rfl (fun w' hS => ?h11) ?_
                  case h11 => have hq := hS.2; first | (go_simp; rfl) | go_simp
                  simp only [List.setIfInBounds_toArray, List.set_cons_zero, List.set_cons_succ]
                  refine px_rd 12 ?v12 (by kernel_rfl) (fun _ _ d _ _ h => by cases d <;> exact h) (by kernel_rfl) hSB rfl rfl rfl (fun w' hS => ?h12) ?_
                  case h12 => first | (go_simp; rfl) | go_simp
                  simp only [List.setIfInBounds_toArray, List.set_cons_zero, List.set_cons_succ]
                  refine px_via 4 ?ll ?aa W14 (fun tail => ?br) ?tl
                  case br =>
                    refine px_two 4 13 (by kernel_rfl) ?pA ?pB
                    case pA =>
                      refine stepP_val (w' := WB) (.slice a3 k c3) rfl rfl rfl ?eA4 hSB ?_
                      case eA4 => have hq := hCB.c3; first | (go_simp; rfl) | go_simp
                      simp only [List.setIfInBounds_toArray, List.set_cons_zero, List.set_cons_succ]
                      refine px_one 13 (by kernel_rfl) ?_
                      refine stepP_val (w' := W13) (.slice a13 n13 c13) rfl rfl rfl ?eA13 hS13 ?_
                      case eA13 => exact run_app_op' rfl rfl rfl hrun13
                      simp only [List.setIfInBounds_toArray, List.set_cons_zero, List.set_cons_succ]
                      refine px_one 14 (by kernel_rfl) ?_
                      refine stepP_val (w' := W14) (.slice (some ⟨W13.heap.size, 0, none⟩) 1 1) rfl rfl rfl ?eA14 hS14 ?_
                      case eA14 => first | (rw [HW14.out]; go_simp; rfl) | (rw [HW14.out]; go_simp)
                      simp only [List.setIfInBounds_toArray, List.set_cons_zero, List.set_cons_succ]
                      exact tail
                    case pB =>
                      refine stepP_val (w' := W13) (.slice a13 n13 c13) rfl rfl rfl ?eB13 hS13 ?_
                      case eB13 => exact run_app_op' rfl rfl rfl hrun13
                      simp only [List.setIfInBounds_toArray, List.set_cons_zero, List.set_cons_succ]
                      refine px_two 4 14 (by kernel_rfl) ?pC ?pD
                      case pC =>
                        refine stepP_val (w' := W13) (.slice a3 k c3) rfl rfl rfl ?eC4 hS13 ?_
                        case eC4 => have hq := hC13.c3; first | (go_simp; rfl) | go_simp
                        simp only [List.setIfInBounds_toArray, List.set_cons_zero, List.set_cons_succ]
                        refine px_one 14 (by kernel_rfl) ?_
                        refine stepP_val (w' := W14) (.slice (some ⟨W13.heap.size, 0, none⟩) 1 1) rfl rfl rfl ?eC14 hS14 ?_
                        case eC14 => first | (rw [HW14.out]; go_simp; rfl) | (rw [HW14.out]; go_simp)
                        simp only [List.setIfInBounds_toArray, List.set_cons_zero, List.set_cons_succ]
                        exact tail
                      case pD =>
                        refine stepP_val (w' := W14) (.slice (some ⟨W13.heap.size, 0, none⟩) 1 1) rfl rfl rfl ?eD14 hS14 ?_
                        case eD14 => first | (rw [HW14.out]; go_simp; rfl) | (rw [HW14.out]; go_simp)
                        simp only [List.setIfInBounds_toArray, List.set_cons_zero, List.set_cons_succ]
                        refine px_one 4 (by kernel_rfl) ?_
                        refine stepP_val (w' := W14) (.slice a3 k c3) rfl rfl rfl ?eD4 hS14 ?_
                        case eD4 => have hq := hC14.c3; first | (go_simp; rfl) | go_simp
                        simp only [List.setIfInBounds_toArray, List.set_cons_zero, List.set_cons_succ]
                        exact tail
                  case tl =>
                    refine px_one 15 (by kernel_rfl) ?_
                    refine stepP_val (w' := W15) (.slice (some ⟨g15, 0, none⟩) (k + 1) cap15) rfl rfl rfl ?eT15 hS15 ?_
                    case eT15 => exact run_app_op' rfl rfl rfl hrun15
                    simp only [List.setIfInBounds_toArray, List.set_cons_zero, List.set_cons_succ]
                    refine px_rd 16 ?v16 (by kernel_rfl) (fun _ _ d _ _ h => by cases d <;> exact h) (by kernel_rfl) hS15 rfl rfl rfl (fun w' hS => ?h16) ?_
                    case h16 => first | (go_simp; rfl) | go_simp
                    simp only [List.setIfInBounds_toArray, List.set_cons_zero, List.set_cons_succ]
                    refine px_rd 17 ?v17 (by kernel_rfl) (fun _ _ d _ _ h => by cases d <;> exact h) (by kernel_rfl) hS15 rfl rfl rfl (fun w' hS => ?h17) ?_
                    case h17 => first | (go_simp; rfl) | go_simp
                    simp only [List.setIfInBounds_toArray, List.set_cons_zero, List.set_cons_succ]
                    refine px_one 18 (by kernel_rfl) ?_
                    refine stepP_skip (w' := W15.setCell ⟨p, 3, none⟩ (.slice (some ⟨g15, 0, none⟩) (k + 1) cap15)) rfl rfl rfl ?e18 hSE ?_
                    case e18 => first | (go_simp; rfl) | go_simp
                    refine px_nil (by kernel_rfl) ?_
                    go_wp2
                    go_roundw
                    case rel => exact ⟨k + 1, _, _, _, by go_num, by omega, hCE, hFE, hOE, hME, (by show (ms ++ [_]).length = k + 1; rw [List.length_append, HML.out]; rfl), hMF, (fun b e => by have e' : g15 = b := Option.some.inj e; subst e'; rcases hp15 with h | h; exact hGm _ h; omega), (fun b e e2 => by have e' : g15 = b := Option.some.inj e; subst e'; rcases hp15 with h | h; exact hGo _ h e2; exact absurd (hO14l _ (.inl e2)) (by omega)), hKE⟩
                    case measure => simp [intOf]; omega
            · have hlz : ¬ (k : Int) < (fs.length : Int) := by omega
              have hkf : k = fs.length := by omega
              subst hkf
              have hc2 := hCr.c2
              have hc3 := hCr.c3
              have t1 : True := trivial
              go_wp2_with (first
                | (go_at_call 73; clear t1; refine (look_any p N _ _ _ _ fs ms zs (outs zs 700 fs.length) _ 700 _ hCr hFr hMr hf HML.out HZ2.out (fun i hi => outs_get hi) (by omega)).mono ?_; rintro e wz ⟨rfl, hwz⟩; rw [hwz]; clear hwz)
                | (go_at_call 73; refine (look_any p N _ _ _ _ fs os zs (outs zs 16 fs.length) _ 16 _ hCr hFr hOr hf HOL.out HZ2.out (fun i hi => outs_get hi) (by omega)).mono ?_; rintro e wz ⟨rfl, hwz⟩; rw [hwz]; clear hwz))
              go_ret
              exact ⟨rfl, hK.mono hBf.2⟩

theorem bookClose_any (p N : Nat) (fv wv : Value) (fs ws : List Value) (ys : List (List Int)) (w : World) (hB : BookAt w p fv wv fs ws ys N) :
    Calls Try.prog 23 #[.pointer (some ⟨p, 0, none⟩)] w fun e w' => e = .returned (.bool true) ∧ Keep (BF p fv wv fs ws) w w' := by
  have hf : fs.length ≤ 2000000 := by have := hB.len; have := hB.most; omega
  go_enter Try.func23, Try.ntmps23
  go_wp2_with (first
    | (go_at_call 58; refine (stands_any p N fv wv _ _ fs ws ys _ hB.cell hB.two hf).mono ?_; rintro e w1 ⟨rfl, d, hw1⟩; have hk1 : Keep (fun _ => False) w w1 := (by rw [hw1]; exact keep_drewN (Keep.refl _ _) d); clear hw1)
    | (go_at_call 59; refine (close_any p N fv wv fs ws ys _ (hB.keep hk1 (fun _ _ h => h))).mono ?_; rintro e w2 ⟨rfl, hk2⟩))
  go_ret
  exact ⟨rfl, (hk1.mono (fun _ h => h.elim)).trans hk2⟩

end Go.Proofs.Ytimfidhehikaiaa
