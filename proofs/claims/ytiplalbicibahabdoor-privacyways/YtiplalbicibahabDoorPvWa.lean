/- PrivacyWays: rules of one way say nothing of the other. -/
import Derived.Test.YtiplalbicibahabDoorPvM
set_option maxRecDepth 100000
namespace Go.Proofs.YtiplalbicibahabDoor
open Go.RowKit Go.Joins Go.Shelf

/-! ### without memory -/
def keepB (inn : Bool) (t : By) : Bool := (parseR t).2 == 0 && ((parseR t).1.i == inn && ((parseR t).1.o == !inn))
def waysL (inn : Bool) (k : Nat) (ts : List By) : List By := ((ts.take k).map fun t => t.take 120).filter (keepB inn)
theorem waysL_step (inn : Bool) (k : Nat) (ts : List By) (y : By) (h : ts[k]? = some y) : waysL inn (k + 1) ts = waysL inn k ts ++ (if keepB inn (y.take 120) = true then [y.take 120] else []) := by
  unfold waysL
  rw [List.take_add_one, h, List.map_append, List.filter_append]
  by_cases hk : keepB inn (y.take 120) = true
  · rw [if_pos hk]; simp [hk]
  · rw [if_neg hk]; simp [hk]
theorem waysL_len (inn : Bool) (k : Nat) (ts : List By) : (waysL inn k ts).length ≤ k := by
  unfold waysL
  refine Nat.le_trans (List.length_filter_le _ _) ?_
  rw [List.length_map, List.length_take]; omega
theorem waysL_size (inn : Bool) (k : Nat) (ts : List By) : ∀ t ∈ waysL inn k ts, t.length ≤ 120 := by
  intro t ht
  unfold waysL at ht
  obtain ⟨u, _, rfl⟩ := List.mem_map.1 (List.mem_filter.1 ht).1
  rw [List.length_take]; omega
theorem waysL_keep (inn : Bool) (k : Nat) (ts : List By) : ∀ t ∈ waysL inn k ts, keepB inn t = true := fun _ ht => (List.mem_filter.1 ht).2
theorem ways_read (inn : Bool) (L : List By) (h : ∀ t ∈ L, keepB inn t = true) : readR L = (L.map fun t => (parseR t).1, 0) := by
  refine readR_all L (fun p hp => ?_)
  have := h p hp
  unfold keepB at this
  simp at this
  exact this.1
theorem ways_set (inn : Bool) (L : List By) (h : ∀ t ∈ L, keepB inn t = true) (hl : L.length ≤ 40) : setR (pl0 2 50) [97] L = (0, putP (pl0 2 50) [97] (L.map fun t => (parseR t).1)) := by
  unfold setR
  rw [if_neg (show ¬ (nameE [97] ≠ 0) by decide +kernel), ways_read inn L h]
  dsimp only
  rw [if_neg (by simp)]
  have : fullR (pl0 2 50) [97] L.length = false := by
    unfold fullR pl0
    simp
    omega
  rw [this, if_neg (by decide)]
theorem ways_held (rs : List Rul) : heldR (putP (pl0 2 50) [97] rs) [97] = rs := by
  unfold heldR heldN
  have : (putP (pl0 2 50) [97] rs).m [97] = some rs := putM_same (pl0 2 50).m [97] (some rs)
  rw [this]
  simp [this]
theorem ways_none (inn : Bool) (L : List By) (h : ∀ t ∈ L, keepB inn t = true) (c s : By) (gs : List By) : allowsR ⟨!inn, c, gs, s⟩ (L.map fun t => (parseR t).1) = true := by
  refine allowsR_none (List.find?_eq_none.2 (fun r hr => ?_))
  obtain ⟨t, ht, rfl⟩ := List.mem_map.1 hr
  have hk := h t ht
  unfold keepB at hk
  simp only [Bool.and_eq_true, beq_iff_eq] at hk
  unfold fitsR
  rw [hk.2.1, hk.2.2]
  cases inn <;> simp

/-! ### the law -/
/-- All that the law holds. -/
structure WS (w : World) (B : Nat) (o : Op7) (q : Nat) (P : Pl) (W : World) : Prop where
  st : St B w W q P (fun i => i = B)
  b1 : W.heap[B]? = some (.cells (oc o) 24 (0, 0))
section
variable {w W W' : World} {B : Nat} {o : Op7} {q : Nat} {P P' : Pl}
theorem WS.c4 (h : WS w B o q P W) : W.cell? ⟨B, 4, none⟩ = some (.string (ba o.c)) := by rw [cell_of_block h.b1]; rfl
theorem WS.c5 (h : WS w B o q P W) : W.cell? ⟨B, 5, none⟩ = some (.slice o.ga o.gn o.gc) := by rw [cell_of_block h.b1]; rfl
theorem WS.c6 (h : WS w B o q P W) : W.cell? ⟨B, 6, none⟩ = some (.string (ba o.s)) := by rw [cell_of_block h.b1]; rfl
theorem WS.below (h : WS w B o q P W) (hb : Below W.heap.size W W') : WS w B o q P W' := ⟨h.st.below hb, box_below h.b1 hb⟩
theorem WS.turn (h : WS w B o q P W) (h' : St B w W' q P' (fun i => i = B)) (hk : Keep (Oth B (fun i => i = B)) W W') : WS w B o q P' W' := ⟨h', box_keep h.b1 hk (fun e => e.2 rfl)⟩
end
set_option maxHeartbeats 1600000 in
theorem privacyWays_any (a : Option Addr) (n c : Nat) (ts : List By) (inn : Bool) (o : Op7) (us gs : List By) (w : World) (hx : TRd w a n c ts) (ho : OpR w o us gs) (hT : Lib.Utf8Tabs 0 1 w) :
    Calls Tryd.prog 3 #[.slice a n c, .bool inn, .agg (oc o)] w fun e w' => e = .returned (.bool true) ∧ Below w.heap.size w w' := by
  have hcap := hx.cap
  have hmost := hx.most
  unfold maxLen at hmost
  have Hn : Hid (ts.length = n) := hx.len
  have HA : Hid (TRd w a n c ts ∧ OpR w o us gs ∧ Lib.Utf8Tabs 0 1 w) := ⟨hx, ho, hT⟩
  clear hx ho hT
  have HB0 : Hid ((w.alloc (.cells (oc o) 24)).heap[w.heap.size]? = some (.cells (oc o) 24 (0, 0)) ∧ Below w.heap.size w (w.alloc (.cells (oc o) 24)) ∧ (w.alloc (.cells (oc o) 24)).heap.size = w.heap.size + 1) := ⟨push_at _ _ rfl, below1 _ _, by simp⟩
  unfold oc at HB0
  unfold oc
  go_enter Tryd.func3, Tryd.ntmps3
  go_upto_region 1 with fail
  obtain ⟨B, HBz⟩ : ∃ B, Hid (w.heap.size = B) := ⟨_, rfl⟩
  generalize w.alloc _ = Y1 at HB0 ⊢
  rw [HBz.out] at HB0 ⊢
  have cN := new_ok 2 50 Y1 (by decide) (by decide)
  obtain ⟨q, Hq⟩ : ∃ q, Hid (Y1.heap.size + 1 = q) := ⟨_, rfl⟩
  rw [Hq.out] at cN
  go_upto_region 2 with (go_at_call 4; refine cN.mono ?_; clear cN; rintro e w1 ⟨rfl, h1, hb1⟩)
  have S1 : Hid (WS w B o q (pl0 2 50) w1) := ⟨St.new (by rw [← HBz.out] at HB0 ⊢; exact HB0.out.2.1) (by rw [HB0.out.2.2]; omega) (fun i hi => by rw [HB0.out.2.2]; omega) h1 (fun i hi => by have := Hq.out; omega) hb1, box_below HB0.out.1 hb1⟩
  clear h1 hb1 HB0
  have hTw : Hid (∀ W, Below B w W → Lib.Utf8Tabs 0 1 W) := fun W hb => tabs_bel HA.out.2.2 (by rw [HBz.out]; exact hb)
  have cW := wakes_any w1 (hTw.out w1 S1.out.st.bl)
  go_upto_region 6 with (go_at_call 5; refine cW.mono ?_; clear cW; rintro e w2 ⟨rfl, hb2⟩)
  have S2 : Hid (WS w B o q (pl0 2 50) w2) := S1.out.below hb2
  clear S1 hb2
  have hG : Hid (TRd w2 a n c ts ∧ (∀ W, Below B w W → TRd W o.ga o.gn o.gc gs) ∧ o.s.length ≤ 9223372036854775807) := ⟨HA.out.1.below (by rw [HBz.out]; exact S2.out.st.bl), fun W hb => HA.out.2.1.g.below (by rw [HBz.out]; exact hb), HA.out.2.1.s⟩
  have hT2 : Hid (Lib.Utf8Tabs 0 1 w2) := hTw.out w2 S2.out.st.bl
  clear HA
  obtain ⟨G, HG⟩ : ∃ G, Hid (w2.heap.size = G) := ⟨_, rfl⟩
  go_loopw [9, 10, 11, 12, 13] (fun s9 s10 _ _ _ wr => ∃ (k m : Nat) (v : Value), s9 = v ∧ s10 = .int .i64 k ∧ k ≤ n ∧ k ≤ 40 ∧ Hid ((waysL inn k ts).length = m) ∧ Hid (wr.ownsRow G 9 1 v m (tc (waysL inn k ts))) ∧ Hid (Below G w2 wr)) (fun _ s10 _ _ _ _ => n - (intOf s10).toNat)
  case atStart =>
    refine ⟨0, 0, _, rfl, rfl, by omega, by omega, rfl, World.ownsRow_nil .., ?_⟩
    show Below _ _ _
    rw [← HG.out]; exact Below.refl _ _
  case round =>
    obtain ⟨k, m, v, h9, rfl, hk, hk40, HM, HO, HB⟩ := hrel
    replace h9 := h9.symm
    subst h9
    have hGs := HB.out.size
    have hG2 : G ≤ wr.heap.size := by have := HG.out; omega
    have hBw : Hid (Below w2.heap.size w2 wr) := by show Below _ _ _; rw [HG.out]; exact HB.out
    have hm40 : m ≤ 40 := by have := waysL_len inn k ts; rw [HM.out] at this; omega
    by_cases hgo : (k : Int) < (n : Int) ∧ (k : Int) < (40 : Int)
    · obtain ⟨hkn, hkq⟩ := hgo
      · obtain ⟨b, off, rfl, hcell⟩ := (hG.out.1.below hBw.out).flat (by omega)
        have hc := hcell k (by omega)
        obtain ⟨y, hy⟩ : ∃ y, ts[k]? = some y := ⟨_, List.getElem?_eq_getElem (by rw [Hn.out]; omega)⟩
        rw [show ts.getD k [] = y by rw [List.getD_eq_getElem?_getD, hy]; rfl] at hc
        have HX : Hid (waysL inn (k + 1) ts = waysL inn k ts ++ (if keepB inn (y.take 120) = true then [y.take 120] else [])) := waysL_step inn k ts y hy
        have ov := HO.out
        obtain ⟨av, cv, hv⟩ := ownR_sl ov
        subst hv
        have hTx := fun w => text_any y 120 w (by omega)
        have cP := parse_any (y.take 120) wr (by rw [List.length_take]; omega) (tabs_bel hT2.out hBw.out)
        unfold keepB at HX
        generalize y.take 120 = t at *
        unfold prv at cP
        generalize parseR t = p at cP HX
        obtain ⟨⟨al, ri, ro, kk, vv⟩, en⟩ := p
        dsimp only at cP HX
        clear hcell hy HO hG hT2 hTw
        obtain ⟨V, HV⟩ : ∃ V, Hid (rv ⟨al, ri, ro, kk, vv⟩ = V) := ⟨_, rfl⟩
        rw [HV.out] at cP
        go_upto_region 10 with (first
          | (go_at_call 6; refine (hTx _).mono ?_; clear hTx; rintro e w3 ⟨rfl, hw3⟩; replace hw3 := hw3.symm; subst hw3)
          | (go_at_call 7; refine cP.mono ?_; clear cP; rintro e w5 ⟨rfl, hb5⟩; have ov5 := own_keep (S := fun _ => False) ov (Keep.ofBelow hb5) (fun _ _ h => h))
          | (refine wp_store_ru rfl (.tmp 12) (.tmp 46) rfl w5.heap.size rfl ⟨al, ri, ro, kk, vv⟩ HV.out.symm r0 (push_at _ _ rfl) ?_))
        have A6 : Hid (RuAt ((w5.alloc oRul).setRow w5.heap.size (rc ⟨al, ri, ro, kk, vv⟩)) w5.heap.size ⟨al, ri, ro, kk, vv⟩ ∧ Below w5.heap.size w5 ((w5.alloc oRul).setRow w5.heap.size (rc ⟨al, ri, ro, kk, vv⟩))) :=
          ⟨RuAt.set (w := w5.alloc oRul) (r := r0) (push_at _ _ rfl) _, (below1 w5 oRul).trans ((rowK (w5.alloc oRul) w5.heap.size _).below (by simp) (fun j e => by omega))⟩
        generalize (w5.alloc _).setRow _ _ = w6 at A6 ⊢
        have ov6 := own_keep (S := fun _ => False) ov5 (Keep.ofBelow A6.out.2) (fun _ _ h => h)
        have HB6 : Hid (Below G w2 w6) := (HB.out.trans (hb5.mono hG2)).trans (A6.out.2.mono (Nat.le_trans hG2 hb5.size))
        have hG6 : G ≤ w6.heap.size := by have := HB6.out.size; have := HG.out; omega
        have u1 := A6.out.1.c1
        have u2 := A6.out.1.c2
        clear A6 HB hBw hb5 ov ov5
        dsimp only at u1 u2
        generalize w5.heap.size = gR at *
        by_cases he : en = 0
        · subst he
          have e1 : Hid _ := HX
          obtain ⟨b1, Hb1⟩ : ∃ b1, (ri == inn) = b1 := ⟨_, rfl⟩
          obtain ⟨b2, Hb2⟩ : ∃ b2, (ro == !inn) = b2 := ⟨_, rfl⟩
          rw [Hb1, Hb2] at HX
          cases b1 <;> cases b2
          case true.true =>
            have HX1 : Hid (waysL inn (k + 1) ts = waysL inn k ts ++ [t]) := HX.out
            clear HX e1
            go_wp2_with (first
              | (at_builtin; refine wp_app1 22 9 _ 1 16 Tryd.underlying22 infoStr1 rfl (by decide) (by decide) rfl (.tmp 63) (.tmp 65) rfl G (.slice av m cv) m _ rfl ov6 #[.string (ba t)] rfl (by simp [Value.oneCell']) rfl (by omega) hG6 ?_; intro v7 w7 o7 k7 n7))
            have HB7 : Hid (Below G w2 w7) := HB6.out.trans (k7.below hG6 (fun g' hg => (ov6.lt g' hg).1))
            have HO7 : Hid (w7.ownsRow G 9 1 v7 (m + 1) (tc (waysL inn (k + 1) ts))) := by
              show World.ownsRow _ _ _ _ _ _ _
              rw [HX1.out, tc_app]; exact o7
            have HM7 : Hid ((waysL inn (k + 1) ts).length = m + 1) := by
              show _ = _
              rw [HX1.out, List.length_append, HM.out]; rfl
            clear ov6 o7 k7 n7 HB6 HX1
            go_wp2
            go_roundw
            case rel => exact ⟨k + 1, m + 1, v7, rfl, by go_num, by omega, by omega, HM7, HO7, HB7⟩
            case measure => simp [intOf]; omega
          all_goals
            have HX1 : Hid (waysL inn (k + 1) ts = waysL inn k ts) := by
              show _ = _
              have := HX.out
              simpa using this
            have HO7 : Hid (w6.ownsRow G 9 1 (.slice av m cv) m (tc (waysL inn (k + 1) ts))) := by
              show World.ownsRow _ _ _ _ _ _ _
              rw [HX1.out]; exact ov6
            have HM7 : Hid ((waysL inn (k + 1) ts).length = m) := by
              show _ = _
              rw [HX1.out, HM.out]
            clear ov6 HX1 HX e1
            go_wp2
            go_roundw
            case rel => exact ⟨k + 1, m, _, rfl, by go_num, by omega, by omega, HM7, HO7, HB6⟩
            case measure => simp [intOf]; omega
        · have hd : ((en : Int) == 0) = false := by simp; omega
          have HX1 : Hid (waysL inn (k + 1) ts = waysL inn k ts) := by
            show _ = _
            have h1 : (en == 0) = false := by simp [he]
            have := HX.out
            rw [h1, Bool.false_and, if_neg (by decide), List.append_nil] at this
            exact this
          have HO7 : Hid (w6.ownsRow G 9 1 (.slice av m cv) m (tc (waysL inn (k + 1) ts))) := by
            show World.ownsRow _ _ _ _ _ _ _
            rw [HX1.out]; exact ov6
          have HM7 : Hid ((waysL inn (k + 1) ts).length = m) := by
            show _ = _
            rw [HX1.out, HM.out]
          clear ov6 HX1 HX he
          go_wp2
          go_roundw
          case rel => exact ⟨k + 1, m, _, rfl, by go_num, by omega, by omega, HM7, HO7, HB6⟩
          case measure => simp [intOf]; omega
    · have hout : ¬ (k : Int) < (n : Int) ∨ ((k : Int) < (n : Int) ∧ ¬ (k : Int) < (40 : Int)) := by omega
      have hkeep := waysL_keep inn k ts
      have hsize := waysL_size inn k ts
      have ov := HO.out
      obtain ⟨L, HL⟩ : ∃ L, Hid (waysL inn k ts = L) := ⟨_, rfl⟩
      rw [HL.out] at ov hkeep hsize HM
      obtain ⟨av, cv, hv, tR⟩ := TRd.ofOwn ov
      subst hv
      have S9 : Hid (WS w B o q (pl0 2 50) wr) := S2.out.below hBw.out
      have hL40 : L.length ≤ 40 := by rw [HM.out]; omega
      have cS := st_set S9.out.st [97] av m cv L (by decide) tR (by omega) (fun t ht => by have := hsize t ht; omega) (by show 0 < 900000; omega) (hTw.out wr S9.out.st.bl)
      rw [ways_set inn L hkeep hL40] at cS
      have cS2 : Calls Tryd.prog 8 #[.pointer (some ⟨q, 0, none⟩), .string ⟨#[97]⟩, .slice av m cv] wr fun e W' => e = .returned (.int .i64 0) ∧ Hid (WS w B o q (putP (pl0 2 50) [97] (L.map fun t => (parseR t).1)) W' ∧ TRd W' o.ga o.gn o.gc gs) := cS.mono (fun e W' hh => ⟨hh.1, S9.out.turn hh.2.out.1 hh.2.out.2, hG.out.2.1 W' hh.2.out.1.bl⟩)
      have cA : Hid (∀ W, WS w B o q (putP (pl0 2 50) [97] (L.map fun t => (parseR t).1)) W ∧ TRd W o.ga o.gn o.gc gs → Calls Tryd.prog 9 #[.pointer (some ⟨q, 0, none⟩), .string ⟨#[97]⟩, .bool (!inn), .string (ba o.c), .slice o.ga o.gn o.gc, .string (ba o.s)] W fun e W' => e = .returned (.bool true) ∧ Hid (Below w.heap.size w W')) := fun W h => by
        have := st_allows h.1.st [97] ⟨!inn, o.c, gs, o.s⟩ o.ga o.gn o.gc (by decide) (Nat.zero_le _) h.2 hG.out.2.2 (by rw [ways_held]; simp; omega)
        rw [ways_held, ways_none inn L hkeep] at this
        exact this.mono (fun e W' hh => ⟨hh.1, by show Below _ _ _; rw [HBz.out]; exact hh.2.out.1.bl⟩)
      clear cS hkeep hsize ov tR HO HM HL hTw hT2 hG S2 S9 hL40 HB hBw hGs hG2 hm40 hgo
      rcases hout with h1 | ⟨h1, h2⟩ <;> (
        go_wp2_with (first
          | (go_at_call 8; refine cS2.mono ?_; clear cS2; rintro e w9 ⟨rfl, SA⟩; have p4 := SA.out.1.c4; have p5 := SA.out.1.c5; have p6 := SA.out.1.c6; have cA9 := cA.out w9 SA.out; clear cA)
          | (go_at_call 9; refine cA9.mono ?_; clear cA9; rintro e w10 ⟨rfl, hbX⟩))
        go_ret
        exact ⟨rfl, hbX.out⟩)
end Go.Proofs.YtiplalbicibahabDoor
