/- Texts of one seat, one behind the other: PvZl, PvZm, PvZn, PvZo. -/
import Derived.Test.YtiplalbicibahaaGreatDoorM7
import Derived.Test.YtiplalbicibahaaGreatDoorM4
import Derived.Deep.Slices
/- privacy: the document's Set and Drop. -/
set_option maxRecDepth 100000
namespace Go.Proofs.YtiplalbicibahaaGreatDoor
open Go.RowKit Go.Joins Go.Shelf

set_option maxHeartbeats 1600000 in
theorem qset_1 (s : By) (v : Value) (w : World) (F : Nat → Prop) (q : Nat) (P : Pl) (h : QAt w F q P) (hs : s.length ≤ 1000000) (h0 : nameE s ≠ 0) :
    Calls Tryz.prog 19 #[.pointer (some ⟨q, 0, none⟩), .string (ba s), v] w fun e w' => e = .returned (.int .i64 (nameE s : Nat)) ∧ Qq w F q P w' := by
  have cW := qWord_any (ba s) w (by rw [ba_size]; omega)
  rw [ba_list] at cW
  have HH : Hid (QAt w F q P) := h
  clear h hs
  generalize nameE s = ne at *
  have hd : ((ne : Int) != 0) = true := by simp; omega
  clear h0
  go_enter Tryz.func19, Tryz.ntmps19
  go_wp2_with (go_at_call 37; refine cW.mono ?_; clear cW; rintro e w1 ⟨rfl, hw1⟩; replace hw1 := hw1.symm; subst hw1)
  go_ret
  exact ⟨rfl, Qq.ofBelow HH.out (Below.refl _ _)⟩

theorem qb4 {w : World} {q : Nat} {P : Pl} {vN vT vR : Value} (h : w.heap[q]? = some (.cells (qlc P vN vT vR) 57 (0, 0))) : w.cell? ⟨q, 4, none⟩ = some vT := by rw [cell_of_block h]; rfl
theorem qb5 {w : World} {q : Nat} {P : Pl} {vN vT vR : Value} (h : w.heap[q]? = some (.cells (qlc P vN vT vR) 57 (0, 0))) : w.cell? ⟨q, 5, none⟩ = some vR := by rw [cell_of_block h]; rfl
theorem own_some {w : World} {B sz n : Nat} {e : TypeId} {v : Value} {xs : List Value} (h : w.ownsRow B e sz v n xs) (hn : 0 < n) : ∃ g c, v = .slice (some ⟨g, 0, none⟩) n c := by
  rcases h.2 with ⟨_, h0⟩ | ⟨g, cap, cur, hv, _⟩
  · omega
  · exact ⟨g, cap, hv⟩
theorem name_some {s : By} (h : nameE s = 0) : s.isEmpty = false := by
  unfold nameE at h
  split at h
  · cases h
  · split at h
    · cases h
    · rename_i h2
      cases s with
      | nil => exact absurd (Or.inl rfl) h2
      | cons a r => rfl
set_option maxHeartbeats 3200000 in
theorem qset_2 (s : By) (a : Option Addr) (n c : Nat) (ts : List By) (w : World) (F : Nat → Prop) (q : Nat) (P : Pl) (h : QAt w F q P) (hs : s.length ≤ 1000000) (hR : TRd w a n c ts) (hn : n ≤ 1000) (hts : ∀ t ∈ ts, t.length ≤ 2000000) (hk : P.ks.length ≤ 1000) (h0 : nameE s = 0) :
    Calls Tryz.prog 19 #[.pointer (some ⟨q, 0, none⟩), .string (ba s), .slice a n c] w fun e w' => e = .returned (.int .i64 ((setR P s ts).1 : Nat)) ∧ Qq w F q (setR P s ts).2 w' := by
  obtain ⟨vN, vT, vR, vs, us, h⟩ := h
  have Hn : Hid (ts.length = n) := hR.len
  have HH : Hid (QM w F q P vN vT vR vs us) := h
  have hse := name_some h0
  have HBad : Hid ((readR ts).2 ≠ 0 → setR P s ts = ((readR ts).2, P)) := fun hx => by unfold setR; rw [if_neg (by simp [h0]), if_pos hx]
  have HOk : Hid ((readR ts).2 = 0 → setR P s ts = if fullR P s n = true then (8, P) else (0, putP P s (readR ts).1)) := fun hx => by
    unfold setR; rw [if_neg (by simp [h0]), if_neg (by simp [hx]), Hn.out]
  have cW := qWord_any (ba s) w (by rw [ba_size]; omega)
  rw [ba_list, h0] at cW
  replace hse : Hid _ := hse
  replace hk : Hid _ := hk
  replace hts : Hid _ := hts
  generalize hST : setR P s ts = ST at HBad HOk ⊢
  clear h h0 hs hST
  go_enter Tryz.func19, Tryz.ntmps19
  go_upto_region 7 with (go_at_call 37; refine cW.mono ?_; clear cW; rintro e w1 ⟨rfl, hw1⟩; replace hw1 := hw1.symm; subst hw1)
  go_loopw [8, 9, 10, 11, 12] (fun s8 s9 s10 _ _ wr => ∃ (j : Nat) (v u : Value), s8 = v ∧ s9 = u ∧ s10 = .int .i64 j ∧ j ≤ n ∧ Hid (∀ p ∈ ts.take j, (parseR p).2 = 0) ∧ Hid (wr.ownsRow w.heap.size 72 5 v j (rcs ((ts.take j).map fun p => (parseR p).1))) ∧ Hid (wr.ownsRow w.heap.size 9 1 u j (tc ((ts.take j).map fun p => writtenR (parseR p).1))) ∧ Hid (Below w.heap.size w wr)) (fun _ _ s10 _ _ _ => n - (intOf s10).toNat)
  case atStart =>
    exact ⟨0, _, _, rfl, rfl, rfl, by omega, fun p hp => by simp at hp, World.ownsRow_nil _ _ _ _, World.ownsRow_nil _ _ _ _, Below.refl _ _⟩
  case round =>
    obtain ⟨j, v, u, h8, h9, rfl, hjn, HP, HR, HT, HB⟩ := hrel
    replace h8 := h8.symm
    subst h8
    replace h9 := h9.symm
    subst h9
    by_cases hlt : j < n
    · have hcl : (j : Int) < (n : Int) := by omega
      obtain ⟨b, off, rfl, hce⟩ := (hR.below HB.out).flat (by omega)
      have hcj := hce j hlt
      clear hce
      obtain ⟨y, hy⟩ : ∃ y, ts[j]? = some y := ⟨_, List.getElem?_eq_getElem (by rw [Hn.out]; exact hlt)⟩
      rw [show ts.getD j [] = y by rw [List.getD_eq_getElem?_getD, hy]; rfl] at hcj
      have hys := hts.out y (List.mem_of_getElem? hy)
      have HTk : Hid (ts.take (j + 1) = ts.take j ++ [y]) := by
        show _ = _
        rw [List.take_add_one, hy]; rfl
      have HTd : Hid (ts = ts.take j ++ y :: ts.drop (j + 1)) := by
        show _ = _
        have e := List.getElem?_eq_some_iff.1 hy
        rw [← e.2]
        exact (List.take_append_drop j ts).symm.trans (by rw [List.drop_eq_getElem_cons e.1])
      have ov := HR.out
      have ou := HT.out
      obtain ⟨av, cv, hv⟩ := ownR_sl ov
      subst hv
      obtain ⟨au, cu, hv⟩ := ownR_sl ou
      subst hv
      clear hy
      have cP := qparse_any y wr (by omega)
      have HY : Hid ((parseR y).2 ≠ 0 → ST = ((parseR y).2, P)) := fun h => by
        have e := HTd.out
        have := readR_bad (ts.drop (j + 1)) (ts.take j) HP.out y h
        rw [← e] at this
        have h2 := HBad.out (by rw [this]; exact h)
        rw [this] at h2
        exact h2
      unfold prv at cP
      have HM : Hid ((parseR y).2 = 0 → (∀ p ∈ ts.take (j + 1), (parseR p).2 = 0) ∧ rcs ((ts.take (j + 1)).map fun p => (parseR p).1) = rcs ((ts.take j).map fun p => (parseR p).1) ++ (rc (parseR y).1).toList ∧ tc ((ts.take (j + 1)).map fun p => writtenR (parseR p).1) = tc ((ts.take j).map fun p => writtenR (parseR p).1) ++ [.string (ba (writeQ (parseR y).1))] ∧ (parseR y).1.k.length + (parseR y).1.v.length ≤ 281474976710000) := fun h => by
        have hok := parse_ok h
        rw [HTk.out]
        refine ⟨fun p hp => ?_, ?_, ?_, by have := hok.2.2; omega⟩
        · rcases List.mem_append.1 hp with q | q
          · exact HP.out p q
          · have : p = y := by simpa using q
            rw [this]; exact h
        · rw [List.map_append, rcs_app]; rfl
        · rw [List.map_append, tc_app, hok.same]; rfl
      generalize parseR y = p at cP HY HM
      obtain ⟨r, en⟩ := p
      obtain ⟨al, i, o, k, vv⟩ := r
      dsimp only at cP HY HM
      by_cases he : en = 0
      · have HM1 : Hid _ := HM.out he
        subst he
        obtain ⟨V, HV⟩ : ∃ V, Hid (rv ⟨al, i, o, k, vv⟩ = V) := ⟨_, rfl⟩
        rw [HV.out] at cP
        have hsz := HB.out.size
        go_upto_region 10 with (first
          | (go_at_call 38; refine cP.mono ?_; clear cP; rintro e w5 ⟨rfl, hb5⟩; have ov5 := own_keep (S := fun _ => False) ov (Keep.ofBelow hb5) (fun _ _ h => h); have ou5 := own_keep (S := fun _ => False) ou (Keep.ofBelow hb5) (fun _ _ h => h))
          | (refine wp_store_ru rfl (.tmp 11) (.tmp 32) rfl w5.heap.size rfl ⟨al, i, o, k, vv⟩ HV.out.symm r0 (push_at _ _ rfl) ?_))
        have A6 : Hid (RuAt ((w5.alloc oRul).setRow w5.heap.size (rc ⟨al, i, o, k, vv⟩)) w5.heap.size ⟨al, i, o, k, vv⟩ ∧ Below w5.heap.size w5 ((w5.alloc oRul).setRow w5.heap.size (rc ⟨al, i, o, k, vv⟩))) :=
          ⟨RuAt.set (w := w5.alloc oRul) (r := r0) (push_at _ _ rfl) _, (below1 w5 oRul).trans ((rowK (w5.alloc oRul) w5.heap.size _).below (by simp) (fun j e => by omega))⟩
        generalize (w5.alloc _).setRow _ _ = w6 at A6 ⊢
        have ov6 := own_keep (S := fun _ => False) ov5 (Keep.ofBelow A6.out.2) (fun _ _ h => h)
        have ou6 := own_keep (S := fun _ => False) ou5 (Keep.ofBelow A6.out.2) (fun _ _ h => h)
        have HB6 : Hid (Below w.heap.size w w6) := (HB.out.trans (hb5.mono hsz)).trans (A6.out.2.mono (Nat.le_trans hsz hb5.size))
        have hg : Hid (∀ k, (Value.slice av j cv).ownBlock = some k → k < w5.heap.size) := fun k e => (ov5.lt k e).2
        clear ov ov5 ou ou5 HB hsz HP HR HT hb5 HY HTd HTk hcj
        generalize w5.heap.size = g at A6 hg ⊢
        go_upto_region 13 with (first
          | (refine wp_load_ru rfl (.tmp 11) rfl g rfl ⟨al, i, o, k, vv⟩ A6.out.1 ?_; unfold rv rc; dsimp only)
          | (at_builtin; refine wp_app1 68 72 _ 5 40 Tryz.underlying68 infoRule5 rfl (by decide) (by decide) rfl (.tmp 37) (.tmp 39) rfl w.heap.size (.slice av j cv) j (rcs ((ts.take j).map fun p => (parseR p).1)) rfl ov6 #[.bool al, .bool i, .bool o, .string (ba k), .string (ba vv)] rfl (by simp [Value.oneCell']) rfl (by omega) HB6.out.size ?_; intro v7 w7 o7 k7 n7))
        have HB7 : Hid (Below w.heap.size w w7) := HB6.out.trans (k7.below HB6.out.size (fun g' hg => (ov6.lt g' hg).1))
        have A7 : Hid (RuAt w7 g ⟨al, i, o, k, vv⟩) := box_keep A6.out.1 k7 (fun e => by have := hg.out g e; omega)
        have ou7 := own_keep ou6 k7 (fun x h1 h2 => own_apart ou6 ov6 (by decide) x h1 h2)
        replace o7 : Hid _ := o7
        clear ov6 ou6 A6 HB6 k7 n7 hg
        have cQ := qwrite_any ⟨al, i, o, k, vv⟩ w7 HM1.out.2.2.2
        generalize hWq : ba (writeQ ⟨al, i, o, k, vv⟩) = Wq at cQ
        replace hWq : Hid _ := hWq
        go_upto_region 8 with (first
          | (refine wp_load_ru rfl (.tmp 11) rfl g rfl ⟨al, i, o, k, vv⟩ A7.out ?_)
          | (go_at_call 39; refine cQ.mono ?_; clear cQ; rintro e w8 ⟨rfl, hb8⟩; have ou8 := own_keep (S := fun _ => False) ou7 (Keep.ofBelow hb8) (fun _ _ h => h); have hz8 := Nat.le_trans HB7.out.size hb8.size)
          | (at_builtin; refine wp_app1 32 9 _ 1 16 Tryz.underlying32 infoStr1 rfl (by decide) (by decide) rfl (.tmp 41) (.tmp 44) rfl w.heap.size (.slice au j cu) j _ rfl ou8 #[.string Wq] rfl (by simp [Value.oneCell']) rfl (by omega) hz8 ?_; intro v9 w9 o9 k9 n9))
        have HB9 : Hid (Below w.heap.size w w9) := (HB7.out.trans (hb8.mono HB7.out.size)).trans (k9.below hz8 (fun g' hg => (ou8.lt g' hg).1))
        have o7w : Hid (w9.ownsRow w.heap.size 72 5 v7 (j + 1) (rcs ((ts.take (j + 1)).map fun p => (parseR p).1))) := by
          show World.ownsRow _ _ _ _ _ _ _
          rw [HM1.out.2.1]
          have h8 := own_keep (S := fun _ => False) o7.out (Keep.ofBelow hb8) (fun _ _ h => h)
          exact own_keep h8 k9 (fun x h1 h2 => own_apart h8 ou8 (by decide) x h1 h2)
        have o9w : Hid (w9.ownsRow w.heap.size 9 1 v9 (j + 1) (tc ((ts.take (j + 1)).map fun p => writtenR (parseR p).1))) := by
          show World.ownsRow _ _ _ _ _ _ _
          rw [HM1.out.2.2.1, hWq.out]
          exact o9
        clear ou7 ou8 o9 k9 n9 hb8 hz8 HB7 A7 o7
        go_wp2
        exact ⟨⟨j + 1, _, _, rfl, rfl, by go_num, by omega, HM1.out.1, o7w, o9w, HB9⟩, by simp [intOf]; omega⟩
      · have hy := HY.out he
        have hd : ((en : Int) != 0) = true := by simp; omega
        replace he : Hid (en ≠ 0) := he
        obtain ⟨V, HV⟩ : ∃ V, Hid (rv ⟨al, i, o, k, vv⟩ = V) := ⟨_, rfl⟩
        rw [HV.out] at cP
        have hsz := HB.out.size
        subst hy
        clear HY HM HTd HTk hR HP HR HT ov ou HBad HOk
        go_wp2_with (first
          | (go_at_call 38; refine cP.mono ?_; clear cP; rintro e w5 ⟨rfl, hb5⟩)
          | (refine wp_store_ru rfl (.tmp 11) (.tmp 32) rfl w5.heap.size rfl ⟨al, i, o, k, vv⟩ HV.out.symm r0 (push_at _ _ rfl) ?_))
        go_ret
        exact ⟨rfl, Qq.ofBelow ⟨vN, vT, vR, vs, us, HH.out⟩ ((HB.out.trans (hb5.mono hsz)).trans (((below1 w5 oRul).trans ((rowK (w5.alloc oRul) w5.heap.size _).below (by simp) (fun j e => by omega))).mono (Nat.le_trans hsz hb5.size)))⟩
    · have hcl : ¬ (j : Int) < (n : Int) := by omega
      obtain rfl : j = n := by omega
      have hall : readR ts = (ts.map fun p => (parseR p).1, 0) := by
        have := HP.out
        rw [List.take_of_length_le (by rw [Hn.out]; exact Nat.le_refl _)] at this
        exact readR_all ts this
      have hR9 := HR.out
      have hT9 := HT.out
      rw [List.take_of_length_le (by rw [Hn.out]; exact Nat.le_refl _)] at hR9 hT9
      have hOk := HOk.out (by rw [hall])
      rw [hall] at hOk
      dsimp only at hOk
      have hmm : (ts.map fun p => writtenR (parseR p).1) = (ts.map fun p => (parseR p).1).map writtenR := by rw [List.map_map]; rfl
      rw [hmm] at hT9
      generalize (ts.map fun p => (parseR p).1) = rs at hOk hR9 hT9
      obtain ⟨⟨fa, fn, fc⟩, rfl, hf, hfn, hfb⟩ := RRd.ofOwn hR9
      have hfn' : fn = j := hfn
      subst hfn'
      obtain ⟨pa, pc, hv, hp⟩ := TRd.ofOwn hT9
      subst hv
      have hpl : ∀ ad, pa = some ad → w.heap.size ≤ ad.block ∧ ad.block < wr.heap.size := fun ad e => by
        subst e
        exact hT9.lt ad.block rfl
      have HX : Hid (TRd wr pa fn pc (rs.map writtenR) ∧ (∀ ad, pa = some ad → w.heap.size ≤ ad.block ∧ ad.block < wr.heap.size) ∧ RRd wr (fa, fn, fc) rs ∧ (∀ g, fa = some g → w.heap.size ≤ g ∧ g < wr.heap.size)) := ⟨hp, hpl, hf, hfb⟩
      have HQ : Hid (QM wr F q P vN vT vR vs us) := HH.out.below HB.out
      have cA := qat_m HQ.out s
      clear hall hR9 hT9 hmm HR HT HP hp hpl hf hfb hfn HBad HOk hcl hlt hR
      replace hOk : Hid _ := hOk
      obtain ⟨aN, dN, hvN, tN⟩ := VRd.ofOwn HH.out.oN
      subst hvN
      have hdN := tN.cap
      have hdM := tN.most
      unfold maxLen at hdM
      have hLL := hk.out
      have HLk : Hid ((sortK P.ks).length = P.ks.length) := sortK_len _
      clear tN
      obtain ⟨fA, hfA⟩ : ∃ fA, Hid ((fa.map fun g => (⟨g, 0, none⟩ : Addr)) = fA) := ⟨_, rfl⟩
      have hrsl : rsl (fa, fn, fc) = .slice fA fn fc := by unfold rsl; rw [hfA.out]
      rw [hrsl]
      replace hrsl : Hid _ := hrsl
      have hkk : Hid ((atK (sortK P.ks) s : Nat) ≤ (sortK P.ks).length) := at_le _ _
      cases hd1 : decide (P.ru < (fn : Int)) with
      | true =>
        have hst : ST = (8, P) := by
          have := hOk.out
          unfold fullR at this
          rw [hd1] at this
          exact this
        subst hst
        generalize (P.m s).isSome = is at cA
        go_upto_region 15 with (go_at_call 42; refine cA.mono ?_; clear cA; rintro e w2 ⟨rfl, hb2⟩)
        have Q2 : Hid (QM w2 F q P (.slice aN (sortK P.ks).length dN) vT vR vs us ∧ Below w.heap.size w w2 ∧ wr.heap.size ≤ w2.heap.size ∧ w.heap.size ≤ w2.heap.size) := ⟨HQ.out.below hb2, HB.out.trans (hb2.mono HB.out.size), hb2.size, Nat.le_trans HB.out.size hb2.size⟩
        have u0 : w2.cell? ⟨q, 0, none⟩ = some (.int .i64 P.li) := Q2.out.1.c0
        have u1 : w2.cell? ⟨q, 1, none⟩ = some (.int .i64 P.ru) := Q2.out.1.c1
        have u3 : w2.cell? ⟨q, 3, none⟩ = some (.slice aN (sortK P.ks).length dN) := Q2.out.1.c3
        have HX2 : Hid (TRd w2 pa fn pc (rs.map writtenR) ∧ (∀ ad, pa = some ad → w.heap.size ≤ ad.block ∧ ad.block < w2.heap.size) ∧ RRd w2 (fa, fn, fc) rs ∧ (∀ g, fa = some g → w.heap.size ≤ g ∧ g < w2.heap.size)) := ⟨HX.out.1.below hb2, fun ad e => ⟨(HX.out.2.1 ad e).1, Nat.lt_of_lt_of_le (HX.out.2.1 ad e).2 hb2.size⟩, HX.out.2.2.1.below hb2, fun g e => ⟨(HX.out.2.2.2 g e).1, Nat.lt_of_lt_of_le (HX.out.2.2.2 g e).2 hb2.size⟩⟩
        clear hb2
        go_quiet (fail)
        go_wp2
        go_ret
        exact ⟨rfl, Qq.ofBelow ⟨_, vT, vR, vs, us, HH.out⟩ (Q2.out.2.1.trans ((keepDrew (fun _ => False) w2 nq).below Q2.out.2.2.2 (fun j e => e.elim)))⟩
      | false =>
        cases hb : (P.m s).isSome with
        | true =>
          rw [hb] at cA
          have hst : ST = (0, putP P s rs) := by
            have := hOk.out
            unfold fullR at this
            rw [hd1, hb] at this
            exact this
          subst hst
          have hb' : Hid ((P.m s).isSome = true) := hb
          clear hb
          go_upto_region 15 with (go_at_call 42; refine cA.mono ?_; clear cA; rintro e w2 ⟨rfl, hb2⟩)
          have Q2 : Hid (QM w2 F q P (.slice aN (sortK P.ks).length dN) vT vR vs us ∧ Below w.heap.size w w2 ∧ wr.heap.size ≤ w2.heap.size ∧ w.heap.size ≤ w2.heap.size) := ⟨HQ.out.below hb2, HB.out.trans (hb2.mono HB.out.size), hb2.size, Nat.le_trans HB.out.size hb2.size⟩
          have u0 : w2.cell? ⟨q, 0, none⟩ = some (.int .i64 P.li) := Q2.out.1.c0
          have u1 : w2.cell? ⟨q, 1, none⟩ = some (.int .i64 P.ru) := Q2.out.1.c1
          have u3 : w2.cell? ⟨q, 3, none⟩ = some (.slice aN (sortK P.ks).length dN) := Q2.out.1.c3
          have HX2 : Hid (TRd w2 pa fn pc (rs.map writtenR) ∧ (∀ ad, pa = some ad → w.heap.size ≤ ad.block ∧ ad.block < w2.heap.size) ∧ RRd w2 (fa, fn, fc) rs ∧ (∀ g, fa = some g → w.heap.size ≤ g ∧ g < w2.heap.size)) := ⟨HX.out.1.below hb2, fun ad e => ⟨(HX.out.2.1 ad e).1, Nat.lt_of_lt_of_le (HX.out.2.1 ad e).2 hb2.size⟩, HX.out.2.2.1.below hb2, fun g e => ⟨(HX.out.2.2.2 g e).1, Nat.lt_of_lt_of_le (HX.out.2.2.2 g e).2 hb2.size⟩⟩
          clear hb2
          go_quiet (fail)
          go_upto_region 18 with fail
          obtain ⟨L, HL⟩ : ∃ L, Hid ((sortK P.ks).length = L) := ⟨_, rfl⟩
          have hat : atK (sortK P.ks) s < L := by rw [← HL.out]; exact (at_head ((at_mem (asc_sortK HH.out.nd)).2 (sortK_mem.2 ((HH.out.mem s).1 hb'.out)))).1
          have oT0 := HH.out.oT
          have oR0 := HH.out.oR
          rw [HL.out] at oT0 oR0
          obtain ⟨gT, cT, hvT⟩ := own_some oT0 (by omega)
          obtain ⟨gR, cR, hvR⟩ := own_some oR0 (by omega)
          subst hvT hvR
          obtain ⟨k, Hk⟩ : ∃ k, Hid (atK (sortK P.ks) s = k) := ⟨_, rfl⟩
          rw [HL.out] at Q2 HH
          rw [Hk.out] at hat ⊢
          have hk0 : (0 : Int) ≤ (k : Int) := by omega
          have hk1 : (k : Int) < (L : Int) := by omega
          have Q3 : Hid (QM (w2.drewN nq).drew F q P (.slice aN L dN) (.slice (some ⟨gT, 0, none⟩) L cT) (.slice (some ⟨gR, 0, none⟩) L cR) vs us ∧ TRd (w2.drewN nq).drew pa fn pc (rs.map writtenR) ∧ (∀ ad, pa = some ad → w.heap.size ≤ ad.block ∧ ad.block < (w2.drewN nq).drew.heap.size) ∧ RRd (w2.drewN nq).drew (fa, fn, fc) rs ∧ (∀ g, fa = some g → w.heap.size ≤ g ∧ g < (w2.drewN nq).drew.heap.size) ∧ Below w.heap.size w (w2.drewN nq).drew) := by
            have kd : Keep (fun _ => False) w2 (w2.drewN nq).drew := (keepDrew (fun _ => False) w2 nq).drew
            exact ⟨Q2.out.1.keep kd (fun _ _ e => e), HX2.out.1.keep kd (fun _ _ e => e), HX2.out.2.1, HX2.out.2.2.1.keep kd (fun _ _ e => e), HX2.out.2.2.2, Q2.out.2.1.trans (kd.below Q2.out.2.2.2 (fun j e => e.elim))⟩
          have oT9 := Q3.out.1.oT
          have oR9 := Q3.out.1.oR
          rw [HL.out] at oT9 oR9
          clear u0 u1 u3 HX HX2 HQ Q2 oT0 oR0 hat
          refine wp_region_lx (fun w' => w'.heap[q]? = some (.cells (qlc P (.slice aN L dN) (.slice (some ⟨gT, 0, none⟩) L cT) (.slice (some ⟨gR, 0, none⟩) L cR)) 57 (0, 0))) [16] 17 (by kernel_rfl) (by kernel_rfl) ?_
          generalize World.drew _ = X at Q3 oT9 oR9 ⊢
          have HS0 := Q3.out.1.blk
          refine lx_rd 0 (.pointer (some ⟨q, 0, none⟩)) (by kernel_rfl) (fun _ _ d _ _ h => by cases d <;> exact h) (by kernel_rfl) HS0 rfl rfl rfl (fun w' hS => ?hA0) ?_
          case hA0 => first | (go_simp; rfl) | go_simp
          simp only [List.setIfInBounds_toArray, List.set_cons_zero, List.set_cons_succ]
          refine lx_rd 1 (.pointer (some ⟨q, 0, none⟩)) (by kernel_rfl) (fun _ _ d _ _ h => by cases d <;> exact h) (by kernel_rfl) HS0 rfl rfl rfl (fun w' hS => ?hA1) ?_
          case hA1 => first | (go_simp; rfl) | go_simp
          simp only [List.setIfInBounds_toArray, List.set_cons_zero, List.set_cons_succ]
          refine lx_rd 2 (.pointer (some ⟨q, 0, none⟩)) (by kernel_rfl) (fun _ _ d _ _ h => by cases d <;> exact h) (by kernel_rfl) HS0 rfl rfl rfl (fun w' hS => ?hA2) ?_
          case hA2 => first | (go_simp; rfl) | go_simp
          simp only [List.setIfInBounds_toArray, List.set_cons_zero, List.set_cons_succ]
          refine lx_rd 3 (.pointer (some ⟨q, 4, none⟩)) (by kernel_rfl) (fun _ _ d _ _ h => by cases d <;> exact h) (by kernel_rfl) HS0 rfl rfl rfl (fun w' hS => ?hA3) ?_
          case hA3 => first | (go_simp; rfl) | go_simp
          simp only [List.setIfInBounds_toArray, List.set_cons_zero, List.set_cons_succ]
          refine lx_rd 4 (.slice (some ⟨gT, 0, none⟩) L cT) (by kernel_rfl) (fun _ _ d _ _ h => by cases d <;> exact h) (by kernel_rfl) HS0 rfl rfl rfl (fun w' hS => ?hA4) ?_
          case hA4 => have q0 := qb4 hS; first | (go_simp; rfl) | go_simp
          simp only [List.setIfInBounds_toArray, List.set_cons_zero, List.set_cons_succ]
          refine lx_rd 5 (.int .i64 (k : Int)) (by kernel_rfl) (fun _ _ d _ _ h => by cases d <;> exact h) (by kernel_rfl) HS0 rfl rfl rfl (fun w' hS => ?hA5) ?_
          case hA5 => first | (go_simp; rfl) | go_simp
          simp only [List.setIfInBounds_toArray, List.set_cons_zero, List.set_cons_succ]
          refine lx_rd 6 (.pointer (some ⟨q, 0, none⟩)) (by kernel_rfl) (fun _ _ d _ _ h => by cases d <;> exact h) (by kernel_rfl) HS0 rfl rfl rfl (fun w' hS => ?hA6) ?_
          case hA6 => first | (go_simp; rfl) | go_simp
          simp only [List.setIfInBounds_toArray, List.set_cons_zero, List.set_cons_succ]
          refine lx_rd 7 (.pointer (some ⟨q, 0, none⟩)) (by kernel_rfl) (fun _ _ d _ _ h => by cases d <;> exact h) (by kernel_rfl) HS0 rfl rfl rfl (fun w' hS => ?hA7) ?_
          case hA7 => first | (go_simp; rfl) | go_simp
          simp only [List.setIfInBounds_toArray, List.set_cons_zero, List.set_cons_succ]
          refine lx_rd 8 (.pointer (some ⟨q, 5, none⟩)) (by kernel_rfl) (fun _ _ d _ _ h => by cases d <;> exact h) (by kernel_rfl) HS0 rfl rfl rfl (fun w' hS => ?hA8) ?_
          case hA8 => first | (go_simp; rfl) | go_simp
          simp only [List.setIfInBounds_toArray, List.set_cons_zero, List.set_cons_succ]
          refine lx_rd 9 (.slice (some ⟨gR, 0, none⟩) L cR) (by kernel_rfl) (fun _ _ d _ _ h => by cases d <;> exact h) (by kernel_rfl) HS0 rfl rfl rfl (fun w' hS => ?hA9) ?_
          case hA9 => have q0 := qb5 hS; first | (go_simp; rfl) | go_simp
          simp only [List.setIfInBounds_toArray, List.set_cons_zero, List.set_cons_succ]
          refine lx_rd 10 (.int .i64 (k : Int)) (by kernel_rfl) (fun _ _ d _ _ h => by cases d <;> exact h) (by kernel_rfl) HS0 rfl rfl rfl (fun w' hS => ?hA10) ?_
          case hA10 => first | (go_simp; rfl) | go_simp
          simp only [List.setIfInBounds_toArray, List.set_cons_zero, List.set_cons_succ]
          refine lx_rd 11 (.slice pa fn pc) (by kernel_rfl) (fun _ _ d _ _ h => by cases d <;> exact h) (by kernel_rfl) HS0 rfl rfl rfl (fun w' hS => ?hA11) ?_
          case hA11 => first | (go_simp; rfl) | go_simp
          simp only [List.setIfInBounds_toArray, List.set_cons_zero, List.set_cons_succ]
          refine lx_rd 12 (.slice fA fn fc) (by kernel_rfl) (fun _ _ d _ _ h => by cases d <;> exact h) (by kernel_rfl) HS0 rfl rfl rfl (fun w' hS => ?hA12) ?_
          case hA12 => first | (go_simp; rfl) | go_simp
          simp only [List.setIfInBounds_toArray, List.set_cons_zero, List.set_cons_succ]
          refine lx_rd 13 (.pointer (some ⟨gT, k, none⟩)) (by kernel_rfl) (fun _ _ d _ _ h => by cases d <;> exact h) (by kernel_rfl) HS0 rfl rfl rfl (fun w' hS => ?hA13) ?_
          case hA13 => first | (go_simp; rfl) | go_simp
          simp only [List.setIfInBounds_toArray, List.set_cons_zero, List.set_cons_succ]
          have l1 : ∃ u, X.cell? ⟨gT, k, none⟩ = some u := by
            have h1 := oT9.cellAt k (by omega)
            have h2 : k < vs.length := by have := oT9.1; omega
            exact ⟨vs[k], by rw [h1]; exact List.getElem?_eq_getElem h2⟩
          have l2 : ∃ u, X.cell? ⟨gR, k, none⟩ = some u := by
            have h1 := oR9.cellAt k (by omega)
            have h2 : k < us.length := by have := oR9.1; omega
            exact ⟨us[k], by rw [h1]; exact List.getElem?_eq_getElem h2⟩
          obtain ⟨x1, l1⟩ := l1
          obtain ⟨x2, l2⟩ := l2
          have g1 := oT9.frozenAt k
          have g2 := oR9.frozenAt k
          have nTR : gR ≠ gT := fun e => own_apart oT9 oR9 (by decide) gT rfl (by rw [e]; rfl)
          have kT := setK X gT k (.slice pa fn pc)
          have HS1 : (X.setCell ⟨gT, k, none⟩ (.slice pa fn pc)).heap[q]? = some (.cells (qlc P (.slice aN L dN) (.slice (some ⟨gT, 0, none⟩) L cT) (.slice (some ⟨gR, 0, none⟩) L cR)) 57 (0, 0)) := box_keep HS0 kT (fun e => own_notq oT9 HS0 (by decide) (by rw [e]; rfl))
          refine lx_one 14 (by kernel_rfl) (stepT_store (w' := X.setCell ⟨gT, k, none⟩ (.slice pa fn pc)) rfl rfl rfl ?ca (fun _ => HS1) ?_)
          case ca => first | (go_simp; rfl) | go_simp
          have l3 : (X.setCell ⟨gT, k, none⟩ (.slice pa fn pc)).cell? ⟨gR, k, none⟩ = some x2 := kT.cell l2 nTR
          have g3 : (X.setCell ⟨gT, k, none⟩ (.slice pa fn pc)).frozen? ⟨gR, k, none⟩ = false := (own_keep oR9 kT (fun i e1 e2 => nTR (by rw [← e2]; exact Option.some.inj e1))).frozenAt k
          refine lx_rd 15 (.pointer (some ⟨gR, k, none⟩)) (by kernel_rfl) (fun _ _ d _ _ h => by cases d <;> exact h) (by kernel_rfl) HS1 rfl rfl rfl (fun w' hS => ?hB15) ?_
          case hB15 => first | (go_simp; rfl) | go_simp
          simp only [List.setIfInBounds_toArray, List.set_cons_zero, List.set_cons_succ]
          refine lx_one 16 (by kernel_rfl) (stepT_store (w' := (X.setCell ⟨gT, k, none⟩ (.slice pa fn pc)).setCell ⟨gR, k, none⟩ (.slice fA fn fc)) rfl rfl rfl ?cb (fun h => by cases h) ?_)
          case cb => first | (go_simp; rfl) | go_simp
          refine lx_nil (by kernel_rfl) ?_
          have HF : Hid (Qq w F q (putP P s rs) ((X.setCell ⟨gT, k, none⟩ (.slice pa fn pc)).setCell ⟨gR, k, none⟩ (.slice fA fn fc))) :=
            HH.out.turned Q3.out.2.2.2.2.2 s rs hb'.out Q3.out.2.1 Q3.out.2.2.1 Q3.out.2.2.2.1 Q3.out.2.2.2.2.1 (by rw [Hk.out, hrsl.out])
          clear l1 l2 l3 g1 g2 g3 nTR kT HS0 HS1 Q3 oT9 oR9
          generalize World.setCell _ _ _ = Y at HF ⊢
          go_wp2
          go_ret
          exact ⟨rfl, HF.out⟩
        | false =>
          rw [hb] at cA
          cases hd2 : decide (P.li ≤ (((sortK P.ks).length : Nat) : Int)) with
          | true =>
            have hst : ST = (8, P) := by
              have := hOk.out
              unfold fullR at this
              rw [hd1, hb, ← HLk.out, hd2] at this
              exact this
            subst hst
            clear hb
            go_upto_region 15 with (go_at_call 42; refine cA.mono ?_; clear cA; rintro e w2 ⟨rfl, hb2⟩)
            have Q2 : Hid (QM w2 F q P (.slice aN (sortK P.ks).length dN) vT vR vs us ∧ Below w.heap.size w w2 ∧ wr.heap.size ≤ w2.heap.size ∧ w.heap.size ≤ w2.heap.size) := ⟨HQ.out.below hb2, HB.out.trans (hb2.mono HB.out.size), hb2.size, Nat.le_trans HB.out.size hb2.size⟩
            have u0 : w2.cell? ⟨q, 0, none⟩ = some (.int .i64 P.li) := Q2.out.1.c0
            have u1 : w2.cell? ⟨q, 1, none⟩ = some (.int .i64 P.ru) := Q2.out.1.c1
            have u3 : w2.cell? ⟨q, 3, none⟩ = some (.slice aN (sortK P.ks).length dN) := Q2.out.1.c3
            have HX2 : Hid (TRd w2 pa fn pc (rs.map writtenR) ∧ (∀ ad, pa = some ad → w.heap.size ≤ ad.block ∧ ad.block < w2.heap.size) ∧ RRd w2 (fa, fn, fc) rs ∧ (∀ g, fa = some g → w.heap.size ≤ g ∧ g < w2.heap.size)) := ⟨HX.out.1.below hb2, fun ad e => ⟨(HX.out.2.1 ad e).1, Nat.lt_of_lt_of_le (HX.out.2.1 ad e).2 hb2.size⟩, HX.out.2.2.1.below hb2, fun g e => ⟨(HX.out.2.2.2 g e).1, Nat.lt_of_lt_of_le (HX.out.2.2.2 g e).2 hb2.size⟩⟩
            clear hb2
            go_quiet (fail)
            go_wp2
            go_ret
            exact ⟨rfl, Qq.ofBelow ⟨_, vT, vR, vs, us, HH.out⟩ (Q2.out.2.1.trans ((keepDrew (fun _ => False) w2 nq).below Q2.out.2.2.2 (fun j e => e.elim)))⟩
          | false =>
            have hst : ST = (0, putP P s rs) := by
              have := hOk.out
              unfold fullR at this
              rw [hd1, hb, ← HLk.out, hd2] at this
              exact this
            subst hst
            have hb' : Hid ((P.m s).isSome = false) := hb
            clear hb
            go_upto_region 15 with (go_at_call 42; refine cA.mono ?_; clear cA; rintro e w2 ⟨rfl, hb2⟩)
            have Q2 : Hid (QM w2 F q P (.slice aN (sortK P.ks).length dN) vT vR vs us ∧ Below w.heap.size w w2 ∧ wr.heap.size ≤ w2.heap.size ∧ w.heap.size ≤ w2.heap.size) := ⟨HQ.out.below hb2, HB.out.trans (hb2.mono HB.out.size), hb2.size, Nat.le_trans HB.out.size hb2.size⟩
            have u0 : w2.cell? ⟨q, 0, none⟩ = some (.int .i64 P.li) := Q2.out.1.c0
            have u1 : w2.cell? ⟨q, 1, none⟩ = some (.int .i64 P.ru) := Q2.out.1.c1
            have u3 : w2.cell? ⟨q, 3, none⟩ = some (.slice aN (sortK P.ks).length dN) := Q2.out.1.c3
            have HX2 : Hid (TRd w2 pa fn pc (rs.map writtenR) ∧ (∀ ad, pa = some ad → w.heap.size ≤ ad.block ∧ ad.block < w2.heap.size) ∧ RRd w2 (fa, fn, fc) rs ∧ (∀ g, fa = some g → w.heap.size ≤ g ∧ g < w2.heap.size)) := ⟨HX.out.1.below hb2, fun ad e => ⟨(HX.out.2.1 ad e).1, Nat.lt_of_lt_of_le (HX.out.2.1 ad e).2 hb2.size⟩, HX.out.2.2.1.below hb2, fun g e => ⟨(HX.out.2.2.2 g e).1, Nat.lt_of_lt_of_le (HX.out.2.2.2 g e).2 hb2.size⟩⟩
            clear hb2
            go_quiet (fail)
            have cP : Calls Tryz.prog 43 #[.pointer (some ⟨q, 0, none⟩), .int .i64 (atK (sortK P.ks) s : Nat), .int .i64 (atK (sortK P.ks) s : Nat), .string (ba s), .slice pa fn pc, .slice fA fn fc] (w2.drewN nq) fun e w' => e = .returned (.tuple #[]) ∧ Hid (Qq w F q (putP P s rs) w') := by
              have kd : Keep (fun _ => False) w2 (w2.drewN nq) := keepDrew (fun _ => False) w2 nq
              have hbd : Below w.heap.size w (w2.drewN nq) := Q2.out.2.1.trans (kd.below Q2.out.2.2.2 (fun j e => e.elim))
              have := qput_one s hse.out (atK (sortK P.ks) s) (atK (sortK P.ks) s) pa fn pc fA fn fc (w2.drewN nq) F q P (.slice aN (sortK P.ks).length dN) vT vR vs us (HH.out.below hbd) hkk.out hkk.out (by rw [HLk.out]; have := hk.out; omega)
              exact this.mono (fun e w' hh => ⟨hh.1, HH.out.putNew hbd s rs hb'.out (HX2.out.1.keep kd (fun _ _ e => e)) HX2.out.2.1 (HX2.out.2.2.1.keep kd (fun _ _ e => e)) HX2.out.2.2.2 (by have h2 := hh.2; rw [← hrsl.out] at h2; exact h2)⟩)
            clear HX HX2 HQ
            generalize (atK (sortK P.ks) s : Nat) = k at *
            go_wp2_with (go_at_call 43; refine cP.mono ?_; clear cP; rintro e w4 ⟨rfl, hq4⟩)
            go_ret
            exact ⟨rfl, hq4.out⟩
end Go.Proofs.YtiplalbicibahaaGreatDoor

/- privacy: the document's Drop; both lists side by side. -/
set_option maxRecDepth 100000
namespace Go.Proofs.YtiplalbicibahaaGreatDoor
open Go.RowKit Go.Joins Go.Shelf

theorem qset_any (s : By) (a : Option Addr) (n c : Nat) (ts : List By) (w : World) (F : Nat → Prop) (q : Nat) (P : Pl) (h : QAt w F q P) (hs : s.length ≤ 1000000) (hR : TRd w a n c ts) (hn : n ≤ 1000) (hts : ∀ t ∈ ts, t.length ≤ 2000000) (hk : P.ks.length ≤ 1000) :
    Calls Tryz.prog 19 #[.pointer (some ⟨q, 0, none⟩), .string (ba s), .slice a n c] w fun e w' => e = .returned (.int .i64 ((setR P s ts).1 : Nat)) ∧ Qq w F q (setR P s ts).2 w' := by
  by_cases h0 : nameE s = 0
  · exact qset_2 s a n c ts w F q P h hs hR hn hts hk h0
  · have e : setR P s ts = (nameE s, P) := by unfold setR; rw [if_pos h0]
    rw [e]
    exact qset_1 s _ w F q P h hs h0
set_option maxHeartbeats 1600000 in
theorem qdrop_any (s : By) (w : World) (F : Nat → Prop) (q : Nat) (P : Pl) (h : QAt w F q P) (hk : P.ks.length ≤ 1000) :
    Calls Tryz.prog 25 #[.pointer (some ⟨q, 0, none⟩), .string (ba s)] w fun e w' => e = .returned (.int .i64 ((dropR P s).1 : Nat)) ∧ Qq w F q (dropR P s).2 w' := by
  obtain ⟨vN, vT, vR, vs, us, h⟩ := h
  have cA := qat_m h s
  have HH : Hid (QM w F q P vN vT vR vs us) := h
  have e1 : ((ba P.us).toList == (ba s).toList) = (s == P.us) := by rw [ba_eq, Lib.toList_data, ba_list]; exact Bool.beq_comm
  have hl : Hid ((sortK P.ks).length ≤ 1000) := by show _ ≤ _; rw [sortK_len]; exact hk
  unfold dropR
  clear h hk
  cases hb : (P.m s).isSome with
  | false =>
    rw [hb] at cA
    rw [if_pos rfl]
    clear hb e1
    go_enter Tryz.func25, Tryz.ntmps25
    go_wp2_with (go_at_call 42; refine cA.mono ?_; clear cA; rintro e w1 ⟨rfl, hb1⟩)
    go_ret
    exact ⟨rfl, Qq.ofBelow ⟨vN, vT, vR, vs, us, HH.out⟩ hb1⟩
  | true =>
    rw [hb] at cA
    rw [if_neg (by decide)]
    have hb' : Hid ((P.m s).isSome = true) := hb
    have hat : Hid (atK (sortK P.ks) s + 1 ≤ (sortK P.ks).length) := (at_head ((at_mem (asc_sortK HH.out.nd)).2 (sortK_mem.2 ((HH.out.mem s).1 hb)))).1
    clear hb
    have hka : (atK (sortK P.ks) s : Int) ≤ 1000 := by have := hat.out; have := hl.out; omega
    have cP : Hid (∀ W, Below w.heap.size w W → Calls Tryz.prog 43 #[.pointer (some ⟨q, 0, none⟩), .int .i64 (atK (sortK P.ks) s : Nat), .int .i64 ((atK (sortK P.ks) s : Nat) + 1), .string ⟨#[]⟩, .slice none 0 0, .slice none 0 0] W fun e w' => e = .returned (.tuple #[]) ∧ Hid (Qq w F q (dropP P s) w')) := fun W hbW => by
      have := qput_none (atK (sortK P.ks) s) (atK (sortK P.ks) s + 1) W F q P vN vT vR vs us (HH.out.below hbW) (by have := hat.out; omega) hat.out (by have := hl.out; omega)
      exact this.mono (fun e w' hh => ⟨hh.1, HH.out.putGone hbW s hb'.out hh.2⟩)
    generalize atK (sortK P.ks) s = k at *
    generalize (s == P.us) = b1 at e1 ⊢
    cases b1 with
    | true =>
      rw [if_pos rfl]
      clear cP
      go_enter Tryz.func25, Tryz.ntmps25
      go_wp2_with (go_at_call 42; refine cA.mono ?_; clear cA; rintro e w1 ⟨rfl, hb1⟩; have u2 := (HH.out.below hb1).c2)
      go_ret
      exact ⟨rfl, Qq.ofBelow ⟨vN, vT, vR, vs, us, HH.out⟩ hb1⟩
    | false =>
      rw [if_neg (by decide)]
      go_enter Tryz.func25, Tryz.ntmps25
      go_wp2_with (first
        | (go_at_call 42; refine cA.mono ?_; clear cA; rintro e w1 ⟨rfl, hb1⟩; have u2 := (HH.out.below hb1).c2; have cP1 := cP.out w1 hb1; clear cP)
        | (go_at_call 43; refine cP1.mono ?_; clear cP1; rintro e w2 ⟨rfl, hq2⟩))
      go_ret
      exact ⟨rfl, hq2.out⟩

/-! ### the program's lists and the document's, side by side, beside what is the law's own (Z) -/
structure Tw (B : Nat) (w0 w : World) (p q : Nat) (P Q : Pl) (Z : Nat → Prop) : Prop where
  ex : ∃ F G, LsAt w F p P ∧ QAt w G q Q ∧ (∀ i, F i → B ≤ i ∧ ¬ Z i) ∧ (∀ i, G i → B ≤ i ∧ ¬ Z i) ∧ (∀ i, F i → ¬ G i)
  bl : Below B w0 w
  sz : B ≤ w.heap.size
  zl : ∀ i, Z i → i < w.heap.size
theorem QAt.lt {w : World} {F : Nat → Prop} {q : Nat} {P : Pl} (h : QAt w F q P) : ∀ i, F i → i < w.heap.size := by obtain ⟨vN, vT, vR, vs, us, h⟩ := h; exact h.lt
section
variable {B : Nat} {w0 w w' : World} {p q : Nat} {P Q P' : Pl} {Z Z' : Nat → Prop}
theorem Tw.below (h : Tw B w0 w p q P Q Z) (hb : Below w.heap.size w w') : Tw B w0 w' p q P Q Z := by
  obtain ⟨F, G, h1, h2, h3, h4, h5⟩ := h.ex
  exact ⟨⟨F, G, h1.below hb, h2.below hb, h3, h4, h5⟩, h.bl.trans (hb.mono h.sz), Nat.le_trans h.sz hb.size, fun i hi => Nat.lt_of_lt_of_le (h.zl i hi) hb.size⟩
/-- What was made since is the law's own. -/
theorem Tw.grow (h : Tw B w0 w p q P Q Z) (hb : Below w.heap.size w w') : Tw B w0 w' p q P Q (fun i => Z i ∨ (w.heap.size ≤ i ∧ i < w'.heap.size)) := by
  obtain ⟨F, G, h1, h2, h3, h4, h5⟩ := h.ex
  exact ⟨⟨F, G, h1.below hb, h2.below hb, fun i hi => ⟨(h3 i hi).1, fun z => z.elim (h3 i hi).2 (fun z => by have := h1.lt i hi; omega)⟩, fun i hi => ⟨(h4 i hi).1, fun z => z.elim (h4 i hi).2 (fun z => by have := h2.lt i hi; omega)⟩, h5⟩, h.bl.trans (hb.mono h.sz), Nat.le_trans h.sz hb.size, fun i hi => hi.elim (fun z => Nat.lt_of_lt_of_le (h.zl i z) hb.size) (fun z => z.2)⟩
theorem Tw.weak (h : Tw B w0 w p q P Q Z') (hz : ∀ i, Z i → Z' i) : Tw B w0 w p q P Q Z := by
  obtain ⟨F, G, h1, h2, h3, h4, h5⟩ := h.ex
  exact ⟨⟨F, G, h1, h2, fun i hi => ⟨(h3 i hi).1, fun z => (h3 i hi).2 (hz i z)⟩, fun i hi => ⟨(h4 i hi).1, fun z => (h4 i hi).2 (hz i z)⟩, h5⟩, h.bl, h.sz, fun i hi => h.zl i (hz i hi)⟩
/-- The law writes to what is its own. -/
theorem Tw.own {S : Nat → Prop} (h : Tw B w0 w p q P Q Z) (hk : Keep S w w') (hS : ∀ i, S i → Z i ∧ B ≤ i) : Tw B w0 w' p q P Q Z := by
  obtain ⟨F, G, h1, h2, h3, h4, h5⟩ := h.ex
  exact ⟨⟨F, G, h1.keep hk (fun i hi hs => (h3 i hi).2 (hS i hs).1), h2.keep hk (fun i hi hs => (h4 i hi).2 (hS i hs).1), h3, h4, h5⟩, h.bl.trans (hk.below h.sz (fun i hi => (hS i hi).2)), Nat.le_trans h.sz hk.size, fun i hi => Nat.lt_of_lt_of_le (h.zl i hi) hk.size⟩
theorem Tw.left {F G : Nat → Prop} (h : Tw B w0 w p q P Q Z) (h2 : QAt w G q Q) (h3 : ∀ i, F i → B ≤ i ∧ ¬ Z i) (h4 : ∀ i, G i → B ≤ i ∧ ¬ Z i) (h5 : ∀ i, F i → ¬ G i) (hl : Lq w F p P' w') : Tw B w0 w' p q P' Q Z ∧ Keep (Oth B Z) w w' := by
  obtain ⟨F', hL', hk, hn⟩ := hl
  exact ⟨⟨⟨F', G, hL', h2.keep hk (fun i hi e => h5 i e hi), fun i hi => (hn i hi).elim (h3 i) (fun e => ⟨Nat.le_trans h.sz e, fun z => by have := h.zl i z; omega⟩), h4, fun i hi hg => (hn i hi).elim (fun e => h5 i e hg) (fun e => by have := h2.lt i hg; omega)⟩, h.bl.trans (hk.below h.sz (fun i hi => (h3 i hi).1)), Nat.le_trans h.sz hk.size, fun i hi => Nat.lt_of_lt_of_le (h.zl i hi) hk.size⟩, hk.mono h3⟩
theorem Tw.right {F G : Nat → Prop} (h : Tw B w0 w p q P Q Z) (h1 : LsAt w F p P) (h3 : ∀ i, F i → B ≤ i ∧ ¬ Z i) (h4 : ∀ i, G i → B ≤ i ∧ ¬ Z i) (h5 : ∀ i, F i → ¬ G i) (hl : Qq w G q P' w') : Tw B w0 w' p q P P' Z ∧ Keep (Oth B Z) w w' := by
  obtain ⟨G', hQ', hk, hn⟩ := hl
  exact ⟨⟨⟨F, G', h1.keep hk (fun i hi e => h5 i hi e), hQ', h3, fun i hi => (hn i hi).elim (h4 i) (fun e => ⟨Nat.le_trans h.sz e, fun z => by have := h.zl i z; omega⟩), fun i hi hg => (hn i hg).elim (fun e => h5 i hi e) (fun e => by have := h1.lt i hi; omega)⟩, h.bl.trans (hk.below h.sz (fun i hi => (h4 i hi).1)), Nat.le_trans h.sz hk.size, fun i hi => Nat.lt_of_lt_of_le (h.zl i hi) hk.size⟩, hk.mono h4⟩
theorem tw_set (h : Tw B w0 w p q P Q Z) (s : By) (a : Option Addr) (n c : Nat) (ts : List By) (hs : s.length ≤ 80) (hR : TRd w a n c ts) (hn : n ≤ 20) (hts : ∀ t ∈ ts, t.length ≤ 120) (hk : P.ks.length ≤ 1000) (hT : Lib.Utf8Tabs 0 1 w) :
    Calls Tryz.prog 18 #[.pointer (some ⟨p, 0, none⟩), .string (ba s), .slice a n c] w fun e w' => e = .returned (.int .i64 ((setR P s ts).1 : Nat)) ∧ Hid (Tw B w0 w' p q (setR P s ts).2 Q Z ∧ Keep (Oth B Z) w w') := by
  obtain ⟨F, G, h1, h2, h3, h4, h5⟩ := h.ex
  exact (set_any s a n c ts w F p P h1 (by omega) hR (by omega) (fun t ht => by have := hts t ht; omega) (by omega) hT).mono (fun e w' hh => ⟨hh.1, h.left h2 h3 h4 h5 hh.2⟩)
theorem tw_qset (h : Tw B w0 w p q P Q Z) (s : By) (a : Option Addr) (n c : Nat) (ts : List By) (hs : s.length ≤ 80) (hR : TRd w a n c ts) (hn : n ≤ 20) (hts : ∀ t ∈ ts, t.length ≤ 120) (hk : Q.ks.length ≤ 1000) :
    Calls Tryz.prog 19 #[.pointer (some ⟨q, 0, none⟩), .string (ba s), .slice a n c] w fun e w' => e = .returned (.int .i64 ((setR Q s ts).1 : Nat)) ∧ Hid (Tw B w0 w' p q P (setR Q s ts).2 Z ∧ Keep (Oth B Z) w w') := by
  obtain ⟨F, G, h1, h2, h3, h4, h5⟩ := h.ex
  exact (qset_any s a n c ts w G q Q h2 (by omega) hR (by omega) (fun t ht => by have := hts t ht; omega) hk).mono (fun e w' hh => ⟨hh.1, h.right h1 h3 h4 h5 hh.2⟩)
theorem tw_drop (h : Tw B w0 w p q P Q Z) (s : By) (hs : s.length ≤ 80) :
    Calls Tryz.prog 23 #[.pointer (some ⟨p, 0, none⟩), .string (ba s)] w fun e w' => e = .returned (.int .i64 ((dropR P s).1 : Nat)) ∧ Hid (Tw B w0 w' p q (dropR P s).2 Q Z ∧ Keep (Oth B Z) w w') := by
  obtain ⟨F, G, h1, h2, h3, h4, h5⟩ := h.ex
  exact (drop_any s w F p P h1 (by omega)).mono (fun e w' hh => ⟨hh.1, h.left h2 h3 h4 h5 ⟨F, hh.2.1, hh.2.2, fun i hi => Or.inl hi⟩⟩)
theorem tw_qdrop (h : Tw B w0 w p q P Q Z) (s : By) (hk : Q.ks.length ≤ 1000) :
    Calls Tryz.prog 25 #[.pointer (some ⟨q, 0, none⟩), .string (ba s)] w fun e w' => e = .returned (.int .i64 ((dropR Q s).1 : Nat)) ∧ Hid (Tw B w0 w' p q P (dropR Q s).2 Z ∧ Keep (Oth B Z) w w') := by
  obtain ⟨F, G, h1, h2, h3, h4, h5⟩ := h.ex
  exact (qdrop_any s w G q Q h2 hk).mono (fun e w' hh => ⟨hh.1, h.right h1 h3 h4 h5 hh.2⟩)
theorem tw_default (h : Tw B w0 w p q P Q Z) (s : By) (hs : s.length ≤ 80) :
    Calls Tryz.prog 26 #[.pointer (some ⟨p, 0, none⟩), .string (ba s)] w fun e w' => e = .returned (.int .i64 ((defaultR P s).1 : Nat)) ∧ Hid (Tw B w0 w' p q (defaultR P s).2 Q Z ∧ Keep (Oth B Z) w w') := by
  obtain ⟨F, G, h1, h2, h3, h4, h5⟩ := h.ex
  exact (default_any s w F p P h1 (by omega)).mono (fun e w' hh => ⟨hh.1, h.left h2 h3 h4 h5 ⟨F, hh.2.1, hh.2.2, fun i hi => Or.inl hi⟩⟩)
theorem tw_qdefault (h : Tw B w0 w p q P Q Z) (s : By) :
    Calls Tryz.prog 27 #[.pointer (some ⟨q, 0, none⟩), .string (ba s)] w fun e w' => e = .returned (.int .i64 ((defaultR Q s).1 : Nat)) ∧ Hid (Tw B w0 w' p q P (defaultR Q s).2 Z ∧ Keep (Oth B Z) w w') := by
  obtain ⟨F, G, h1, h2, h3, h4, h5⟩ := h.ex
  exact (qdefault_any s w G q Q h2).mono (fun e w' hh => ⟨hh.1, h.right h1 h3 h4 h5 ⟨G, hh.2.1, hh.2.2, fun i hi => Or.inl hi⟩⟩)
theorem tw_allows (h : Tw B w0 w p q P Q Z) (s : By) (y : Qy) (a : Option Addr) (n c : Nat) (hs : s.length ≤ 80) (hu : P.us.length ≤ 80) (hR : TRd w a n c y.gs) (hsb : y.s.length ≤ 9223372036854775807) (hl : (heldR P s).length ≤ 20) :
    Calls Tryz.prog 22 #[.pointer (some ⟨p, 0, none⟩), .string (ba s), .bool y.i, .string (ba y.c), .slice a n c, .string (ba y.s)] w fun e w' => e = .returned (.bool (allowsR y (heldR P s))) ∧ Below w.heap.size w w' := by
  obtain ⟨F, G, h1, h2, h3, h4, h5⟩ := h.ex
  exact allows_any s y a n c w F p P h1 (by omega) (by omega) hR hsb (by omega)
theorem tw_qallows (h : Tw B w0 w p q P Q Z) (s : By) (y : Qy) (a : Option Addr) (n c : Nat) (hR : TRd w a n c y.gs) (hl : (heldR Q s).length ≤ 20) (hok : ∀ r ∈ heldR Q s, RulN r) :
    Calls Tryz.prog 28 #[.pointer (some ⟨q, 0, none⟩), .string (ba s), .bool y.i, .string (ba y.c), .slice a n c, .string (ba y.s)] w fun e w' => e = .returned (.bool (allowsR y (heldR Q s))) ∧ Below w.heap.size w w' := by
  obtain ⟨F, G, h1, h2, h3, h4, h5⟩ := h.ex
  exact qallows_any s y a n c w G q Q h2 hR (by omega) (fun r hr => (hok r hr).1)
theorem tw_has (h : Tw B w0 w p q P Q Z) (s : By) (hs : s.length ≤ 80) : Calls Tryz.prog 29 #[.pointer (some ⟨p, 0, none⟩), .string (ba s)] w fun e w' => e = .returned (.bool (P.m s).isSome) ∧ w' = w := by
  obtain ⟨F, G, ⟨mb, m, h1⟩, h2, h3, h4, h5⟩ := h.ex
  exact has_any s w F p mb m P h1 (by omega)
theorem tw_qhas (h : Tw B w0 w p q P Q Z) (s : By) : Calls Tryz.prog 30 #[.pointer (some ⟨q, 0, none⟩), .string (ba s)] w fun e w' => e = .returned (.bool (Q.m s).isSome) ∧ Below w.heap.size w w' := by
  obtain ⟨F, G, h1, h2, h3, h4, h5⟩ := h.ex
  exact qhas_any s w G q Q h2
theorem tw_shelf (h : Tw B w0 w p q P Q Z) {n : Nat} (hn : Nice P n) (h1000 : n ≤ 1000) :
    Calls Tryz.prog 11 #[.pointer (some ⟨p, 0, none⟩)] w fun e w' => ∃ S, e = .returned S ∧ ShA w' w.heap.size P.li P.ru P.us (sortK P.ks) ((sortK P.ks).map (textsK P)) S ∧ Below w.heap.size w w' := by
  obtain ⟨F, G, ⟨mb, m, h1⟩, h2, h3, h4, h5⟩ := h.ex
  exact shelf_any w F p mb m P h1 (by have := hn.kn; omega) (by have := hn.us; omega) (fun k hk => by have := hn.nm k hk; omega) (fun k => by have := hn.rl k; omega) (fun k r hr => by have := (hn.rz k r hr).2.2; omega)
theorem tw_qshelf (h : Tw B w0 w p q P Q Z) {n : Nat} (hn : Nice Q n) (h1000 : n ≤ 1000) :
    Calls Tryz.prog 12 #[.pointer (some ⟨q, 0, none⟩)] w fun e w' => ∃ S, e = .returned S ∧ ShA w' w.heap.size Q.li Q.ru Q.us (sortK Q.ks) ((sortK Q.ks).map (textsK Q)) S ∧ Below w.heap.size w w' := by
  obtain ⟨F, G, h1, h2, h3, h4, h5⟩ := h.ex
  exact qshelf_any w G q Q h2 (by have := hn.kn; omega) (fun k => by have := hn.rl k; omega)
end
end Go.Proofs.YtiplalbicibahaaGreatDoor

/- privacy: calls as an argument; a law's call of both. -/
set_option maxRecDepth 100000
namespace Go.Proofs.YtiplalbicibahaaGreatDoor
open Go.RowKit Go.Joins Go.Shelf

/-! ### calls as an argument -/
structure ORd (w : World) (a : Option Addr) (n c : Nat) : Prop where
  cap : n ≤ c
  most : c ≤ maxLen
  flat : 0 < n → ∃ b off, a = some ⟨b, off, none⟩ ∧ ∀ j, j < n → ∃ o ts gs, w.rangeAt b (off + j * 7) (oc o).toList ∧ OpR w o ts gs
section
open Go.ChangeShapes Go.WideShapes Go.ChangeAt
theorem list7 {α : Type} {l : List α} (h : l.length = 7) : ∃ c0 c1 c2 c3 c4 c5 c6, l = [c0, c1, c2, c3, c4, c5, c6] := by
  match l, h with
  | [c0, c1, c2, c3, c4, c5, c6], _ => exact ⟨c0, c1, c2, c3, c4, c5, c6, rfl⟩
theorem open_pops {H : Type} {enc : TypeId × Value → H} {W : World} {b0 : Nat} {v : Value} {d : DataW H} {p : List MemPlace}
    (hv : Value.okWide Tryz.prog W .any b0 22 v) (h : DataW.Trod enc Tryz.prog W 0 (fun _ => true) true 22 v d p) : ∃ a n c, v = .slice a n c ∧ ORd W a n c := by
  obtain ⟨a, n, c, rfl⟩ := okWide_slice Tryz.underlying22 hv
  obtain ⟨fuel, hf⟩ := h
  rcases Go.Deep.open_slice Tryz.underlying22 hf with ⟨hcs, _⟩ | ⟨x, l, cc, m, k, D, Pl, hcs, hb, hl, hm, hmm, _, hx⟩
  · simp [Value.cells] at hcs
    obtain ⟨rfl, rfl, rfl⟩ := hcs
    exact ⟨none, 0, 0, rfl, Nat.le_refl _, Nat.zero_le _, fun h => by omega⟩
  · simp [Value.cells] at hcs
    obtain ⟨rfl, rfl, rfl⟩ := hcs
    simp only [if_true] at hmm
    subst hmm
    have each : ∀ j, j < n → ∃ o ts gs, (∀ i u, (oc o)[i]? = some u → W.cell? (x.add (j * 7 + i)) = some u) ∧ OpR W o ts gs := by
      intro j hj
      obtain ⟨cs', h1, h2⟩ := hx j (by omega)
      rw [cellsOp] at h1
      obtain ⟨_, hlen, hcell⟩ := World.cells?_some h1
      obtain ⟨c0, c1, c2, c3, c4, c5, c6, rfl⟩ := list7 hlen
      obtain ⟨o, ts, gs, e, hR⟩ := op_cells h2
      refine ⟨o, ts, gs, fun i u hu => ?_, hR⟩
      rw [← e] at hu
      have hi : i < 7 := by
        have := (Array.getElem?_eq_some_iff.1 hu).1
        simpa using this
      have := hcell i (by omega)
      rw [Go.Deep.add_add] at this
      rw [this]
      simpa using hu
    refine ⟨some x, n, _, rfl, hl, hm, fun h0 => ?_⟩
    obtain ⟨b, off, spot⟩ := x
    obtain ⟨o0, ts0, gs0, h0c, _⟩ := each 0 h0
    have hspot : spot = none := by simpa [Addr.add] using World.cell?_spot (h0c 0 _ rfl)
    subst hspot
    refine ⟨b, off, rfl, fun j hj => ?_⟩
    obtain ⟨o, ts, gs, hc, hR⟩ := each j hj
    refine ⟨o, ts, gs, fun i u hu => ?_, hR⟩
    have := hc i u (by rw [← Array.getElem?_toList]; exact hu)
    rw [add_flat] at this
    rw [Nat.add_assoc]
    exact this
end
theorem OpR.below {w w' : World} {o : Op7} {ts gs : List By} (h : OpR w o ts gs) (hb : Below w.heap.size w w') : OpR w' o ts gs := ⟨h.t.below hb, h.g.below hb, h.s⟩

/-! ### a call of both -/
theorem op0 {w : World} {b : Nat} {o : Op7} (h : w.heap[b]? = some (.cells (oc o) 34 (0, 0))) : w.cell? ⟨b, 0, none⟩ = some (.int .i64 o.d) := by rw [cell_of_block h]; rfl
theorem op1 {w : World} {b : Nat} {o : Op7} (h : w.heap[b]? = some (.cells (oc o) 34 (0, 0))) : w.cell? ⟨b, 1, none⟩ = some (.string (ba o.nm)) := by rw [cell_of_block h]; rfl
theorem op2 {w : World} {b : Nat} {o : Op7} (h : w.heap[b]? = some (.cells (oc o) 34 (0, 0))) : w.cell? ⟨b, 2, none⟩ = some (.slice o.ta o.tn o.tc) := by rw [cell_of_block h]; rfl
theorem op3 {w : World} {b : Nat} {o : Op7} (h : w.heap[b]? = some (.cells (oc o) 34 (0, 0))) : w.cell? ⟨b, 3, none⟩ = some (.bool o.i) := by rw [cell_of_block h]; rfl
theorem op4 {w : World} {b : Nat} {o : Op7} (h : w.heap[b]? = some (.cells (oc o) 34 (0, 0))) : w.cell? ⟨b, 4, none⟩ = some (.string (ba o.c)) := by rw [cell_of_block h]; rfl
theorem op5 {w : World} {b : Nat} {o : Op7} (h : w.heap[b]? = some (.cells (oc o) 34 (0, 0))) : w.cell? ⟨b, 5, none⟩ = some (.slice o.ga o.gn o.gc) := by rw [cell_of_block h]; rfl
theorem op6 {w : World} {b : Nat} {o : Op7} (h : w.heap[b]? = some (.cells (oc o) 34 (0, 0))) : w.cell? ⟨b, 6, none⟩ = some (.string (ba o.s)) := by rw [cell_of_block h]; rfl
/-- What a call of both is to leave. -/
def Played (B : Nat) (w0 w w' : World) (p q n : Nat) (Z : Nat → Prop) : Prop := ∃ P', Tw B w0 w' p q P' P' Z ∧ Nice P' (n + 1) ∧ Keep (Oth B Z) w w'
set_option maxHeartbeats 3200000 in
theorem plays_any (o : Op7) (ts gs : List By) (B : Nat) (w0 w : World) (p q : Nat) (P : Pl) (n : Nat) (Z : Nat → Prop) (hB : w0.heap.size = B) (hO : OpR w0 o ts gs) (hT : Lib.Utf8Tabs 0 1 w0) (h : Tw B w0 w p q P P Z) (hn : Nice P n) (hn2 : n ≤ 900) :
    Calls Tryz.prog 9 #[.pointer (some ⟨p, 0, none⟩), .pointer (some ⟨q, 0, none⟩), .agg (oc o)] w fun e w' => e = .returned (.bool true) ∧ Played B w0 w w' p q n Z := by
  have HA : Hid (OpR w0 o ts gs ∧ Lib.Utf8Tabs 0 1 w0 ∧ w0.heap.size = B) := ⟨hO, hT, hB⟩
  obtain ⟨b0, Hb0⟩ : ∃ b0, Hid (w.heap.size = b0) := ⟨_, rfl⟩
  obtain ⟨Z1, HZ1⟩ : ∃ Z1 : Nat → Prop, Hid ((fun i => Z i ∨ i = b0) = Z1) := ⟨_, rfl⟩
  have HX0 : Hid ((w.alloc (.cells (oc o) 34)).heap[b0]? = some (.cells (oc o) 34 (0, 0)) ∧ Tw B w0 (w.alloc (.cells (oc o) 34)) p q P P Z1 ∧ Keep (Oth B Z) w (w.alloc (.cells (oc o) 34))) := by
    refine ⟨by rw [← Hb0.out]; exact push_at _ _ rfl, (h.grow (below1 w (.cells (oc o) 34))).weak (fun i hi => ?_), (Keep.refl _ _).alloc _⟩
    rw [← HZ1.out] at hi
    rcases hi with e | e
    · exact Or.inl e
    · rw [← Hb0.out] at e
      exact Or.inr ⟨by omega, by rw [e]; simp⟩
  have HN : Hid (Nice P n ∧ n ≤ 900) := ⟨hn, hn2⟩
  have hZb : Hid (Z1 b0 ∧ ∀ i, Z i → Z1 i) := ⟨by rw [← HZ1.out]; exact Or.inr rfl, fun i hi => by rw [← HZ1.out]; exact Or.inl hi⟩
  obtain ⟨A, HAl⟩ : ∃ A, Hid (cutT ts 20 120 = A) := ⟨_, rfl⟩
  obtain ⟨N, HNl⟩ : ∃ N, Hid (A.length = N) := ⟨_, rfl⟩
  have HA20 : Hid (N ≤ 20 ∧ ∀ t ∈ A, t.length ≤ 120) := by
    have h1 := cutT_len ts 20 120
    have h2 := cutT_size ts 20 120
    rw [HAl.out] at h1 h2
    rw [HNl.out] at h1
    exact ⟨h1, h2⟩
  obtain ⟨G, HGl⟩ : ∃ G, Hid (cutT gs 10 80 = G) := ⟨_, rfl⟩
  obtain ⟨M, HMl⟩ : ∃ M, Hid (G.length = M) := ⟨_, rfl⟩
  have cT : Hid (∀ W, Below B w0 W → Calls Tryz.prog 17 #[.slice o.ta o.tn o.tc, .int .i64 20, .int .i64 120] W fun e W' => ∃ a c, e = .returned (.slice a N c) ∧ TRd W' a N c A ∧ Below W.heap.size W W') := fun W hb =>
    (texts_any o.ta o.tn o.tc ts 20 120 W (HA.out.1.t.below (by rw [HA.out.2.2]; exact hb)) (by omega) (by omega)).mono (fun e W' hh => by
      rw [HAl.out, HNl.out] at hh
      obtain ⟨v, rfl, ho, hb⟩ := hh
      obtain ⟨a, c, rfl, hr⟩ := TRd.ofOwn ho
      exact ⟨a, c, rfl, hr, hb⟩)
  have cG : Hid (∀ W, Below B w0 W → Calls Tryz.prog 17 #[.slice o.ga o.gn o.gc, .int .i64 10, .int .i64 80] W fun e W' => ∃ a c, e = .returned (.slice a M c) ∧ TRd W' a M c G ∧ Below W.heap.size W W') := fun W hb =>
    (texts_any o.ga o.gn o.gc gs 10 80 W (HA.out.1.g.below (by rw [HA.out.2.2]; exact hb)) (by omega) (by omega)).mono (fun e W' hh => by
      rw [HGl.out, HMl.out] at hh
      obtain ⟨v, rfl, ho, hb⟩ := hh
      obtain ⟨a, c, rfl, hr⟩ := TRd.ofOwn ho
      exact ⟨a, c, rfl, hr, hb⟩)
  have cG2 : Hid (∀ W a c, TRd W a M c G → Calls Tryz.prog 17 #[.slice a M c, .int .i64 10, .int .i64 80] W fun e W' => ∃ a c, e = .returned (.slice a M c) ∧ TRd W' a M c G ∧ Below W.heap.size W W') := fun W a c hr =>
    (texts_any a M c G 10 80 W hr (by omega) (by omega)).mono (fun e W' hh => by
      rw [show cutT G 10 80 = G by rw [← HGl.out]; exact cutT_cut gs 10 80, HMl.out] at hh
      obtain ⟨v, rfl, ho, hb⟩ := hh
      obtain ⟨a, c, rfl, hr⟩ := TRd.ofOwn ho
      exact ⟨a, c, rfl, hr, hb⟩)
  have cN := fun w => text_any o.nm 80 w (by omega)
  obtain ⟨nm, HNm⟩ : ∃ nm, Hid (o.nm.take 80 = nm) := ⟨_, rfl⟩
  rw [HNm.out] at cN
  have Hnl : Hid (nm.length ≤ 80) := by show _ ≤ _; rw [← HNm.out, List.length_take]; omega
  have HTw : Hid (∀ W, Below B w0 W → Lib.Utf8Tabs 0 1 W) := fun W hb => tabs_bel HA.out.2.1 (by rw [HA.out.2.2]; exact hb)
  have HNl' := HNl
  clear hO hT hB h hn hn2 HAl HNl HGl HMl HNm
  unfold oc at HX0
  unfold oc
  go_enter Tryz.func9, Tryz.ntmps9
  go_upto_region 1 with fail
  rw [Hb0.out]
  generalize w.alloc _ = X0 at HX0 ⊢
  have u0 := op0 (o := o) HX0.out.1
  have u1 := op1 (o := o) HX0.out.1
  go_upto_region 3 with (go_at_call 24; refine (cN _).mono ?_; clear cN; rintro e w2 ⟨rfl, hw2⟩; replace hw2 := hw2.symm; subst hw2)
  have hE : ∀ n : Nat, ((n : Int) == (n : Int)) = true := fun n => beq_self_eq_true _
  by_cases d1 : o.d = 1
  · have e1 : (o.d == 1) = true := by rw [d1]; rfl
    clear d1 cG cG2
    go_upto_region 4 with fail
    have hD := (Below.refl X0.heap.size X0).drew
    have HX1 : Hid ((X0.drew).heap[b0]? = some (.cells (oc o) 34 (0, 0)) ∧ Tw B w0 X0.drew p q P P Z1 ∧ Keep (Oth B Z) w X0.drew) := ⟨box_below HX0.out.1 hD, HX0.out.2.1.below hD, HX0.out.2.2.drew⟩
    clear HX0 hD u0 u1 e1
    refine wp_region_lx (fun w' => w'.heap[b0]? = some (.cells (oc o) 34 (0, 0))) [] 14 (by kernel_rfl) (by kernel_rfl) ?_
    generalize World.drew _ = X at HX1 ⊢
    have HS0 := HX1.out.1
    refine lx_rd 0 (.pointer (some ⟨p, 0, none⟩)) (by kernel_rfl) (fun _ _ d _ _ h => by cases d <;> exact h) (by kernel_rfl) HS0 rfl rfl rfl (fun w' hS => ?hA0) ?_
    case hA0 => first | (go_simp; rfl) | go_simp
    simp only [List.setIfInBounds_toArray, List.set_cons_zero, List.set_cons_succ]
    refine lx_rd 1 (.string (ba nm)) (by kernel_rfl) (fun _ _ d _ _ h => by cases d <;> exact h) (by kernel_rfl) HS0 rfl rfl rfl (fun w' hS => ?hA1) ?_
    case hA1 => first | (go_simp; rfl) | go_simp
    simp only [List.setIfInBounds_toArray, List.set_cons_zero, List.set_cons_succ]
    refine lx_rd 2 (.pointer (some ⟨b0, 2, none⟩)) (by kernel_rfl) (fun _ _ d _ _ h => by cases d <;> exact h) (by kernel_rfl) HS0 rfl rfl rfl (fun w' hS => ?hA2) ?_
    case hA2 => first | (go_simp; rfl) | go_simp
    simp only [List.setIfInBounds_toArray, List.set_cons_zero, List.set_cons_succ]
    refine lx_rd 3 (.slice o.ta o.tn o.tc) (by kernel_rfl) (fun _ _ d _ _ h => by cases d <;> exact h) (by kernel_rfl) HS0 rfl rfl rfl (fun w' hS => ?hA3) ?_
    case hA3 => have q0 := op2 hS; first | (go_simp; rfl) | go_simp
    simp only [List.setIfInBounds_toArray, List.set_cons_zero, List.set_cons_succ]
    refine lx_rd 6 (.pointer (some ⟨q, 0, none⟩)) (by kernel_rfl) (fun _ _ d _ _ h => by cases d <;> exact h) (by kernel_rfl) HS0 rfl rfl rfl (fun w' hS => ?hA6) ?_
    case hA6 => first | (go_simp; rfl) | go_simp
    simp only [List.setIfInBounds_toArray, List.set_cons_zero, List.set_cons_succ]
    refine lx_rd 7 (.string (ba nm)) (by kernel_rfl) (fun _ _ d _ _ h => by cases d <;> exact h) (by kernel_rfl) HS0 rfl rfl rfl (fun w' hS => ?hA7) ?_
    case hA7 => first | (go_simp; rfl) | go_simp
    simp only [List.setIfInBounds_toArray, List.set_cons_zero, List.set_cons_succ]
    refine lx_rd 8 (.pointer (some ⟨b0, 2, none⟩)) (by kernel_rfl) (fun _ _ d _ _ h => by cases d <;> exact h) (by kernel_rfl) HS0 rfl rfl rfl (fun w' hS => ?hA8) ?_
    case hA8 => first | (go_simp; rfl) | go_simp
    simp only [List.setIfInBounds_toArray, List.set_cons_zero, List.set_cons_succ]
    refine lx_rd 9 (.slice o.ta o.tn o.tc) (by kernel_rfl) (fun _ _ d _ _ h => by cases d <;> exact h) (by kernel_rfl) HS0 rfl rfl rfl (fun w' hS => ?hA9) ?_
    case hA9 => have q0 := op2 hS; first | (go_simp; rfl) | go_simp
    simp only [List.setIfInBounds_toArray, List.set_cons_zero, List.set_cons_succ]
    refine lx_one 4 (by kernel_rfl) (stepT_call 17 ?ac rfl rfl rfl ?rc ?_)
    case rc => first | (go_simp; rfl) | go_simp
    refine (cT.out X HX1.out.2.1.bl).mono ?_
    rintro e X1 ⟨a1, c1, rfl, t1, hb1⟩
    have HS1 := box_below HS0 hb1
    refine ⟨_, rfl, fun _ => HS1, ?_⟩
    simp only [lxa, lxb, lxc]
    have T1 := HX1.out.2.1.below hb1
    refine lx_one 5 (by kernel_rfl) (stepT_call 18 ?ad rfl rfl rfl ?rd ?_)
    case rd => first | (go_simp; rfl) | go_simp
    refine (tw_set T1 nm a1 N c1 A Hnl.out t1 HA20.out.1 HA20.out.2 (by have := HN.out.1.kn; have := HN.out.2; omega) (HTw.out X1 T1.bl)).mono ?_
    rintro e X2 ⟨rfl, T2⟩
    have HS2 : X2.heap[b0]? = some (.cells (oc o) 34 (0, 0)) := box_keep HS1 T2.out.2 (fun e => e.2 hZb.out.1)
    refine ⟨_, rfl, fun _ => HS2, ?_⟩
    simp only [lxa, lxb, lxc]
    refine lx_one 10 (by kernel_rfl) (stepT_call 17 ?ae rfl rfl rfl ?re ?_)
    case re => first | (go_simp; rfl) | go_simp
    refine (cT.out X2 T2.out.1.bl).mono ?_
    rintro e X3 ⟨a3, c3, rfl, t3, hb3⟩
    have HS3 := box_below HS2 hb3
    refine ⟨_, rfl, fun _ => HS3, ?_⟩
    simp only [lxa, lxb, lxc]
    have T3 := T2.out.1.below hb3
    refine lx_one 11 (by kernel_rfl) (stepT_call 19 ?af rfl rfl rfl ?rf ?_)
    case rf => first | (go_simp; rfl) | go_simp
    refine (tw_qset T3 nm a3 N c3 A Hnl.out t3 HA20.out.1 HA20.out.2 (by have := HN.out.1.kn; have := HN.out.2; omega)).mono ?_
    rintro e X4 ⟨rfl, T4⟩
    have HS4 : X4.heap[b0]? = some (.cells (oc o) 34 (0, 0)) := box_keep HS3 T4.out.2 (fun e => e.2 hZb.out.1)
    refine ⟨_, rfl, fun _ => HS4, ?_⟩
    simp only [lxa, lxb, lxc]
    have HF : Hid (Played B w0 w X4 p q n Z) := by
      refine ⟨_, T4.out.1.weak hZb.out.2, HN.out.1.set nm A Hnl.out (by rw [HNl'.out]; exact HA20.out.1), ?_⟩
      have hO : ∀ {W W'}, Keep (Oth B Z1) W W' → Keep (Oth B Z) W W' := fun h => h.mono (fun i hi => ⟨hi.1, fun z => hi.2 (hZb.out.2 i z)⟩)
      exact (((HX1.out.2.2.trans (Keep.ofBelow hb1)).trans (hO T2.out.2)).trans (Keep.ofBelow hb3)).trans (hO T4.out.2)
    have hEq := hE (setR P nm A).1
    clear HS0 HS1 HS2 HS3 T1 T2 T3 T4 HX1 t1 t3 hb1 hb3
    generalize (setR P nm A).1 = en at hEq ⊢
    refine lx_rd 12 (.bool true) (by kernel_rfl) (fun _ _ d _ _ h => by cases d <;> exact h) (by kernel_rfl) HS4 rfl rfl rfl (fun w' hS => ?hC12) ?_
    case hC12 => first | (go_simp; rfl) | go_simp
    simp only [List.setIfInBounds_toArray, List.set_cons_zero, List.set_cons_succ]
    refine lx_rd 13 (.bool true) (by kernel_rfl) (fun _ _ d _ _ h => by cases d <;> exact h) (by kernel_rfl) HS4 rfl rfl rfl (fun w' hS => ?hC13) ?_
    case hC13 => first | (go_simp; rfl) | go_simp
    simp only [List.setIfInBounds_toArray, List.set_cons_zero, List.set_cons_succ]
    refine lx_nil (by kernel_rfl) ?_
    clear HS4 hEq
    go_wp2
    go_ret
    exact ⟨rfl, HF.out⟩
  · have e1 : (o.d == 1) = false := by rw [beq_eq_false_iff_ne]; exact d1
    clear d1 cT
    by_cases d2 : o.d = 2
    · have e2 : (o.d == 2) = true := by rw [d2]; rfl
      clear d2 cG cG2
      have c1 := tw_drop HX0.out.2.1 nm Hnl.out
      have HF : Hid (∀ W, Tw B w0 W p q (dropR P nm).2 (dropR P nm).2 Z1 → Keep (Oth B Z1) X0 W → Played B w0 w W p q n Z) := fun W h hk => ⟨_, h.weak hZb.out.2, (HN.out.1.drop nm).mono (by omega), HX0.out.2.2.trans (hk.mono (fun i hi => ⟨hi.1, fun z => hi.2 (hZb.out.2 i z)⟩))⟩
      have c2 : Hid (∀ W, Tw B w0 W p q (dropR P nm).2 P Z1 → Calls Tryz.prog 25 #[.pointer (some ⟨q, 0, none⟩), .string (ba nm)] W fun e w' => e = .returned (.int .i64 ((dropR P nm).1 : Nat)) ∧ Hid (Tw B w0 w' p q (dropR P nm).2 (dropR P nm).2 Z1 ∧ Keep (Oth B Z1) W w')) := fun W h => tw_qdrop h nm (by have := HN.out.1.kn; have := HN.out.2; omega)
      have hEq := hE (dropR P nm).1
      generalize dropR P nm = D at *
      obtain ⟨en, P2⟩ := D
      dsimp only at *
      go_wp2_with (first
        | (go_at_call 23; refine c1.mono ?_; clear c1; rintro e w3 ⟨rfl, T3⟩; have c3 := c2.out w3 T3.out.1; clear c2)
        | (go_at_call 25; refine c3.mono ?_; clear c3; rintro e w4 ⟨rfl, T4⟩))
      go_ret
      exact ⟨rfl, HF.out _ T4.out.1 (T3.out.2.trans T4.out.2)⟩
    · have e2 : (o.d == 2) = false := by rw [beq_eq_false_iff_ne]; exact d2
      clear d2
      by_cases d3 : o.d = 3
      · have e3 : (o.d == 3) = true := by rw [d3]; rfl
        clear d3 cG cG2
        have c1 := tw_default HX0.out.2.1 nm Hnl.out
        have HF : Hid (∀ W, Tw B w0 W p q (defaultR P nm).2 (defaultR P nm).2 Z1 → Keep (Oth B Z1) X0 W → Played B w0 w W p q n Z) := fun W h hk => ⟨_, h.weak hZb.out.2, (HN.out.1.usual nm Hnl.out).mono (by omega), HX0.out.2.2.trans (hk.mono (fun i hi => ⟨hi.1, fun z => hi.2 (hZb.out.2 i z)⟩))⟩
        have c2 : Hid (∀ W, Tw B w0 W p q (defaultR P nm).2 P Z1 → Calls Tryz.prog 27 #[.pointer (some ⟨q, 0, none⟩), .string (ba nm)] W fun e w' => e = .returned (.int .i64 ((defaultR P nm).1 : Nat)) ∧ Hid (Tw B w0 w' p q (defaultR P nm).2 (defaultR P nm).2 Z1 ∧ Keep (Oth B Z1) W w')) := fun W h => tw_qdefault h nm
        have hEq := hE (defaultR P nm).1
        generalize defaultR P nm = D at *
        obtain ⟨en, P2⟩ := D
        dsimp only at *
        go_wp2_with (first
          | (go_at_call 26; refine c1.mono ?_; clear c1; rintro e w3 ⟨rfl, T3⟩; have c3 := c2.out w3 T3.out.1; clear c2)
          | (go_at_call 27; refine c3.mono ?_; clear c3; rintro e w4 ⟨rfl, T4⟩))
        go_ret
        exact ⟨rfl, HF.out _ T4.out.1 (T3.out.2.trans T4.out.2)⟩
      · have e3 : (o.d == 3) = false := by rw [beq_eq_false_iff_ne]; exact d3
        clear d3
        have u5 := op5 (o := o) HX0.out.1
        have cGa := cG.out X0 HX0.out.2.1.bl
        go_upto_region 10 with (go_at_call 17; refine cGa.mono ?_; clear cGa; rintro e w3 ⟨a3, c3, rfl, t3, hb3⟩)
        have hD := hb3.drew
        have HX1 : Hid ((w3.drew).heap[b0]? = some (.cells (oc o) 34 (0, 0)) ∧ Tw B w0 w3.drew p q P P Z1 ∧ Keep (Oth B Z) w w3.drew ∧ TRd w3.drew a3 M c3 G) := ⟨box_below HX0.out.1 hD, HX0.out.2.1.below hD, HX0.out.2.2.trans (Keep.ofBelow hD), t3.below (Below.refl _ _).drew⟩
        clear HX0 hD u0 u1 u5 e1 e2 e3 hb3 t3
        refine wp_region_lx (fun w' => w'.heap[b0]? = some (.cells (oc o) 34 (0, 0))) [] 32 (by kernel_rfl) (by kernel_rfl) ?_
        generalize World.drew _ = X at HX1 ⊢
        have HS0 := HX1.out.1
        refine lx_rd 0 (.pointer (some ⟨p, 0, none⟩)) (by kernel_rfl) (fun _ _ d _ _ h => by cases d <;> exact h) (by kernel_rfl) HS0 rfl rfl rfl (fun w' hS => ?hD0) ?_
        case hD0 => first | (go_simp; rfl) | go_simp
        simp only [List.setIfInBounds_toArray, List.set_cons_zero, List.set_cons_succ]
        refine lx_rd 1 (.string (ba nm)) (by kernel_rfl) (fun _ _ d _ _ h => by cases d <;> exact h) (by kernel_rfl) HS0 rfl rfl rfl (fun w' hS => ?hD1) ?_
        case hD1 => first | (go_simp; rfl) | go_simp
        simp only [List.setIfInBounds_toArray, List.set_cons_zero, List.set_cons_succ]
        refine lx_rd 2 (.pointer (some ⟨b0, 3, none⟩)) (by kernel_rfl) (fun _ _ d _ _ h => by cases d <;> exact h) (by kernel_rfl) HS0 rfl rfl rfl (fun w' hS => ?hD2) ?_
        case hD2 => first | (go_simp; rfl) | go_simp
        simp only [List.setIfInBounds_toArray, List.set_cons_zero, List.set_cons_succ]
        refine lx_rd 3 (.bool o.i) (by kernel_rfl) (fun _ _ d _ _ h => by cases d <;> exact h) (by kernel_rfl) HS0 rfl rfl rfl (fun w' hS => ?hD3) ?_
        case hD3 => have q0 := op3 hS; first | (go_simp; rfl) | go_simp
        simp only [List.setIfInBounds_toArray, List.set_cons_zero, List.set_cons_succ]
        refine lx_rd 4 (.pointer (some ⟨b0, 4, none⟩)) (by kernel_rfl) (fun _ _ d _ _ h => by cases d <;> exact h) (by kernel_rfl) HS0 rfl rfl rfl (fun w' hS => ?hD4) ?_
        case hD4 => first | (go_simp; rfl) | go_simp
        simp only [List.setIfInBounds_toArray, List.set_cons_zero, List.set_cons_succ]
        refine lx_rd 5 (.string (ba o.c)) (by kernel_rfl) (fun _ _ d _ _ h => by cases d <;> exact h) (by kernel_rfl) HS0 rfl rfl rfl (fun w' hS => ?hD5) ?_
        case hD5 => have q0 := op4 hS; first | (go_simp; rfl) | go_simp
        simp only [List.setIfInBounds_toArray, List.set_cons_zero, List.set_cons_succ]
        refine lx_rd 6 (.slice a3 M c3) (by kernel_rfl) (fun _ _ d _ _ h => by cases d <;> exact h) (by kernel_rfl) HS0 rfl rfl rfl (fun w' hS => ?hD6) ?_
        case hD6 => first | (go_simp; rfl) | go_simp
        simp only [List.setIfInBounds_toArray, List.set_cons_zero, List.set_cons_succ]
        refine lx_rd 8 (.pointer (some ⟨b0, 6, none⟩)) (by kernel_rfl) (fun _ _ d _ _ h => by cases d <;> exact h) (by kernel_rfl) HS0 rfl rfl rfl (fun w' hS => ?hD8) ?_
        case hD8 => first | (go_simp; rfl) | go_simp
        simp only [List.setIfInBounds_toArray, List.set_cons_zero, List.set_cons_succ]
        refine lx_rd 9 (.string (ba o.s)) (by kernel_rfl) (fun _ _ d _ _ h => by cases d <;> exact h) (by kernel_rfl) HS0 rfl rfl rfl (fun w' hS => ?hD9) ?_
        case hD9 => have q0 := op6 hS; first | (go_simp; rfl) | go_simp
        simp only [List.setIfInBounds_toArray, List.set_cons_zero, List.set_cons_succ]
        refine lx_rd 11 (.pointer (some ⟨q, 0, none⟩)) (by kernel_rfl) (fun _ _ d _ _ h => by cases d <;> exact h) (by kernel_rfl) HS0 rfl rfl rfl (fun w' hS => ?hD11) ?_
        case hD11 => first | (go_simp; rfl) | go_simp
        simp only [List.setIfInBounds_toArray, List.set_cons_zero, List.set_cons_succ]
        refine lx_rd 12 (.string (ba nm)) (by kernel_rfl) (fun _ _ d _ _ h => by cases d <;> exact h) (by kernel_rfl) HS0 rfl rfl rfl (fun w' hS => ?hD12) ?_
        case hD12 => first | (go_simp; rfl) | go_simp
        simp only [List.setIfInBounds_toArray, List.set_cons_zero, List.set_cons_succ]
        refine lx_rd 13 (.pointer (some ⟨b0, 3, none⟩)) (by kernel_rfl) (fun _ _ d _ _ h => by cases d <;> exact h) (by kernel_rfl) HS0 rfl rfl rfl (fun w' hS => ?hD13) ?_
        case hD13 => first | (go_simp; rfl) | go_simp
        simp only [List.setIfInBounds_toArray, List.set_cons_zero, List.set_cons_succ]
        refine lx_rd 14 (.bool o.i) (by kernel_rfl) (fun _ _ d _ _ h => by cases d <;> exact h) (by kernel_rfl) HS0 rfl rfl rfl (fun w' hS => ?hD14) ?_
        case hD14 => have q0 := op3 hS; first | (go_simp; rfl) | go_simp
        simp only [List.setIfInBounds_toArray, List.set_cons_zero, List.set_cons_succ]
        refine lx_rd 15 (.pointer (some ⟨b0, 4, none⟩)) (by kernel_rfl) (fun _ _ d _ _ h => by cases d <;> exact h) (by kernel_rfl) HS0 rfl rfl rfl (fun w' hS => ?hD15) ?_
        case hD15 => first | (go_simp; rfl) | go_simp
        simp only [List.setIfInBounds_toArray, List.set_cons_zero, List.set_cons_succ]
        refine lx_rd 16 (.string (ba o.c)) (by kernel_rfl) (fun _ _ d _ _ h => by cases d <;> exact h) (by kernel_rfl) HS0 rfl rfl rfl (fun w' hS => ?hD16) ?_
        case hD16 => have q0 := op4 hS; first | (go_simp; rfl) | go_simp
        simp only [List.setIfInBounds_toArray, List.set_cons_zero, List.set_cons_succ]
        refine lx_rd 17 (.slice a3 M c3) (by kernel_rfl) (fun _ _ d _ _ h => by cases d <;> exact h) (by kernel_rfl) HS0 rfl rfl rfl (fun w' hS => ?hD17) ?_
        case hD17 => first | (go_simp; rfl) | go_simp
        simp only [List.setIfInBounds_toArray, List.set_cons_zero, List.set_cons_succ]
        refine lx_rd 18 (.pointer (some ⟨b0, 6, none⟩)) (by kernel_rfl) (fun _ _ d _ _ h => by cases d <;> exact h) (by kernel_rfl) HS0 rfl rfl rfl (fun w' hS => ?hD18) ?_
        case hD18 => first | (go_simp; rfl) | go_simp
        simp only [List.setIfInBounds_toArray, List.set_cons_zero, List.set_cons_succ]
        refine lx_rd 19 (.string (ba o.s)) (by kernel_rfl) (fun _ _ d _ _ h => by cases d <;> exact h) (by kernel_rfl) HS0 rfl rfl rfl (fun w' hS => ?hD19) ?_
        case hD19 => have q0 := op6 hS; first | (go_simp; rfl) | go_simp
        simp only [List.setIfInBounds_toArray, List.set_cons_zero, List.set_cons_succ]
        refine lx_one 7 (by kernel_rfl) (stepT_call 17 ?kc rfl rfl rfl ?mc ?_)
        case mc => first | (go_simp; rfl) | go_simp
        refine (cG2.out X a3 c3 HX1.out.2.2.2).mono ?_
        rintro e X1 ⟨a4, c4, rfl, t4, hb1⟩
        have HS1 := box_below HS0 hb1
        refine ⟨_, rfl, fun _ => HS1, ?_⟩
        simp only [lxa, lxb, lxc]
        have T1 := HX1.out.2.1.below hb1
        have hh := HN.out.1.held nm
        refine lx_one 10 (by kernel_rfl) (stepT_call 22 ?kd rfl rfl rfl ?md ?_)
        case md => first | (go_simp; rfl) | go_simp
        refine (tw_allows T1 nm ⟨o.i, o.c, G, o.s⟩ a4 M c4 Hnl.out HN.out.1.us t4 HA.out.1.s hh.1).mono ?_
        rintro e X2 ⟨rfl, hb2⟩
        have HS2 := box_below HS1 hb2
        refine ⟨_, rfl, fun _ => HS2, ?_⟩
        simp only [lxa, lxb, lxc]
        have T2 := T1.below hb2
        refine lx_one 20 (by kernel_rfl) (stepT_call 28 ?ke rfl rfl rfl ?me ?_)
        case me => first | (go_simp; rfl) | go_simp
        refine (tw_qallows T2 nm ⟨o.i, o.c, G, o.s⟩ a3 M c3 ((HX1.out.2.2.2.below hb1).below hb2) hh.1 hh.2).mono ?_
        rintro e X3 ⟨rfl, hb3⟩
        have HS3 := box_below HS2 hb3
        refine ⟨_, rfl, fun _ => HS3, ?_⟩
        simp only [lxa, lxb, lxc]
        have T3 := T2.below hb3
        have hEq : (allowsR ⟨o.i, o.c, G, o.s⟩ (heldR P nm) == allowsR ⟨o.i, o.c, G, o.s⟩ (heldR P nm)) = true := beq_self_eq_true _
        generalize allowsR ⟨o.i, o.c, G, o.s⟩ (heldR P nm) = R at hEq ⊢
        refine lx_rd 21 (.bool true) (by kernel_rfl) (fun _ _ d _ _ h => by cases d <;> exact h) (by kernel_rfl) HS3 rfl rfl rfl (fun w' hS => ?hE21) ?_
        case hE21 => first | (go_simp; rfl) | go_simp
        simp only [List.setIfInBounds_toArray, List.set_cons_zero, List.set_cons_succ]
        refine lx_rd 22 (.bool true) (by kernel_rfl) (fun _ _ d _ _ h => by cases d <;> exact h) (by kernel_rfl) HS3 rfl rfl rfl (fun w' hS => ?hE22) ?_
        case hE22 => first | (go_simp; rfl) | go_simp
        simp only [List.setIfInBounds_toArray, List.set_cons_zero, List.set_cons_succ]
        refine lx_rd 23 (.pointer (some ⟨p, 0, none⟩)) (by kernel_rfl) (fun _ _ d _ _ h => by cases d <;> exact h) (by kernel_rfl) HS3 rfl rfl rfl (fun w' hS => ?hE23) ?_
        case hE23 => first | (go_simp; rfl) | go_simp
        simp only [List.setIfInBounds_toArray, List.set_cons_zero, List.set_cons_succ]
        refine lx_rd 24 (.string (ba nm)) (by kernel_rfl) (fun _ _ d _ _ h => by cases d <;> exact h) (by kernel_rfl) HS3 rfl rfl rfl (fun w' hS => ?hE24) ?_
        case hE24 => first | (go_simp; rfl) | go_simp
        simp only [List.setIfInBounds_toArray, List.set_cons_zero, List.set_cons_succ]
        refine lx_rd 26 (.pointer (some ⟨q, 0, none⟩)) (by kernel_rfl) (fun _ _ d _ _ h => by cases d <;> exact h) (by kernel_rfl) HS3 rfl rfl rfl (fun w' hS => ?hE26) ?_
        case hE26 => first | (go_simp; rfl) | go_simp
        simp only [List.setIfInBounds_toArray, List.set_cons_zero, List.set_cons_succ]
        refine lx_rd 27 (.string (ba nm)) (by kernel_rfl) (fun _ _ d _ _ h => by cases d <;> exact h) (by kernel_rfl) HS3 rfl rfl rfl (fun w' hS => ?hE27) ?_
        case hE27 => first | (go_simp; rfl) | go_simp
        simp only [List.setIfInBounds_toArray, List.set_cons_zero, List.set_cons_succ]
        clear hEq
        refine lx_one 25 (by kernel_rfl) (stepT_call 29 ?kf rfl rfl rfl ?mf ?_)
        case mf => first | (go_simp; rfl) | go_simp
        refine (tw_has T3 nm Hnl.out).mono ?_
        rintro e X4 ⟨rfl, hX4⟩
        replace hX4 := hX4.symm
        subst hX4
        refine ⟨_, rfl, fun _ => HS3, ?_⟩
        simp only [lxa, lxb, lxc]
        refine lx_one 28 (by kernel_rfl) (stepT_call 30 ?kg rfl rfl rfl ?mg ?_)
        case mg => first | (go_simp; rfl) | go_simp
        refine (tw_qhas T3 nm).mono ?_
        rintro e X5 ⟨rfl, hb5⟩
        have HS5 := box_below HS3 hb5
        refine ⟨_, rfl, fun _ => HS5, ?_⟩
        simp only [lxa, lxb, lxc]
        have HF : Hid (Played B w0 w X5 p q n Z) := ⟨_, (T3.below hb5).weak hZb.out.2, HN.out.1.mono (by omega), (((HX1.out.2.2.1.trans (Keep.ofBelow hb1)).trans (Keep.ofBelow hb2)).trans (Keep.ofBelow hb3)).trans (Keep.ofBelow hb5)⟩
        have hEq : ((P.m nm).isSome == (P.m nm).isSome) = true := beq_self_eq_true _
        generalize (P.m nm).isSome = R2 at hEq ⊢
        clear HS0 HS1 HS2 HS3 T1 T2 T3 HX1 t4 hb1 hb2 hb3 hb5
        refine lx_rd 29 (.bool true) (by kernel_rfl) (fun _ _ d _ _ h => by cases d <;> exact h) (by kernel_rfl) HS5 rfl rfl rfl (fun w' hS => ?hF29) ?_
        case hF29 => first | (go_simp; rfl) | go_simp
        simp only [List.setIfInBounds_toArray, List.set_cons_zero, List.set_cons_succ]
        refine lx_rd 30 (.bool true) (by kernel_rfl) (fun _ _ d _ _ h => by cases d <;> exact h) (by kernel_rfl) HS5 rfl rfl rfl (fun w' hS => ?hF30) ?_
        case hF30 => first | (go_simp; rfl) | go_simp
        simp only [List.setIfInBounds_toArray, List.set_cons_zero, List.set_cons_succ]
        refine lx_rd 31 (.bool true) (by kernel_rfl) (fun _ _ d _ _ h => by cases d <;> exact h) (by kernel_rfl) HS5 rfl rfl rfl (fun w' hS => ?hF31) ?_
        case hF31 => first | (go_simp; rfl) | go_simp
        simp only [List.setIfInBounds_toArray, List.set_cons_zero, List.set_cons_succ]
        refine lx_nil (by kernel_rfl) ?_
        clear HS5 hEq
        go_wp2
        go_ret
        exact ⟨rfl, HF.out⟩
end Go.Proofs.YtiplalbicibahaaGreatDoor

/- PrivacyExact: whatever the bounds and the calls. -/
set_option maxRecDepth 100000
namespace Go.Proofs.YtiplalbicibahaaGreatDoor
open Go.RowKit Go.Joins Go.Shelf

theorem infoOp17 : (Tryz.prog.info? 34).map (·.size) = some 7 := by kernel_rfl
theorem range_below {w w' : World} {b o : Nat} {xs : List Value} (h : w.rangeAt b o xs) (hb : Below w.heap.size w w') : w'.rangeAt b o xs := fun i u hu =>
  (hb.cell (World.block_lt_of_cell? w _ (h i u hu))).trans (h i u hu)
theorem ORd.below {w w' : World} {a : Option Addr} {n c : Nat} (h : ORd w a n c) (hb : Below w.heap.size w w') : ORd w' a n c :=
  ⟨h.cap, h.most, fun h0 => by
    obtain ⟨b, off, e, hj⟩ := h.flat h0
    exact ⟨b, off, e, fun j hlt => by
      obtain ⟨o, ts, gs, hr, ho⟩ := hj j hlt
      exact ⟨o, ts, gs, range_below hr hb, ho.below hb⟩⟩⟩
set_option maxHeartbeats 1600000 in
theorem exact_bad (l r : Int) (v : Value) (w : World) (hT : Lib.Utf8Tabs 0 1 w) (hb : (bnd l && bnd r) = false) :
    Calls Tryz.prog 3 #[.int .i64 l, .int .i64 r, v] w fun e w' => e = .returned (.bool true) ∧ Below w.heap.size w w' := by
  have cN := new_bad l r w hb
  have cQ := qnew_bad l r w hb
  have cW := wakes_any w hT
  clear hT hb
  go_enter Tryz.func3, Tryz.ntmps3
  go_wp2_with (first
    | (go_at_call 6; refine cN.mono ?_; clear cN; rintro e w1 ⟨rfl, hw1⟩; replace hw1 := hw1.symm; subst hw1)
    | (go_at_call 7; refine cQ.mono ?_; clear cQ; rintro e w1 ⟨rfl, hw1⟩; replace hw1 := hw1.symm; subst hw1)
    | (go_at_call 8; refine cW.mono ?_; clear cW; rintro e w1 ⟨rfl, hb1⟩))
  go_ret
  exact ⟨rfl, hb1⟩
set_option maxHeartbeats 3200000 in
theorem exact_ok (l r : Int) (a : Option Addr) (n c : Nat) (w : World) (hO : ORd w a n c) (hT : Lib.Utf8Tabs 0 1 w) (hl : bnd l = true) (hr : bnd r = true) :
    Calls Tryz.prog 3 #[.int .i64 l, .int .i64 r, .slice a n c] w fun e w' => e = .returned (.bool true) ∧ Below w.heap.size w w' := by
  have cN := new_ok l r w hl hr
  have cQ : Hid (∀ W, Calls Tryz.prog 7 #[.int .i64 l, .int .i64 r] W fun e w' => e = .returned (.tuple #[.pointer (some ⟨W.heap.size, 0, none⟩), .bool true]) ∧ QAt w' (fun i => i = W.heap.size) W.heap.size (pl0 l r) ∧ Below W.heap.size W w') := fun W => qnew_ok l r W hl hr
  have hcap := hO.cap
  have hmost := hO.most
  unfold maxLen at hmost
  have HO : Hid (ORd w a n c ∧ Lib.Utf8Tabs 0 1 w) := ⟨hO, hT⟩
  obtain ⟨B, HB⟩ : ∃ B, Hid (w.heap.size = B) := ⟨_, rfl⟩
  obtain ⟨p, Hp⟩ : ∃ p, Hid (w.heap.size + 1 = p) := ⟨_, rfl⟩
  rw [Hp.out] at cN
  clear hO hT hl hr
  go_enter Tryz.func3, Tryz.ntmps3
  go_upto_region 2 with (go_at_call 6; refine cN.mono ?_; clear cN; rintro e w1 ⟨rfl, h1, hb1⟩)
  obtain ⟨q, Hq⟩ : ∃ q, Hid (w1.heap.size = q) := ⟨_, rfl⟩
  have cQ1 := cQ.out w1
  clear cQ
  rw [Hq.out] at cQ1
  go_upto_region 5 with (go_at_call 7; refine cQ1.mono ?_; clear cQ1; rintro e w2 ⟨rfl, h2, hb2⟩)
  have HT : Hid (Tw B w w2 p q (pl0 l r) (pl0 l r) (fun _ => False)) := by
    have hq := Hq.out
    have hp := Hp.out
    have h0 := HB.out
    have hz1 := hb1.size
    rw [← hq] at hb2
    have hz2 := hb2.size
    refine ⟨⟨_, _, h1.below hb2, h2, fun i hi => ⟨by omega, fun z => z⟩, fun i hi => ⟨by omega, fun z => z⟩, fun i hi hj => ?_⟩, by rw [← h0]; exact hb1.trans (hb2.mono hz1), by omega, fun i z => z.elim⟩
    have := h1.lt i hi
    omega
  clear h1 h2 hb1 hb2
  have cW := wakes_any w2 (tabs_bel HO.out.2 (by rw [HB.out]; exact HT.out.bl))
  go_upto_region 8 with (go_at_call 8; refine cW.mono ?_; clear cW; rintro e w3 ⟨rfl, hb3⟩)
  have HT3 : Hid (Tw B w w3 p q (pl0 l r) (pl0 l r) (fun _ => False)) := HT.out.below hb3
  clear HT hb3
  go_loopw [11] (fun s11 wr => ∃ (k : Nat) (P : Pl), s11 = .int .i64 k ∧ k ≤ n ∧ k ≤ 120 ∧ Hid (Nice P k) ∧ Hid (Tw B w wr p q P P (fun _ => False))) (fun s11 _ => n - (intOf s11).toNat)
  case atStart => exact ⟨0, pl0 l r, rfl, by omega, by omega, Nice.zero l r, HT3⟩
  case round =>
    clear HT3
    obtain ⟨k, P, rfl, hk, hk2, HN, HT⟩ := hrel
    by_cases hlt : k < n
    · have hcl : (k : Int) < (n : Int) := by omega
      by_cases hlt2 : k < 120
      · have hcl2 : (k : Int) < 120 := by omega
        obtain ⟨b, off, rfl, hce⟩ := HO.out.1.flat (by omega)
        obtain ⟨o, ts, gs, hrg, hor⟩ := hce k hlt
        have hrw : Hid (wr.rangeAt b (off + k * 7) (oc o).toList) := range_below hrg (by rw [HB.out]; exact HT.out.bl)
        have cP := plays_any o ts gs B w wr p q P k (fun _ => False) HB.out hor HO.out.2 HT.out HN.out (by omega)
        clear hce hrg hor
        unfold oc at cP hrw
        go_wp2_with (first
          | (refine wpList_load_mid rfl 34 (.tmp 59) rfl b (off + k * 7) rfl _ _ hrw.out Tryz.underlying34 rfl (by rw [infoOp17]; rfl) ?_; dsimp only [List.toList_toArray])
          | (go_at_call 9; refine cP.mono ?_; clear cP; rintro e w5 ⟨rfl, hp5⟩; obtain ⟨P5, T5, N5, _⟩ := hp5; have H5 : Hid (Tw B w w5 p q P5 P5 (fun _ => False) ∧ Nice P5 (k + 1)) := ⟨T5, N5⟩; clear T5 N5; have cS := tw_shelf H5.out.1 H5.out.2 (by omega))
          | (go_at_call 11; refine cS.mono ?_; clear cS; rintro e w6 ⟨S6, rfl, hs6, hb6⟩; have H6 : Hid (Tw B w w6 p q P5 P5 (fun _ => False) ∧ ShR w6 S6 P5.li P5.ru P5.us (sortK P5.ks) ((sortK P5.ks).map (textsK P5))) := ⟨H5.out.1.below hb6, hs6.read⟩; clear hs6 hb6; have cS2 := tw_qshelf H6.out.1 H5.out.2 (by omega))
          | (go_at_call 12; refine cS2.mono ?_; clear cS2; rintro e w7 ⟨S7, rfl, hs7, hb7⟩; have H7 : Hid (Tw B w w7 p q P5 P5 (fun _ => False)) := H6.out.1.below hb7; have cE := sameShelf_any w7 S6 S7 P5.li P5.ru P5.us (sortK P5.ks) ((sortK P5.ks).map (textsK P5)) (H6.out.2.below hb7) hs7.read; clear hs7 hb7)
          | (go_at_call 10; refine cE.mono ?_; clear cE; rintro e w8 ⟨rfl, hb8⟩; have H8 : Hid (Tw B w w8 p q P5 P5 (fun _ => False)) := H7.out.below hb8; clear hb8))
        exact ⟨⟨k + 1, P5, by go_num, by omega, by omega, H5.out.2, H8⟩, by simp [intOf]; omega⟩
      · have hcl2 : ¬ (k : Int) < 120 := by omega
        have HF : Hid (Below w.heap.size w wr) := by show Below _ _ _; rw [HB.out]; exact HT.out.bl
        clear HT HN
        go_wp2
        go_ret
        exact ⟨rfl, HF.out⟩
    · have hcl : ¬ (k : Int) < (n : Int) := by omega
      have HF : Hid (Below w.heap.size w wr) := by show Below _ _ _; rw [HB.out]; exact HT.out.bl
      clear HT HN
      go_wp2
      go_ret
      exact ⟨rfl, HF.out⟩
theorem privacyExact_any (l r : Int) (a : Option Addr) (n c : Nat) (w : World) (hO : ORd w a n c) (hT : Lib.Utf8Tabs 0 1 w) :
    Calls Tryz.prog 3 #[.int .i64 l, .int .i64 r, .slice a n c] w fun e w' => e = .returned (.bool true) ∧ Below w.heap.size w w' := by
  cases hb : (bnd l && bnd r) with
  | false => exact exact_bad l r _ w hT hb
  | true =>
    simp only [Bool.and_eq_true] at hb
    exact exact_ok l r a n c w hO hT hb.1 hb.2
end Go.Proofs.YtiplalbicibahaaGreatDoor
