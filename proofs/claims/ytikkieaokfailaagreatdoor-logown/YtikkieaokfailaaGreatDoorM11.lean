/- Texts of one seat, one behind the other: RlL. -/
import Derived.Test.YtikkieaokfailaaGreatDoorM10
namespace Go.Proofs.YtikkieaokfailaaGreatDoor
open Go.RowKit Go.Joins
theorem new_seg (g n : Nat) : inN sNew (segs g 0 n) = false := inN_no (fun hm => by
 obtain ⟨i, _, e⟩ := mem_segs.1 hm
 have h := congrArg (fun s : Nm => s.data.toList.head?) e
 have h1 : sNew.data.toList.head? = some 98 := rfl
 have h2 : (segN g (0 + i + 1)).data.toList.head? = some 108 := rfl
 have h3 : sNew.data.toList.head? = (segN g (0 + i + 1)).data.toList.head? := h
 rw [h1, h2] at h3
 cases h3)
theorem pre4 (x : Nm) : ((ByteArray.extract x 0 4).toList == [108, 111, 103, 45]) = Lib.hasPrefix x.data.toList sLog.data.toList := by
 have e1 : (ByteArray.extract x 0 4).toList = x.data.toList.take 4 := by
  rw [ByteArray.toList_eq]
  simp [ByteArray.data_extract]
 have e2 : sLog.data.toList = [108, 111, 103, 45] := rfl
 rw [e1, e2]
 unfold Lib.hasPrefix
 rw [Bool.eq_iff_iff, beq_iff_eq, List.isPrefixOf_iff_prefix, List.prefix_iff_eq_take]
 exact ⟨fun h => h.symm, fun h => h.symm⟩
theorem pre_short {x : Nm} (h : x.size < 4) : Lib.hasPrefix x.data.toList sLog.data.toList = false := by
 have e2 : sLog.data.toList = [108, 111, 103, 45] := rfl
 rw [e2]
 unfold Lib.hasPrefix
 cases hp : List.isPrefixOf [108, 111, 103, 45] x.data.toList with
 | false => rfl
 | true =>
  rw [List.isPrefixOf_iff_prefix] at hp
  have := hp.length_le
  have hs : x.size = x.data.toList.length := (Array.length_toList (xs := x.data)).symm
  simp at this
  omega
set_option maxRecDepth 400000 in
set_option maxHeartbeats 16000000 in
theorem ropen_any (w : World) (G : Nat → Prop) (rd most : Nat) (k : Dk) (h1 : 16 ≤ most) (h2 : most ≤ 1048576) (hR : RefAt w G rd k) (hfl : k.fs.length ≤ 2500) (hst : k.steps < 800000) (hu : used k.fs ≤ 900000) :
  Calls Tryz.prog 59 #[.pointer (some ⟨rd, 0, none⟩), .int .i64 (most : Int)] w fun e w' => ROp w w' G rd (openL most k) e := by
 have z1 : ¬ (most : Int) < 16 := by omega
 have z2 : ¬ (1048576 : Int) < (most : Int) := by omega
 have hli := refList_any rd G k (by omega) w hR
 cases ho : k.off with
 | true =>
  rw [open_off ho]
  have hl : listK k = (13, []) := by unfold listK; rw [if_pos ho]
  rw [hl] at hli
  dsimp only at hli
  clear hl
  go_enter Tryz.func59, Tryz.ntmps59
  go_wp2_with (first
   | (go_at_call 45; refine hli.mono ?_; clear hli; rintro e w1 ⟨v1, rfl, o1, hb1⟩))
  go_ret2
  exact Or.inl ⟨by simp, rfl, G, hR.keep (S := fun _ => False) (Keep.ofBelow hb1) (fun _ _ h => h), Keep.ofBelow hb1, fun _ h => Or.inl h⟩
 | false =>
  have hl : listK k = (0, k.fs.map Prod.fst) := by unfold listK; rw [if_neg (by rw [ho]; decide)]
  have hbh := base_has k
  obtain ⟨ns, Hns⟩ : ∃ ns, Hid ((listK k).2 = ns) := ⟨_, rfl⟩
  have hl1 : (listK k).1 = 0 := by rw [hl]
  have hnl : ns.length ≤ 2500 := by rw [← Hns.out, hl, List.length_map]; exact hfl
  rw [hl1, Hns.out] at hli
  rw [Hns.out] at hbh
  obtain ⟨Q, HQ0⟩ : ∃ Q, Hid (openL most k = Q) := ⟨_, rfl⟩
  rw [HQ0.out]
  have hha := fun w' v1 (ho : w'.ownsRow w.heap.size 9 1 v1 ns.length (nv ns)) => rhas_any v1 ns sBase w.heap.size w' ho
  by_cases hrb : (readK k sBase).1 = 0
  ·have hB0 : (readK k sBase).1 = 0 := hrb
   rw [hbh, decide_eq_true hrb] at hha
   have hrd := fun w' (hr : RefAt w' G rd k) => refRead_any rd G k sBase (by decide) w' hr
   have hbd : Bd (readK k sBase).2 := by
    rcases readK_cases' k sBase with ⟨f, hl9, e⟩ | e
    ·rw [e]; dsimp only; exact (look_good hR.good hl9).2.2
    ·rw [e]; exact Bd.nil
   have HQ1 : Hid (openR most (baseR (readK k sBase)) k = Q) := HQ0
   obtain ⟨PB, HPB⟩ : ∃ P, Hid (readK k sBase = P) := ⟨_, rfl⟩
   simp only [HPB.out] at hrd
   rw [HPB.out] at hbd HQ1 hB0
   obtain ⟨e0, xs⟩ := PB
   dsimp only at hbd hrd hB0
   subst hB0
   have hnp := fun w0 (hb : Below w.heap.size w w0) => RNew.start (most := most) (g := 1) (X := w0.alloc (.cells (rlcs rd most (.slice none 0 0) ⟨1, 0, 0, false⟩ false) 90)) hR hb rfl
   clear hl hbh hl1 hrb HQ0 HPB
   unfold sBase at hha
   go_enter Tryz.func59, Tryz.ntmps59
   go_upto_region 7 with (first
    | (go_at_call 45; refine hli.mono ?_; clear hli; rintro e w1 ⟨v1, rfl, o1, hb1⟩))
   have T0 := hnp w1 hb1
   clear hnp
   have o2 := own_keep o1 ((Keep.refl (fun _ => False) w1).alloc (.cells (rlcs rd most (.slice none 0 0) ⟨1, 0, 0, false⟩ false) 90)) (fun _ _ h => h)
   unfold rlcs at T0 o2
   dsimp only at T0 o2
   rw [show ((0 : Nat) : Int) = 0 from rfl, show ((1 : Nat) : Int) = 1 from rfl] at T0 o2
   generalize w1.alloc (.cells #[.pointer (some ⟨rd, 0, none⟩), .int .i64 (most : Int), .int .u64 1, .slice none 0 0, .int .i64 0, .int .i64 0, .bool false, .bool false] 90) = wA at *
   generalize w1.heap.size = rl at T0 ⊢
   replace hha := hha wA v1 o2
   replace hrd := hrd wA T0.R
   unfold sBase at hrd
   go_upto_region 9 with (first
    | (go_at_call 94; refine hha.mono ?_; clear hha; rintro e w2 ⟨rfl, h9⟩; replace h9 := h9.symm; subst h9)
    | (go_at_call 47; refine hrd.mono ?_; clear hrd; rintro e w3 ⟨v3, rfl, o3, hb3⟩))
   have T3 := T0.below hb3
   have o4 := own_keep o2 (S := fun _ => False) (Keep.ofBelow hb3) (fun _ _ h => h)
   obtain ⟨a3, c3, hv3, r3⟩ := Rd.ofOwn o3 hbd
   subst hv3
   clear T0 o1 o2 o3 hb1
   obtain ⟨N, HN⟩ : ∃ N, Hid (xs.length = N) := ⟨_, rfl⟩
   rw [HN.out]
   have hr3 := r3
   rw [HN.out] at hr3
   have hcap := hr3.cap
   have hmx : c3 ≤ 9223372036854775807 := hr3.most
   by_cases h12 : N = 12
   ·subst h12
    obtain ⟨gb, offb, ha3, _⟩ := hr3.flat (by omega)
    subst ha3
    have h8c : (8 : Int) ≤ (c3 : Int) := by omega
    have hsl : ∀ W, (Instr.sliceAt 29 (.slice (some ⟨gb, offb, none⟩) 12 c3) none (some (.int .i64 8)) none).run Tryz.prog W = .ok (.slice (some ⟨gb, offb, none⟩) 8 c3) W := fun W => by go_simp
    obtain ⟨gn, Hgn⟩ : ∃ g, Hid (numL (xs.take 8) = g) := ⟨_, rfl⟩
    have hgn : gn < 18446744073709551616 := by rw [← Hgn.out]; exact numL_lt8 (hbd.take 8) (by rw [List.length_take]; omega)
    have hnu := fun W (hr : Rd W (some ⟨gb, offb, none⟩) 12 c3 xs) => rnumber_any (some ⟨gb, offb, none⟩) 8 c3 (xs.take 8) W (hr.takeK (by omega)) (by omega)
    simp only [Hgn.out] at hnu
    have hba := fun W => rbase_any gn W
    have hbb : Bd (baseL gn) := by unfold baseL; exact (bigL_bd _ _).append (bigL_bd _ _)
    have hbX : Below w3.heap.size w3 w3.drew := (Below.refl _ _).drew
    have TX := T3.below hbX
    have oX := own_keep o4 (S := fun _ => False) (Keep.ofBelow hbX) (fun _ _ h => h)
    have HS0 : Rd w3.drew (some ⟨gb, offb, none⟩) 12 c3 xs := hr3.carry (Nat.le_refl _) hbX
    have hB12 : baseR (0, xs) = (if 0 < gn ∧ xs = baseL gn then (0, gn) else (14, 0)) := by
     unfold baseR
     rw [if_neg (show ¬ ((0 : Nat) = 7) by decide), if_neg (by simp), if_neg (by dsimp only; rw [HN.out]; simp)]
     dsimp only
     rw [Hgn.out]
    rw [hB12] at HQ1
    refine wp_region_lx (fun w' => Rd w' (some ⟨gb, offb, none⟩) 12 c3 xs) [] 19 (by kernel_rfl) (by kernel_rfl) ?_
    clear T3 r3 hr3 o4 hB12
    generalize w3.drew = X at *
    refine lx_r 0 (.slice (some ⟨gb, offb, none⟩) 12 c3) HS0 ?_; simp only [lxa, lxb, lxc]
    refine lx_r 1 (.int .i64 12) HS0 ?_; simp only [lxa, lxb, lxc]
    refine lx_r 2 (.bool false) HS0 ?_; simp only [lxa, lxb, lxc]
    refine lx_r 3 (.bool false) HS0 ?_; simp only [lxa, lxb, lxc]
    refine lx_r 4 (.slice (some ⟨gb, offb, none⟩) 12 c3) HS0 ?_; simp only [lxa, lxb, lxc]
    refine lx_r 5 (.string (strOfNums xs)) HS0 ?_ (hv := fun w' hS => by have q := hS.string; first | (go_simp; rfl) | go_simp); simp only [lxa, lxb, lxc]
    refine lx_r 6 (.slice (some ⟨gb, offb, none⟩) 12 c3) HS0 ?_; simp only [lxa, lxb, lxc]
    refine lx_r 7 (.slice (some ⟨gb, offb, none⟩) 8 c3) HS0 ?_ (hv := fun w' hS => by have q := hsl w'; first | (go_simp; rfl) | go_simp); simp only [lxa, lxb, lxc]
    refine lx_one 8 (by kernel_rfl) (stepT_call 95 ?a8w rfl rfl rfl ?r8w ?_)
    case r8w => first | (go_simp; rfl) | go_simp
    refine (hnu X HS0).mono ?_
    rintro e w5 ⟨rfl, hw5⟩
    subst w5
    refine ⟨_, rfl, fun _ => HS0, ?_⟩
    simp only [lxa, lxb, lxc]
    refine lx_one 9 (by kernel_rfl) (stepT_call 78 ?a9w rfl rfl rfl ?r9w ?_)
    case r9w => first | (go_simp; rfl) | go_simp
    refine (hba X).mono ?_
    rintro e w6 ⟨v6, rfl, o6, hb6⟩
    obtain ⟨a6, c6, hv6, r6⟩ := Rd.ofOwn o6 hbb
    subst hv6
    have T6 := TX.below hb6
    have o7 := own_keep oX (S := fun _ => False) (Keep.ofBelow hb6) (fun _ _ h => h)
    have HS6 := HS0.carry (Nat.le_refl _) hb6
    refine ⟨_, rfl, fun _ => HS6, ?_⟩
    simp only [lxa, lxb, lxc]
    have hst6 := r6.string
    refine lx_one 10 (by kernel_rfl) (stepT_val (w' := w6) (.string (strOfNums (baseL gn))) rfl rfl rfl ?r10w (fun _ => HS6) ?_)
    case r10w => first | (go_simp; rfl) | go_simp
    simp only [lxa, lxb, lxc]
    clear HS0 TX oX hst6 r6 o6
    by_cases hEq : xs = baseL gn
    ·have hqe : ((strOfNums xs).toList == (strOfNums (baseL gn)).toList) = true := by rw [← hEq]; exact nm_eqT _
     have HEq : Hid (xs = baseL gn) := hEq
     clear hEq
     generalize strOfNums xs = sx at hqe ⊢
     generalize strOfNums (baseL gn) = sy at hqe ⊢
     refine lx_r 11 (.bool false) HS6 ?_ (hv := fun w' hS => by have q := hqe; first | (go_simp; rfl) | go_simp); simp only [lxa, lxb, lxc]
     refine lx_r 12 (.bool false) HS6 ?_; simp only [lxa, lxb, lxc]
     refine lx_r 13 (.bool false) HS6 ?_; simp only [lxa, lxb, lxc]
     refine lx_r 14 (.slice (some ⟨gb, offb, none⟩) 12 c3) HS6 ?_; simp only [lxa, lxb, lxc]
     refine lx_r 15 (.slice (some ⟨gb, offb, none⟩) 8 c3) HS6 ?_ (hv := fun w' hS => by have q := hsl w'; first | (go_simp; rfl) | go_simp); simp only [lxa, lxb, lxc]
     refine lx_one 16 (by kernel_rfl) (stepT_call 95 ?a16w rfl rfl rfl ?r16w ?_)
     case r16w => first | (go_simp; rfl) | go_simp
     refine (hnu w6 HS6).mono ?_
     rintro e w7 ⟨rfl, hw7⟩
     subst w7
     refine ⟨_, rfl, fun _ => HS6, ?_⟩
     simp only [lxa, lxb, lxc]
     by_cases hg0 : gn = 0
     ·have hz0 : ((gn : Int) == 0) = true := by rw [hg0]; rfl
      have HE : Hid (Q = (14, lg0 most, k)) := by
       show _ = _
       rw [← HQ1.out, if_neg (fun h9 => by have := h9.1; omega)]
       unfold openR
       rw [if_pos (by simp)]
      clear hg0
      refine lx_r 17 (.bool true) HS6 ?_ (hv := fun w' hS => by have q := hz0; first | (go_simp; rfl) | go_simp); simp only [lxa, lxb, lxc]
      refine lx_r 18 (.bool true) HS6 ?_; simp only [lxa, lxb, lxc]
      refine lx_nil (by kernel_rfl) ?_
      clear HS6 hz0
      go_wp2
      go_ret2
      rw [HE.out]
      exact Or.inl ⟨by simp, rfl, T6.no⟩
     ·have hz0 : ((gn : Int) == 0) = false := by
       rw [beq_eq_false_iff_ne]
       omega
      have HQ2 : Hid (openR.openC most (cleanL ⟨gn, 0, 0, false⟩ false k) = Q) := by
       show _ = _
       have h9 := HQ1.out
       rw [if_pos ⟨by omega, HEq.out⟩] at h9
       unfold openR at h9
       rw [if_neg (by simp)] at h9
       exact h9
      clear hg0 HQ1 HEq
      refine lx_r 17 (.bool false) HS6 ?_ (hv := fun w' hS => by have q := hz0; first | (go_simp; rfl) | go_simp); simp only [lxa, lxb, lxc]
      refine lx_r 18 (.bool false) HS6 ?_; simp only [lxa, lxb, lxc]
      refine lx_nil (by kernel_rfl) ?_
      have q2 : w6.cell? ⟨rl, 2, none⟩ = some (.int .u64 1) := by
       obtain ⟨v, hD, _⟩ := T6.A.ex
       exact hD.c2
      have f2 : w6.frozen? ⟨rl, 2, none⟩ = false := by
       obtain ⟨v, hD, _⟩ := T6.A.ex
       exact hD.fz 2
      have hrl7 : rl < w6.heap.size := by
       obtain ⟨v, hD, _⟩ := T6.A.ex
       exact hD.lt
      have T0 := T6.setG (g := gn)
      have hnu6 := hnu w6 HS6
      have hne7 : ∀ q, v1.ownBlock = some q → q ≠ rl := fun q hq e => by
       obtain ⟨cur, e9⟩ := own_blkT o7 hq
       obtain ⟨v, hD, _⟩ := T6.A.ex
       have h8 := hD.blk
       rw [e, h8] at e9
       injection e9 with e9
       injection e9 with _ e9
       exact absurd e9 (by decide)
      have o2 := own_keep o7 ((Keep.refl (fun i => i = rl) w6).setCell (p := ⟨rl, 2, none⟩) rfl (.int .u64 (gn : Int))) (fun q hq => hne7 q hq)
      obtain ⟨g, hgg⟩ : ∃ g, g = gn := ⟨_, rfl⟩
      rw [← hgg] at HQ2 T0 hgn o2 hnu6
      have hg : g < 18446744073709551616 := hgn
      have hbk : Below w.heap.size w w := Below.refl _ _
      clear HS6 hz0 hnu hgn T6 hgg hne7 hbd hbb hba Hgn HN
      go_upto_region 12 with (first
       | (go_at_call 95; refine hnu6.mono ?_; clear hnu6; rintro e w8 ⟨rfl, hw8⟩; replace hw8 := hw8.symm; subst hw8))
      generalize w6.setCell ⟨rl, 2, none⟩ (.int .u64 (g : Int)) = wA at *
      have o1 := o2
      have hb1 := hbk
      have hb2 := hbk
      have Hgg : Hid True := trivial
      go_upto_region 13 with fail
      clear o1 hb1 Hgg
      have HT0 : Hid (RNew w G rl rd wA G (fun _ => False) ⟨most, [], ⟨g, 0, 0, false⟩, false⟩ k) := T0
      have HO0 : Hid (wA.ownsRow w.heap.size 9 1 v1 ns.length (nv ns)) := o2
      clear T0 o2 hb2
      obtain ⟨av, cv, hv1, hnv⟩ := own_formN HO0.out
      subst hv1
      go_loopw [11] (fun s11 wr => ∃ j : Nat, s11 = .int .i64 j ∧ j ≤ ns.length ∧ Hid (∀ s ∈ segs g 0 j, s ∈ ns) ∧ Hid (RNew w G rl rd wr G (fun _ => False) ⟨most, [], ⟨g, 0, 0, false⟩, false⟩ k) ∧ Hid (wr.ownsRow w.heap.size 9 1 (.slice av ns.length cv) ns.length (nv ns))) (fun s11 _ => ns.length - (intOf s11).toNat)
      case atStart => exact ⟨0, rfl, Nat.zero_le _, fun s hs => by obtain ⟨i, hi, _⟩ := mem_segs.1 hs; omega, HT0.out, HO0.out⟩
      case round =>
       clear HT0 HO0
       obtain ⟨n, rfl, hnn, HM, HT, HO⟩ := hrel
       have q2 : wr.cell? ⟨rl, 2, none⟩ = some (.int .u64 (g : Int)) := by
        obtain ⟨v, hD, _⟩ := HT.out.A.ex
        exact hD.c2
       have hfi := rfile_any g (n + 1) hg (by omega) wr
       have hj1 : ((n + 1 : Nat) : Int) = (n : Int) + 1 := by omega
       rw [hj1] at hfi
       have hha := fun w' (ho : w'.ownsRow w.heap.size 9 1 (.slice av ns.length cv) ns.length (nv ns)) => rhas_any (.slice av ns.length cv) ns (segN g (n + 1)) w.heap.size w' ho
       obtain ⟨sg, Hsg⟩ : ∃ s, Hid (segN g (n + 1) = s) := ⟨_, rfl⟩
       rw [Hsg.out] at hfi
       simp only [Hsg.out] at hha
       clear hj1
       cases hin : inN sg ns with
       | true =>
        simp only [hin] at hha
        have HM2 : Hid (∀ s ∈ segs g 0 (n + 1), s ∈ ns) := fun s hs => by
         obtain ⟨i, hi, he⟩ := mem_segs.1 hs
         by_cases e : i < n
         ·exact HM.out s (mem_segs.2 ⟨i, e, he⟩)
         ·obtain rfl : i = n := by omega
          rw [he, Nat.zero_add, Hsg.out]
          exact inN_iff.1 hin
        have hle := cnt_le HM2.out
        clear hin
        go_wp2_with (first
         | (go_at_call 82; refine hfi.mono ?_; clear hfi; rintro e w3 ⟨rfl, hb3⟩; have T3 := HT.out.below hb3; have o3 := own_keep HO.out (S := fun _ => False) (Keep.ofBelow hb3) (fun _ _ h => h); replace hha := hha w3 o3)
         | (go_at_call 94; refine hha.mono ?_; clear hha; rintro e w4 ⟨rfl, h9⟩; replace h9 := h9.symm; subst h9))
        exact ⟨⟨n + 1, by go_num, hle, HM2.out, T3, o3⟩, by simp [intOf]; omega⟩
       | false =>
        simp only [hin] at hha
        have hcn : cntN ns g = n := cntN_is ⟨HM.out, fun hm => by
         rw [Hsg.out] at hm
         have := inN_iff.2 hm
         rw [hin] at this
         cases this⟩
        have hlk : (listK k).1 = 0 := by unfold listK; rw [if_neg (by rw [ho]; decide)]
        have HQ3 : Hid (openR.openC most ((remAll ((ns.drop 0).filter (left g n)) false k).1, ⟨g, n, 0, false⟩, (remAll ((ns.drop 0).filter (left g n)) false k).2) = Q) := by
         show _ = _
         have h9 := HQ2.out
         unfold cleanL at h9
         rw [if_neg (by rw [hlk]; simp), Hns.out, hcn] at h9
         rw [List.drop_zero]
         exact h9
        obtain ⟨RR, HRR⟩ : ∃ RR, Hid (remAll ((ns.drop 0).filter (left g n)) false k = RR) := ⟨_, rfl⟩
        rw [HRR.out] at HQ3
        obtain ⟨eR, dnR, kR⟩ := RR
        dsimp only at HQ3
        have HSg : Hid (Sgs g n k) := ⟨ho, fun s hs => look_isSome.2 (by
         have h9 := HM.out s hs
         rw [← Hns.out] at h9
         unfold listK at h9
         rw [if_neg (by rw [ho]; decide)] at h9
         exact h9), hu⟩
        clear hin hcn hlk HQ2
        go_upto_region 16 with (first
         | (go_at_call 82; refine hfi.mono ?_; clear hfi; rintro e w3 ⟨rfl, hb3⟩; have T3 := HT.out.below hb3; have o3 := own_keep HO.out (S := fun _ => False) (Keep.ofBelow hb3) (fun _ _ h => h); replace hha := hha w3 o3)
         | (go_at_call 94; refine hha.mono ?_; clear hha; rintro e w4 ⟨rfl, h9⟩; replace h9 := h9.symm; subst h9))
        have HT3 : Hid (RNew w G rl rd w3 G (fun _ => False) ⟨most, [], ⟨g, 0, 0, false⟩, false⟩ k) := T3
        have HO3 : Hid (w3.ownsRow w.heap.size 9 1 (.slice av ns.length cv) ns.length (nv ns)) := o3
        clear T3 o3 HT HO q2 hb3 Hsg
        go_loopw [12, 13, 14, 15] (fun s12 _ _ _ wr => ∃ (i : Nat) (G1 : Nat → Prop) (k1 : Dk), s12 = .int .i64 i ∧ i ≤ ns.length ∧ k1.steps ≤ k.steps + i ∧ k1.fs.length ≤ k.fs.length ∧ Hid (RNew w G rl rd wr G1 (fun _ => False) ⟨most, [], ⟨g, 0, 0, false⟩, false⟩ k1) ∧ Hid (wr.ownsRow w.heap.size 9 1 (.slice av ns.length cv) ns.length (nv ns)) ∧ Hid (∀ q, (Value.slice av ns.length cv).ownBlock = some q → ¬ G1 q) ∧ Hid (Sgs g n k1) ∧ Hid (remAll ((ns.drop i).filter (left g n)) false k1 = (eR, dnR, kR))) (fun s12 _ _ _ _ => ns.length - (intOf s12).toNat)
        case atStart => exact ⟨0, G, k, rfl, Nat.zero_le _, by omega, Nat.le_refl _, HT3.out, HO3.out, fun q hq hg => by have := (HO3.out.lt q hq).1; have := hR.lt q hg; omega, HSg.out, HRR.out⟩
        case round =>
         clear HT3 HO3 HRR HSg
         obtain ⟨i, G1, k1, rfl, hin, hs1, hf1, HT, HO, HG, HSg, HR⟩ := hrel
         by_cases hlt : i < ns.length
         ·have hcl : (i : Int) < (ns.length : Int) := by omega
          obtain ⟨x, hx⟩ : ∃ y, ns[i]? = some y := ⟨_, List.getElem?_eq_getElem hlt⟩
          have hix : (nv ns)[i]? = some (.string x) := by unfold nv; rw [List.getElem?_map, hx]; rfl
          have hcx : ∀ W : World, W.ownsRow w.heap.size 9 1 (.slice av ns.length cv) ns.length (nv ns) → ∃ g, av = some ⟨g, 0, none⟩ ∧ W.cell? ⟨g, i, none⟩ = some (.string x) := fun W hO => by
           rcases hO.2 with ⟨_, h0⟩ | ⟨g, cap, cur, h1, _⟩
           ·omega
           ·injection h1 with h1
            have hv2 := hO
            rw [h1] at hv2
            have hc := hv2.cells (g := g) rfl i _ hix
            rw [add_flat, Nat.zero_add] at hc
            exact ⟨g, h1, hc⟩
          obtain ⟨gv, hgv, _⟩ := hcx wr HO.out
          subst hgv
          have hcx2 : ∀ W : World, W.ownsRow w.heap.size 9 1 (.slice (some ⟨gv, 0, none⟩) ns.length cv) ns.length (nv ns) → W.cell? ⟨gv, i, none⟩ = some (.string x) := fun W hO => by
           obtain ⟨g', e1, e2⟩ := hcx W hO
           injection e1 with e1
           injection e1 with e1
           rw [e1]
           exact e2
          have HRn : Hid (remAll ((x :: ns.drop (i + 1)).filter (left g n)) false k1 = (eR, dnR, kR)) := by
           have h9 := HR.out
           rw [List.drop_eq_getElem_cons hlt] at h9
           have e : ns[i] = x := by rw [List.getElem?_eq_getElem hlt] at hx; injection hx
           rw [e] at h9
           exact h9
          have hxs : x.size ≤ 9223372036854775807 := by
           have hm : x ∈ ns := List.mem_of_getElem? hx
           rw [← Hns.out] at hm
           unfold listK at hm
           rw [if_neg (by rw [ho]; decide)] at hm
           obtain ⟨pf, hpf, e⟩ := List.mem_map.1 hm
           have := isNm_size (hR.good.each pf hpf).1
           rw [e] at this
           omega
          clear hcx hix HR hx
          go_upto_region 20 with fail
          go_loopw [13, 14] (fun s13 s14 wr => ∃ m : Nat, s13 = .bool (inN x (segs g 0 m)) ∧ s14 = .int .i64 ((m : Int) + 1) ∧ m ≤ n ∧ Hid (RNew w G rl rd wr G1 (fun _ => False) ⟨most, [], ⟨g, 0, 0, false⟩, false⟩ k1) ∧ Hid (wr.ownsRow w.heap.size 9 1 (.slice (some ⟨gv, 0, none⟩) ns.length cv) ns.length (nv ns))) (fun _ s14 _ => n + 1 - (intOf s14).toNat)
          case atStart => exact ⟨0, rfl, rfl, Nat.zero_le _, HT.out, HO.out⟩
          case round =>
           clear HT HO
           obtain ⟨m, rfl, rfl, hmn, HT, HO⟩ := hrel
           by_cases hle : m + 1 ≤ n
           ·have hz : (m : Int) + 1 ≤ (n : Int) := by omega
            have hsn : inN x (segs g 0 (m + 1)) = (inN x (segs g 0 m) || decide (segN g (m + 1) = x)) := by
             unfold segs inN
             rw [List.range_succ, List.map_append, List.any_append]
             simp
            cases hmi : inN x (segs g 0 m) with
            | true =>
             rw [hmi, Bool.true_or] at hsn
             have HN1 : Hid (inN x (segs g 0 (m + 1)) = true) := hsn
             have HS0 : wr.drew.cell? ⟨gv, i, none⟩ = some (.string x) := hcx2 _ (own_keep HO.out (S := fun _ => False) (Keep.ofBelow ((Below.refl _ wr).drew)) (fun _ _ h => h))
             have hTX := HT.out.below ((Below.refl _ wr).drew)
             have hOX := own_keep HO.out (S := fun _ => False) (Keep.ofBelow ((Below.refl _ wr).drew)) (fun _ _ h => h)
             clear hsn hmi
             go_upto_region 22 with fail
             refine wp_region_lx (fun w' => w'.cell? ⟨gv, i, none⟩ = some (.string x)) [] 15 (by kernel_rfl) (by kernel_rfl) ?_
             generalize wr.drew = X at *
             refine lx_r 0 (.bool true) HS0 ?_; simp only [lxa, lxb, lxc]
             refine lx_r 1 (.bool true) HS0 ?_; simp only [lxa, lxb, lxc]
             refine lx_s 2 HS0 ?_; simp only [lxa, lxb, lxc]
             refine lx_s 3 HS0 ?_; simp only [lxa, lxb, lxc]
             refine lx_s 4 HS0 ?_; simp only [lxa, lxb, lxc]
             refine lx_s 5 HS0 ?_; simp only [lxa, lxb, lxc]
             refine lx_s 6 HS0 ?_; simp only [lxa, lxb, lxc]
             refine lx_s 7 HS0 ?_; simp only [lxa, lxb, lxc]
             refine lx_s 8 HS0 ?_; simp only [lxa, lxb, lxc]
             refine lx_s 9 HS0 ?_; simp only [lxa, lxb, lxc]
             refine lx_s 10 HS0 ?_; simp only [lxa, lxb, lxc]
             refine lx_s 11 HS0 ?_; simp only [lxa, lxb, lxc]
             refine lx_s 12 HS0 ?_; simp only [lxa, lxb, lxc]
             refine lx_r 13 (.bool true) HS0 ?_; simp only [lxa, lxb, lxc]
             refine lx_r 14 (.bool true) HS0 ?_; simp only [lxa, lxb, lxc]
             refine lx_nil (by kernel_rfl) ?_
             clear HS0
             go_wp2
             exact ⟨⟨m + 1, by rw [HN1.out], by first | rfl | go_num, hle, hTX, hOX⟩, by simp [intOf]; omega⟩
            | false =>
             rw [hmi, Bool.false_or] at hsn
             have HN1 : Hid (inN x (segs g 0 (m + 1)) = decide (segN g (m + 1) = x)) := hsn
             have hTX := HT.out.below ((Below.refl _ wr).drew)
             have hOX := own_keep HO.out (S := fun _ => False) (Keep.ofBelow ((Below.refl _ wr).drew)) (fun _ _ h => h)
             obtain ⟨vX, hDX, _⟩ := hTX.A.ex
             have HS0 : wr.drew.cell? ⟨gv, i, none⟩ = some (.string x) ∧ wr.drew.cell? ⟨rl, 2, none⟩ = some (.int .u64 (g : Int)) := ⟨hcx2 _ hOX, hDX.c2⟩
             have hfi := rfile_any g (m + 1) hg (by omega) wr.drew
             have hj1 : ((m + 1 : Nat) : Int) = (m : Int) + 1 := by omega
             rw [hj1] at hfi
             clear hsn hmi hDX hj1
             go_upto_region 22 with fail
             refine wp_region_lx (fun w' => w'.cell? ⟨gv, i, none⟩ = some (.string x) ∧ w'.cell? ⟨rl, 2, none⟩ = some (.int .u64 (g : Int))) [] 15 (by kernel_rfl) (by kernel_rfl) ?_
             generalize wr.drew = X at *
             refine lx_r 0 (.bool false) HS0 ?_; simp only [lxa, lxb, lxc]
             refine lx_r 1 (.bool false) HS0 ?_; simp only [lxa, lxb, lxc]
             refine lx_r 2 (.slice (some ⟨gv, 0, none⟩) ns.length cv) HS0 ?_; simp only [lxa, lxb, lxc]
             refine lx_r 3 (.int .i64 (i : Int)) HS0 ?_; simp only [lxa, lxb, lxc]
             refine lx_r 4 (.pointer (some ⟨gv, i, none⟩)) HS0 ?_; simp only [lxa, lxb, lxc]
             refine lx_r 5 (.string x) HS0 ?_ (hv := fun w' hS => by have q := hS.1; first | (go_simp; rfl) | go_simp); simp only [lxa, lxb, lxc]
             refine lx_r 6 (.pointer (some ⟨rl, 0, none⟩)) HS0 ?_; simp only [lxa, lxb, lxc]
             refine lx_r 7 (.pointer (some ⟨rl, 0, none⟩)) HS0 ?_; simp only [lxa, lxb, lxc]
             refine lx_r 8 (.pointer (some ⟨rl, 2, none⟩)) HS0 ?_; simp only [lxa, lxb, lxc]
             refine lx_r 9 (.int .u64 (g : Int)) HS0 ?_ (hv := fun w' hS => by have q := hS.2; first | (go_simp; rfl) | go_simp); simp only [lxa, lxb, lxc]
             refine lx_r 10 (.int .i64 ((m : Int) + 1)) HS0 ?_; simp only [lxa, lxb, lxc]
             refine lx_one 11 (by kernel_rfl) (stepT_call 82 ?a11bq rfl rfl rfl ?r11bq ?_)
             case r11bq => first | (go_simp; rfl) | go_simp
             refine hfi.mono ?_
             rintro e w5 ⟨rfl, hb5⟩
             have hT5 := hTX.below hb5
             have hO5 := own_keep hOX (S := fun _ => False) (Keep.ofBelow hb5) (fun _ _ h => h)
             obtain ⟨v5, hD5, _⟩ := hT5.A.ex
             have HS5 : w5.cell? ⟨gv, i, none⟩ = some (.string x) ∧ w5.cell? ⟨rl, 2, none⟩ = some (.int .u64 (g : Int)) := ⟨hcx2 _ hO5, hD5.c2⟩
             refine ⟨_, rfl, fun _ => HS5, ?_⟩
             simp only [lxa, lxb, lxc]
             obtain ⟨sm, Hsm⟩ : ∃ s, Hid (segN g (m + 1) = s) := ⟨_, rfl⟩
             rw [Hsm.out] at HN1 ⊢
             have hEq : (x.toList == sm.toList) = decide (sm = x) := by
              by_cases e : x = sm
              ·subst e; rw [nm_eqT, decide_eq_true rfl]
              ·rw [nm_neqT e, decide_eq_false (fun h => e h.symm)]
             generalize decide (sm = x) = bq at HN1 hEq
             refine lx_r 12 (.bool bq) HS5 ?_ (hv := fun w' hS => by have q := hEq; first | (go_simp; rfl) | go_simp); simp only [lxa, lxb, lxc]
             refine lx_r 13 (.bool bq) HS5 ?_; simp only [lxa, lxb, lxc]
             refine lx_r 14 (.bool bq) HS5 ?_; simp only [lxa, lxb, lxc]
             refine lx_nil (by kernel_rfl) ?_
             clear HS0 HS5 hTX hOX hfi hD5
             go_wp2
             exact ⟨⟨m + 1, by rw [HN1.out], by first | rfl | go_num, hle, hT5, hO5⟩, by simp [intOf]; omega⟩
           ·have hz : ¬ (m : Int) + 1 ≤ (n : Int) := by omega
            obtain rfl : m = n := by omega
            have qx := hcx2 _ HO.out
            clear hmn hle
            by_cases hnw : x = sNew
            ·have hq : (x.toList == [98, 97, 115, 101, 46, 110, 101, 119]) = true := by rw [hnw, ← sNewL]; exact nm_eqT _
             have hleft : left g m x = true := by unfold left isOf; rw [hnw, new_seg, decide_eq_true rfl]; rfl
             clear hnw
             generalize inN x (segs g 0 m) = bm at *
             have hmine : inN x (segs g 0 m) = false := by
              unfold left at hleft
              rw [Bool.and_eq_true] at hleft
              simpa using hleft.1
             have HR2 : Hid (remAll (x :: (ns.drop (i + 1)).filter (left g m)) false k1 = (eR, dnR, kR)) := by
              have h9 := HRn.out
              rw [List.filter_cons_of_pos hleft] at h9
              exact h9
             have hrm := refRemove_any rd G1 k1 x hxs (by omega) (by omega) wr HT.out.R
             have hstp := stpR_gr false k1 x
             have hst2 := stp_rd false k1 (removeK k1 x) rfl
             obtain ⟨P, HP⟩ : ∃ P, removeK k1 x = P := ⟨_, rfl⟩
             have HP' : Hid (removeK k1 x = P) := HP
             rw [HP] at hstp hst2 hrm
             clear HP
             obtain ⟨en, k2⟩ := P
             dsimp only at hrm hst2
             rw [hst2] at hstp
             dsimp only at hstp
             have Hst2 : Hid (stp false k1 (en, k2) = (en, (if en = 13 then true else false), k2)) := hst2
             clear hst2 HRn hleft
             go_upto_region 25 with (first
              | (go_at_call 81; refine hrm.mono ?_; clear hrm; rintro e w6 ⟨rfl, hp6⟩; obtain ⟨G6, T6, hG6⟩ := HT.out.rp2 hp6)
             )
             have o6 : w6.ownsRow w.heap.size 9 1 (.slice (some ⟨gv, 0, none⟩) ns.length cv) ns.length (nv ns) := by
              obtain ⟨_, _, hk6, _⟩ := hp6
              exact own_keep HO.out hk6 (fun q hq hg => HG.out q hq hg)
             have hg6 : ∀ q, (Value.slice (some ⟨gv, 0, none⟩) ns.length cv).ownBlock = some q → ¬ G6 q := fun q hq hg => by
              rcases hG6 q hg with h9 | h9
              ·exact HG.out q hq h9
              ·obtain ⟨cur, e⟩ := own_blkT HO.out hq
               have := (Array.getElem?_eq_some_iff.1 e).1
               omega
             by_cases h0 : en = 0
             ·subst h0
              rw [if_neg (by decide)] at Hst2
              have HR3 : Hid (remAll ((ns.drop (i + 1)).filter (left g m)) false k2 = (eR, dnR, kR)) := by
               show _ = _
               rw [← remAll_ok (s := x) (dn := false) (k := k1) (by rw [HP'.out]; exact Hst2.out)]
               exact HR2.out
              have hSg6 : Sgs g m k2 := HSg.out.rem HP'.out hmine
              clear HR2 Hst2 HP' hp6
              rw [show ((0 : Nat) : Int) = 0 from rfl]
              go_wp2
              exact ⟨⟨i + 1, G6, k2, by first | rfl | go_num, by omega, by omega, by omega, T6, o6, hg6, hSg6, HR3.out⟩, by simp [intOf]; omega⟩
             ·have z0' : ¬ (en : Int) = 0 := by omega
              have z0n : ((en : Int) != 0) = true := by simpa using z0'
              have HE : Hid (Q = (en, (⟨most, [], ⟨g, m, 0, false⟩, (if en = 13 then true else false)⟩ : Lg), k2)) := by
               show _ = _
               have hres := HR2.out.symm.trans (remAll_no (s := x) (dn := false) (k := k1) (by rw [HP'.out]; exact Hst2.out) h0)
               simp only [Prod.mk.injEq] at hres
               obtain ⟨e1, e2, e3⟩ := hres
               rw [← HQ3.out, e1, e2, e3]
               unfold openR.openC
               rw [if_pos h0]
              have h0' := h0
              clear HR2 Hst2 HP' h0
              go_wp2
              go_ret2
              rw [HE.out]
              exact Or.inl ⟨h0', rfl, T6.no⟩
            ·have hq : (x.toList == [98, 97, 115, 101, 46, 110, 101, 119]) = false := by rw [← sNewL]; exact nm_neqT hnw
             cases hmi : inN x (segs g 0 m) with
             | true =>
              have hleft : left g m x = false := by unfold left; rw [hmi]; rfl
              clear hnw
              have HR2 : Hid (remAll ((ns.drop (i + 1)).filter (left g m)) false k1 = (eR, dnR, kR)) := by
               have h9 := HRn.out
               rw [List.filter_cons_of_neg (by rw [hleft]; decide)] at h9
               exact h9
              clear HRn hleft
              go_wp2
              exact ⟨⟨i + 1, G1, k1, by first | rfl | go_num, by omega, by omega, by omega, HT.out, HO.out, HG.out, HSg.out, HR2.out⟩, by simp [intOf]; omega⟩
             | false =>
              by_cases h4 : 4 ≤ x.size
              ·have h4z : (4 : Int) ≤ (x.size : Int) := by omega
               have hpre := pre4 x
               cases hp : Lib.hasPrefix x.data.toList sLog.data.toList with
               | true =>
                rw [hp] at hpre
                have hleft : left g m x = true := by unfold left isOf; rw [hmi, hp]; simp
                clear hnw hp
                have hmine : inN x (segs g 0 m) = false := by
                 unfold left at hleft
                 rw [Bool.and_eq_true] at hleft
                 simpa using hleft.1
                have HR2 : Hid (remAll (x :: (ns.drop (i + 1)).filter (left g m)) false k1 = (eR, dnR, kR)) := by
                 have h9 := HRn.out
                 rw [List.filter_cons_of_pos hleft] at h9
                 exact h9
                have hrm := refRemove_any rd G1 k1 x hxs (by omega) (by omega) wr HT.out.R
                have hstp := stpR_gr false k1 x
                have hst2 := stp_rd false k1 (removeK k1 x) rfl
                obtain ⟨P, HP⟩ : ∃ P, removeK k1 x = P := ⟨_, rfl⟩
                have HP' : Hid (removeK k1 x = P) := HP
                rw [HP] at hstp hst2 hrm
                clear HP
                obtain ⟨en, k2⟩ := P
                dsimp only at hrm hst2
                rw [hst2] at hstp
                dsimp only at hstp
                have Hst2 : Hid (stp false k1 (en, k2) = (en, (if en = 13 then true else false), k2)) := hst2
                clear hst2 HRn hleft
                go_upto_region 25 with (first
                 | (go_at_call 81; refine hrm.mono ?_; clear hrm; rintro e w6 ⟨rfl, hp6⟩; obtain ⟨G6, T6, hG6⟩ := HT.out.rp2 hp6)
                )
                have o6 : w6.ownsRow w.heap.size 9 1 (.slice (some ⟨gv, 0, none⟩) ns.length cv) ns.length (nv ns) := by
                 obtain ⟨_, _, hk6, _⟩ := hp6
                 exact own_keep HO.out hk6 (fun q hq hg => HG.out q hq hg)
                have hg6 : ∀ q, (Value.slice (some ⟨gv, 0, none⟩) ns.length cv).ownBlock = some q → ¬ G6 q := fun q hq hg => by
                 rcases hG6 q hg with h9 | h9
                 ·exact HG.out q hq h9
                 ·obtain ⟨cur, e⟩ := own_blkT HO.out hq
                  have := (Array.getElem?_eq_some_iff.1 e).1
                  omega
                by_cases h0 : en = 0
                ·subst h0
                 rw [if_neg (by decide)] at Hst2
                 have HR3 : Hid (remAll ((ns.drop (i + 1)).filter (left g m)) false k2 = (eR, dnR, kR)) := by
                  show _ = _
                  rw [← remAll_ok (s := x) (dn := false) (k := k1) (by rw [HP'.out]; exact Hst2.out)]
                  exact HR2.out
                 have hSg6 : Sgs g m k2 := HSg.out.rem HP'.out hmine
                 clear HR2 Hst2 HP' hp6
                 rw [show ((0 : Nat) : Int) = 0 from rfl]
                 go_wp2
                 exact ⟨⟨i + 1, G6, k2, by first | rfl | go_num, by omega, by omega, by omega, T6, o6, hg6, hSg6, HR3.out⟩, by simp [intOf]; omega⟩
                ·have z0' : ¬ (en : Int) = 0 := by omega
                 have z0n : ((en : Int) != 0) = true := by simpa using z0'
                 have HE : Hid (Q = (en, (⟨most, [], ⟨g, m, 0, false⟩, (if en = 13 then true else false)⟩ : Lg), k2)) := by
                  show _ = _
                  have hres := HR2.out.symm.trans (remAll_no (s := x) (dn := false) (k := k1) (by rw [HP'.out]; exact Hst2.out) h0)
                  simp only [Prod.mk.injEq] at hres
                  obtain ⟨e1, e2, e3⟩ := hres
                  rw [← HQ3.out, e1, e2, e3]
                  unfold openR.openC
                  rw [if_pos h0]
                 have h0' := h0
                 clear HR2 Hst2 HP' h0
                 go_wp2
                 go_ret2
                 rw [HE.out]
                 exact Or.inl ⟨h0', rfl, T6.no⟩
               | false =>
                rw [hp] at hpre
                have hleft : left g m x = false := by unfold left isOf; rw [hmi, hp, decide_eq_false hnw]; rfl
                clear hnw hp
                have HR2 : Hid (remAll ((ns.drop (i + 1)).filter (left g m)) false k1 = (eR, dnR, kR)) := by
                 have h9 := HRn.out
                 rw [List.filter_cons_of_neg (by rw [hleft]; decide)] at h9
                 exact h9
                clear HRn hleft
                go_wp2
                exact ⟨⟨i + 1, G1, k1, by first | rfl | go_num, by omega, by omega, by omega, HT.out, HO.out, HG.out, HSg.out, HR2.out⟩, by simp [intOf]; omega⟩
              ·have h4z : ¬ (4 : Int) ≤ (x.size : Int) := by omega
               have hleft : left g m x = false := by unfold left isOf; rw [hmi, pre_short (by omega), decide_eq_false hnw]; rfl
               clear hnw
               have HR2 : Hid (remAll ((ns.drop (i + 1)).filter (left g m)) false k1 = (eR, dnR, kR)) := by
                have h9 := HRn.out
                rw [List.filter_cons_of_neg (by rw [hleft]; decide)] at h9
                exact h9
               clear HRn hleft
               go_wp2
               exact ⟨⟨i + 1, G1, k1, by first | rfl | go_num, by omega, by omega, by omega, HT.out, HO.out, HG.out, HSg.out, HR2.out⟩, by simp [intOf]; omega⟩
         ·have hcl : ¬ (i : Int) < (ns.length : Int) := by omega
          have hR0 := HR.out
          rw [List.drop_of_length_le (by omega)] at hR0
          have hR1 : (0, false, k1) = (eR, dnR, kR) := hR0
          simp only [Prod.mk.injEq] at hR1
          obtain ⟨e1, e2, e3⟩ := hR1
          subst e1 e2 e3
          have HQ4 : Hid (openR.openD (rdSegs (n - 0) 0 ⟨most, [], ⟨g, n, 0, false⟩, false⟩ k1) = Q) := by
           have h9 := HQ3.out
           unfold openR.openC at h9
           rw [if_neg (by simp)] at h9
           exact h9
          have hto : ([] : List (List Int)).length + segTot g k1 (n - 0) 0 ≤ 900000 := by
           have := segTot_used g k1 HT.out.R.good.rise (n - 0) 0
           have := HSg.out.few
           rw [List.length_nil, Nat.zero_add]
           omega
          clear HR hR0 HQ3 HO HG hlt
          go_upto_region 28 with fail
          go_loopw [16, 17, 18, 19, 20] (fun s16 _ _ _ _ wr => ∃ (m : Nat) (G2 H2 : Nat → Prop) (recs : List (List Int)) (sz : Nat), s16 = .int .i64 ((m : Int) + 1) ∧ m ≤ n ∧ Hid (recs.length + segTot g k1 (n - m) m ≤ 900000) ∧ Hid (RNew w G rl rd wr G2 H2 ⟨most, recs, ⟨g, m, sz, false⟩, false⟩ k1) ∧ Hid (openR.openD (rdSegs (n - m) m ⟨most, recs, ⟨g, n, sz, false⟩, false⟩ k1) = Q)) (fun s16 _ _ _ _ _ => n + 1 - (intOf s16).toNat)
          case atStart => exact ⟨0, G1, fun _ => False, [], 0, rfl, Nat.zero_le _, hto, HT.out, HQ4.out⟩
          case round =>
           clear HT HQ4 hto
           obtain ⟨m, G2, H2, recs, sz, rfl, hmn, HTo, HT, HQ⟩ := hrel
           by_cases hle : m + 1 ≤ n
           ·have hz : (m : Int) + 1 ≤ (n : Int) := by omega
            obtain ⟨p, hp⟩ : ∃ p, n - m = p + 1 := ⟨n - m - 1, by omega⟩
            have hp2 : n - (m + 1) = p := by omega
            have hTo := HTo.out
            rw [hp] at hTo
            have hTo2 : recs.length + ((readK k1 (segN g (m + 1))).2.length + segTot g k1 p (m + 1)) ≤ 900000 := hTo
            have hrd0 := HSg.out.read hle (isNm_seg g (m + 1) hg (by omega))
            obtain ⟨en, wh, R, z, k2, hs1', hs2', hs3'⟩ := seg_doc most g n m sz recs k1 hrd0
            have hsm := readSeg_same ⟨most, recs, ⟨g, n, sz, false⟩, false⟩ (m + 1) k1
            rw [hs2'] at hsm
            dsimp only at hsm
            obtain ⟨_, _, _, sm4, sm5, sm6, _⟩ := hsm
            have hsg := rsegment_any wr G2 H2 rl rd ⟨most, recs, ⟨g, m, sz, false⟩, false⟩ k1 (m + 1) HT.out.A hg (by omega) (by omega) (by dsimp only; omega)
            dsimp only at hsg
            rw [hs1'] at hsg
            dsimp only at hsg
            have hm1 : ((m + 1 : Nat) : Int) = (m : Int) + 1 := by omega
            rw [hm1] at hsg
            have HQn : Hid (openR.openD (if en ≠ 0 then (en, (⟨most, recs ++ R, ⟨g, n, z, false⟩, decide (en = 13)⟩ : Lg), k2) else if wh = true then rdSegs p (m + 1) ⟨most, recs ++ R, ⟨g, n, z, false⟩, decide (en = 13)⟩ k2 else rdSegs.rdEnd m ⟨most, recs ++ R, ⟨g, n, z, false⟩, decide (en = 13)⟩ k2) = Q) := by
             have h9 := HQ.out
             rw [hp] at h9
             unfold rdSegs at h9
             rw [hs2'] at h9
             exact h9
            have HR9 : Hid ((recs ++ R).length ≤ recs.length + (readK k1 (segN g (m + 1))).2.length) := sm6
            have Hs3 : Hid (wh = true → en = 0 ∧ k2 = k1) := hs3'
            have HTo2 : Hid (recs.length + ((readK k1 (segN g (m + 1))).2.length + segTot g k1 p (m + 1)) ≤ 900000) := hTo2
            have Hp2 : Hid (n - (m + 1) = p) := hp2
            clear hs1' hs2' hs3' sm6 hTo hTo2 HTo hp hp2 hm1 hrd0 HQ
            go_upto_region 31 with (first
             | (go_at_call 96; refine hsg.mono ?_; clear hsg; rintro e w6 ⟨rfl, hp6⟩; obtain ⟨G6, H6, T6⟩ := HT.out.rgp hp6))
            clear hp6 HT
            by_cases h0 : en = 0
            ·subst h0
             have hQn := HQn.out
             rw [if_neg (by simp), show decide ((0 : Nat) = 13) = false from rfl] at hQn
             rw [show ((0 : Nat) : Int) = 0 from rfl]
             clear HQn
             cases wh with
             | true =>
              obtain ⟨_, ek⟩ := Hs3.out rfl
              subst ek
              rw [if_pos rfl] at hQn
              have HQ5 : Hid (openR.openD (rdSegs (n - (m + 1)) (m + 1) ⟨most, recs ++ R, ⟨g, n, z, false⟩, false⟩ k2) = Q) := by rw [Hp2.out]; exact hQn
              have HTn : Hid ((recs ++ R).length + segTot g k2 (n - (m + 1)) (m + 1) ≤ 900000) := by
               rw [Hp2.out]
               have h8 := HR9.out
               have h7 := HTo2.out
               show _ ≤ _
               omega
              clear hQn
              go_wp2
              exact ⟨⟨m + 1, G6, H6, recs ++ R, z, by first | rfl | go_num, hle, HTn.out, T6, HQ5.out⟩, by simp [intOf]; omega⟩
             | false =>
              rw [if_neg (by decide)] at hQn
              obtain ⟨eR, dnR, kR, HRR⟩ : ∃ eR dnR kR, Hid (remAll (segs g (m + 1) (n - (m + 1))) false k2 = (eR, dnR, kR)) := ⟨_, _, _, rfl⟩
              rw [rdEnd_eq most g n m z (recs ++ R) k2 eR dnR kR HRR.out] at hQn
              have HQ5 : Hid (openR.openD (eR, (⟨most, recs ++ R, (if eR = 0 then ⟨g, m + 1, z, false⟩ else ⟨g, n, z, false⟩), dnR⟩ : Lg), kR) = Q) := hQn
              clear hQn Hs3 HR9 HTo2 Hp2
              have HT6 : Hid (RNew w G rl rd w6 G6 H6 ⟨most, recs ++ R, ⟨g, m + 1, z, false⟩, false⟩ k2) := T6
              clear T6
              go_upto_region 35 with fail
              go_loopw [19, 20] (fun s19 _ wr => ∃ (j : Nat) (G3 : Nat → Prop) (k3 : Dk), s19 = .int .i64 ((j : Int) + 1) ∧ m + 1 ≤ j ∧ j ≤ n ∧ k3.steps + (n - j) ≤ 900000 ∧ k3.fs.length ≤ 5000 ∧ Hid (RNew w G rl rd wr G3 H6 ⟨most, recs ++ R, ⟨g, m + 1, z, false⟩, false⟩ k3) ∧ Hid (remAll (segs g j (n - j)) false k3 = (eR, dnR, kR))) (fun s19 _ _ => n + 1 - (intOf s19).toNat)
              case atStart => exact ⟨m + 1, G6, k2, by first | rfl | go_num, Nat.le_refl _, hle, by omega, by omega, HT6.out, HRR.out⟩
              case round =>
               clear HT6 HRR
               obtain ⟨j, G3, k3, rfl, hmj, hjn, hs3, hf3, HT, HRR⟩ := hrel
               by_cases hjl : j + 1 ≤ n
               ·have hzj : (j : Int) + 1 ≤ (n : Int) := by omega
                have HRn : Hid (remAll (segN g (j + 1) :: segs g (j + 1) (n - (j + 1))) false k3 = (eR, dnR, kR)) := by
                 have h9 := HRR.out
                 have e : n - j = (n - (j + 1)) + 1 := by omega
                 rw [e, segs_cons] at h9
                 exact h9
                clear HRR
                have q2 : wr.cell? ⟨rl, 2, none⟩ = some (.int .u64 (g : Int)) := by
                 obtain ⟨v, hD, _⟩ := HT.out.A.ex
                 exact hD.c2
                have hfi := rfile_any g (j + 1) hg (by omega) wr
                have hj1 : ((j + 1 : Nat) : Int) = (j : Int) + 1 := by omega
                rw [hj1] at hfi
                have hnm2 := segN_size g (j + 1) hg (by omega)
                obtain ⟨sn, Hs⟩ : ∃ s, Hid (segN g (j + 1) = s) := ⟨_, rfl⟩
                rw [Hs.out] at hfi hnm2 HRn
                have hrm := fun w' (hr : RefAt w' G3 rd k3) => refRemove_any rd G3 k3 sn (by omega) (by omega) (by omega) w' hr
                have hstp := stpR_gr false k3 sn
                have hst2 := stp_rd false k3 (removeK k3 sn) rfl
                obtain ⟨P, HP⟩ : ∃ P, removeK k3 sn = P := ⟨_, rfl⟩
                have HP' : Hid (removeK k3 sn = P) := HP
                rw [HP] at hstp hst2
                simp only [HP] at hrm
                clear HP
                obtain ⟨en, k4⟩ := P
                dsimp only at hrm hst2
                rw [hst2] at hstp
                dsimp only at hstp
                have Hst2 : Hid (stp false k3 (en, k4) = (en, (if en = 13 then true else false), k4)) := hst2
                clear hst2 hj1
                go_upto_region 38 with (first
                 | (go_at_call 82; refine hfi.mono ?_; clear hfi; rintro e w7 ⟨rfl, hb7⟩; have T7 := HT.out.below hb7; replace hrm := hrm w7 T7.R)
                 | (go_at_call 81; refine hrm.mono ?_; clear hrm; rintro e w8 ⟨rfl, hp8⟩; obtain ⟨G8, T8⟩ := T7.rp hp8))
                clear hp8 T7 HT q2
                by_cases h0 : en = 0
                ·subst h0
                 rw [if_neg (by decide)] at Hst2
                 have HR3 : Hid (remAll (segs g (j + 1) (n - (j + 1))) false k4 = (eR, dnR, kR)) := by
                  show _ = _
                  rw [← remAll_ok (s := sn) (dn := false) (k := k3) (by rw [HP'.out]; exact Hst2.out)]
                  exact HRn.out
                 clear HRn Hst2 HP'
                 rw [show ((0 : Nat) : Int) = 0 from rfl]
                 go_wp2
                 exact ⟨⟨j + 1, G8, k4, by first | rfl | go_num, by omega, hjl, by omega, by omega, T8, HR3.out⟩, by simp [intOf]; omega⟩
                ·have z0' : ¬ (en : Int) = 0 := by omega
                 have z0n : ((en : Int) != 0) = true := by simpa using z0'
                 have HE : Hid (Q.1 = en ∧ Q.2.2 = k4) := by
                  have hres := HRn.out.symm.trans (remAll_no (s := sn) (dn := false) (k := k3) (by rw [HP'.out]; exact Hst2.out) h0)
                  simp only [Prod.mk.injEq] at hres
                  obtain ⟨e1, e2, e3⟩ := hres
                  rw [← HQ5.out, e1, e2, e3]
                  unfold openR.openD
                  rw [if_pos h0]
                  exact ⟨rfl, rfl⟩
                 have h0' := h0
                 clear HRn Hst2 HP' h0
                 go_wp2
                 go_ret2
                 exact Or.inl ⟨by rw [HE.out.1]; exact h0', by rw [HE.out.1]; rfl, by rw [HE.out.2]; exact T8.no⟩
               ·have hzj : ¬ (j : Int) + 1 ≤ (n : Int) := by omega
                have hR0 := HRR.out
                rw [show n - j = 0 from by omega] at hR0
                have hR1 : (0, false, k3) = (eR, dnR, kR) := hR0
                simp only [Prod.mk.injEq] at hR1
                obtain ⟨e1, e2, e3⟩ := hR1
                subst e1 e2 e3
                have HQ6 : Hid (openR.openD (0, (⟨most, recs ++ R, ⟨g, m + 1, z, false⟩, false⟩ : Lg), k3) = Q) := by
                 have h9 := HQ5.out
                 rw [if_pos rfl] at h9
                 exact h9
                clear HRR hR0 HQ5
                generalize recs ++ R = recs at HT HQ6
                have hz : True := trivial
                obtain ⟨c, hc⟩ : ∃ c, c = m + 1 := ⟨_, rfl⟩
                rw [← hc] at HT HQ6
                have hcn : c ≤ n := by omega
                clear hc
                have q4 : wr.cell? ⟨rl, 4, none⟩ = some (.int .i64 (c : Int)) := by
                 obtain ⟨v, hD, _⟩ := HT.out.A.ex
                 exact hD.c4
                by_cases hc0 : c = 0
                ·subst hc0
                 have HE : Hid (Q = (0, (⟨most, recs, ⟨g, 0, z, false⟩, false⟩ : Lg), k3)) := by
                  show _ = _
                  rw [← HQ6.out, openD_ok, if_pos rfl]
                 rw [show ((0 : Nat) : Int) = 0 from rfl] at q4
                 go_wp2
                 go_ret2
                 rw [HE.out]
                 exact Or.inr ⟨rfl, rl, G3, H6, rfl, HT.out.A, HT.out.rn, HT.out.Hn, HT.out.kp, HT.out.Gn⟩
                ·have zc : (0 : Int) < (c : Int) := by omega
                 have hTX := HT.out.below ((Below.refl _ wr).drew)
                 obtain ⟨vX, hDX, _⟩ := hTX.A.ex
                 dsimp only at hDX
                 have HS0 : wr.drew.cell? ⟨rl, 2, none⟩ = some (.int .u64 (g : Int)) ∧ wr.drew.cell? ⟨rl, 4, none⟩ = some (.int .i64 (c : Int)) := ⟨hDX.c2, hDX.c4⟩
                 have hfi := rfile_any g c hg (by omega) wr.drew
                 have hnmz := segN_size g c hg (by omega)
                 have hq7 := HQ6.out
                 rw [openD_ok, if_neg hc0] at hq7
                 have HQ7 := (show Hid _ from hq7)
                 obtain ⟨sc, Hsc⟩ : ∃ s, Hid (segN g c = s) := ⟨_, rfl⟩
                 rw [Hsc.out] at hfi hnmz hq7
                 have hsy := fun w' (hr : RefAt w' G3 rd k3) => refSync_any rd G3 k3 sc (by omega) (by omega) w' hr
                 obtain ⟨P, HP⟩ : ∃ P, syncK k3 sc = P := ⟨_, rfl⟩
                 rw [HP] at hq7
                 simp only [HP] at hsy
                 clear HP HQ6 HQ7
                 obtain ⟨en, kz⟩ := P
                 dsimp only at hq7 hsy
                 have HQ8 : Hid ((en, (⟨most, recs, (if en = 0 then ⟨g, c, z, false⟩ else ⟨g, c, z, true⟩), (if en = 13 then true else false)⟩ : Lg), kz) = Q) := hq7
                 clear hDX hq7
                 go_upto_region 41 with fail
                 refine wp_region_lx (fun w' => w'.cell? ⟨rl, 2, none⟩ = some (.int .u64 (g : Int)) ∧ w'.cell? ⟨rl, 4, none⟩ = some (.int .i64 (c : Int))) [] 12 (by kernel_rfl) (by kernel_rfl) ?_
                 clear q4
                 generalize wr.drew = X at *
                 refine lx_r 0 (.pointer (some ⟨rd, 0, none⟩)) HS0 ?_; simp only [lxa, lxb, lxc]
                 refine lx_r 1 (.pointer (some ⟨rl, 0, none⟩)) HS0 ?_; simp only [lxa, lxb, lxc]
                 refine lx_r 2 (.pointer (some ⟨rl, 0, none⟩)) HS0 ?_; simp only [lxa, lxb, lxc]
                 refine lx_r 3 (.pointer (some ⟨rl, 2, none⟩)) HS0 ?_; simp only [lxa, lxb, lxc]
                 refine lx_r 4 (.int .u64 (g : Int)) HS0 ?_ (hv := fun w' hS => by have q := hS.1; first | (go_simp; rfl) | go_simp); simp only [lxa, lxb, lxc]
                 refine lx_r 5 (.pointer (some ⟨rl, 0, none⟩)) HS0 ?_; simp only [lxa, lxb, lxc]
                 refine lx_r 6 (.pointer (some ⟨rl, 0, none⟩)) HS0 ?_; simp only [lxa, lxb, lxc]
                 refine lx_r 7 (.pointer (some ⟨rl, 4, none⟩)) HS0 ?_; simp only [lxa, lxb, lxc]
                 refine lx_r 8 (.int .i64 (c : Int)) HS0 ?_ (hv := fun w' hS => by have q := hS.2; first | (go_simp; rfl) | go_simp); simp only [lxa, lxb, lxc]
                 refine lx_one 9 (by kernel_rfl) (stepT_call 82 ?a9k3q rfl rfl rfl ?r9k3q ?_)
                 case r9k3q => first | (go_simp; rfl) | go_simp
                 refine hfi.mono ?_
                 rintro e w9 ⟨rfl, hb9⟩
                 have T9 := hTX.below hb9
                 obtain ⟨v9, hD9, _⟩ := T9.A.ex
                 dsimp only at hD9
                 refine ⟨_, rfl, fun _ => ⟨hD9.c2, hD9.c4⟩, ?_⟩
                 simp only [lxa, lxb, lxc]
                 refine lx_one 10 (by kernel_rfl) (stepT_call 79 ?a10k3q rfl rfl rfl ?r10k3q ?_)
                 case r10k3q => first | (go_simp; rfl) | go_simp
                 refine (hsy w9 T9.R).mono ?_
                 rintro e w10 ⟨rfl, hp10⟩
                 obtain ⟨G10, T10⟩ := T9.rp hp10
                 obtain ⟨v10, hD10, _⟩ := T10.A.ex
                 dsimp only at hD10
                 have HS10 : w10.cell? ⟨rl, 2, none⟩ = some (.int .u64 (g : Int)) ∧ w10.cell? ⟨rl, 4, none⟩ = some (.int .i64 (c : Int)) := ⟨hD10.c2, hD10.c4⟩
                 refine ⟨_, rfl, fun _ => HS10, ?_⟩
                 simp only [lxa, lxb, lxc]
                 refine lx_r 11 (.int .i64 (en : Int)) HS10 ?_; simp only [lxa, lxb, lxc]
                 refine lx_nil (by kernel_rfl) ?_
                 clear HS0 HS10 hfi hsy hD9 hD10 T9 hTX hp10 HT
                 by_cases h0 : en = 0
                 ·subst h0
                  have HE : Hid (Q = (0, (⟨most, recs, ⟨g, c, z, false⟩, false⟩ : Lg), kz)) := by
                   show _ = _
                   rw [← HQ8.out, if_pos rfl, if_neg (by decide)]
                  clear HQ8
                  rw [show ((0 : Nat) : Int) = 0 from rfl]
                  go_wp2
                  go_ret2
                  rw [HE.out]
                  exact Or.inr ⟨rfl, rl, G10, H6, rfl, T10.A, T10.rn, T10.Hn, T10.kp, T10.Gn⟩
                 ·have z0' : ¬ (en : Int) = 0 := by omega
                  have z0n : ((en : Int) != 0) = true := by simpa using z0'
                  have HE : Hid (Q.1 = en ∧ Q.2.2 = kz) := by
                   rw [← HQ8.out]
                   exact ⟨rfl, rfl⟩
                  have h0' := h0
                  clear HQ8 h0
                  go_wp2
                  go_ret2
                  exact Or.inl ⟨by rw [HE.out.1]; exact h0', by rw [HE.out.1]; rfl, by rw [HE.out.2]; exact T10.no⟩
            ·have z0' : ¬ (en : Int) = 0 := by omega
             have z0n : ((en : Int) != 0) = true := by simpa using z0'
             have HE : Hid (Q.1 = en ∧ Q.2.2 = k2) := by
              rw [← HQn.out, if_pos h0]
              unfold openR.openD
              rw [if_pos h0]
              exact ⟨rfl, rfl⟩
             have h0' := h0
             clear HQn h0 Hs3
             go_wp2
             go_ret2
             exact Or.inl ⟨by rw [HE.out.1]; exact h0', by rw [HE.out.1]; rfl, by rw [HE.out.2]; exact T6.no⟩
           ·have hz : ¬ (m : Int) + 1 ≤ (n : Int) := by omega
            obtain rfl : m = n := by omega
            have HQ6 : Hid (openR.openD (0, (⟨most, recs, ⟨g, m, sz, false⟩, false⟩ : Lg), k1) = Q) := by
             have h9 := HQ.out
             rw [Nat.sub_self] at h9
             exact h9
            clear HQ HTo hmn hle
            obtain ⟨c, hc⟩ : ∃ c, c = m := ⟨_, rfl⟩
            rw [← hc] at HT HQ6
            have hcn : c ≤ m := by omega
            clear hc
            generalize sz = z at HT HQ6
            have q4 : wr.cell? ⟨rl, 4, none⟩ = some (.int .i64 (c : Int)) := by
             obtain ⟨v, hD, _⟩ := HT.out.A.ex
             exact hD.c4
            by_cases hc0 : c = 0
            ·subst hc0
             have HE : Hid (Q = (0, (⟨most, recs, ⟨g, 0, z, false⟩, false⟩ : Lg), k1)) := by
              show _ = _
              rw [← HQ6.out, openD_ok, if_pos rfl]
             rw [show ((0 : Nat) : Int) = 0 from rfl] at q4
             go_wp2
             go_ret2
             rw [HE.out]
             exact Or.inr ⟨rfl, rl, G2, H2, rfl, HT.out.A, HT.out.rn, HT.out.Hn, HT.out.kp, HT.out.Gn⟩
            ·have zc : (0 : Int) < (c : Int) := by omega
             have hTX := HT.out.below ((Below.refl _ wr).drew)
             obtain ⟨vX, hDX, _⟩ := hTX.A.ex
             dsimp only at hDX
             have HS0 : wr.drew.cell? ⟨rl, 2, none⟩ = some (.int .u64 (g : Int)) ∧ wr.drew.cell? ⟨rl, 4, none⟩ = some (.int .i64 (c : Int)) := ⟨hDX.c2, hDX.c4⟩
             have hfi := rfile_any g c hg (by omega) wr.drew
             have hnmz := segN_size g c hg (by omega)
             have hq7 := HQ6.out
             rw [openD_ok, if_neg hc0] at hq7
             have HQ7 := (show Hid _ from hq7)
             obtain ⟨sc, Hsc⟩ : ∃ s, Hid (segN g c = s) := ⟨_, rfl⟩
             rw [Hsc.out] at hfi hnmz hq7
             have hsy := fun w' (hr : RefAt w' G2 rd k1) => refSync_any rd G2 k1 sc (by omega) (by omega) w' hr
             obtain ⟨P, HP⟩ : ∃ P, syncK k1 sc = P := ⟨_, rfl⟩
             rw [HP] at hq7
             simp only [HP] at hsy
             clear HP HQ6 HQ7
             obtain ⟨en, kz⟩ := P
             dsimp only at hq7 hsy
             have HQ8 : Hid ((en, (⟨most, recs, (if en = 0 then ⟨g, c, z, false⟩ else ⟨g, c, z, true⟩), (if en = 13 then true else false)⟩ : Lg), kz) = Q) := hq7
             clear hDX hq7
             go_upto_region 41 with fail
             refine wp_region_lx (fun w' => w'.cell? ⟨rl, 2, none⟩ = some (.int .u64 (g : Int)) ∧ w'.cell? ⟨rl, 4, none⟩ = some (.int .i64 (c : Int))) [] 12 (by kernel_rfl) (by kernel_rfl) ?_
             clear q4
             generalize wr.drew = X at *
             refine lx_r 0 (.pointer (some ⟨rd, 0, none⟩)) HS0 ?_; simp only [lxa, lxb, lxc]
             refine lx_r 1 (.pointer (some ⟨rl, 0, none⟩)) HS0 ?_; simp only [lxa, lxb, lxc]
             refine lx_r 2 (.pointer (some ⟨rl, 0, none⟩)) HS0 ?_; simp only [lxa, lxb, lxc]
             refine lx_r 3 (.pointer (some ⟨rl, 2, none⟩)) HS0 ?_; simp only [lxa, lxb, lxc]
             refine lx_r 4 (.int .u64 (g : Int)) HS0 ?_ (hv := fun w' hS => by have q := hS.1; first | (go_simp; rfl) | go_simp); simp only [lxa, lxb, lxc]
             refine lx_r 5 (.pointer (some ⟨rl, 0, none⟩)) HS0 ?_; simp only [lxa, lxb, lxc]
             refine lx_r 6 (.pointer (some ⟨rl, 0, none⟩)) HS0 ?_; simp only [lxa, lxb, lxc]
             refine lx_r 7 (.pointer (some ⟨rl, 4, none⟩)) HS0 ?_; simp only [lxa, lxb, lxc]
             refine lx_r 8 (.int .i64 (c : Int)) HS0 ?_ (hv := fun w' hS => by have q := hS.2; first | (go_simp; rfl) | go_simp); simp only [lxa, lxb, lxc]
             refine lx_one 9 (by kernel_rfl) (stepT_call 82 ?a9k1q rfl rfl rfl ?r9k1q ?_)
             case r9k1q => first | (go_simp; rfl) | go_simp
             refine hfi.mono ?_
             rintro e w9 ⟨rfl, hb9⟩
             have T9 := hTX.below hb9
             obtain ⟨v9, hD9, _⟩ := T9.A.ex
             dsimp only at hD9
             refine ⟨_, rfl, fun _ => ⟨hD9.c2, hD9.c4⟩, ?_⟩
             simp only [lxa, lxb, lxc]
             refine lx_one 10 (by kernel_rfl) (stepT_call 79 ?a10k1q rfl rfl rfl ?r10k1q ?_)
             case r10k1q => first | (go_simp; rfl) | go_simp
             refine (hsy w9 T9.R).mono ?_
             rintro e w10 ⟨rfl, hp10⟩
             obtain ⟨G10, T10⟩ := T9.rp hp10
             obtain ⟨v10, hD10, _⟩ := T10.A.ex
             dsimp only at hD10
             have HS10 : w10.cell? ⟨rl, 2, none⟩ = some (.int .u64 (g : Int)) ∧ w10.cell? ⟨rl, 4, none⟩ = some (.int .i64 (c : Int)) := ⟨hD10.c2, hD10.c4⟩
             refine ⟨_, rfl, fun _ => HS10, ?_⟩
             simp only [lxa, lxb, lxc]
             refine lx_r 11 (.int .i64 (en : Int)) HS10 ?_; simp only [lxa, lxb, lxc]
             refine lx_nil (by kernel_rfl) ?_
             clear HS0 HS10 hfi hsy hD9 hD10 T9 hTX hp10 HT
             by_cases h0 : en = 0
             ·subst h0
              have HE : Hid (Q = (0, (⟨most, recs, ⟨g, c, z, false⟩, false⟩ : Lg), kz)) := by
               show _ = _
               rw [← HQ8.out, if_pos rfl, if_neg (by decide)]
              clear HQ8
              rw [show ((0 : Nat) : Int) = 0 from rfl]
              go_wp2
              go_ret2
              rw [HE.out]
              exact Or.inr ⟨rfl, rl, G10, H2, rfl, T10.A, T10.rn, T10.Hn, T10.kp, T10.Gn⟩
             ·have z0' : ¬ (en : Int) = 0 := by omega
              have z0n : ((en : Int) != 0) = true := by simpa using z0'
              have HE : Hid (Q.1 = en ∧ Q.2.2 = kz) := by
               rw [← HQ8.out]
               exact ⟨rfl, rfl⟩
              have h0' := h0
              clear HQ8 h0
              go_wp2
              go_ret2
              exact Or.inl ⟨by rw [HE.out.1]; exact h0', by rw [HE.out.1]; rfl, by rw [HE.out.2]; exact T10.no⟩
    ·have hne := str_ne hbd hbb hEq
     have HE : Hid (Q = (14, lg0 most, k)) := by
      show _ = _
      rw [← HQ1.out, if_neg (fun h9 => hEq h9.2)]
      unfold openR
      rw [if_pos (by simp)]
     clear hEq
     generalize strOfNums xs = sx at *
     generalize strOfNums (baseL gn) = sy at *
     refine lx_r 11 (.bool true) HS6 ?_ (hv := fun w' hS => by have q := hne; first | (go_simp; rfl) | go_simp); simp only [lxa, lxb, lxc]
     refine lx_r 12 (.bool true) HS6 ?_; simp only [lxa, lxb, lxc]
     refine lx_r 13 (.bool true) HS6 ?_; simp only [lxa, lxb, lxc]
     refine lx_s 14 HS6 ?_; simp only [lxa, lxb, lxc]
     refine lx_s 15 HS6 ?_; simp only [lxa, lxb, lxc]
     refine lx_s 16 HS6 ?_; simp only [lxa, lxb, lxc]
     refine lx_s 17 HS6 ?_; simp only [lxa, lxb, lxc]
     refine lx_r 18 (.bool true) HS6 ?_; simp only [lxa, lxb, lxc]
     refine lx_nil (by kernel_rfl) ?_
     clear HS6
     go_wp2
     go_ret2
     rw [HE.out]
     exact Or.inl ⟨by simp, rfl, T6.no⟩
   ·have z12 : ((N : Int) != 12) = true := by
     have : ¬ (N : Int) = 12 := by omega
     simpa using this
    have HE : Hid (Q = (14, lg0 most, k)) := by
     show _ = _
     rw [← HQ1.out]
     have hb : baseR (0, xs) = (14, 0) := by
      unfold baseR
      rw [if_neg (show ¬ ((0 : Nat) = 7) by decide), if_neg (by simp), if_pos (by dsimp only; rw [HN.out]; exact h12)]
     rw [hb]
     unfold openR
     rw [if_pos (by simp)]
    have hbX : Below w3.heap.size w3 w3.drew := (Below.refl _ _).drew
    have TX := T3.below hbX
    have HS0 : Rd w3.drew a3 N c3 xs := hr3.carry (Nat.le_refl _) hbX
    refine wp_region_lx (fun w' => Rd w' a3 N c3 xs) [] 19 (by kernel_rfl) (by kernel_rfl) ?_
    clear T3 r3 hr3 h12
    generalize w3.drew = X at *
    refine lx_r 0 (.slice a3 N c3) HS0 ?_; simp only [lxa, lxb, lxc]
    refine lx_r 1 (.int .i64 (N : Int)) HS0 ?_; simp only [lxa, lxb, lxc]
    refine lx_r 2 (.bool true) HS0 ?_ (hv := fun w' hS => by have q := z12; first | (go_simp; rfl) | go_simp); simp only [lxa, lxb, lxc]
    refine lx_r 3 (.bool true) HS0 ?_; simp only [lxa, lxb, lxc]
    refine lx_s 4 HS0 ?_; simp only [lxa, lxb, lxc]
    refine lx_s 5 HS0 ?_; simp only [lxa, lxb, lxc]
    refine lx_s 6 HS0 ?_; simp only [lxa, lxb, lxc]
    refine lx_s 7 HS0 ?_; simp only [lxa, lxb, lxc]
    refine lx_s 8 HS0 ?_; simp only [lxa, lxb, lxc]
    refine lx_s 9 HS0 ?_; simp only [lxa, lxb, lxc]
    refine lx_s 10 HS0 ?_; simp only [lxa, lxb, lxc]
    refine lx_s 11 HS0 ?_; simp only [lxa, lxb, lxc]
    refine lx_r 12 (.bool true) HS0 ?_; simp only [lxa, lxb, lxc]
    refine lx_r 13 (.bool true) HS0 ?_; simp only [lxa, lxb, lxc]
    refine lx_s 14 HS0 ?_; simp only [lxa, lxb, lxc]
    refine lx_s 15 HS0 ?_; simp only [lxa, lxb, lxc]
    refine lx_s 16 HS0 ?_; simp only [lxa, lxb, lxc]
    refine lx_s 17 HS0 ?_; simp only [lxa, lxb, lxc]
    refine lx_r 18 (.bool true) HS0 ?_; simp only [lxa, lxb, lxc]
    refine lx_nil (by kernel_rfl) ?_
    clear HS0
    go_wp2
    go_ret2
    rw [HE.out]
    exact Or.inl ⟨by simp, rfl, TX.no⟩
  ·have hB := base_none ho hrb
   rw [hbh, decide_eq_false hrb] at hha
   have HQ1 : Hid (openR.openC most (cleanL ⟨1, 0, 0, false⟩ false k) = Q) := by
    show _ = _
    rw [← HQ0.out]
    unfold openL openR
    rw [hB, if_neg (by simp)]
   obtain ⟨g, hgg⟩ : ∃ g : Nat, g = 1 := ⟨_, rfl⟩
   have hg : g < 18446744073709551616 := by omega
   have HQ2 : Hid (openR.openC most (cleanL ⟨g, 0, 0, false⟩ false k) = Q) := by rw [hgg]; exact HQ1
   have Hgg : Hid ((g : Int) = 1) := by show _ = _; omega
   clear hl hbh hl1 hB hrb HQ0 HQ1 hgg
   have hnp := fun w0 (hb : Below w.heap.size w w0) => RNew.start (most := most) (g := g) (X := w0.alloc (.cells (rlcs rd most (.slice none 0 0) ⟨g, 0, 0, false⟩ false) 90)) hR hb rfl
   unfold sBase at hha
   go_enter Tryz.func59, Tryz.ntmps59
   go_upto_region 7 with (first
    | (go_at_call 45; refine hli.mono ?_; clear hli; rintro e w1 ⟨v1, rfl, o1, hb1⟩))
   rw [← Hgg.out]
   have T0 := hnp w1 hb1
   clear hnp
   have o2 := own_keep o1 ((Keep.refl (fun _ => False) w1).alloc (.cells (rlcs rd most (.slice none 0 0) ⟨g, 0, 0, false⟩ false) 90)) (fun _ _ h => h)
   have hb2 : Below w.heap.size w (w1.alloc (.cells (rlcs rd most (.slice none 0 0) ⟨g, 0, 0, false⟩ false) 90)) := hb1.alloc hb1.size _
   unfold rlcs at T0 o2 hb2
   dsimp only at T0 o2 hb2
   rw [show ((0 : Nat) : Int) = 0 from rfl] at T0 o2 hb2
   generalize w1.alloc (.cells #[.pointer (some ⟨rd, 0, none⟩), .int .i64 (most : Int), .int .u64 (g : Int), .slice none 0 0, .int .i64 0, .int .i64 0, .bool false, .bool false] 90) = wA at *
   generalize w1.heap.size = rl at T0 ⊢
   replace hha := hha wA v1 o2
   go_upto_region 13 with (first
    | (go_at_call 94; refine hha.mono ?_; clear hha; rintro e w2 ⟨rfl, h9⟩; replace h9 := h9.symm; subst h9))
   clear o1 hb1 Hgg
   have HT0 : Hid (RNew w G rl rd wA G (fun _ => False) ⟨most, [], ⟨g, 0, 0, false⟩, false⟩ k) := T0
   have HO0 : Hid (wA.ownsRow w.heap.size 9 1 v1 ns.length (nv ns)) := o2
   clear T0 o2 hb2
   obtain ⟨av, cv, hv1, hnv⟩ := own_formN HO0.out
   subst hv1
   go_loopw [11] (fun s11 wr => ∃ j : Nat, s11 = .int .i64 j ∧ j ≤ ns.length ∧ Hid (∀ s ∈ segs g 0 j, s ∈ ns) ∧ Hid (RNew w G rl rd wr G (fun _ => False) ⟨most, [], ⟨g, 0, 0, false⟩, false⟩ k) ∧ Hid (wr.ownsRow w.heap.size 9 1 (.slice av ns.length cv) ns.length (nv ns))) (fun s11 _ => ns.length - (intOf s11).toNat)
   case atStart => exact ⟨0, rfl, Nat.zero_le _, fun s hs => by obtain ⟨i, hi, _⟩ := mem_segs.1 hs; omega, HT0.out, HO0.out⟩
   case round =>
    clear HT0 HO0
    obtain ⟨n, rfl, hnn, HM, HT, HO⟩ := hrel
    have q2 : wr.cell? ⟨rl, 2, none⟩ = some (.int .u64 (g : Int)) := by
     obtain ⟨v, hD, _⟩ := HT.out.A.ex
     exact hD.c2
    have hfi := rfile_any g (n + 1) hg (by omega) wr
    have hj1 : ((n + 1 : Nat) : Int) = (n : Int) + 1 := by omega
    rw [hj1] at hfi
    have hha := fun w' (ho : w'.ownsRow w.heap.size 9 1 (.slice av ns.length cv) ns.length (nv ns)) => rhas_any (.slice av ns.length cv) ns (segN g (n + 1)) w.heap.size w' ho
    obtain ⟨sg, Hsg⟩ : ∃ s, Hid (segN g (n + 1) = s) := ⟨_, rfl⟩
    rw [Hsg.out] at hfi
    simp only [Hsg.out] at hha
    clear hj1
    cases hin : inN sg ns with
    | true =>
     simp only [hin] at hha
     have HM2 : Hid (∀ s ∈ segs g 0 (n + 1), s ∈ ns) := fun s hs => by
      obtain ⟨i, hi, he⟩ := mem_segs.1 hs
      by_cases e : i < n
      ·exact HM.out s (mem_segs.2 ⟨i, e, he⟩)
      ·obtain rfl : i = n := by omega
       rw [he, Nat.zero_add, Hsg.out]
       exact inN_iff.1 hin
     have hle := cnt_le HM2.out
     clear hin
     go_wp2_with (first
      | (go_at_call 82; refine hfi.mono ?_; clear hfi; rintro e w3 ⟨rfl, hb3⟩; have T3 := HT.out.below hb3; have o3 := own_keep HO.out (S := fun _ => False) (Keep.ofBelow hb3) (fun _ _ h => h); replace hha := hha w3 o3)
      | (go_at_call 94; refine hha.mono ?_; clear hha; rintro e w4 ⟨rfl, h9⟩; replace h9 := h9.symm; subst h9))
     exact ⟨⟨n + 1, by go_num, hle, HM2.out, T3, o3⟩, by simp [intOf]; omega⟩
    | false =>
     simp only [hin] at hha
     have hcn : cntN ns g = n := cntN_is ⟨HM.out, fun hm => by
      rw [Hsg.out] at hm
      have := inN_iff.2 hm
      rw [hin] at this
      cases this⟩
     have hlk : (listK k).1 = 0 := by unfold listK; rw [if_neg (by rw [ho]; decide)]
     have HQ3 : Hid (openR.openC most ((remAll ((ns.drop 0).filter (left g n)) false k).1, ⟨g, n, 0, false⟩, (remAll ((ns.drop 0).filter (left g n)) false k).2) = Q) := by
      show _ = _
      have h9 := HQ2.out
      unfold cleanL at h9
      rw [if_neg (by rw [hlk]; simp), Hns.out, hcn] at h9
      rw [List.drop_zero]
      exact h9
     obtain ⟨RR, HRR⟩ : ∃ RR, Hid (remAll ((ns.drop 0).filter (left g n)) false k = RR) := ⟨_, rfl⟩
     rw [HRR.out] at HQ3
     obtain ⟨eR, dnR, kR⟩ := RR
     dsimp only at HQ3
     have HSg : Hid (Sgs g n k) := ⟨ho, fun s hs => look_isSome.2 (by
      have h9 := HM.out s hs
      rw [← Hns.out] at h9
      unfold listK at h9
      rw [if_neg (by rw [ho]; decide)] at h9
      exact h9), hu⟩
     clear hin hcn hlk HQ2
     go_upto_region 16 with (first
      | (go_at_call 82; refine hfi.mono ?_; clear hfi; rintro e w3 ⟨rfl, hb3⟩; have T3 := HT.out.below hb3; have o3 := own_keep HO.out (S := fun _ => False) (Keep.ofBelow hb3) (fun _ _ h => h); replace hha := hha w3 o3)
      | (go_at_call 94; refine hha.mono ?_; clear hha; rintro e w4 ⟨rfl, h9⟩; replace h9 := h9.symm; subst h9))
     have HT3 : Hid (RNew w G rl rd w3 G (fun _ => False) ⟨most, [], ⟨g, 0, 0, false⟩, false⟩ k) := T3
     have HO3 : Hid (w3.ownsRow w.heap.size 9 1 (.slice av ns.length cv) ns.length (nv ns)) := o3
     clear T3 o3 HT HO q2 hb3 Hsg
     go_loopw [12, 13, 14, 15] (fun s12 _ _ _ wr => ∃ (i : Nat) (G1 : Nat → Prop) (k1 : Dk), s12 = .int .i64 i ∧ i ≤ ns.length ∧ k1.steps ≤ k.steps + i ∧ k1.fs.length ≤ k.fs.length ∧ Hid (RNew w G rl rd wr G1 (fun _ => False) ⟨most, [], ⟨g, 0, 0, false⟩, false⟩ k1) ∧ Hid (wr.ownsRow w.heap.size 9 1 (.slice av ns.length cv) ns.length (nv ns)) ∧ Hid (∀ q, (Value.slice av ns.length cv).ownBlock = some q → ¬ G1 q) ∧ Hid (Sgs g n k1) ∧ Hid (remAll ((ns.drop i).filter (left g n)) false k1 = (eR, dnR, kR))) (fun s12 _ _ _ _ => ns.length - (intOf s12).toNat)
     case atStart => exact ⟨0, G, k, rfl, Nat.zero_le _, by omega, Nat.le_refl _, HT3.out, HO3.out, fun q hq hg => by have := (HO3.out.lt q hq).1; have := hR.lt q hg; omega, HSg.out, HRR.out⟩
     case round =>
      clear HT3 HO3 HRR HSg
      obtain ⟨i, G1, k1, rfl, hin, hs1, hf1, HT, HO, HG, HSg, HR⟩ := hrel
      by_cases hlt : i < ns.length
      ·have hcl : (i : Int) < (ns.length : Int) := by omega
       obtain ⟨x, hx⟩ : ∃ y, ns[i]? = some y := ⟨_, List.getElem?_eq_getElem hlt⟩
       have hix : (nv ns)[i]? = some (.string x) := by unfold nv; rw [List.getElem?_map, hx]; rfl
       have hcx : ∀ W : World, W.ownsRow w.heap.size 9 1 (.slice av ns.length cv) ns.length (nv ns) → ∃ g, av = some ⟨g, 0, none⟩ ∧ W.cell? ⟨g, i, none⟩ = some (.string x) := fun W hO => by
        rcases hO.2 with ⟨_, h0⟩ | ⟨g, cap, cur, h1, _⟩
        ·omega
        ·injection h1 with h1
         have hv2 := hO
         rw [h1] at hv2
         have hc := hv2.cells (g := g) rfl i _ hix
         rw [add_flat, Nat.zero_add] at hc
         exact ⟨g, h1, hc⟩
       obtain ⟨gv, hgv, _⟩ := hcx wr HO.out
       subst hgv
       have hcx2 : ∀ W : World, W.ownsRow w.heap.size 9 1 (.slice (some ⟨gv, 0, none⟩) ns.length cv) ns.length (nv ns) → W.cell? ⟨gv, i, none⟩ = some (.string x) := fun W hO => by
        obtain ⟨g', e1, e2⟩ := hcx W hO
        injection e1 with e1
        injection e1 with e1
        rw [e1]
        exact e2
       have HRn : Hid (remAll ((x :: ns.drop (i + 1)).filter (left g n)) false k1 = (eR, dnR, kR)) := by
        have h9 := HR.out
        rw [List.drop_eq_getElem_cons hlt] at h9
        have e : ns[i] = x := by rw [List.getElem?_eq_getElem hlt] at hx; injection hx
        rw [e] at h9
        exact h9
       have hxs : x.size ≤ 9223372036854775807 := by
        have hm : x ∈ ns := List.mem_of_getElem? hx
        rw [← Hns.out] at hm
        unfold listK at hm
        rw [if_neg (by rw [ho]; decide)] at hm
        obtain ⟨pf, hpf, e⟩ := List.mem_map.1 hm
        have := isNm_size (hR.good.each pf hpf).1
        rw [e] at this
        omega
       clear hcx hix HR hx
       go_upto_region 20 with fail
       go_loopw [13, 14] (fun s13 s14 wr => ∃ m : Nat, s13 = .bool (inN x (segs g 0 m)) ∧ s14 = .int .i64 ((m : Int) + 1) ∧ m ≤ n ∧ Hid (RNew w G rl rd wr G1 (fun _ => False) ⟨most, [], ⟨g, 0, 0, false⟩, false⟩ k1) ∧ Hid (wr.ownsRow w.heap.size 9 1 (.slice (some ⟨gv, 0, none⟩) ns.length cv) ns.length (nv ns))) (fun _ s14 _ => n + 1 - (intOf s14).toNat)
       case atStart => exact ⟨0, rfl, rfl, Nat.zero_le _, HT.out, HO.out⟩
       case round =>
        clear HT HO
        obtain ⟨m, rfl, rfl, hmn, HT, HO⟩ := hrel
        by_cases hle : m + 1 ≤ n
        ·have hz : (m : Int) + 1 ≤ (n : Int) := by omega
         have hsn : inN x (segs g 0 (m + 1)) = (inN x (segs g 0 m) || decide (segN g (m + 1) = x)) := by
          unfold segs inN
          rw [List.range_succ, List.map_append, List.any_append]
          simp
         cases hmi : inN x (segs g 0 m) with
         | true =>
          rw [hmi, Bool.true_or] at hsn
          have HN1 : Hid (inN x (segs g 0 (m + 1)) = true) := hsn
          have HS0 : wr.drew.cell? ⟨gv, i, none⟩ = some (.string x) := hcx2 _ (own_keep HO.out (S := fun _ => False) (Keep.ofBelow ((Below.refl _ wr).drew)) (fun _ _ h => h))
          have hTX := HT.out.below ((Below.refl _ wr).drew)
          have hOX := own_keep HO.out (S := fun _ => False) (Keep.ofBelow ((Below.refl _ wr).drew)) (fun _ _ h => h)
          clear hsn hmi
          go_upto_region 22 with fail
          refine wp_region_lx (fun w' => w'.cell? ⟨gv, i, none⟩ = some (.string x)) [] 15 (by kernel_rfl) (by kernel_rfl) ?_
          generalize wr.drew = X at *
          refine lx_r 0 (.bool true) HS0 ?_; simp only [lxa, lxb, lxc]
          refine lx_r 1 (.bool true) HS0 ?_; simp only [lxa, lxb, lxc]
          refine lx_s 2 HS0 ?_; simp only [lxa, lxb, lxc]
          refine lx_s 3 HS0 ?_; simp only [lxa, lxb, lxc]
          refine lx_s 4 HS0 ?_; simp only [lxa, lxb, lxc]
          refine lx_s 5 HS0 ?_; simp only [lxa, lxb, lxc]
          refine lx_s 6 HS0 ?_; simp only [lxa, lxb, lxc]
          refine lx_s 7 HS0 ?_; simp only [lxa, lxb, lxc]
          refine lx_s 8 HS0 ?_; simp only [lxa, lxb, lxc]
          refine lx_s 9 HS0 ?_; simp only [lxa, lxb, lxc]
          refine lx_s 10 HS0 ?_; simp only [lxa, lxb, lxc]
          refine lx_s 11 HS0 ?_; simp only [lxa, lxb, lxc]
          refine lx_s 12 HS0 ?_; simp only [lxa, lxb, lxc]
          refine lx_r 13 (.bool true) HS0 ?_; simp only [lxa, lxb, lxc]
          refine lx_r 14 (.bool true) HS0 ?_; simp only [lxa, lxb, lxc]
          refine lx_nil (by kernel_rfl) ?_
          clear HS0
          go_wp2
          exact ⟨⟨m + 1, by rw [HN1.out], by first | rfl | go_num, hle, hTX, hOX⟩, by simp [intOf]; omega⟩
         | false =>
          rw [hmi, Bool.false_or] at hsn
          have HN1 : Hid (inN x (segs g 0 (m + 1)) = decide (segN g (m + 1) = x)) := hsn
          have hTX := HT.out.below ((Below.refl _ wr).drew)
          have hOX := own_keep HO.out (S := fun _ => False) (Keep.ofBelow ((Below.refl _ wr).drew)) (fun _ _ h => h)
          obtain ⟨vX, hDX, _⟩ := hTX.A.ex
          have HS0 : wr.drew.cell? ⟨gv, i, none⟩ = some (.string x) ∧ wr.drew.cell? ⟨rl, 2, none⟩ = some (.int .u64 (g : Int)) := ⟨hcx2 _ hOX, hDX.c2⟩
          have hfi := rfile_any g (m + 1) hg (by omega) wr.drew
          have hj1 : ((m + 1 : Nat) : Int) = (m : Int) + 1 := by omega
          rw [hj1] at hfi
          clear hsn hmi hDX hj1
          go_upto_region 22 with fail
          refine wp_region_lx (fun w' => w'.cell? ⟨gv, i, none⟩ = some (.string x) ∧ w'.cell? ⟨rl, 2, none⟩ = some (.int .u64 (g : Int))) [] 15 (by kernel_rfl) (by kernel_rfl) ?_
          generalize wr.drew = X at *
          refine lx_r 0 (.bool false) HS0 ?_; simp only [lxa, lxb, lxc]
          refine lx_r 1 (.bool false) HS0 ?_; simp only [lxa, lxb, lxc]
          refine lx_r 2 (.slice (some ⟨gv, 0, none⟩) ns.length cv) HS0 ?_; simp only [lxa, lxb, lxc]
          refine lx_r 3 (.int .i64 (i : Int)) HS0 ?_; simp only [lxa, lxb, lxc]
          refine lx_r 4 (.pointer (some ⟨gv, i, none⟩)) HS0 ?_; simp only [lxa, lxb, lxc]
          refine lx_r 5 (.string x) HS0 ?_ (hv := fun w' hS => by have q := hS.1; first | (go_simp; rfl) | go_simp); simp only [lxa, lxb, lxc]
          refine lx_r 6 (.pointer (some ⟨rl, 0, none⟩)) HS0 ?_; simp only [lxa, lxb, lxc]
          refine lx_r 7 (.pointer (some ⟨rl, 0, none⟩)) HS0 ?_; simp only [lxa, lxb, lxc]
          refine lx_r 8 (.pointer (some ⟨rl, 2, none⟩)) HS0 ?_; simp only [lxa, lxb, lxc]
          refine lx_r 9 (.int .u64 (g : Int)) HS0 ?_ (hv := fun w' hS => by have q := hS.2; first | (go_simp; rfl) | go_simp); simp only [lxa, lxb, lxc]
          refine lx_r 10 (.int .i64 ((m : Int) + 1)) HS0 ?_; simp only [lxa, lxb, lxc]
          refine lx_one 11 (by kernel_rfl) (stepT_call 82 ?a11b rfl rfl rfl ?r11b ?_)
          case r11b => first | (go_simp; rfl) | go_simp
          refine hfi.mono ?_
          rintro e w5 ⟨rfl, hb5⟩
          have hT5 := hTX.below hb5
          have hO5 := own_keep hOX (S := fun _ => False) (Keep.ofBelow hb5) (fun _ _ h => h)
          obtain ⟨v5, hD5, _⟩ := hT5.A.ex
          have HS5 : w5.cell? ⟨gv, i, none⟩ = some (.string x) ∧ w5.cell? ⟨rl, 2, none⟩ = some (.int .u64 (g : Int)) := ⟨hcx2 _ hO5, hD5.c2⟩
          refine ⟨_, rfl, fun _ => HS5, ?_⟩
          simp only [lxa, lxb, lxc]
          obtain ⟨sm, Hsm⟩ : ∃ s, Hid (segN g (m + 1) = s) := ⟨_, rfl⟩
          rw [Hsm.out] at HN1 ⊢
          have hEq : (x.toList == sm.toList) = decide (sm = x) := by
           by_cases e : x = sm
           ·subst e; rw [nm_eqT, decide_eq_true rfl]
           ·rw [nm_neqT e, decide_eq_false (fun h => e h.symm)]
          generalize decide (sm = x) = bq at HN1 hEq
          refine lx_r 12 (.bool bq) HS5 ?_ (hv := fun w' hS => by have q := hEq; first | (go_simp; rfl) | go_simp); simp only [lxa, lxb, lxc]
          refine lx_r 13 (.bool bq) HS5 ?_; simp only [lxa, lxb, lxc]
          refine lx_r 14 (.bool bq) HS5 ?_; simp only [lxa, lxb, lxc]
          refine lx_nil (by kernel_rfl) ?_
          clear HS0 HS5 hTX hOX hfi hD5
          go_wp2
          exact ⟨⟨m + 1, by rw [HN1.out], by first | rfl | go_num, hle, hT5, hO5⟩, by simp [intOf]; omega⟩
        ·have hz : ¬ (m : Int) + 1 ≤ (n : Int) := by omega
         obtain rfl : m = n := by omega
         have qx := hcx2 _ HO.out
         clear hmn hle
         by_cases hnw : x = sNew
         ·have hq : (x.toList == [98, 97, 115, 101, 46, 110, 101, 119]) = true := by rw [hnw, ← sNewL]; exact nm_eqT _
          have hleft : left g m x = true := by unfold left isOf; rw [hnw, new_seg, decide_eq_true rfl]; rfl
          clear hnw
          generalize inN x (segs g 0 m) = bm at *
          have hmine : inN x (segs g 0 m) = false := by
           unfold left at hleft
           rw [Bool.and_eq_true] at hleft
           simpa using hleft.1
          have HR2 : Hid (remAll (x :: (ns.drop (i + 1)).filter (left g m)) false k1 = (eR, dnR, kR)) := by
           have h9 := HRn.out
           rw [List.filter_cons_of_pos hleft] at h9
           exact h9
          have hrm := refRemove_any rd G1 k1 x hxs (by omega) (by omega) wr HT.out.R
          have hstp := stpR_gr false k1 x
          have hst2 := stp_rd false k1 (removeK k1 x) rfl
          obtain ⟨P, HP⟩ : ∃ P, removeK k1 x = P := ⟨_, rfl⟩
          have HP' : Hid (removeK k1 x = P) := HP
          rw [HP] at hstp hst2 hrm
          clear HP
          obtain ⟨en, k2⟩ := P
          dsimp only at hrm hst2
          rw [hst2] at hstp
          dsimp only at hstp
          have Hst2 : Hid (stp false k1 (en, k2) = (en, (if en = 13 then true else false), k2)) := hst2
          clear hst2 HRn hleft
          go_upto_region 25 with (first
           | (go_at_call 81; refine hrm.mono ?_; clear hrm; rintro e w6 ⟨rfl, hp6⟩; obtain ⟨G6, T6, hG6⟩ := HT.out.rp2 hp6)
          )
          have o6 : w6.ownsRow w.heap.size 9 1 (.slice (some ⟨gv, 0, none⟩) ns.length cv) ns.length (nv ns) := by
           obtain ⟨_, _, hk6, _⟩ := hp6
           exact own_keep HO.out hk6 (fun q hq hg => HG.out q hq hg)
          have hg6 : ∀ q, (Value.slice (some ⟨gv, 0, none⟩) ns.length cv).ownBlock = some q → ¬ G6 q := fun q hq hg => by
           rcases hG6 q hg with h9 | h9
           ·exact HG.out q hq h9
           ·obtain ⟨cur, e⟩ := own_blkT HO.out hq
            have := (Array.getElem?_eq_some_iff.1 e).1
            omega
          by_cases h0 : en = 0
          ·subst h0
           rw [if_neg (by decide)] at Hst2
           have HR3 : Hid (remAll ((ns.drop (i + 1)).filter (left g m)) false k2 = (eR, dnR, kR)) := by
            show _ = _
            rw [← remAll_ok (s := x) (dn := false) (k := k1) (by rw [HP'.out]; exact Hst2.out)]
            exact HR2.out
           have hSg6 : Sgs g m k2 := HSg.out.rem HP'.out hmine
           clear HR2 Hst2 HP' hp6
           rw [show ((0 : Nat) : Int) = 0 from rfl]
           go_wp2
           exact ⟨⟨i + 1, G6, k2, by first | rfl | go_num, by omega, by omega, by omega, T6, o6, hg6, hSg6, HR3.out⟩, by simp [intOf]; omega⟩
          ·have z0' : ¬ (en : Int) = 0 := by omega
           have z0n : ((en : Int) != 0) = true := by simpa using z0'
           have HE : Hid (Q = (en, (⟨most, [], ⟨g, m, 0, false⟩, (if en = 13 then true else false)⟩ : Lg), k2)) := by
            show _ = _
            have hres := HR2.out.symm.trans (remAll_no (s := x) (dn := false) (k := k1) (by rw [HP'.out]; exact Hst2.out) h0)
            simp only [Prod.mk.injEq] at hres
            obtain ⟨e1, e2, e3⟩ := hres
            rw [← HQ3.out, e1, e2, e3]
            unfold openR.openC
            rw [if_pos h0]
           have h0' := h0
           clear HR2 Hst2 HP' h0
           go_wp2
           go_ret2
           rw [HE.out]
           exact Or.inl ⟨h0', rfl, T6.no⟩
         ·have hq : (x.toList == [98, 97, 115, 101, 46, 110, 101, 119]) = false := by rw [← sNewL]; exact nm_neqT hnw
          cases hmi : inN x (segs g 0 m) with
          | true =>
           have hleft : left g m x = false := by unfold left; rw [hmi]; rfl
           clear hnw
           have HR2 : Hid (remAll ((ns.drop (i + 1)).filter (left g m)) false k1 = (eR, dnR, kR)) := by
            have h9 := HRn.out
            rw [List.filter_cons_of_neg (by rw [hleft]; decide)] at h9
            exact h9
           clear HRn hleft
           go_wp2
           exact ⟨⟨i + 1, G1, k1, by first | rfl | go_num, by omega, by omega, by omega, HT.out, HO.out, HG.out, HSg.out, HR2.out⟩, by simp [intOf]; omega⟩
          | false =>
           by_cases h4 : 4 ≤ x.size
           ·have h4z : (4 : Int) ≤ (x.size : Int) := by omega
            have hpre := pre4 x
            cases hp : Lib.hasPrefix x.data.toList sLog.data.toList with
            | true =>
             rw [hp] at hpre
             have hleft : left g m x = true := by unfold left isOf; rw [hmi, hp]; simp
             clear hnw hp
             have hmine : inN x (segs g 0 m) = false := by
              unfold left at hleft
              rw [Bool.and_eq_true] at hleft
              simpa using hleft.1
             have HR2 : Hid (remAll (x :: (ns.drop (i + 1)).filter (left g m)) false k1 = (eR, dnR, kR)) := by
              have h9 := HRn.out
              rw [List.filter_cons_of_pos hleft] at h9
              exact h9
             have hrm := refRemove_any rd G1 k1 x hxs (by omega) (by omega) wr HT.out.R
             have hstp := stpR_gr false k1 x
             have hst2 := stp_rd false k1 (removeK k1 x) rfl
             obtain ⟨P, HP⟩ : ∃ P, removeK k1 x = P := ⟨_, rfl⟩
             have HP' : Hid (removeK k1 x = P) := HP
             rw [HP] at hstp hst2 hrm
             clear HP
             obtain ⟨en, k2⟩ := P
             dsimp only at hrm hst2
             rw [hst2] at hstp
             dsimp only at hstp
             have Hst2 : Hid (stp false k1 (en, k2) = (en, (if en = 13 then true else false), k2)) := hst2
             clear hst2 HRn hleft
             go_upto_region 25 with (first
              | (go_at_call 81; refine hrm.mono ?_; clear hrm; rintro e w6 ⟨rfl, hp6⟩; obtain ⟨G6, T6, hG6⟩ := HT.out.rp2 hp6)
             )
             have o6 : w6.ownsRow w.heap.size 9 1 (.slice (some ⟨gv, 0, none⟩) ns.length cv) ns.length (nv ns) := by
              obtain ⟨_, _, hk6, _⟩ := hp6
              exact own_keep HO.out hk6 (fun q hq hg => HG.out q hq hg)
             have hg6 : ∀ q, (Value.slice (some ⟨gv, 0, none⟩) ns.length cv).ownBlock = some q → ¬ G6 q := fun q hq hg => by
              rcases hG6 q hg with h9 | h9
              ·exact HG.out q hq h9
              ·obtain ⟨cur, e⟩ := own_blkT HO.out hq
               have := (Array.getElem?_eq_some_iff.1 e).1
               omega
             by_cases h0 : en = 0
             ·subst h0
              rw [if_neg (by decide)] at Hst2
              have HR3 : Hid (remAll ((ns.drop (i + 1)).filter (left g m)) false k2 = (eR, dnR, kR)) := by
               show _ = _
               rw [← remAll_ok (s := x) (dn := false) (k := k1) (by rw [HP'.out]; exact Hst2.out)]
               exact HR2.out
              have hSg6 : Sgs g m k2 := HSg.out.rem HP'.out hmine
              clear HR2 Hst2 HP' hp6
              rw [show ((0 : Nat) : Int) = 0 from rfl]
              go_wp2
              exact ⟨⟨i + 1, G6, k2, by first | rfl | go_num, by omega, by omega, by omega, T6, o6, hg6, hSg6, HR3.out⟩, by simp [intOf]; omega⟩
             ·have z0' : ¬ (en : Int) = 0 := by omega
              have z0n : ((en : Int) != 0) = true := by simpa using z0'
              have HE : Hid (Q = (en, (⟨most, [], ⟨g, m, 0, false⟩, (if en = 13 then true else false)⟩ : Lg), k2)) := by
               show _ = _
               have hres := HR2.out.symm.trans (remAll_no (s := x) (dn := false) (k := k1) (by rw [HP'.out]; exact Hst2.out) h0)
               simp only [Prod.mk.injEq] at hres
               obtain ⟨e1, e2, e3⟩ := hres
               rw [← HQ3.out, e1, e2, e3]
               unfold openR.openC
               rw [if_pos h0]
              have h0' := h0
              clear HR2 Hst2 HP' h0
              go_wp2
              go_ret2
              rw [HE.out]
              exact Or.inl ⟨h0', rfl, T6.no⟩
            | false =>
             rw [hp] at hpre
             have hleft : left g m x = false := by unfold left isOf; rw [hmi, hp, decide_eq_false hnw]; rfl
             clear hnw hp
             have HR2 : Hid (remAll ((ns.drop (i + 1)).filter (left g m)) false k1 = (eR, dnR, kR)) := by
              have h9 := HRn.out
              rw [List.filter_cons_of_neg (by rw [hleft]; decide)] at h9
              exact h9
             clear HRn hleft
             go_wp2
             exact ⟨⟨i + 1, G1, k1, by first | rfl | go_num, by omega, by omega, by omega, HT.out, HO.out, HG.out, HSg.out, HR2.out⟩, by simp [intOf]; omega⟩
           ·have h4z : ¬ (4 : Int) ≤ (x.size : Int) := by omega
            have hleft : left g m x = false := by unfold left isOf; rw [hmi, pre_short (by omega), decide_eq_false hnw]; rfl
            clear hnw
            have HR2 : Hid (remAll ((ns.drop (i + 1)).filter (left g m)) false k1 = (eR, dnR, kR)) := by
             have h9 := HRn.out
             rw [List.filter_cons_of_neg (by rw [hleft]; decide)] at h9
             exact h9
            clear HRn hleft
            go_wp2
            exact ⟨⟨i + 1, G1, k1, by first | rfl | go_num, by omega, by omega, by omega, HT.out, HO.out, HG.out, HSg.out, HR2.out⟩, by simp [intOf]; omega⟩
      ·have hcl : ¬ (i : Int) < (ns.length : Int) := by omega
       have hR0 := HR.out
       rw [List.drop_of_length_le (by omega)] at hR0
       have hR1 : (0, false, k1) = (eR, dnR, kR) := hR0
       simp only [Prod.mk.injEq] at hR1
       obtain ⟨e1, e2, e3⟩ := hR1
       subst e1 e2 e3
       have HQ4 : Hid (openR.openD (rdSegs (n - 0) 0 ⟨most, [], ⟨g, n, 0, false⟩, false⟩ k1) = Q) := by
        have h9 := HQ3.out
        unfold openR.openC at h9
        rw [if_neg (by simp)] at h9
        exact h9
       have hto : ([] : List (List Int)).length + segTot g k1 (n - 0) 0 ≤ 900000 := by
        have := segTot_used g k1 HT.out.R.good.rise (n - 0) 0
        have := HSg.out.few
        rw [List.length_nil, Nat.zero_add]
        omega
       clear HR hR0 HQ3 HO HG hlt
       go_upto_region 28 with fail
       go_loopw [16, 17, 18, 19, 20] (fun s16 _ _ _ _ wr => ∃ (m : Nat) (G2 H2 : Nat → Prop) (recs : List (List Int)) (sz : Nat), s16 = .int .i64 ((m : Int) + 1) ∧ m ≤ n ∧ Hid (recs.length + segTot g k1 (n - m) m ≤ 900000) ∧ Hid (RNew w G rl rd wr G2 H2 ⟨most, recs, ⟨g, m, sz, false⟩, false⟩ k1) ∧ Hid (openR.openD (rdSegs (n - m) m ⟨most, recs, ⟨g, n, sz, false⟩, false⟩ k1) = Q)) (fun s16 _ _ _ _ _ => n + 1 - (intOf s16).toNat)
       case atStart => exact ⟨0, G1, fun _ => False, [], 0, rfl, Nat.zero_le _, hto, HT.out, HQ4.out⟩
       case round =>
        clear HT HQ4 hto
        obtain ⟨m, G2, H2, recs, sz, rfl, hmn, HTo, HT, HQ⟩ := hrel
        by_cases hle : m + 1 ≤ n
        ·have hz : (m : Int) + 1 ≤ (n : Int) := by omega
         obtain ⟨p, hp⟩ : ∃ p, n - m = p + 1 := ⟨n - m - 1, by omega⟩
         have hp2 : n - (m + 1) = p := by omega
         have hTo := HTo.out
         rw [hp] at hTo
         have hTo2 : recs.length + ((readK k1 (segN g (m + 1))).2.length + segTot g k1 p (m + 1)) ≤ 900000 := hTo
         have hrd0 := HSg.out.read hle (isNm_seg g (m + 1) hg (by omega))
         obtain ⟨en, wh, R, z, k2, hs1', hs2', hs3'⟩ := seg_doc most g n m sz recs k1 hrd0
         have hsm := readSeg_same ⟨most, recs, ⟨g, n, sz, false⟩, false⟩ (m + 1) k1
         rw [hs2'] at hsm
         dsimp only at hsm
         obtain ⟨_, _, _, sm4, sm5, sm6, _⟩ := hsm
         have hsg := rsegment_any wr G2 H2 rl rd ⟨most, recs, ⟨g, m, sz, false⟩, false⟩ k1 (m + 1) HT.out.A hg (by omega) (by omega) (by dsimp only; omega)
         dsimp only at hsg
         rw [hs1'] at hsg
         dsimp only at hsg
         have hm1 : ((m + 1 : Nat) : Int) = (m : Int) + 1 := by omega
         rw [hm1] at hsg
         have HQn : Hid (openR.openD (if en ≠ 0 then (en, (⟨most, recs ++ R, ⟨g, n, z, false⟩, decide (en = 13)⟩ : Lg), k2) else if wh = true then rdSegs p (m + 1) ⟨most, recs ++ R, ⟨g, n, z, false⟩, decide (en = 13)⟩ k2 else rdSegs.rdEnd m ⟨most, recs ++ R, ⟨g, n, z, false⟩, decide (en = 13)⟩ k2) = Q) := by
          have h9 := HQ.out
          rw [hp] at h9
          unfold rdSegs at h9
          rw [hs2'] at h9
          exact h9
         have HR9 : Hid ((recs ++ R).length ≤ recs.length + (readK k1 (segN g (m + 1))).2.length) := sm6
         have Hs3 : Hid (wh = true → en = 0 ∧ k2 = k1) := hs3'
         have HTo2 : Hid (recs.length + ((readK k1 (segN g (m + 1))).2.length + segTot g k1 p (m + 1)) ≤ 900000) := hTo2
         have Hp2 : Hid (n - (m + 1) = p) := hp2
         clear hs1' hs2' hs3' sm6 hTo hTo2 HTo hp hp2 hm1 hrd0 HQ
         go_upto_region 31 with (first
          | (go_at_call 96; refine hsg.mono ?_; clear hsg; rintro e w6 ⟨rfl, hp6⟩; obtain ⟨G6, H6, T6⟩ := HT.out.rgp hp6))
         clear hp6 HT
         by_cases h0 : en = 0
         ·subst h0
          have hQn := HQn.out
          rw [if_neg (by simp), show decide ((0 : Nat) = 13) = false from rfl] at hQn
          rw [show ((0 : Nat) : Int) = 0 from rfl]
          clear HQn
          cases wh with
          | true =>
           obtain ⟨_, ek⟩ := Hs3.out rfl
           subst ek
           rw [if_pos rfl] at hQn
           have HQ5 : Hid (openR.openD (rdSegs (n - (m + 1)) (m + 1) ⟨most, recs ++ R, ⟨g, n, z, false⟩, false⟩ k2) = Q) := by rw [Hp2.out]; exact hQn
           have HTn : Hid ((recs ++ R).length + segTot g k2 (n - (m + 1)) (m + 1) ≤ 900000) := by
            rw [Hp2.out]
            have h8 := HR9.out
            have h7 := HTo2.out
            show _ ≤ _
            omega
           clear hQn
           go_wp2
           exact ⟨⟨m + 1, G6, H6, recs ++ R, z, by first | rfl | go_num, hle, HTn.out, T6, HQ5.out⟩, by simp [intOf]; omega⟩
          | false =>
           rw [if_neg (by decide)] at hQn
           obtain ⟨eR, dnR, kR, HRR⟩ : ∃ eR dnR kR, Hid (remAll (segs g (m + 1) (n - (m + 1))) false k2 = (eR, dnR, kR)) := ⟨_, _, _, rfl⟩
           rw [rdEnd_eq most g n m z (recs ++ R) k2 eR dnR kR HRR.out] at hQn
           have HQ5 : Hid (openR.openD (eR, (⟨most, recs ++ R, (if eR = 0 then ⟨g, m + 1, z, false⟩ else ⟨g, n, z, false⟩), dnR⟩ : Lg), kR) = Q) := hQn
           clear hQn Hs3 HR9 HTo2 Hp2
           have HT6 : Hid (RNew w G rl rd w6 G6 H6 ⟨most, recs ++ R, ⟨g, m + 1, z, false⟩, false⟩ k2) := T6
           clear T6
           go_upto_region 35 with fail
           go_loopw [19, 20] (fun s19 _ wr => ∃ (j : Nat) (G3 : Nat → Prop) (k3 : Dk), s19 = .int .i64 ((j : Int) + 1) ∧ m + 1 ≤ j ∧ j ≤ n ∧ k3.steps + (n - j) ≤ 900000 ∧ k3.fs.length ≤ 5000 ∧ Hid (RNew w G rl rd wr G3 H6 ⟨most, recs ++ R, ⟨g, m + 1, z, false⟩, false⟩ k3) ∧ Hid (remAll (segs g j (n - j)) false k3 = (eR, dnR, kR))) (fun s19 _ _ => n + 1 - (intOf s19).toNat)
           case atStart => exact ⟨m + 1, G6, k2, by first | rfl | go_num, Nat.le_refl _, hle, by omega, by omega, HT6.out, HRR.out⟩
           case round =>
            clear HT6 HRR
            obtain ⟨j, G3, k3, rfl, hmj, hjn, hs3, hf3, HT, HRR⟩ := hrel
            by_cases hjl : j + 1 ≤ n
            ·have hzj : (j : Int) + 1 ≤ (n : Int) := by omega
             have HRn : Hid (remAll (segN g (j + 1) :: segs g (j + 1) (n - (j + 1))) false k3 = (eR, dnR, kR)) := by
              have h9 := HRR.out
              have e : n - j = (n - (j + 1)) + 1 := by omega
              rw [e, segs_cons] at h9
              exact h9
             clear HRR
             have q2 : wr.cell? ⟨rl, 2, none⟩ = some (.int .u64 (g : Int)) := by
              obtain ⟨v, hD, _⟩ := HT.out.A.ex
              exact hD.c2
             have hfi := rfile_any g (j + 1) hg (by omega) wr
             have hj1 : ((j + 1 : Nat) : Int) = (j : Int) + 1 := by omega
             rw [hj1] at hfi
             have hnm2 := segN_size g (j + 1) hg (by omega)
             obtain ⟨sn, Hs⟩ : ∃ s, Hid (segN g (j + 1) = s) := ⟨_, rfl⟩
             rw [Hs.out] at hfi hnm2 HRn
             have hrm := fun w' (hr : RefAt w' G3 rd k3) => refRemove_any rd G3 k3 sn (by omega) (by omega) (by omega) w' hr
             have hstp := stpR_gr false k3 sn
             have hst2 := stp_rd false k3 (removeK k3 sn) rfl
             obtain ⟨P, HP⟩ : ∃ P, removeK k3 sn = P := ⟨_, rfl⟩
             have HP' : Hid (removeK k3 sn = P) := HP
             rw [HP] at hstp hst2
             simp only [HP] at hrm
             clear HP
             obtain ⟨en, k4⟩ := P
             dsimp only at hrm hst2
             rw [hst2] at hstp
             dsimp only at hstp
             have Hst2 : Hid (stp false k3 (en, k4) = (en, (if en = 13 then true else false), k4)) := hst2
             clear hst2 hj1
             go_upto_region 38 with (first
              | (go_at_call 82; refine hfi.mono ?_; clear hfi; rintro e w7 ⟨rfl, hb7⟩; have T7 := HT.out.below hb7; replace hrm := hrm w7 T7.R)
              | (go_at_call 81; refine hrm.mono ?_; clear hrm; rintro e w8 ⟨rfl, hp8⟩; obtain ⟨G8, T8⟩ := T7.rp hp8))
             clear hp8 T7 HT q2
             by_cases h0 : en = 0
             ·subst h0
              rw [if_neg (by decide)] at Hst2
              have HR3 : Hid (remAll (segs g (j + 1) (n - (j + 1))) false k4 = (eR, dnR, kR)) := by
               show _ = _
               rw [← remAll_ok (s := sn) (dn := false) (k := k3) (by rw [HP'.out]; exact Hst2.out)]
               exact HRn.out
              clear HRn Hst2 HP'
              rw [show ((0 : Nat) : Int) = 0 from rfl]
              go_wp2
              exact ⟨⟨j + 1, G8, k4, by first | rfl | go_num, by omega, hjl, by omega, by omega, T8, HR3.out⟩, by simp [intOf]; omega⟩
             ·have z0' : ¬ (en : Int) = 0 := by omega
              have z0n : ((en : Int) != 0) = true := by simpa using z0'
              have HE : Hid (Q.1 = en ∧ Q.2.2 = k4) := by
               have hres := HRn.out.symm.trans (remAll_no (s := sn) (dn := false) (k := k3) (by rw [HP'.out]; exact Hst2.out) h0)
               simp only [Prod.mk.injEq] at hres
               obtain ⟨e1, e2, e3⟩ := hres
               rw [← HQ5.out, e1, e2, e3]
               unfold openR.openD
               rw [if_pos h0]
               exact ⟨rfl, rfl⟩
              have h0' := h0
              clear HRn Hst2 HP' h0
              go_wp2
              go_ret2
              exact Or.inl ⟨by rw [HE.out.1]; exact h0', by rw [HE.out.1]; rfl, by rw [HE.out.2]; exact T8.no⟩
            ·have hzj : ¬ (j : Int) + 1 ≤ (n : Int) := by omega
             have hR0 := HRR.out
             rw [show n - j = 0 from by omega] at hR0
             have hR1 : (0, false, k3) = (eR, dnR, kR) := hR0
             simp only [Prod.mk.injEq] at hR1
             obtain ⟨e1, e2, e3⟩ := hR1
             subst e1 e2 e3
             have HQ6 : Hid (openR.openD (0, (⟨most, recs ++ R, ⟨g, m + 1, z, false⟩, false⟩ : Lg), k3) = Q) := by
              have h9 := HQ5.out
              rw [if_pos rfl] at h9
              exact h9
             clear HRR hR0 HQ5
             generalize recs ++ R = recs at HT HQ6
             have hz : True := trivial
             obtain ⟨c, hc⟩ : ∃ c, c = m + 1 := ⟨_, rfl⟩
             rw [← hc] at HT HQ6
             have hcn : c ≤ n := by omega
             clear hc
             have q4 : wr.cell? ⟨rl, 4, none⟩ = some (.int .i64 (c : Int)) := by
              obtain ⟨v, hD, _⟩ := HT.out.A.ex
              exact hD.c4
             by_cases hc0 : c = 0
             ·subst hc0
              have HE : Hid (Q = (0, (⟨most, recs, ⟨g, 0, z, false⟩, false⟩ : Lg), k3)) := by
               show _ = _
               rw [← HQ6.out, openD_ok, if_pos rfl]
              rw [show ((0 : Nat) : Int) = 0 from rfl] at q4
              go_wp2
              go_ret2
              rw [HE.out]
              exact Or.inr ⟨rfl, rl, G3, H6, rfl, HT.out.A, HT.out.rn, HT.out.Hn, HT.out.kp, HT.out.Gn⟩
             ·have zc : (0 : Int) < (c : Int) := by omega
              have hTX := HT.out.below ((Below.refl _ wr).drew)
              obtain ⟨vX, hDX, _⟩ := hTX.A.ex
              dsimp only at hDX
              have HS0 : wr.drew.cell? ⟨rl, 2, none⟩ = some (.int .u64 (g : Int)) ∧ wr.drew.cell? ⟨rl, 4, none⟩ = some (.int .i64 (c : Int)) := ⟨hDX.c2, hDX.c4⟩
              have hfi := rfile_any g c hg (by omega) wr.drew
              have hnmz := segN_size g c hg (by omega)
              have hq7 := HQ6.out
              rw [openD_ok, if_neg hc0] at hq7
              have HQ7 := (show Hid _ from hq7)
              obtain ⟨sc, Hsc⟩ : ∃ s, Hid (segN g c = s) := ⟨_, rfl⟩
              rw [Hsc.out] at hfi hnmz hq7
              have hsy := fun w' (hr : RefAt w' G3 rd k3) => refSync_any rd G3 k3 sc (by omega) (by omega) w' hr
              obtain ⟨P, HP⟩ : ∃ P, syncK k3 sc = P := ⟨_, rfl⟩
              rw [HP] at hq7
              simp only [HP] at hsy
              clear HP HQ6 HQ7
              obtain ⟨en, kz⟩ := P
              dsimp only at hq7 hsy
              have HQ8 : Hid ((en, (⟨most, recs, (if en = 0 then ⟨g, c, z, false⟩ else ⟨g, c, z, true⟩), (if en = 13 then true else false)⟩ : Lg), kz) = Q) := hq7
              clear hDX hq7
              go_upto_region 41 with fail
              refine wp_region_lx (fun w' => w'.cell? ⟨rl, 2, none⟩ = some (.int .u64 (g : Int)) ∧ w'.cell? ⟨rl, 4, none⟩ = some (.int .i64 (c : Int))) [] 12 (by kernel_rfl) (by kernel_rfl) ?_
              clear q4
              generalize wr.drew = X at *
              refine lx_r 0 (.pointer (some ⟨rd, 0, none⟩)) HS0 ?_; simp only [lxa, lxb, lxc]
              refine lx_r 1 (.pointer (some ⟨rl, 0, none⟩)) HS0 ?_; simp only [lxa, lxb, lxc]
              refine lx_r 2 (.pointer (some ⟨rl, 0, none⟩)) HS0 ?_; simp only [lxa, lxb, lxc]
              refine lx_r 3 (.pointer (some ⟨rl, 2, none⟩)) HS0 ?_; simp only [lxa, lxb, lxc]
              refine lx_r 4 (.int .u64 (g : Int)) HS0 ?_ (hv := fun w' hS => by have q := hS.1; first | (go_simp; rfl) | go_simp); simp only [lxa, lxb, lxc]
              refine lx_r 5 (.pointer (some ⟨rl, 0, none⟩)) HS0 ?_; simp only [lxa, lxb, lxc]
              refine lx_r 6 (.pointer (some ⟨rl, 0, none⟩)) HS0 ?_; simp only [lxa, lxb, lxc]
              refine lx_r 7 (.pointer (some ⟨rl, 4, none⟩)) HS0 ?_; simp only [lxa, lxb, lxc]
              refine lx_r 8 (.int .i64 (c : Int)) HS0 ?_ (hv := fun w' hS => by have q := hS.2; first | (go_simp; rfl) | go_simp); simp only [lxa, lxb, lxc]
              refine lx_one 9 (by kernel_rfl) (stepT_call 82 ?a9k3 rfl rfl rfl ?r9k3 ?_)
              case r9k3 => first | (go_simp; rfl) | go_simp
              refine hfi.mono ?_
              rintro e w9 ⟨rfl, hb9⟩
              have T9 := hTX.below hb9
              obtain ⟨v9, hD9, _⟩ := T9.A.ex
              dsimp only at hD9
              refine ⟨_, rfl, fun _ => ⟨hD9.c2, hD9.c4⟩, ?_⟩
              simp only [lxa, lxb, lxc]
              refine lx_one 10 (by kernel_rfl) (stepT_call 79 ?a10k3 rfl rfl rfl ?r10k3 ?_)
              case r10k3 => first | (go_simp; rfl) | go_simp
              refine (hsy w9 T9.R).mono ?_
              rintro e w10 ⟨rfl, hp10⟩
              obtain ⟨G10, T10⟩ := T9.rp hp10
              obtain ⟨v10, hD10, _⟩ := T10.A.ex
              dsimp only at hD10
              have HS10 : w10.cell? ⟨rl, 2, none⟩ = some (.int .u64 (g : Int)) ∧ w10.cell? ⟨rl, 4, none⟩ = some (.int .i64 (c : Int)) := ⟨hD10.c2, hD10.c4⟩
              refine ⟨_, rfl, fun _ => HS10, ?_⟩
              simp only [lxa, lxb, lxc]
              refine lx_r 11 (.int .i64 (en : Int)) HS10 ?_; simp only [lxa, lxb, lxc]
              refine lx_nil (by kernel_rfl) ?_
              clear HS0 HS10 hfi hsy hD9 hD10 T9 hTX hp10 HT
              by_cases h0 : en = 0
              ·subst h0
               have HE : Hid (Q = (0, (⟨most, recs, ⟨g, c, z, false⟩, false⟩ : Lg), kz)) := by
                show _ = _
                rw [← HQ8.out, if_pos rfl, if_neg (by decide)]
               clear HQ8
               rw [show ((0 : Nat) : Int) = 0 from rfl]
               go_wp2
               go_ret2
               rw [HE.out]
               exact Or.inr ⟨rfl, rl, G10, H6, rfl, T10.A, T10.rn, T10.Hn, T10.kp, T10.Gn⟩
              ·have z0' : ¬ (en : Int) = 0 := by omega
               have z0n : ((en : Int) != 0) = true := by simpa using z0'
               have HE : Hid (Q.1 = en ∧ Q.2.2 = kz) := by
                rw [← HQ8.out]
                exact ⟨rfl, rfl⟩
               have h0' := h0
               clear HQ8 h0
               go_wp2
               go_ret2
               exact Or.inl ⟨by rw [HE.out.1]; exact h0', by rw [HE.out.1]; rfl, by rw [HE.out.2]; exact T10.no⟩
         ·have z0' : ¬ (en : Int) = 0 := by omega
          have z0n : ((en : Int) != 0) = true := by simpa using z0'
          have HE : Hid (Q.1 = en ∧ Q.2.2 = k2) := by
           rw [← HQn.out, if_pos h0]
           unfold openR.openD
           rw [if_pos h0]
           exact ⟨rfl, rfl⟩
          have h0' := h0
          clear HQn h0 Hs3
          go_wp2
          go_ret2
          exact Or.inl ⟨by rw [HE.out.1]; exact h0', by rw [HE.out.1]; rfl, by rw [HE.out.2]; exact T6.no⟩
        ·have hz : ¬ (m : Int) + 1 ≤ (n : Int) := by omega
         obtain rfl : m = n := by omega
         have HQ6 : Hid (openR.openD (0, (⟨most, recs, ⟨g, m, sz, false⟩, false⟩ : Lg), k1) = Q) := by
          have h9 := HQ.out
          rw [Nat.sub_self] at h9
          exact h9
         clear HQ HTo hmn hle
         obtain ⟨c, hc⟩ : ∃ c, c = m := ⟨_, rfl⟩
         rw [← hc] at HT HQ6
         have hcn : c ≤ m := by omega
         clear hc
         generalize sz = z at HT HQ6
         have q4 : wr.cell? ⟨rl, 4, none⟩ = some (.int .i64 (c : Int)) := by
          obtain ⟨v, hD, _⟩ := HT.out.A.ex
          exact hD.c4
         by_cases hc0 : c = 0
         ·subst hc0
          have HE : Hid (Q = (0, (⟨most, recs, ⟨g, 0, z, false⟩, false⟩ : Lg), k1)) := by
           show _ = _
           rw [← HQ6.out, openD_ok, if_pos rfl]
          rw [show ((0 : Nat) : Int) = 0 from rfl] at q4
          go_wp2
          go_ret2
          rw [HE.out]
          exact Or.inr ⟨rfl, rl, G2, H2, rfl, HT.out.A, HT.out.rn, HT.out.Hn, HT.out.kp, HT.out.Gn⟩
         ·have zc : (0 : Int) < (c : Int) := by omega
          have hTX := HT.out.below ((Below.refl _ wr).drew)
          obtain ⟨vX, hDX, _⟩ := hTX.A.ex
          dsimp only at hDX
          have HS0 : wr.drew.cell? ⟨rl, 2, none⟩ = some (.int .u64 (g : Int)) ∧ wr.drew.cell? ⟨rl, 4, none⟩ = some (.int .i64 (c : Int)) := ⟨hDX.c2, hDX.c4⟩
          have hfi := rfile_any g c hg (by omega) wr.drew
          have hnmz := segN_size g c hg (by omega)
          have hq7 := HQ6.out
          rw [openD_ok, if_neg hc0] at hq7
          have HQ7 := (show Hid _ from hq7)
          obtain ⟨sc, Hsc⟩ : ∃ s, Hid (segN g c = s) := ⟨_, rfl⟩
          rw [Hsc.out] at hfi hnmz hq7
          have hsy := fun w' (hr : RefAt w' G2 rd k1) => refSync_any rd G2 k1 sc (by omega) (by omega) w' hr
          obtain ⟨P, HP⟩ : ∃ P, syncK k1 sc = P := ⟨_, rfl⟩
          rw [HP] at hq7
          simp only [HP] at hsy
          clear HP HQ6 HQ7
          obtain ⟨en, kz⟩ := P
          dsimp only at hq7 hsy
          have HQ8 : Hid ((en, (⟨most, recs, (if en = 0 then ⟨g, c, z, false⟩ else ⟨g, c, z, true⟩), (if en = 13 then true else false)⟩ : Lg), kz) = Q) := hq7
          clear hDX hq7
          go_upto_region 41 with fail
          refine wp_region_lx (fun w' => w'.cell? ⟨rl, 2, none⟩ = some (.int .u64 (g : Int)) ∧ w'.cell? ⟨rl, 4, none⟩ = some (.int .i64 (c : Int))) [] 12 (by kernel_rfl) (by kernel_rfl) ?_
          clear q4
          generalize wr.drew = X at *
          refine lx_r 0 (.pointer (some ⟨rd, 0, none⟩)) HS0 ?_; simp only [lxa, lxb, lxc]
          refine lx_r 1 (.pointer (some ⟨rl, 0, none⟩)) HS0 ?_; simp only [lxa, lxb, lxc]
          refine lx_r 2 (.pointer (some ⟨rl, 0, none⟩)) HS0 ?_; simp only [lxa, lxb, lxc]
          refine lx_r 3 (.pointer (some ⟨rl, 2, none⟩)) HS0 ?_; simp only [lxa, lxb, lxc]
          refine lx_r 4 (.int .u64 (g : Int)) HS0 ?_ (hv := fun w' hS => by have q := hS.1; first | (go_simp; rfl) | go_simp); simp only [lxa, lxb, lxc]
          refine lx_r 5 (.pointer (some ⟨rl, 0, none⟩)) HS0 ?_; simp only [lxa, lxb, lxc]
          refine lx_r 6 (.pointer (some ⟨rl, 0, none⟩)) HS0 ?_; simp only [lxa, lxb, lxc]
          refine lx_r 7 (.pointer (some ⟨rl, 4, none⟩)) HS0 ?_; simp only [lxa, lxb, lxc]
          refine lx_r 8 (.int .i64 (c : Int)) HS0 ?_ (hv := fun w' hS => by have q := hS.2; first | (go_simp; rfl) | go_simp); simp only [lxa, lxb, lxc]
          refine lx_one 9 (by kernel_rfl) (stepT_call 82 ?a9k1 rfl rfl rfl ?r9k1 ?_)
          case r9k1 => first | (go_simp; rfl) | go_simp
          refine hfi.mono ?_
          rintro e w9 ⟨rfl, hb9⟩
          have T9 := hTX.below hb9
          obtain ⟨v9, hD9, _⟩ := T9.A.ex
          dsimp only at hD9
          refine ⟨_, rfl, fun _ => ⟨hD9.c2, hD9.c4⟩, ?_⟩
          simp only [lxa, lxb, lxc]
          refine lx_one 10 (by kernel_rfl) (stepT_call 79 ?a10k1 rfl rfl rfl ?r10k1 ?_)
          case r10k1 => first | (go_simp; rfl) | go_simp
          refine (hsy w9 T9.R).mono ?_
          rintro e w10 ⟨rfl, hp10⟩
          obtain ⟨G10, T10⟩ := T9.rp hp10
          obtain ⟨v10, hD10, _⟩ := T10.A.ex
          dsimp only at hD10
          have HS10 : w10.cell? ⟨rl, 2, none⟩ = some (.int .u64 (g : Int)) ∧ w10.cell? ⟨rl, 4, none⟩ = some (.int .i64 (c : Int)) := ⟨hD10.c2, hD10.c4⟩
          refine ⟨_, rfl, fun _ => HS10, ?_⟩
          simp only [lxa, lxb, lxc]
          refine lx_r 11 (.int .i64 (en : Int)) HS10 ?_; simp only [lxa, lxb, lxc]
          refine lx_nil (by kernel_rfl) ?_
          clear HS0 HS10 hfi hsy hD9 hD10 T9 hTX hp10 HT
          by_cases h0 : en = 0
          ·subst h0
           have HE : Hid (Q = (0, (⟨most, recs, ⟨g, c, z, false⟩, false⟩ : Lg), kz)) := by
            show _ = _
            rw [← HQ8.out, if_pos rfl, if_neg (by decide)]
           clear HQ8
           rw [show ((0 : Nat) : Int) = 0 from rfl]
           go_wp2
           go_ret2
           rw [HE.out]
           exact Or.inr ⟨rfl, rl, G10, H2, rfl, T10.A, T10.rn, T10.Hn, T10.kp, T10.Gn⟩
          ·have z0' : ¬ (en : Int) = 0 := by omega
           have z0n : ((en : Int) != 0) = true := by simpa using z0'
           have HE : Hid (Q.1 = en ∧ Q.2.2 = kz) := by
            rw [← HQ8.out]
            exact ⟨rfl, rfl⟩
           have h0' := h0
           clear HQ8 h0
           go_wp2
           go_ret2
           exact Or.inl ⟨by rw [HE.out.1]; exact h0', by rw [HE.out.1]; rfl, by rw [HE.out.2]; exact T10.no⟩
end Go.Proofs.YtikkieaokfailaaGreatDoor
