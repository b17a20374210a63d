/- FrameBack: whatever bytes ahead and whatever payloads: payloads that are written are read again, as many as they are, and nothing is held; a frame behind some bytes is what the document writes; the law returns true and nothing that was there is written. For every input, no condition. -/
import Derived.Test.YtmpoddgmkneffaaRows
import Derived.Test.YtmpoddgmkneffaaFrCutP
import Derived.Test.YtmpoddgmkneffaaExt
namespace Go.Proofs.Ytmpoddgmkneffaa.frameBack
open Go.ChangeShapes Go.WideShapes Go.ChangeAt Go.RowKit
open Go.Proofs.Ytmpoddgmkneffaa

theorem fewO (a : Option Addr) (n c : Nat) (xs : List Int) (w : World) (hR : Rd w a n c xs) (Y : List Int) (hY : Hid (xs.take 600 = Y)) :
    Calls Try.prog 12 #[.slice a n c] w fun e w' => ∃ a' c', e = .returned (.slice a' Y.length c') ∧ w'.ownsRow w.heap.size 5 1 (.slice a' Y.length c') Y.length (bc Y) ∧ Below w.heap.size w w' := by
  have H := twin_any a n c xs 600 w hR (by omega)
  rw [hY.out] at H
  go_enter Try.func12, Try.ntmps12
  go_wp2_with (go_at_call 16; refine H.mono ?_; rintro e w1 ⟨v1, rfl, ho1, hb1⟩; obtain ⟨a1, c1, rfl⟩ := own_slice ho1)
  go_ret
  exact ⟨_, _, rfl, ho1, hb1⟩

/-- The first k payloads, cut at 600 bytes. -/
def pk (xs : List (List Int)) (k : Nat) : List (List Int) := (xs.take k).map (fun x => x.take 600)
theorem pk_succ {xs : List (List Int)} {k : Nat} (h : k < xs.length) : pk xs (k + 1) = pk xs k ++ [(xs.getD k []).take 600] := by
  unfold pk
  rw [List.take_succ_eq_append_getElem h, List.map_append]
  simp [List.getD, List.getElem?_eq_getElem h]
theorem pk_len {xs : List (List Int)} {k : Nat} (h : k ≤ xs.length) : (pk xs k).length = k := by unfold pk; simp; omega
theorem pk_le {xs : List (List Int)} {k : Nat} : ∀ p ∈ pk xs k, p.length < 4294967296 ∧ p.length ≤ 600 := by
  intro p hp
  unfold pk at hp
  obtain ⟨x, _, rfl⟩ := List.mem_map.1 hp
  rw [List.length_take]; omega
theorem cut_pk {xs : List (List Int)} {k : Nat} : cut 600 (frms (pk xs k)) = (pk xs k, [], false) := by
  have h := cut_frms (M := 600) [] (l := pk xs k) pk_le
  rw [List.append_nil, cut_short (l := []) (by simp)] at h
  simpa using h
theorem frms_snoc (l : List (List Int)) (p : List Int) : frms (l ++ [p]) = frms l ++ frm p := by rw [frms_append]; simp [frms]

theorem row_not {W : World} {lo lo' n n' : Nat} {v u : Value} {xs ys : List Value} (h : W.ownsRow lo 5 1 v n xs) (h' : W.ownsRow lo' 31 1 u n' ys) {k : Nat} (e : v.ownBlock = some k) (e' : u.ownBlock = some k) : False := by
  obtain ⟨_, c1, q1⟩ := own_type h e
  obtain ⟨_, c2, q2⟩ := own_type h' e'
  rw [q1] at q2
  simp at q2

set_option maxHeartbeats 3200000 in
set_option maxRecDepth 100000 in
theorem walk (aa : Option Addr) (na ca : Nat) (za : List Int) (br : Option Addr) (n c : Nat) (xs : List (List Int)) (w : World) (hA : Rd w aa na ca za) (hR : RRd w br n xs) :
    Calls Try.prog 5 #[.slice aa na ca, .slice br n c] w fun e w' => e = .returned (.bool true) ∧ Below w.heap.size w w' := by
  have hmx := hR.most
  have hxl := hR.len
  have h600 : (0 : Int) ≤ 600 := by omega
  go_enter Try.func5, Try.ntmps5
  go_wp2_with (first
    | (go_at_call 8; refine (new_any 600 _ (by omega) (by omega)).mono ?_; rintro e w1 ⟨rfl, hC1, hb1⟩; have l1 := hC1.lt)
    | (go_at_call 10; refine (wakes_any _).mono ?_; rintro e w2 ⟨rfl, hb2⟩; have hB2 := hb1.trans (hb2.mono hb1.size); have hC2 : RC w2 w.heap.size 600 (.slice none 0 0) false := (hb2.block _ l1).trans hC1; have l2 := hC2.lt)
    | (go_at_call 12; refine (fewR aa na ca za _ (hA.carry (Nat.le_refl _) hB2)).mono ?_; rintro e w3 ⟨a3, n3, c3, rfl, hn3, hr3, hb3, hf3⟩; have hB3 := hB2.trans (hb3.mono hB2.size); have hC3 : RC w3 w.heap.size 600 (.slice none 0 0) false := (hb3.block _ l2).trans hC2))
  have hs3 := hB3.size
  have hl3 := hr3.len
  obtain ⟨A, hAe, hA6⟩ : ∃ A, za.take 600 = A ∧ A.take 600 = A := ⟨_, rfl, by rw [List.take_take]; simp⟩
  rw [hAe] at hr3 hl3
  clear hAe hC1 hC2 hb1 hb2 hb3 hB2 hA l1 l2 hf3
  go_loopw [7, 8, 9] (fun l b i wr => ∃ (k : Nat) (al : Option Addr) (cl : Nat) (vs : List Value) (ab : Option Addr) (nb cb : Nat), i = .int .i64 k ∧ k ≤ n ∧ k ≤ 40 ∧ l = .slice al k cl ∧ wr.ownsRow w3.heap.size 31 1 (.slice al k cl) k vs ∧ PRd wr w3.heap.size vs (pk xs k) ∧
      b = .slice ab nb cb ∧ wr.ownsRow w3.heap.size 5 1 (.slice ab nb cb) nb (bc (frms (pk xs k))) ∧ Hid (Bd (frms (pk xs k))) ∧ nb ≤ 604 * k ∧ Below w3.heap.size w3 wr) (fun _ _ i _ => 40 - (intOf i).toNat)
  case atStart => exact ⟨0, none, 0, [], none, 0, 0, rfl, by omega, by omega, rfl, World.ownsRow_nil _ _ _ _, trivial, rfl, World.ownsRow_nil _ _ _ _, Bd.nil, by omega, Below.refl _ _⟩
  case round =>
    obtain ⟨k, al, cl, vs, ab, nb, cb, rfl, hkn, hk40, rfl, hrow, hP, rfl, hob, HBb, hnb, hB⟩ := hrel
    have hBs := hB.size
    by_cases hgo : k < n ∧ k < 40
    · obtain ⟨hlt, h40⟩ := hgo
      have hlz : (k : Int) < (n : Int) := by omega
      have h4z : (k : Int) < 40 := by omega
      have HPK : Hid (pk xs (k + 1) = pk xs k ++ [(xs.getD k []).take 600]) := pk_succ (by omega)
      obtain ⟨b, off, rfl, hc⟩ := hR.flat (by omega)
      obtain ⟨aj, nj, cj, hcell, hrd⟩ := hc k hlt
      have hbl : b < w.heap.size := World.block_lt_of_cell? w _ hcell
      have hBw := hB3.trans (hB.mono hs3)
      have hcell' : wr.cell? ⟨b, off + k, none⟩ = some (.slice aj nj cj) := (hBw.cell (p := ⟨b, off + k, none⟩) hbl).trans hcell
      have hrd' := hrd.carry (Nat.le_refl _) hBw
      generalize xs.getD k [] = ys at hrd' hrd HPK
      obtain ⟨Y, HY⟩ : ∃ Y, Hid (ys.take 600 = Y) := ⟨_, rfl⟩
      have hx6 : Y.length ≤ 600 := by rw [← HY.out, List.length_take]; omega
      have HYb : Hid (Bd Y) := by
        show Bd Y
        rw [← HY.out]; exact hrd.bytes.take _
      rw [HY.out] at HPK
      obtain ⟨i0, hi, hz0, hz1, hz2⟩ := info_parts Try.info31
      have tA : True := trivial
      clear hc
      go_wp2_with (first
        | (go_at_call 12; clear tA; refine (fewO aj nj cj ys _ hrd' Y HY).mono ?_; rintro e wa ⟨a1, c1, rfl, ho1, hb1⟩; have hBa := hBw.trans (hb1.mono hBw.size); have hrowa := own_keep (S := fun _ => False) hrow (Keep.ofBelow hb1) (fun _ _ h => h))
        | (at_builtin; refine wpList_append_own _ rfl _ _ 22 rfl w3.heap.size 31 i0 (.slice none 0 0) 1 24 Try.underlying22 hi hz0 hz1 hz2 rfl (by decide) _ k vs rfl (hrowa.alloc _) ⟨wa.heap.size, 0, none⟩ 1 1 [.slice a1 Y.length c1] rfl rfl (cell_one_new _ _ _) (by simp [Value.oneCell']) (by unfold maxLen; omega) (by omega) (by have := hb1.size; simp; omega) ?_; intro v2 wb ho2 hgr2 _; obtain ⟨g2, cap2, rfl⟩ := ownsRow_succ ho2; have hgr2' : (wa.alloc (.cells #[.slice a1 Y.length c1] 31)).grownBy wb (Value.slice al k cl).ownBlock := hgr2; have hkb : Keep (fun j => (Value.slice al k cl).ownBlock = some j) wa wb := ((Keep.refl _ wa).alloc _).andThen (Keep.ofGrown hgr2') (fun i _ e => e); have hkab : Keep (fun j => (Value.slice al k cl).ownBlock = some j) wr wb := (Keep.ofBelow hb1).trans hkb; have hBb := hBa.trans (hkb.below hBa.size (fun j e => by have := (hrow.lt j e).1; omega)); have hcellb : wb.cell? ⟨b, off + k, none⟩ = some (.slice aj nj cj) := (hBb.cell (p := ⟨b, off + k, none⟩) hbl).trans hcell)
        | (go_at_call 12; refine (fewR aj nj cj ys _ (hrd.carry (Nat.le_refl _) hBb)).mono ?_; rintro e wc ⟨a4, n4, c4, rfl, hn4, hr4, hb4, _⟩; rw [HY.out] at hr4; have hobc := own_keep hob (hkab.trans (Keep.ofBelow hb4)) (fun j e h => row_not hob hrow e h); obtain ⟨ax, cx, hx, hrbc⟩ := Rd.ofOwn hobc HBb.out; cases hx)
        | (go_at_call 17; refine (put_any ab nb cb (frms (pk xs k)) a4 n4 c4 Y _ hrbc hr4 (by omega) (by omega)).mono ?_; rintro e wd ⟨v5, rfl, ho5, hb5⟩; obtain ⟨a5, c5, rfl⟩ := own_slice ho5; rw [← frms_snoc, ← HPK.out] at ho5))
      have hPb : PRd wb w3.heap.size (vs ++ [.slice a1 Y.length c1]) (pk xs k ++ [Y]) := by
        have hPa := hP.keep (Keep.ofBelow (S := fun _ => False) hb1) (fun _ _ _ _ h => h)
        have hall : PRd wa w3.heap.size (vs ++ [.slice a1 Y.length c1]) (pk xs k ++ [Y]) := PRd.append (vs' := [.slice a1 Y.length c1]) (xs' := [Y]) ⟨⟨a1, c1, rfl, own_weak ho1 hBs, HYb.out⟩, trivial⟩ hPa
        refine hall.keep hkb (fun u hu j e h => ?_)
        obtain ⟨_, c1', q1⟩ := hall.blk u hu j e
        obtain ⟨_, c2', q2⟩ := own_type hrowa h
        rw [q1] at q2
        simp at q2
      have hBwd : Below wb.heap.size wb wd := hb4.trans (hb5.mono hb4.size)
      have hPd := hPb.keep (Keep.ofBelow (S := fun _ => False) hBwd) (fun _ _ _ _ h => h)
      have hrowd := own_keep (S := fun _ => False) ho2 (Keep.ofBelow hBwd) (fun _ _ h => h)
      rw [← HPK.out] at hPd
      have hs1 := hb1.size
      have hsb := hkb.size
      have hs4 := hb4.size
      have hBd : Below w3.heap.size w3 wd := ((hB.trans (hb1.mono hBs)).trans (hkb.below (by omega) (fun j e => (hrow.lt j e).1))).trans (hBwd.mono (by omega))
      have hn5 : (frms (pk xs (k + 1))).length ≤ 604 * (k + 1) := by
        have hl := hob.1
        rw [bc_len] at hl
        rw [HPK.out, frms_snoc, List.length_append, frm_len]
        omega
      have HBN : Hid (Bd (frms (pk xs (k + 1)))) := by
        show Bd _
        rw [HPK.out, frms_snoc]
        exact HBb.out.append (frm_bd HYb.out)
      go_roundw
      case rel => exact ⟨k + 1, some ⟨g2, 0, none⟩, cap2, _, a5, _, c5, by go_num, by omega, by omega, rfl, hrowd, hPd, by first | rfl | (congr 1; rw [HPK.out, frms_snoc]; simp), own_from ho5 (fun j e => by have := (ho5.lt j e).1; omega), HBN, hn5, hBd⟩
      case measure => simp [intOf]; omega
    · have hl40 : k = n ∨ k = 40 := by omega
      have hgz : (k : Int) < (n : Int) → ¬ (k : Int) < 40 := by omega
      obtain ⟨_, _, hxx, hrb⟩ := Rd.ofOwn hob HBb.out
      cases hxx
      have hBw := hB3.trans (hB.mono hs3)
      have hC : RC wr w.heap.size 600 (.slice none 0 0) false := (hB.block _ hC3.lt).trans hC3
      have H := feed_any w.heap.size 600 0 (.slice none 0 0) [] ab nb cb (frms (pk xs k)) wr hC (World.ownsRow_nil _ _ _ _) (Nat.zero_le _) Bd.nil hrb (by simp; omega)
      rw [List.nil_append, cut_pk] at H
      have hpl := pk_len (xs := xs) (k := k) (by omega)
      have H2 : Calls Try.prog 11 #[.pointer (some ⟨w.heap.size, 0, none⟩), .slice ab nb cb] wr fun e w' => ∃ am cm av cv, e = .returned (.tuple #[.slice am k cm, .int .i64 0]) ∧ RC w' w.heap.size 600 (.slice av 0 cv) false ∧ RRd w' am k (pk xs k) ∧ Keep (fun j => j = w.heap.size) wr w' := by
        refine H.mono ?_
        rintro e w' ⟨am, cm, vm, v', rfl, h1, h2, _, h4, h5, _, h7⟩
        obtain ⟨av, cv, rfl⟩ := own_slice h2
        have hrr := rrd_of h4 h5 rfl (by show (pk xs k).length ≤ _; omega)
        have e1 : (pk xs k, ([] : List Int), false).1.length = k := hpl
        rw [e1] at hrr ⊢
        exact ⟨am, cm, av, cv, rfl, h1, hrr, h7.mono (fun i h => h.elim id (fun h => by cases h))⟩
      have rl0 := rrd_of' hrow hP hpl (by omega)
      have HPL : Hid ((pk xs k).length = k) := hpl
      clear H hpl hob hrb HBb
      have t4 : True := trivial
      have hsw := hBw.size
      by_cases hlt : k < n
      · have hlz : (k : Int) < (n : Int) := by omega
        have h4z : ¬ (k : Int) < 40 := by omega
        go_upto_region 14 with (first
          | (go_at_call 11; refine H2.mono ?_; rintro e w6 ⟨am, cm, av, cv, rfl, hC6, rm6, hK6⟩; have hB6 := hBw.trans (hK6.below hsw (fun j h => by omega)); have h36 : Keep (fun j => j = w.heap.size) w3 w6 := (Keep.ofBelow hB).trans hK6; have ha6 := hr3.keepN h36 (fun hn ad e h => hC3.not_rd hr3 hn e h))
          | (go_at_call 12; clear t4; refine (fewR a3 n3 c3 A _ ha6).mono ?_; rintro e w7 ⟨a7, n7, c7, rfl, hn7, hr7, hb7, _⟩; rw [hA6] at hr7; have ha7 := ha6.carry (Nat.le_refl _) hb7)
          | (go_at_call 12; refine (fewR a3 n3 c3 A _ ha7).mono ?_; rintro e w8 ⟨a8, n8, c8, rfl, hn8, hr8, hb8, _⟩; rw [hA6] at hr8)
          | (go_at_call 17; refine (putR a7 n7 c7 A a8 n8 c8 A _ (hr7.carry (Nat.le_refl _) hb8) hr8 (by omega) (by omega)).mono ?_; rintro e w9 ⟨a1, n1, c1, rfl, ho, hn1, hb9, _⟩; clear hn1))
        have hb69 : Below w6.heap.size w6 w9 := (hb7.trans (hb8.mono hb7.size)).trans (hb9.mono (by have := hb7.size; have := hb8.size; omega))
        have hb69' : Below w6.heap.size w6 w9.drew := hb69.drew
        have hk9 : Keep (fun j => j = w.heap.size) wr w9.drew := hK6.trans (Keep.ofBelow hb69')
        have hlt3 := hC3.lt
        have rl : RRd w9.drew al k (pk xs k) := rrd_of' (own_keep hrow hk9 (fun j e h => absurd (hrow.lt j e).1 (by omega))) (hP.keep hk9 (fun u hu j e h => absurd (hP.blk u hu j e).1 (by omega))) HPL.out (by omega)
        have rm : RRd w9.drew am k (pk xs k) := rm6.below hb69'
        have hrc : RC w9.drew w.heap.size 600 (.slice av 0 cv) false := (hb69'.block _ hC6.lt).trans hC6
        have ho' : Rd w9.drew a1 n1 c1 (A ++ frm A) := ho.carry (Nat.le_refl _) ⟨rfl, rfl, rfl, Nat.le_refl _, fun _ _ => rfl⟩
        have ha : Rd w9.drew a3 n3 c3 A := ha6.carry (Nat.le_refl _) hb69'
        have hB9 : Below w.heap.size w w9.drew := hB6.trans (hb69'.mono hB6.size)
        clear hb69 hb69' hk9 hb7 hb8 hb9 hr7 hr8 ha6 ha7 ho rm6 hC6 hK6 hB6 rl0 hrow hP H2
        refine wp_region_seq [(0, true), (1, true), (2, true), (3, true), (4, true), (5, false), (6, true), (7, true), (8, true), (9, false), (10, true), (11, true), (12, true), (13, true), (14, true), (15, true), (16, true), (17, false), (18, true), (19, true), (20, true), (21, true)] (by kernel_rfl) (by kernel_rfl) (by kernel_rfl) (by kernel_rfl) (fun _ _ d _ _ h => by cases d <;> exact h) ?_
        refine seqX_read ?vA0 rfl rfl rfl (fun w' hE => ?hA0) ?_
        case hA0 => first | (go_simp; rfl) | go_simp
        simp only [List.setIfInBounds_toArray, List.set_cons_zero, List.set_cons_succ]
        refine seqX_read (.bool true) rfl rfl rfl (fun w' hE => ?hA1) ?_
        case hA1 => first | (go_simp; rfl) | go_simp
        simp only [List.setIfInBounds_toArray, List.set_cons_zero, List.set_cons_succ]
        refine seqX_read ?vA2 rfl rfl rfl (fun w' hE => ?hA2) ?_
        case hA2 => first | (go_simp; rfl) | go_simp
        simp only [List.setIfInBounds_toArray, List.set_cons_zero, List.set_cons_succ]
        refine seqX_read ?vA3 rfl rfl rfl (fun w' hE => ?hA3) ?_
        case hA3 => first | (go_simp; rfl) | go_simp
        simp only [List.setIfInBounds_toArray, List.set_cons_zero, List.set_cons_succ]
        refine seqX_read ?vA4 rfl rfl rfl (fun w' hE => ?hA4) ?_
        case hA4 => first | (go_simp; rfl) | go_simp
        simp only [List.setIfInBounds_toArray, List.set_cons_zero, List.set_cons_succ]
        refine seqX_call 14 ?aA5 rfl rfl rfl ?rA5 ?_
        case rA5 => first | (go_simp; rfl) | go_simp
        refine (same_true al am k cl cm (pk xs k) _ rl rm).mono ?_
        rintro e wq ⟨rfl, kq, hwq⟩
        refine ⟨_, rfl, (show Ext _ wq from by rw [hwq]; exact ⟨rfl, rfl, rfl, Nat.le_refl _, fun _ _ => rfl⟩), ?_⟩
        have hrcq : RC wq w.heap.size 600 (.slice av 0 cv) false := by rw [hwq]; exact hrc
        have hoq : Rd wq a1 n1 c1 (A ++ frm A) := by rw [hwq]; exact rd_drewN ho' kq
        have haq : Rd wq a3 n3 c3 A := by rw [hwq]; exact rd_drewN ha kq
        have hBq : Below w.heap.size w wq := by rw [hwq]; exact below_drewN hB9 kq
        clear hwq
        simp only [List.setIfInBounds_toArray, List.set_cons_zero, List.set_cons_succ]
        refine seqX_read (.bool true) rfl rfl rfl (fun w' hE => ?hA6) ?_
        case hA6 => first | (go_simp; rfl) | go_simp
        simp only [List.setIfInBounds_toArray, List.set_cons_zero, List.set_cons_succ]
        refine seqX_read ?vA7 rfl rfl rfl (fun w' hE => ?hA7) ?_
        case hA7 => first | (go_simp; rfl) | go_simp
        simp only [List.setIfInBounds_toArray, List.set_cons_zero, List.set_cons_succ]
        refine seqX_read ?vA8 rfl rfl rfl (fun w' hE => ?hA8) ?_
        case hA8 => first | (go_simp; rfl) | go_simp
        simp only [List.setIfInBounds_toArray, List.set_cons_zero, List.set_cons_succ]
        refine seqX_call 15 ?aA9 rfl rfl rfl ?rA9 ?_
        case rA9 => first | (go_simp; rfl) | go_simp
        refine (held_any w.heap.size 600 av 0 cv false _ hrcq).mono ?_
        rintro e wp ⟨rfl, rfl⟩
        refine ⟨_, rfl, Ext.refl _, ?_⟩
        simp only [List.setIfInBounds_toArray, List.set_cons_zero, List.set_cons_succ]
        refine seqX_read (.bool true) rfl rfl rfl (fun w' hE => ?hA10) ?_
        case hA10 => first | (go_simp; rfl) | go_simp
        simp only [List.setIfInBounds_toArray, List.set_cons_zero, List.set_cons_succ]
        refine seqX_read (.bool true) rfl rfl rfl (fun w' hE => ?hA11) ?_
        case hA11 => first | (go_simp; rfl) | go_simp
        simp only [List.setIfInBounds_toArray, List.set_cons_zero, List.set_cons_succ]
        refine seqX_read ?vA12 rfl rfl rfl (fun w' hE => ?hA12) ?_
        case hA12 => first | (go_simp; rfl) | go_simp
        simp only [List.setIfInBounds_toArray, List.set_cons_zero, List.set_cons_succ]
        refine seqX_read ?vA13 rfl rfl rfl (fun w' hE => ?hA13) ?_
        case hA13 => first | (go_simp; rfl) | go_simp
        simp only [List.setIfInBounds_toArray, List.set_cons_zero, List.set_cons_succ]
        refine seqX_read (.string (strOfNums (A ++ frm A))) rfl rfl rfl (fun w' hE => ?hA14) ?_
        case hA14 => have q := (hoq.carry (Nat.le_refl _) hE).string; first | (go_simp; rfl) | go_simp
        simp only [List.setIfInBounds_toArray, List.set_cons_zero, List.set_cons_succ]
        refine seqX_read ?vA15 rfl rfl rfl (fun w' hE => ?hA15) ?_
        case hA15 => first | (go_simp; rfl) | go_simp
        simp only [List.setIfInBounds_toArray, List.set_cons_zero, List.set_cons_succ]
        refine seqX_read ?vA16 rfl rfl rfl (fun w' hE => ?hA16) ?_
        case hA16 => first | (go_simp; rfl) | go_simp
        simp only [List.setIfInBounds_toArray, List.set_cons_zero, List.set_cons_succ]
        refine seqX_call 18 ?aA17 rfl rfl rfl ?rA17 ?_
        case rA17 => first | (go_simp; rfl) | go_simp
        refine (refPutR a3 n3 c3 A a3 n3 c3 A _ haq haq (by omega) (by omega)).mono ?_
        rintro e wz ⟨az, nz, cz, rfl, hrz, hnz, hbz⟩
        refine ⟨_, rfl, hbz, ?_⟩
        clear hnz
        simp only [List.setIfInBounds_toArray, List.set_cons_zero, List.set_cons_succ]
        refine seqX_read (.string (strOfNums (A ++ frm A))) rfl rfl rfl (fun w' hE => ?hA18) ?_
        case hA18 => have q := (hrz.carry (Nat.le_refl _) hE).string; first | (go_simp; rfl) | go_simp
        simp only [List.setIfInBounds_toArray, List.set_cons_zero, List.set_cons_succ]
        refine seqX_read (.bool true) rfl rfl rfl (fun w' hE => ?hA19) ?_
        case hA19 => first | (go_simp; rfl) | go_simp
        simp only [List.setIfInBounds_toArray, List.set_cons_zero, List.set_cons_succ]
        refine seqX_read (.bool true) rfl rfl rfl (fun w' hE => ?hA20) ?_
        case hA20 => first | (go_simp; rfl) | go_simp
        simp only [List.setIfInBounds_toArray, List.set_cons_zero, List.set_cons_succ]
        refine seqX_read ?vA21 rfl rfl rfl (fun w' hE => ?hA21) ?_
        case hA21 => first | (go_simp; rfl) | go_simp
        simp only [List.setIfInBounds_toArray, List.set_cons_zero, List.set_cons_succ]
        refine seqX_done ?_
        go_wp2
        go_ret
        exact ⟨rfl, hBq.trans (hbz.mono hBq.size)⟩
      · have hlz : ¬ (k : Int) < (n : Int) := by omega
        go_upto_region 14 with (first
          | (go_at_call 11; refine H2.mono ?_; rintro e w6 ⟨am, cm, av, cv, rfl, hC6, rm6, hK6⟩; have hB6 := hBw.trans (hK6.below hsw (fun j h => by omega)); have h36 : Keep (fun j => j = w.heap.size) w3 w6 := (Keep.ofBelow hB).trans hK6; have ha6 := hr3.keepN h36 (fun hn ad e h => hC3.not_rd hr3 hn e h))
          | (go_at_call 12; clear t4; refine (fewR a3 n3 c3 A _ ha6).mono ?_; rintro e w7 ⟨a7, n7, c7, rfl, hn7, hr7, hb7, _⟩; rw [hA6] at hr7; have ha7 := ha6.carry (Nat.le_refl _) hb7)
          | (go_at_call 12; refine (fewR a3 n3 c3 A _ ha7).mono ?_; rintro e w8 ⟨a8, n8, c8, rfl, hn8, hr8, hb8, _⟩; rw [hA6] at hr8)
          | (go_at_call 17; refine (putR a7 n7 c7 A a8 n8 c8 A _ (hr7.carry (Nat.le_refl _) hb8) hr8 (by omega) (by omega)).mono ?_; rintro e w9 ⟨a1, n1, c1, rfl, ho, hn1, hb9, _⟩; clear hn1))
        have hb69 : Below w6.heap.size w6 w9 := (hb7.trans (hb8.mono hb7.size)).trans (hb9.mono (by have := hb7.size; have := hb8.size; omega))
        have hb69' : Below w6.heap.size w6 w9.drew := hb69.drew
        have hk9 : Keep (fun j => j = w.heap.size) wr w9.drew := hK6.trans (Keep.ofBelow hb69')
        have hlt3 := hC3.lt
        have rl : RRd w9.drew al k (pk xs k) := rrd_of' (own_keep hrow hk9 (fun j e h => absurd (hrow.lt j e).1 (by omega))) (hP.keep hk9 (fun u hu j e h => absurd (hP.blk u hu j e).1 (by omega))) HPL.out (by omega)
        have rm : RRd w9.drew am k (pk xs k) := rm6.below hb69'
        have hrc : RC w9.drew w.heap.size 600 (.slice av 0 cv) false := (hb69'.block _ hC6.lt).trans hC6
        have ho' : Rd w9.drew a1 n1 c1 (A ++ frm A) := ho.carry (Nat.le_refl _) ⟨rfl, rfl, rfl, Nat.le_refl _, fun _ _ => rfl⟩
        have ha : Rd w9.drew a3 n3 c3 A := ha6.carry (Nat.le_refl _) hb69'
        have hB9 : Below w.heap.size w w9.drew := hB6.trans (hb69'.mono hB6.size)
        clear hb69 hb69' hk9 hb7 hb8 hb9 hr7 hr8 ha6 ha7 ho rm6 hC6 hK6 hB6 rl0 hrow hP H2
        refine wp_region_seq [(0, true), (1, true), (2, true), (3, true), (4, true), (5, false), (6, true), (7, true), (8, true), (9, false), (10, true), (11, true), (12, true), (13, true), (14, true), (15, true), (16, true), (17, false), (18, true), (19, true), (20, true), (21, true)] (by kernel_rfl) (by kernel_rfl) (by kernel_rfl) (by kernel_rfl) (fun _ _ d _ _ h => by cases d <;> exact h) ?_
        refine seqX_read ?vB0 rfl rfl rfl (fun w' hE => ?hB0) ?_
        case hB0 => first | (go_simp; rfl) | go_simp
        simp only [List.setIfInBounds_toArray, List.set_cons_zero, List.set_cons_succ]
        refine seqX_read (.bool true) rfl rfl rfl (fun w' hE => ?hB1) ?_
        case hB1 => first | (go_simp; rfl) | go_simp
        simp only [List.setIfInBounds_toArray, List.set_cons_zero, List.set_cons_succ]
        refine seqX_read ?vB2 rfl rfl rfl (fun w' hE => ?hB2) ?_
        case hB2 => first | (go_simp; rfl) | go_simp
        simp only [List.setIfInBounds_toArray, List.set_cons_zero, List.set_cons_succ]
        refine seqX_read ?vB3 rfl rfl rfl (fun w' hE => ?hB3) ?_
        case hB3 => first | (go_simp; rfl) | go_simp
        simp only [List.setIfInBounds_toArray, List.set_cons_zero, List.set_cons_succ]
        refine seqX_read ?vB4 rfl rfl rfl (fun w' hE => ?hB4) ?_
        case hB4 => first | (go_simp; rfl) | go_simp
        simp only [List.setIfInBounds_toArray, List.set_cons_zero, List.set_cons_succ]
        refine seqX_call 14 ?aB5 rfl rfl rfl ?rB5 ?_
        case rB5 => first | (go_simp; rfl) | go_simp
        refine (same_true al am k cl cm (pk xs k) _ rl rm).mono ?_
        rintro e wq ⟨rfl, kq, hwq⟩
        refine ⟨_, rfl, (show Ext _ wq from by rw [hwq]; exact ⟨rfl, rfl, rfl, Nat.le_refl _, fun _ _ => rfl⟩), ?_⟩
        have hrcq : RC wq w.heap.size 600 (.slice av 0 cv) false := by rw [hwq]; exact hrc
        have hoq : Rd wq a1 n1 c1 (A ++ frm A) := by rw [hwq]; exact rd_drewN ho' kq
        have haq : Rd wq a3 n3 c3 A := by rw [hwq]; exact rd_drewN ha kq
        have hBq : Below w.heap.size w wq := by rw [hwq]; exact below_drewN hB9 kq
        clear hwq
        simp only [List.setIfInBounds_toArray, List.set_cons_zero, List.set_cons_succ]
        refine seqX_read (.bool true) rfl rfl rfl (fun w' hE => ?hB6) ?_
        case hB6 => first | (go_simp; rfl) | go_simp
        simp only [List.setIfInBounds_toArray, List.set_cons_zero, List.set_cons_succ]
        refine seqX_read ?vB7 rfl rfl rfl (fun w' hE => ?hB7) ?_
        case hB7 => first | (go_simp; rfl) | go_simp
        simp only [List.setIfInBounds_toArray, List.set_cons_zero, List.set_cons_succ]
        refine seqX_read ?vB8 rfl rfl rfl (fun w' hE => ?hB8) ?_
        case hB8 => first | (go_simp; rfl) | go_simp
        simp only [List.setIfInBounds_toArray, List.set_cons_zero, List.set_cons_succ]
        refine seqX_call 15 ?aB9 rfl rfl rfl ?rB9 ?_
        case rB9 => first | (go_simp; rfl) | go_simp
        refine (held_any w.heap.size 600 av 0 cv false _ hrcq).mono ?_
        rintro e wp ⟨rfl, rfl⟩
        refine ⟨_, rfl, Ext.refl _, ?_⟩
        simp only [List.setIfInBounds_toArray, List.set_cons_zero, List.set_cons_succ]
        refine seqX_read (.bool true) rfl rfl rfl (fun w' hE => ?hB10) ?_
        case hB10 => first | (go_simp; rfl) | go_simp
        simp only [List.setIfInBounds_toArray, List.set_cons_zero, List.set_cons_succ]
        refine seqX_read (.bool true) rfl rfl rfl (fun w' hE => ?hB11) ?_
        case hB11 => first | (go_simp; rfl) | go_simp
        simp only [List.setIfInBounds_toArray, List.set_cons_zero, List.set_cons_succ]
        refine seqX_read ?vB12 rfl rfl rfl (fun w' hE => ?hB12) ?_
        case hB12 => first | (go_simp; rfl) | go_simp
        simp only [List.setIfInBounds_toArray, List.set_cons_zero, List.set_cons_succ]
        refine seqX_read ?vB13 rfl rfl rfl (fun w' hE => ?hB13) ?_
        case hB13 => first | (go_simp; rfl) | go_simp
        simp only [List.setIfInBounds_toArray, List.set_cons_zero, List.set_cons_succ]
        refine seqX_read (.string (strOfNums (A ++ frm A))) rfl rfl rfl (fun w' hE => ?hB14) ?_
        case hB14 => have q := (hoq.carry (Nat.le_refl _) hE).string; first | (go_simp; rfl) | go_simp
        simp only [List.setIfInBounds_toArray, List.set_cons_zero, List.set_cons_succ]
        refine seqX_read ?vB15 rfl rfl rfl (fun w' hE => ?hB15) ?_
        case hB15 => first | (go_simp; rfl) | go_simp
        simp only [List.setIfInBounds_toArray, List.set_cons_zero, List.set_cons_succ]
        refine seqX_read ?vB16 rfl rfl rfl (fun w' hE => ?hB16) ?_
        case hB16 => first | (go_simp; rfl) | go_simp
        simp only [List.setIfInBounds_toArray, List.set_cons_zero, List.set_cons_succ]
        refine seqX_call 18 ?aB17 rfl rfl rfl ?rB17 ?_
        case rB17 => first | (go_simp; rfl) | go_simp
        refine (refPutR a3 n3 c3 A a3 n3 c3 A _ haq haq (by omega) (by omega)).mono ?_
        rintro e wz ⟨az, nz, cz, rfl, hrz, hnz, hbz⟩
        refine ⟨_, rfl, hbz, ?_⟩
        clear hnz
        simp only [List.setIfInBounds_toArray, List.set_cons_zero, List.set_cons_succ]
        refine seqX_read (.string (strOfNums (A ++ frm A))) rfl rfl rfl (fun w' hE => ?hB18) ?_
        case hB18 => have q := (hrz.carry (Nat.le_refl _) hE).string; first | (go_simp; rfl) | go_simp
        simp only [List.setIfInBounds_toArray, List.set_cons_zero, List.set_cons_succ]
        refine seqX_read (.bool true) rfl rfl rfl (fun w' hE => ?hB19) ?_
        case hB19 => first | (go_simp; rfl) | go_simp
        simp only [List.setIfInBounds_toArray, List.set_cons_zero, List.set_cons_succ]
        refine seqX_read (.bool true) rfl rfl rfl (fun w' hE => ?hB20) ?_
        case hB20 => first | (go_simp; rfl) | go_simp
        simp only [List.setIfInBounds_toArray, List.set_cons_zero, List.set_cons_succ]
        refine seqX_read ?vB21 rfl rfl rfl (fun w' hE => ?hB21) ?_
        case hB21 => first | (go_simp; rfl) | go_simp
        simp only [List.setIfInBounds_toArray, List.set_cons_zero, List.set_cons_succ]
        refine seqX_done ?_
        go_wp2
        go_ret
        exact ⟨rfl, hBq.trans (hbz.mono hBq.size)⟩

theorem own : ownKnob Try.prog.godebug = none := by kernel_rfl
theorem laidOut : laidOutB Try.prog = true := by kernel_rfl

set_option maxRecDepth 100000 in
theorem lifted (os : Os) (started : os.Started) (H : Type) (enc : TypeId × Value → H) :
    ReturnsInHanded {} Try.checked os 5 .any (Rows.frameBackSpec.pre6 enc Try.prog Try.f5 Rows.frameBackRow.domain false) (Rows.frameBackSpec.post enc Try.prog Try.f5 false true false false) := by
  refine returnsInHanded_of_change (C := Try.checked) own started (by kernel_rfl) Try.func5
    (ChangeSpec.witness6 (enc := enc) (C := Try.checked) false ⟨#[], #[.slice none 0 0, .slice none 0 0], []⟩ 8 (by kernel_rfl) (by kernel_rfl) (by kernel_rfl) (by kernel_rfl)) ?_
  intro W base args ds gs before hval0 hW hcnd _
  have hval : ∀ (j : Nat) t v, Try.f5.params[j]? = some t → args[j]? = some v → Value.okWide Try.prog W .any base t v := hval0
  have hW' := hW
  obtain ⟨p, q, hA0, hV, rfl, hfz, hnd⟩ := hW
  have hA : DataW.TrodAll enc Try.prog W 0 (fun _ => true) true Try.f5.params.toList args.toList ds p := hA0
  rw [Try.params5] at hA hval
  obtain ⟨v0, vs0, d0, ds0, p0, q0, hargs, rfl, rfl, h0, r0⟩ := trodAll_cons hA
  obtain ⟨v1, vs1, d1, ds1, p1, q1, rfl, rfl, rfl, h1, r1⟩ := trodAll_cons r0
  obtain ⟨rfl, rfl, rfl⟩ := trodAll_nil r1
  obtain rfl : args = #[v0, v1] := by cases args; simp_all
  obtain ⟨rfl, rfl⟩ := trodVars_none hV
  obtain ⟨a0, len0, cap0, rfl⟩ := okWide_slice Try.underlying31 (hval 0 31 v0 rfl rfl)
  have k0 := h0
  have lt0 : ∀ x ∈ p0, x.block < W.heap.size := by obtain ⟨m, hm⟩ := k0; exact DataW.trod_lt m _ _ _ hm
  obtain ⟨z0, hR0⟩ : ∃ zs, Rd W a0 len0 cap0 zs := rd_of_trod h0
  obtain ⟨a1, len1, cap1, rfl⟩ := okWide_slice Try.underlying22 (hval 1 22 v1 rfl rfl)
  have k1 := h1
  have lt1 : ∀ x ∈ p1, x.block < W.heap.size := by obtain ⟨m, hm⟩ := k1; exact DataW.trod_lt m _ _ _ hm
  obtain ⟨z1, hR1⟩ : ∃ zs, RRd W a1 len1 zs := rrd_of_trod h1
  clear hA0 hval0
  refine (walk a0 len0 cap0 z0 a1 len1 cap1 z1 W hR0 hR1).mono fun e W' ⟨he, bel⟩ => ?_
  subst he
  exact ⟨_, rfl, _, _, _, [], _, [], hW', trodAll_mk1 (shut_bool Try.underlying4 _), (trodAll_cons_mk (Below.trod laidOut (by kernel_rfl) (of_decide_eq_true (by kernel_rfl)) k0 bel lt0) (trodAll_cons_mk (Below.trod laidOut (by kernel_rfl) (of_decide_eq_true (by kernel_rfl)) k1 bel lt1) trodAll_mk0)), rfl, bel.frame _, fun h => by cases h⟩

end Go.Proofs.Ytmpoddgmkneffaa.frameBack

namespace Go.Proofs.Ytmpoddgmkneffaa
theorem frameBack_holds : Rows.FrameBackSaid :=
  OpenClaim.holds_of_wide 5 Try.f5 rfl rfl rfl rfl rfl rfl rfl ⟨rfl, rfl, rfl, rfl, rfl⟩ rfl rfl rfl rfl rfl (by kernel_rfl) Try.func5 (by kernel_rfl)
    (of_decide_eq_true (by kernel_rfl)) (by unfold Func.isWrapper; first | (rw [if_pos (by decide +kernel)]; kernel_rfl) | (rw [if_neg (by decide +kernel)]; exact ⟨rfl, rfl⟩))
    (fun os started H enc _ => frameBack.lifted os started H enc)
#print axioms frameBack_holds
end Go.Proofs.Ytmpoddgmkneffaa
