/- FrameMost: whatever number and whatever payloads ahead: a frame as long as may be is taken, one that is longer by a byte is refused, with all those told that stood ahead of it, and such a reader is of no use any more; the law returns true and nothing that was there is written. For every input, no condition. -/
import Derived.Test.YtmpoddgmkneffaaRows
import Derived.Test.YtmpoddgmkneffaaFrMostP
import Derived.Deep.CutBlock
namespace Go.Proofs.Ytmpoddgmkneffaa.frameMost
open Go.ChangeShapes Go.WideShapes Go.ChangeAt Go.RowKit
open Go.Proofs.Ytmpoddgmkneffaa

/-- Put and Feed behind one another. -/
theorem put_feed (p M : Nat) (a1 : Option Addr) (n1 c1 : Nat) (xs : List Int) (a2 : Option Addr) (n2 c2 : Nat) (ys : List Int) (w : World) (hC : RC w p M (.slice none 0 0) false) (h1 : Rd w a1 n1 c1 xs) (h2 : Rd w a2 n2 c2 ys) (hn1 : n1 ≤ 100000) (hn2 : n2 ≤ 1000) (r : List (List Int) × List Int × Bool) (hr : cut M (xs ++ frm ys) = r) :
    Calls Try.prog 17 #[.slice a1 n1 c1, .slice a2 n2 c2] w fun e w' => ∃ a3 n3 c3, e = .returned (.slice a3 n3 c3) ∧ Below w.heap.size w w' ∧
      Calls Try.prog 11 #[.pointer (some ⟨p, 0, none⟩), .slice a3 n3 c3] w' fun e w'' => ∃ al cl av cv, e = .returned (.tuple #[.slice al r.1.length cl, .int .i64 (if r.2.2 = true then 5 else 0)]) ∧ RC w'' p M (.slice av r.2.1.length cv) r.2.2 ∧ RRd w'' al r.1.length r.1 ∧ (∀ ad, al = some ad → w.heap.size ≤ ad.block) ∧ Keep (fun j => j = p) w w'' := by
  refine (putR a1 n1 c1 xs a2 n2 c2 ys w h1 h2 (by omega) (by omega)).mono ?_
  rintro e w1 ⟨a3, n3, c3, rfl, hr3, hn3, hb1, _⟩
  have hC1 : RC w1 p M (.slice none 0 0) false := (hb1.block p hC.lt).trans hC
  have H := feed_any p M 0 (.slice none 0 0) [] a3 n3 c3 _ w1 hC1 (World.ownsRow_nil _ _ _ _) (Nat.zero_le _) Bd.nil hr3 (by simp; omega)
  rw [List.nil_append, hr] at H
  refine ⟨a3, n3, c3, rfl, hb1, H.mono ?_⟩
  rintro e w2 ⟨al, cl, vl, v', rfl, q1, q2, _, q4, q5, _, q7⟩
  obtain ⟨av, cv, rfl⟩ := own_slice q2
  have hl := cut_len M (xs ++ frm ys)
  rw [hr, List.length_append, frm_len, h1.len, h2.len] at hl
  exact ⟨al, cl, av, cv, rfl, q1, rrd_of q4 q5 rfl (by omega), (fun ad h => Nat.le_trans hb1.size (q4.lt ad.block (by rw [h]; rfl)).1), (Keep.ofBelow hb1).trans (q7.mono (fun i h => h.elim id (fun h => by cases h)))⟩

set_option maxHeartbeats 3200000 in
set_option maxRecDepth 100000 in
theorem walk (m : Int) (br : Option Addr) (n c : Nat) (xs : List (List Int)) (w : World) (hR : RRd w br n xs) :
    Calls Try.prog 7 #[.int .i64 m, .slice br n c] w fun e w' => e = .returned (.bool true) ∧ Below w.heap.size w w' := by
  have hmx := hR.most
  have hxl := hR.len
  obtain ⟨M, HM, hM5⟩ := mm_of m
  have hMz : (M : Int) < 500 := by omega
  have hM0 : (0 : Int) ≤ (M : Int) := by omega
  have t1 : True := trivial
  go_enter Try.func7, Try.ntmps7
  go_upto_block 0 with (first
    | (go_at_call 8; clear t1; refine (new_any M _ (by omega) (by omega)).mono ?_; rintro e w1 ⟨rfl, hC1, hb1⟩; have l1 := hC1.lt; rw [Int.toNat_natCast] at hC1)
    | (go_at_call 8; refine (new_any M _ (by omega) (by omega)).mono ?_; rintro e w2 ⟨rfl, hC2, hb2⟩; have l2 := hC2.lt; rw [Int.toNat_natCast] at hC2)
    | (go_at_call 10; refine (wakes_any _).mono ?_; rintro e w3 ⟨rfl, hb3⟩))
  have hs1 := hb1.size
  have s3 := hb3.size
  have hB3 : Below w.heap.size w w3 := (hb1.trans (hb2.mono hs1)).trans (hb3.mono (by omega))
  have hC3 : RC w3 w.heap.size M (.slice none 0 0) false := (hb3.block _ (by omega)).trans ((hb2.block _ (by omega)).trans hC1)
  have hD3 : RC w3 w1.heap.size M (.slice none 0 0) false := (hb3.block _ (by omega)).trans hC2
  have hpq : w.heap.size < w1.heap.size := l1
  clear hC1 hC2 hb1 hb2 hb3 l1 l2 HM
  go_cut [8, 9, 10] from 33 to 52 (fun b nn i wr => ∃ (k : Nat) (ab : Option Addr) (nb cb : Nat), b = .slice ab nb cb ∧ nn = .int .i64 k ∧ i = .int .i64 k ∧ k ≤ n ∧ k ≤ 20 ∧ Rd wr ab nb cb (frms (pkM M xs k)) ∧ nb ≤ 504 * k ∧ Below w3.heap.size w3 wr)
  case first =>
    go_wp2_with fail
    go_loopw [8, 9, 10] (fun b nn i wr => ∃ (k : Nat) (ab : Option Addr) (nb cb : Nat), b = .slice ab nb cb ∧ nn = .int .i64 k ∧ i = .int .i64 k ∧ k ≤ n ∧ k ≤ 20 ∧ Rd wr ab nb cb (frms (pkM M xs k)) ∧ nb ≤ 504 * k ∧ Below w3.heap.size w3 wr) (fun _ _ i _ => 20 - (intOf i).toNat)
    case atStart => exact ⟨0, none, 0, 0, rfl, rfl, rfl, by omega, by omega, rd_nil _, by omega, Below.refl _ _⟩
    case round =>
      obtain ⟨k, ab, nb, cb, rfl, rfl, rfl, hkn, hk20, hrb, hnb, hB⟩ := hrel
      have hBs := hB.size
      have hBw : Below w.heap.size w wr := hB3.trans (hB.mono hB3.size)
      by_cases hgo : k < n ∧ k < 20
      · obtain ⟨hlt, h20⟩ := hgo
        have hlz : (k : Int) < (n : Int) := by omega
        have h2z : (k : Int) < 20 := by omega
        have HPK : Hid (pkM M xs (k + 1) = pkM M xs k ++ [(xs.getD k []).take M]) := pkM_succ (by omega)
        obtain ⟨b, off, rfl, hc⟩ := hR.flat (by omega)
        obtain ⟨aj, nj, cj, hcell, hrd⟩ := hc k hlt
        have hbl : b < w.heap.size := World.block_lt_of_cell? w _ hcell
        have hcell' : wr.cell? ⟨b, off + k, none⟩ = some (.slice aj nj cj) := (hBw.cell (p := ⟨b, off + k, none⟩) hbl).trans hcell
        have hrd' := hrd.carry (Nat.le_refl _) hBw
        generalize xs.getD k [] = ys at hrd' HPK
        clear hc hcell hrd
        go_wp2_with (first
          | (go_at_call 16; refine (twinR aj nj cj ys M _ hrd' (by omega)).mono ?_; rintro e wa ⟨a1, n1, c1, rfl, hn1, hr1, hb1, _⟩)
          | (go_at_call 17; refine (putR ab nb cb (frms (pkM M xs k)) a1 n1 c1 (ys.take M) _ (hrb.carry (Nat.le_refl _) hb1) hr1 (by omega) (by omega)).mono ?_; rintro e wb ⟨a2, n2, c2, rfl, hr2, hn2, hb2, _⟩; rw [← frms_snoc, ← HPK.out] at hr2; have hn2' : n2 ≤ 504 * (k + 1) := (by omega); clear hn2))
        go_roundw
        case rel => exact ⟨k + 1, a2, n2, c2, rfl, by go_num, by go_num, by omega, by omega, hr2, hn2', (hB.trans (hb1.mono hBs)).trans (hb2.mono (by have := hb1.size; omega))⟩
        case measure => simp [intOf]; omega
      · by_cases hlt : k < n
        · have hlz : (k : Int) < (n : Int) := by omega
          have h2z : ¬ (k : Int) < 20 := by omega
          go_wp2
          go_meet
          exact ⟨k, ab, nb, cb, rfl, rfl, rfl, hkn, hk20, hrb, hnb, hB⟩
        · have hlz : ¬ (k : Int) < (n : Int) := by omega
          go_wp2
          go_meet
          exact ⟨k, ab, nb, cb, rfl, rfl, rfl, hkn, hk20, hrb, hnb, hB⟩
  case rest =>
  obtain ⟨k, ab, nb, cb, rfl, rfl, rfl, hkn, hk20, hrb, hnb, hB⟩ := hcut
  obtain ⟨wr, hwr⟩ : ∃ wr, wr = wc := ⟨_, rfl⟩
  subst hwr
  have hBs := hB.size
  have hBw : Below w.heap.size w wr := hB3.trans (hB.mono hB3.size)
  have HPL : Hid ((pkM M xs k).length = k) := pkM_len (by omega)
  have hCr : RC wr w.heap.size M (.slice none 0 0) false := (hB.block _ hC3.lt).trans hC3
  have hDr : RC wr w1.heap.size M (.slice none 0 0) false := (hB.block _ hD3.lt).trans hD3
  go_upto_region 12 with fail
  have hKL : k < k + 1 := by omega
  go_cut [11, 12] from 53 to 63 (fun l e wx => ∃ al cl av cv, l = .slice al (k + 1) cl ∧ e = .int .i64 0 ∧ RC wx w.heap.size M (.slice av 0 cv) false ∧ RRd wx al (k + 1) (pkM M xs k ++ [zer M]) ∧ (∀ ad, al = some ad → wr.heap.size ≤ ad.block) ∧ Keep (fun j => j = w.heap.size) wr wx)
  case first =>
    have hCB : RC wr.drew w.heap.size M (.slice none 0 0) false := hCr
    have hRB : Rd wr.drew ab nb cb (frms (pkM M xs k)) := hrb.carry (Nat.le_refl _) ⟨rfl, rfl, rfl, Nat.le_refl _, fun _ _ => rfl⟩
    have hKB : Keep (fun j => j = w.heap.size) wr wr.drew := (Keep.refl _ _).drew
    refine wp_region_px (fun _ => True) 13 (by kernel_rfl) (by kernel_rfl) ?_
    generalize wr.drew = WB at hCB hRB hKB
    refine px_rd 0 ?vP0 (by kernel_rfl) (fun _ _ d _ _ h => by cases d <;> exact h) (by kernel_rfl) trivial rfl rfl rfl (fun w' _ => ?hP0) ?_
    case hP0 => first | (go_simp; rfl) | go_simp
    simp only [List.setIfInBounds_toArray, List.set_cons_zero, List.set_cons_succ]
    refine px_rd 2 ?vP2 (by kernel_rfl) (fun _ _ d _ _ h => by cases d <;> exact h) (by kernel_rfl) trivial rfl rfl rfl (fun w' _ => ?hP2) ?_
    case hP2 => first | (go_simp; rfl) | go_simp
    simp only [List.setIfInBounds_toArray, List.set_cons_zero, List.set_cons_succ]
    refine px_rd 4 ?vP4 (by kernel_rfl) (fun _ _ d _ _ h => by cases d <;> exact h) (by kernel_rfl) trivial rfl rfl rfl (fun w' _ => ?hP4) ?_
    case hP4 => first | (go_simp; rfl) | go_simp
    simp only [List.setIfInBounds_toArray, List.set_cons_zero, List.set_cons_succ]
    refine px_two 1 5 (by kernel_rfl) ?pAP ?pBP
    case pAP =>
      refine stepP_val (w' := (WB).alloc (.cells #[] 5)) (.slice (some ⟨(WB).heap.size, 0, none⟩) 0 0) rfl rfl rfl ?bPA trivial ?_
      case bPA => first | (go_simp; rfl) | go_simp
      simp only [List.setIfInBounds_toArray, List.set_cons_zero, List.set_cons_succ]
      have hgA : (WB.alloc (.cells #[] 5)).heap[WB.heap.size]? = some (.cells #[] 5 (0, 0)) := World.alloc_heap_new _ _
      have hRA : Rd (WB.alloc (.cells #[] 5)) ab nb cb (frms (pkM M xs k)) := hRB.carry (Nat.le_refl _) ((Below.refl _ _).alloc (Nat.le_refl _) _)
      refine px_two 3 5 (by kernel_rfl) ?pCP ?pDP
      case pCP =>
        obtain ⟨ax, cx, X2, hap, hrx, hgx⟩ := run_app (WB.alloc (.cells #[] 5)) 31 WB.heap.size hgA ab nb cb _ hRA (by omega)
        refine stepP_val (w' := X2) (.slice ax nb cx) rfl rfl rfl ?pPC trivial ?_
        case pPC => exact run_app_op rfl rfl rfl hap
        simp only [List.setIfInBounds_toArray, List.set_cons_zero, List.set_cons_succ]
        clear hap
        refine px_one 5 (by kernel_rfl) ?_
        obtain ⟨X3, hmk, hrm, hgm⟩ := run_mk (X2) M (by omega)
        refine stepP_val (w' := X3) (.slice (some ⟨(X2).heap.size, 0, none⟩) M M) rfl rfl rfl ?mPC trivial ?_
        case mPC => exact run_mk_op rfl rfl rfl hmk
        simp only [List.setIfInBounds_toArray, List.set_cons_zero, List.set_cons_succ]
        clear hmk
        have hX4 : Keep (fun j => j = w.heap.size) WB X3 := (((Keep.refl _ WB).alloc _).andThen (Keep.ofGrown hgx) (fun i hi e => by cases e; omega)).andThen (Keep.ofGrown hgm) (fun i _ e => by cases e)
        have hX0 : Keep (fun _ => False) WB X3 := (((Keep.refl _ WB).alloc _).andThen (Keep.ofGrown hgx) (fun i hi e => by cases e; omega)).andThen (Keep.ofGrown hgm) (fun i _ e => by cases e)
        have hX1 : RC X3 w.heap.size M (.slice none 0 0) false := hCB.keep hX0 (fun h => h)
        have hX2 : Rd X3 ax nb cx (frms (pkM M xs k)) := hrx.carry (Nat.le_refl _) ⟨hgm.os, hgm.tape, hgm.output, hgm.size, fun k hk => hgm.block k hk (by simp)⟩
        have hX3 : Rd X3 _ M M (zer M) := hrm
        refine px_one 6 (by kernel_rfl) (stepP_call 17 ?qPC rfl rfl rfl ?rPC ?_)
        case rPC => first | (go_simp; rfl) | go_simp
        refine (put_feed w.heap.size M ax nb cx _ _ M M (zer M) X3 hX1 hX2 hX3 (by omega) (by omega) _ (cut_fit (by omega))).mono ?_
        rintro e wp ⟨a3, n3, c3, rfl, hbp, HF⟩
        refine ⟨_, rfl, trivial, ?_⟩
        simp only [List.setIfInBounds_toArray, List.set_cons_zero, List.set_cons_succ]
        refine px_one 7 (by kernel_rfl) (stepP_call 11 ?sPC rfl rfl rfl ?tPC ?_)
        case tPC => first | (go_simp; rfl) | go_simp
        refine HF.mono ?_
        rintro e wf ⟨al, cl, av, cv, rfl, hrc, hrr, hfr, hKf⟩
        refine ⟨_, rfl, trivial, ?_⟩
        simp only [List.setIfInBounds_toArray, List.set_cons_zero, List.set_cons_succ]
        refine px_rd 8 ?vPC8 (by kernel_rfl) (fun _ _ d _ _ h => by cases d <;> exact h) (by kernel_rfl) trivial rfl rfl rfl (fun w' _ => ?hPC8) ?_
        case hPC8 => first | (go_simp; rfl) | go_simp
        simp only [List.setIfInBounds_toArray, List.set_cons_zero, List.set_cons_succ]
        refine px_rd 9 ?vPC9 (by kernel_rfl) (fun _ _ d _ _ h => by cases d <;> exact h) (by kernel_rfl) trivial rfl rfl rfl (fun w' _ => ?hPC9) ?_
        case hPC9 => first | (go_simp; rfl) | go_simp
        simp only [List.setIfInBounds_toArray, List.set_cons_zero, List.set_cons_succ]
        refine px_rd 10 ?vPC10 (by kernel_rfl) (fun _ _ d _ _ h => by cases d <;> exact h) (by kernel_rfl) trivial rfl rfl rfl (fun w' _ => ?hPC10) ?_
        case hPC10 => first | (go_simp; rfl) | go_simp
        simp only [List.setIfInBounds_toArray, List.set_cons_zero, List.set_cons_succ]
        refine px_rd 11 ?vPC11 (by kernel_rfl) (fun _ _ d _ _ h => by cases d <;> exact h) (by kernel_rfl) trivial rfl rfl rfl (fun w' _ => ?hPC11) ?_
        case hPC11 => first | (go_simp; rfl) | go_simp
        simp only [List.setIfInBounds_toArray, List.set_cons_zero, List.set_cons_succ]
        refine px_rd 12 ?vPC12 (by kernel_rfl) (fun _ _ d _ _ h => by cases d <;> exact h) (by kernel_rfl) trivial rfl rfl rfl (fun w' _ => ?hPC12) ?_
        case hPC12 => first | (go_simp; rfl) | go_simp
        simp only [List.setIfInBounds_toArray, List.set_cons_zero, List.set_cons_succ]
        refine px_nil (by kernel_rfl) ?_
        have e1 : (pkM M xs k ++ [zer M], ([] : List Int), false).1.length = k + 1 := by show (pkM M xs k ++ [zer M]).length = _; rw [List.length_append, HPL.out]; rfl
        have hrr' : RRd wf al (k + 1) (pkM M xs k ++ [zer M]) := by rw [e1] at hrr; exact hrr
        go_wp2
        go_meet
        exact ⟨al, cl, av, cv, by simp [HPL.out], rfl, hrc, hrr', (fun ad h => Nat.le_trans (hKB.trans hX4).size (hfr ad h)), (hKB.trans hX4).trans hKf⟩
      case pDP =>
        obtain ⟨X2, hmk, hrm, hgm⟩ := run_mk (WB.alloc (.cells #[] 5)) M (by omega)
        rw [World.size_alloc] at hmk hrm
        refine stepP_val (w' := X2) (.slice (some ⟨WB.heap.size + 1, 0, none⟩) M M) rfl rfl rfl ?mPD trivial ?_
        case mPD => exact run_mk_op rfl rfl rfl hmk
        simp only [List.setIfInBounds_toArray, List.set_cons_zero, List.set_cons_succ]
        clear hmk
        have hb2 : Below (WB.alloc (.cells #[] 5)).heap.size (WB.alloc (.cells #[] 5)) X2 := ⟨hgm.os, hgm.tape, hgm.output, hgm.size, fun k hk => hgm.block k hk (by simp)⟩
        refine px_one 3 (by kernel_rfl) ?_
        obtain ⟨ax, cx, X3, hap, hrx, hgx⟩ := run_app (X2) 31 WB.heap.size ((hb2.block _ (by simp)).trans hgA) ab nb cb _ (hRA.carry (Nat.le_refl _) hb2) (by omega)
        refine stepP_val (w' := X3) (.slice ax nb cx) rfl rfl rfl ?pPD trivial ?_
        case pPD => exact run_app_op rfl rfl rfl hap
        simp only [List.setIfInBounds_toArray, List.set_cons_zero, List.set_cons_succ]
        clear hap
        have hX4 : Keep (fun j => j = w.heap.size) WB X3 := (((Keep.refl _ WB).alloc _).andThen (Keep.ofGrown hgm) (fun i _ e => by cases e)).andThen (Keep.ofGrown hgx) (fun i hi e => by cases e; omega)
        have hX0 : Keep (fun _ => False) WB X3 := (((Keep.refl _ WB).alloc _).andThen (Keep.ofGrown hgm) (fun i _ e => by cases e)).andThen (Keep.ofGrown hgx) (fun i hi e => by cases e; omega)
        have hX1 : RC X3 w.heap.size M (.slice none 0 0) false := hCB.keep hX0 (fun h => h)
        have hX2 : Rd X3 ax nb cx (frms (pkM M xs k)) := hrx
        have hX3 : Rd X3 _ M M (zer M) := hrm.keepN (Keep.ofGrown hgx) (fun _ ad ha h => by cases ha; simp at h)
        refine px_one 6 (by kernel_rfl) (stepP_call 17 ?qPD rfl rfl rfl ?rPD ?_)
        case rPD => first | (go_simp; rfl) | go_simp
        refine (put_feed w.heap.size M ax nb cx _ _ M M (zer M) X3 hX1 hX2 hX3 (by omega) (by omega) _ (cut_fit (by omega))).mono ?_
        rintro e wp ⟨a3, n3, c3, rfl, hbp, HF⟩
        refine ⟨_, rfl, trivial, ?_⟩
        simp only [List.setIfInBounds_toArray, List.set_cons_zero, List.set_cons_succ]
        refine px_one 7 (by kernel_rfl) (stepP_call 11 ?sPD rfl rfl rfl ?tPD ?_)
        case tPD => first | (go_simp; rfl) | go_simp
        refine HF.mono ?_
        rintro e wf ⟨al, cl, av, cv, rfl, hrc, hrr, hfr, hKf⟩
        refine ⟨_, rfl, trivial, ?_⟩
        simp only [List.setIfInBounds_toArray, List.set_cons_zero, List.set_cons_succ]
        refine px_rd 8 ?vPD8 (by kernel_rfl) (fun _ _ d _ _ h => by cases d <;> exact h) (by kernel_rfl) trivial rfl rfl rfl (fun w' _ => ?hPD8) ?_
        case hPD8 => first | (go_simp; rfl) | go_simp
        simp only [List.setIfInBounds_toArray, List.set_cons_zero, List.set_cons_succ]
        refine px_rd 9 ?vPD9 (by kernel_rfl) (fun _ _ d _ _ h => by cases d <;> exact h) (by kernel_rfl) trivial rfl rfl rfl (fun w' _ => ?hPD9) ?_
        case hPD9 => first | (go_simp; rfl) | go_simp
        simp only [List.setIfInBounds_toArray, List.set_cons_zero, List.set_cons_succ]
        refine px_rd 10 ?vPD10 (by kernel_rfl) (fun _ _ d _ _ h => by cases d <;> exact h) (by kernel_rfl) trivial rfl rfl rfl (fun w' _ => ?hPD10) ?_
        case hPD10 => first | (go_simp; rfl) | go_simp
        simp only [List.setIfInBounds_toArray, List.set_cons_zero, List.set_cons_succ]
        refine px_rd 11 ?vPD11 (by kernel_rfl) (fun _ _ d _ _ h => by cases d <;> exact h) (by kernel_rfl) trivial rfl rfl rfl (fun w' _ => ?hPD11) ?_
        case hPD11 => first | (go_simp; rfl) | go_simp
        simp only [List.setIfInBounds_toArray, List.set_cons_zero, List.set_cons_succ]
        refine px_rd 12 ?vPD12 (by kernel_rfl) (fun _ _ d _ _ h => by cases d <;> exact h) (by kernel_rfl) trivial rfl rfl rfl (fun w' _ => ?hPD12) ?_
        case hPD12 => first | (go_simp; rfl) | go_simp
        simp only [List.setIfInBounds_toArray, List.set_cons_zero, List.set_cons_succ]
        refine px_nil (by kernel_rfl) ?_
        have e1 : (pkM M xs k ++ [zer M], ([] : List Int), false).1.length = k + 1 := by show (pkM M xs k ++ [zer M]).length = _; rw [List.length_append, HPL.out]; rfl
        have hrr' : RRd wf al (k + 1) (pkM M xs k ++ [zer M]) := by rw [e1] at hrr; exact hrr
        go_wp2
        go_meet
        exact ⟨al, cl, av, cv, by simp [HPL.out], rfl, hrc, hrr', (fun ad h => Nat.le_trans (hKB.trans hX4).size (hfr ad h)), (hKB.trans hX4).trans hKf⟩
    case pBP =>
      obtain ⟨X1, hmk, hrm, hgm⟩ := run_mk (WB) M (by omega)
      refine stepP_val (w' := X1) (.slice (some ⟨(WB).heap.size, 0, none⟩) M M) rfl rfl rfl ?mPB trivial ?_
      case mPB => exact run_mk_op rfl rfl rfl hmk
      simp only [List.setIfInBounds_toArray, List.set_cons_zero, List.set_cons_succ]
      clear hmk
      have hb1 : Below WB.heap.size WB X1 := ⟨hgm.os, hgm.tape, hgm.output, hgm.size, fun k hk => hgm.block k hk (by simp)⟩
      have hs1 := hb1.size
      refine px_one 1 (by kernel_rfl) ?_
      refine stepP_val (w' := (X1).alloc (.cells #[] 5)) (.slice (some ⟨(X1).heap.size, 0, none⟩) 0 0) rfl rfl rfl ?bPB trivial ?_
      case bPB => first | (go_simp; rfl) | go_simp
      simp only [List.setIfInBounds_toArray, List.set_cons_zero, List.set_cons_succ]
      have hgB : (X1.alloc (.cells #[] 5)).heap[X1.heap.size]? = some (.cells #[] 5 (0, 0)) := World.alloc_heap_new _ _
      have hbA : Below X1.heap.size X1 (X1.alloc (.cells #[] 5)) := (Below.refl _ _).alloc (Nat.le_refl _) _
      refine px_one 3 (by kernel_rfl) ?_
      obtain ⟨ax, cx, X3, hap, hrx, hgx⟩ := run_app (X1.alloc (.cells #[] 5)) 31 X1.heap.size hgB ab nb cb _ ((hRB.carry (Nat.le_refl _) hb1).carry (Nat.le_refl _) hbA) (by omega)
      refine stepP_val (w' := X3) (.slice ax nb cx) rfl rfl rfl ?pPB trivial ?_
      case pPB => exact run_app_op rfl rfl rfl hap
      simp only [List.setIfInBounds_toArray, List.set_cons_zero, List.set_cons_succ]
      clear hap
      have hX4 : Keep (fun j => j = w.heap.size) WB X3 := (((Keep.ofGrown hgm).mono (fun i e => by cases e)).alloc _).andThen (Keep.ofGrown hgx) (fun i hi e => by cases e; omega)
      have hX0 : Keep (fun _ => False) WB X3 := (((Keep.ofGrown hgm).mono (fun i e => by cases e)).alloc _).andThen (Keep.ofGrown hgx) (fun i hi e => by cases e; omega)
      have hX1 : RC X3 w.heap.size M (.slice none 0 0) false := hCB.keep hX0 (fun h => h)
      have hX2 : Rd X3 ax nb cx (frms (pkM M xs k)) := hrx
      have hX3 : Rd X3 _ M M (zer M) := (hrm.carry (Nat.le_refl _) hbA).keepN (Keep.ofGrown hgx) (fun hn ad ha h => by cases ha; have e := Option.some.inj h; have hb := hrm.blk hn rfl; simp only at e hb; omega)
      refine px_one 6 (by kernel_rfl) (stepP_call 17 ?qPB rfl rfl rfl ?rPB ?_)
      case rPB => first | (go_simp; rfl) | go_simp
      refine (put_feed w.heap.size M ax nb cx _ _ M M (zer M) X3 hX1 hX2 hX3 (by omega) (by omega) _ (cut_fit (by omega))).mono ?_
      rintro e wp ⟨a3, n3, c3, rfl, hbp, HF⟩
      refine ⟨_, rfl, trivial, ?_⟩
      simp only [List.setIfInBounds_toArray, List.set_cons_zero, List.set_cons_succ]
      refine px_one 7 (by kernel_rfl) (stepP_call 11 ?sPB rfl rfl rfl ?tPB ?_)
      case tPB => first | (go_simp; rfl) | go_simp
      refine HF.mono ?_
      rintro e wf ⟨al, cl, av, cv, rfl, hrc, hrr, hfr, hKf⟩
      refine ⟨_, rfl, trivial, ?_⟩
      simp only [List.setIfInBounds_toArray, List.set_cons_zero, List.set_cons_succ]
      refine px_rd 8 ?vPB8 (by kernel_rfl) (fun _ _ d _ _ h => by cases d <;> exact h) (by kernel_rfl) trivial rfl rfl rfl (fun w' _ => ?hPB8) ?_
      case hPB8 => first | (go_simp; rfl) | go_simp
      simp only [List.setIfInBounds_toArray, List.set_cons_zero, List.set_cons_succ]
      refine px_rd 9 ?vPB9 (by kernel_rfl) (fun _ _ d _ _ h => by cases d <;> exact h) (by kernel_rfl) trivial rfl rfl rfl (fun w' _ => ?hPB9) ?_
      case hPB9 => first | (go_simp; rfl) | go_simp
      simp only [List.setIfInBounds_toArray, List.set_cons_zero, List.set_cons_succ]
      refine px_rd 10 ?vPB10 (by kernel_rfl) (fun _ _ d _ _ h => by cases d <;> exact h) (by kernel_rfl) trivial rfl rfl rfl (fun w' _ => ?hPB10) ?_
      case hPB10 => first | (go_simp; rfl) | go_simp
      simp only [List.setIfInBounds_toArray, List.set_cons_zero, List.set_cons_succ]
      refine px_rd 11 ?vPB11 (by kernel_rfl) (fun _ _ d _ _ h => by cases d <;> exact h) (by kernel_rfl) trivial rfl rfl rfl (fun w' _ => ?hPB11) ?_
      case hPB11 => first | (go_simp; rfl) | go_simp
      simp only [List.setIfInBounds_toArray, List.set_cons_zero, List.set_cons_succ]
      refine px_rd 12 ?vPB12 (by kernel_rfl) (fun _ _ d _ _ h => by cases d <;> exact h) (by kernel_rfl) trivial rfl rfl rfl (fun w' _ => ?hPB12) ?_
      case hPB12 => first | (go_simp; rfl) | go_simp
      simp only [List.setIfInBounds_toArray, List.set_cons_zero, List.set_cons_succ]
      refine px_nil (by kernel_rfl) ?_
      have e1 : (pkM M xs k ++ [zer M], ([] : List Int), false).1.length = k + 1 := by show (pkM M xs k ++ [zer M]).length = _; rw [List.length_append, HPL.out]; rfl
      have hrr' : RRd wf al (k + 1) (pkM M xs k ++ [zer M]) := by rw [e1] at hrr; exact hrr
      go_wp2
      go_meet
      exact ⟨al, cl, av, cv, by simp [HPL.out], rfl, hrc, hrr', (fun ad h => Nat.le_trans (hKB.trans hX4).size (hfr ad h)), (hKB.trans hX4).trans hKf⟩
  case rest =>
  obtain ⟨al, cl, av, cv, rfl, rfl, hC12, hR12, hF12, hK12⟩ := hcut
  obtain ⟨wx, hwx⟩ : ∃ wx, wx = wc := ⟨_, rfl⟩
  subst hwx
  obtain ⟨b, off, rfl, hcl⟩ := hR12.flat (by omega)
  obtain ⟨aj, nj, cj, hcell, hrdj⟩ := hcl k (by omega)
  have hgk : (pkM M xs k ++ [zer M]).getD k [] = zer M := getD_last HPL.out
  rw [hgk] at hrdj
  have hnj : nj = M := by rw [← hrdj.len, zer_len]
  rw [hnj] at hcell
  clear hnj
  have hd3 := hD3.lt
  have hbb : wr.heap.size ≤ b := hF12 _ rfl
  have hD12 : RC wx w1.heap.size M (.slice none 0 0) false := hDr.keep hK12 (fun h => by omega)
  have hrb12 : Rd wx ab nb cb (frms (pkM M xs k)) := hrb.keepN hK12 (fun h ad e => hCr.not_rd hrb h e)
  clear hR12 hcl hF12 hrdj hgk
  go_upto_region 13 with fail
  go_cut [13, 14] from 64 to 75 (fun l e wy => ∃ al cl av cv, l = .slice al k cl ∧ e = .int .i64 5 ∧ RC wy w1.heap.size M (.slice av 0 cv) true ∧ Keep (fun j => j = w1.heap.size) wx wy)
  case first =>
    have hCB : RC wx.drew w1.heap.size M (.slice none 0 0) false := hD12
    have hRB : Rd wx.drew ab nb cb (frms (pkM M xs k)) := hrb12.carry (Nat.le_refl _) ⟨rfl, rfl, rfl, Nat.le_refl _, fun _ _ => rfl⟩
    have hKB : Keep (fun j => j = w1.heap.size) wx wx.drew := (Keep.refl _ _).drew
    refine wp_region_px (fun _ => True) 14 (by kernel_rfl) (by kernel_rfl) ?_
    generalize wx.drew = WB at hCB hRB hKB
    refine px_rd 0 ?vQ0 (by kernel_rfl) (fun _ _ d _ _ h => by cases d <;> exact h) (by kernel_rfl) trivial rfl rfl rfl (fun w' _ => ?hQ0) ?_
    case hQ0 => first | (go_simp; rfl) | go_simp
    simp only [List.setIfInBounds_toArray, List.set_cons_zero, List.set_cons_succ]
    refine px_rd 2 ?vQ2 (by kernel_rfl) (fun _ _ d _ _ h => by cases d <;> exact h) (by kernel_rfl) trivial rfl rfl rfl (fun w' _ => ?hQ2) ?_
    case hQ2 => first | (go_simp; rfl) | go_simp
    simp only [List.setIfInBounds_toArray, List.set_cons_zero, List.set_cons_succ]
    refine px_rd 4 ?vQ4 (by kernel_rfl) (fun _ _ d _ _ h => by cases d <;> exact h) (by kernel_rfl) trivial rfl rfl rfl (fun w' _ => ?hQ4) ?_
    case hQ4 => first | (go_simp; rfl) | go_simp
    simp only [List.setIfInBounds_toArray, List.set_cons_zero, List.set_cons_succ]
    refine px_rd 5 (.int .i64 ((M + 1 : Nat) : Int)) (by kernel_rfl) (fun _ _ d _ _ h => by cases d <;> exact h) (by kernel_rfl) trivial rfl rfl rfl (fun w' _ => ?hQ5) ?_
    case hQ5 => go_simp; rw [wrapM]; unfold wrap64; omega
    simp only [List.setIfInBounds_toArray, List.set_cons_zero, List.set_cons_succ]
    refine px_two 1 6 (by kernel_rfl) ?pAQ ?pBQ
    case pAQ =>
      refine stepP_val (w' := (WB).alloc (.cells #[] 5)) (.slice (some ⟨(WB).heap.size, 0, none⟩) 0 0) rfl rfl rfl ?bQA trivial ?_
      case bQA => first | (go_simp; rfl) | go_simp
      simp only [List.setIfInBounds_toArray, List.set_cons_zero, List.set_cons_succ]
      have hgA : (WB.alloc (.cells #[] 5)).heap[WB.heap.size]? = some (.cells #[] 5 (0, 0)) := World.alloc_heap_new _ _
      have hRA : Rd (WB.alloc (.cells #[] 5)) ab nb cb (frms (pkM M xs k)) := hRB.carry (Nat.le_refl _) ((Below.refl _ _).alloc (Nat.le_refl _) _)
      refine px_two 3 6 (by kernel_rfl) ?pCQ ?pDQ
      case pCQ =>
        obtain ⟨ax, cx, X2, hap, hrx, hgx⟩ := run_app (WB.alloc (.cells #[] 5)) 31 WB.heap.size hgA ab nb cb _ hRA (by omega)
        refine stepP_val (w' := X2) (.slice ax nb cx) rfl rfl rfl ?pQC trivial ?_
        case pQC => exact run_app_op rfl rfl rfl hap
        simp only [List.setIfInBounds_toArray, List.set_cons_zero, List.set_cons_succ]
        clear hap
        refine px_one 6 (by kernel_rfl) ?_
        obtain ⟨X3, hmk, hrm, hgm⟩ := run_mk (X2) (M + 1) (by omega)
        refine stepP_val (w' := X3) (.slice (some ⟨(X2).heap.size, 0, none⟩) (M + 1) (M + 1)) rfl rfl rfl ?mQC trivial ?_
        case mQC => exact run_mk_op rfl rfl rfl hmk
        simp only [List.setIfInBounds_toArray, List.set_cons_zero, List.set_cons_succ]
        clear hmk
        have hX4 : Keep (fun j => j = w1.heap.size) WB X3 := (((Keep.refl _ WB).alloc _).andThen (Keep.ofGrown hgx) (fun i hi e => by cases e; omega)).andThen (Keep.ofGrown hgm) (fun i _ e => by cases e)
        have hX0 : Keep (fun _ => False) WB X3 := (((Keep.refl _ WB).alloc _).andThen (Keep.ofGrown hgx) (fun i hi e => by cases e; omega)).andThen (Keep.ofGrown hgm) (fun i _ e => by cases e)
        have hX1 : RC X3 w1.heap.size M (.slice none 0 0) false := hCB.keep hX0 (fun h => h)
        have hX2 : Rd X3 ax nb cx (frms (pkM M xs k)) := hrx.carry (Nat.le_refl _) ⟨hgm.os, hgm.tape, hgm.output, hgm.size, fun k hk => hgm.block k hk (by simp)⟩
        have hX3 : Rd X3 _ (M + 1) (M + 1) (zer (M + 1)) := hrm
        refine px_one 7 (by kernel_rfl) (stepP_call 17 ?qQC rfl rfl rfl ?rQC ?_)
        case rQC => first | (go_simp; rfl) | go_simp
        refine (put_feed w1.heap.size M ax nb cx _ _ (M + 1) (M + 1) (zer (M + 1)) X3 hX1 hX2 hX3 (by omega) (by omega) _ (cut_over (by omega))).mono ?_
        rintro e wp ⟨a3, n3, c3, rfl, hbp, HF⟩
        refine ⟨_, rfl, trivial, ?_⟩
        simp only [List.setIfInBounds_toArray, List.set_cons_zero, List.set_cons_succ]
        refine px_one 8 (by kernel_rfl) (stepP_call 11 ?sQC rfl rfl rfl ?tQC ?_)
        case tQC => first | (go_simp; rfl) | go_simp
        refine HF.mono ?_
        rintro e wf ⟨al, cl, av, cv, rfl, hrc, hrr, hfr, hKf⟩
        refine ⟨_, rfl, trivial, ?_⟩
        simp only [List.setIfInBounds_toArray, List.set_cons_zero, List.set_cons_succ]
        refine px_rd 9 ?vQC9 (by kernel_rfl) (fun _ _ d _ _ h => by cases d <;> exact h) (by kernel_rfl) trivial rfl rfl rfl (fun w' _ => ?hQC9) ?_
        case hQC9 => first | (go_simp; rfl) | go_simp
        simp only [List.setIfInBounds_toArray, List.set_cons_zero, List.set_cons_succ]
        refine px_rd 10 ?vQC10 (by kernel_rfl) (fun _ _ d _ _ h => by cases d <;> exact h) (by kernel_rfl) trivial rfl rfl rfl (fun w' _ => ?hQC10) ?_
        case hQC10 => first | (go_simp; rfl) | go_simp
        simp only [List.setIfInBounds_toArray, List.set_cons_zero, List.set_cons_succ]
        refine px_rd 11 ?vQC11 (by kernel_rfl) (fun _ _ d _ _ h => by cases d <;> exact h) (by kernel_rfl) trivial rfl rfl rfl (fun w' _ => ?hQC11) ?_
        case hQC11 => first | (go_simp; rfl) | go_simp
        simp only [List.setIfInBounds_toArray, List.set_cons_zero, List.set_cons_succ]
        refine px_rd 12 ?vQC12 (by kernel_rfl) (fun _ _ d _ _ h => by cases d <;> exact h) (by kernel_rfl) trivial rfl rfl rfl (fun w' _ => ?hQC12) ?_
        case hQC12 => first | (go_simp; rfl) | go_simp
        simp only [List.setIfInBounds_toArray, List.set_cons_zero, List.set_cons_succ]
        refine px_rd 13 ?vQC13 (by kernel_rfl) (fun _ _ d _ _ h => by cases d <;> exact h) (by kernel_rfl) trivial rfl rfl rfl (fun w' _ => ?hQC13) ?_
        case hQC13 => first | (go_simp; rfl) | go_simp
        simp only [List.setIfInBounds_toArray, List.set_cons_zero, List.set_cons_succ]
        refine px_nil (by kernel_rfl) ?_
        have e1 : (pkM M xs k, ([] : List Int), true).1.length = k := HPL.out
        have hrr' : RRd wf al k (pkM M xs k) := by rw [e1] at hrr; exact hrr
        go_wp2
        go_meet
        exact ⟨al, cl, av, cv, rfl, rfl, hrc, (hKB.trans hX4).trans hKf⟩
      case pDQ =>
        obtain ⟨X2, hmk, hrm, hgm⟩ := run_mk (WB.alloc (.cells #[] 5)) (M + 1) (by omega)
        rw [World.size_alloc] at hmk hrm
        refine stepP_val (w' := X2) (.slice (some ⟨WB.heap.size + 1, 0, none⟩) (M + 1) (M + 1)) rfl rfl rfl ?mQD trivial ?_
        case mQD => exact run_mk_op rfl rfl rfl hmk
        simp only [List.setIfInBounds_toArray, List.set_cons_zero, List.set_cons_succ]
        clear hmk
        have hb2 : Below (WB.alloc (.cells #[] 5)).heap.size (WB.alloc (.cells #[] 5)) X2 := ⟨hgm.os, hgm.tape, hgm.output, hgm.size, fun k hk => hgm.block k hk (by simp)⟩
        refine px_one 3 (by kernel_rfl) ?_
        obtain ⟨ax, cx, X3, hap, hrx, hgx⟩ := run_app (X2) 31 WB.heap.size ((hb2.block _ (by simp)).trans hgA) ab nb cb _ (hRA.carry (Nat.le_refl _) hb2) (by omega)
        refine stepP_val (w' := X3) (.slice ax nb cx) rfl rfl rfl ?pQD trivial ?_
        case pQD => exact run_app_op rfl rfl rfl hap
        simp only [List.setIfInBounds_toArray, List.set_cons_zero, List.set_cons_succ]
        clear hap
        have hX4 : Keep (fun j => j = w1.heap.size) WB X3 := (((Keep.refl _ WB).alloc _).andThen (Keep.ofGrown hgm) (fun i _ e => by cases e)).andThen (Keep.ofGrown hgx) (fun i hi e => by cases e; omega)
        have hX0 : Keep (fun _ => False) WB X3 := (((Keep.refl _ WB).alloc _).andThen (Keep.ofGrown hgm) (fun i _ e => by cases e)).andThen (Keep.ofGrown hgx) (fun i hi e => by cases e; omega)
        have hX1 : RC X3 w1.heap.size M (.slice none 0 0) false := hCB.keep hX0 (fun h => h)
        have hX2 : Rd X3 ax nb cx (frms (pkM M xs k)) := hrx
        have hX3 : Rd X3 _ (M + 1) (M + 1) (zer (M + 1)) := hrm.keepN (Keep.ofGrown hgx) (fun _ ad ha h => by cases ha; simp at h)
        refine px_one 7 (by kernel_rfl) (stepP_call 17 ?qQD rfl rfl rfl ?rQD ?_)
        case rQD => first | (go_simp; rfl) | go_simp
        refine (put_feed w1.heap.size M ax nb cx _ _ (M + 1) (M + 1) (zer (M + 1)) X3 hX1 hX2 hX3 (by omega) (by omega) _ (cut_over (by omega))).mono ?_
        rintro e wp ⟨a3, n3, c3, rfl, hbp, HF⟩
        refine ⟨_, rfl, trivial, ?_⟩
        simp only [List.setIfInBounds_toArray, List.set_cons_zero, List.set_cons_succ]
        refine px_one 8 (by kernel_rfl) (stepP_call 11 ?sQD rfl rfl rfl ?tQD ?_)
        case tQD => first | (go_simp; rfl) | go_simp
        refine HF.mono ?_
        rintro e wf ⟨al, cl, av, cv, rfl, hrc, hrr, hfr, hKf⟩
        refine ⟨_, rfl, trivial, ?_⟩
        simp only [List.setIfInBounds_toArray, List.set_cons_zero, List.set_cons_succ]
        refine px_rd 9 ?vQD9 (by kernel_rfl) (fun _ _ d _ _ h => by cases d <;> exact h) (by kernel_rfl) trivial rfl rfl rfl (fun w' _ => ?hQD9) ?_
        case hQD9 => first | (go_simp; rfl) | go_simp
        simp only [List.setIfInBounds_toArray, List.set_cons_zero, List.set_cons_succ]
        refine px_rd 10 ?vQD10 (by kernel_rfl) (fun _ _ d _ _ h => by cases d <;> exact h) (by kernel_rfl) trivial rfl rfl rfl (fun w' _ => ?hQD10) ?_
        case hQD10 => first | (go_simp; rfl) | go_simp
        simp only [List.setIfInBounds_toArray, List.set_cons_zero, List.set_cons_succ]
        refine px_rd 11 ?vQD11 (by kernel_rfl) (fun _ _ d _ _ h => by cases d <;> exact h) (by kernel_rfl) trivial rfl rfl rfl (fun w' _ => ?hQD11) ?_
        case hQD11 => first | (go_simp; rfl) | go_simp
        simp only [List.setIfInBounds_toArray, List.set_cons_zero, List.set_cons_succ]
        refine px_rd 12 ?vQD12 (by kernel_rfl) (fun _ _ d _ _ h => by cases d <;> exact h) (by kernel_rfl) trivial rfl rfl rfl (fun w' _ => ?hQD12) ?_
        case hQD12 => first | (go_simp; rfl) | go_simp
        simp only [List.setIfInBounds_toArray, List.set_cons_zero, List.set_cons_succ]
        refine px_rd 13 ?vQD13 (by kernel_rfl) (fun _ _ d _ _ h => by cases d <;> exact h) (by kernel_rfl) trivial rfl rfl rfl (fun w' _ => ?hQD13) ?_
        case hQD13 => first | (go_simp; rfl) | go_simp
        simp only [List.setIfInBounds_toArray, List.set_cons_zero, List.set_cons_succ]
        refine px_nil (by kernel_rfl) ?_
        have e1 : (pkM M xs k, ([] : List Int), true).1.length = k := HPL.out
        have hrr' : RRd wf al k (pkM M xs k) := by rw [e1] at hrr; exact hrr
        go_wp2
        go_meet
        exact ⟨al, cl, av, cv, rfl, rfl, hrc, (hKB.trans hX4).trans hKf⟩
    case pBQ =>
      obtain ⟨X1, hmk, hrm, hgm⟩ := run_mk (WB) (M + 1) (by omega)
      refine stepP_val (w' := X1) (.slice (some ⟨(WB).heap.size, 0, none⟩) (M + 1) (M + 1)) rfl rfl rfl ?mQB trivial ?_
      case mQB => exact run_mk_op rfl rfl rfl hmk
      simp only [List.setIfInBounds_toArray, List.set_cons_zero, List.set_cons_succ]
      clear hmk
      have hb1 : Below WB.heap.size WB X1 := ⟨hgm.os, hgm.tape, hgm.output, hgm.size, fun k hk => hgm.block k hk (by simp)⟩
      have hs1 := hb1.size
      refine px_one 1 (by kernel_rfl) ?_
      refine stepP_val (w' := (X1).alloc (.cells #[] 5)) (.slice (some ⟨(X1).heap.size, 0, none⟩) 0 0) rfl rfl rfl ?bQB trivial ?_
      case bQB => first | (go_simp; rfl) | go_simp
      simp only [List.setIfInBounds_toArray, List.set_cons_zero, List.set_cons_succ]
      have hgB : (X1.alloc (.cells #[] 5)).heap[X1.heap.size]? = some (.cells #[] 5 (0, 0)) := World.alloc_heap_new _ _
      have hbA : Below X1.heap.size X1 (X1.alloc (.cells #[] 5)) := (Below.refl _ _).alloc (Nat.le_refl _) _
      refine px_one 3 (by kernel_rfl) ?_
      obtain ⟨ax, cx, X3, hap, hrx, hgx⟩ := run_app (X1.alloc (.cells #[] 5)) 31 X1.heap.size hgB ab nb cb _ ((hRB.carry (Nat.le_refl _) hb1).carry (Nat.le_refl _) hbA) (by omega)
      refine stepP_val (w' := X3) (.slice ax nb cx) rfl rfl rfl ?pQB trivial ?_
      case pQB => exact run_app_op rfl rfl rfl hap
      simp only [List.setIfInBounds_toArray, List.set_cons_zero, List.set_cons_succ]
      clear hap
      have hX4 : Keep (fun j => j = w1.heap.size) WB X3 := (((Keep.ofGrown hgm).mono (fun i e => by cases e)).alloc _).andThen (Keep.ofGrown hgx) (fun i hi e => by cases e; omega)
      have hX0 : Keep (fun _ => False) WB X3 := (((Keep.ofGrown hgm).mono (fun i e => by cases e)).alloc _).andThen (Keep.ofGrown hgx) (fun i hi e => by cases e; omega)
      have hX1 : RC X3 w1.heap.size M (.slice none 0 0) false := hCB.keep hX0 (fun h => h)
      have hX2 : Rd X3 ax nb cx (frms (pkM M xs k)) := hrx
      have hX3 : Rd X3 _ (M + 1) (M + 1) (zer (M + 1)) := (hrm.carry (Nat.le_refl _) hbA).keepN (Keep.ofGrown hgx) (fun hn ad ha h => by cases ha; have e := Option.some.inj h; have hb := hrm.blk hn rfl; simp only at e hb; omega)
      refine px_one 7 (by kernel_rfl) (stepP_call 17 ?qQB rfl rfl rfl ?rQB ?_)
      case rQB => first | (go_simp; rfl) | go_simp
      refine (put_feed w1.heap.size M ax nb cx _ _ (M + 1) (M + 1) (zer (M + 1)) X3 hX1 hX2 hX3 (by omega) (by omega) _ (cut_over (by omega))).mono ?_
      rintro e wp ⟨a3, n3, c3, rfl, hbp, HF⟩
      refine ⟨_, rfl, trivial, ?_⟩
      simp only [List.setIfInBounds_toArray, List.set_cons_zero, List.set_cons_succ]
      refine px_one 8 (by kernel_rfl) (stepP_call 11 ?sQB rfl rfl rfl ?tQB ?_)
      case tQB => first | (go_simp; rfl) | go_simp
      refine HF.mono ?_
      rintro e wf ⟨al, cl, av, cv, rfl, hrc, hrr, hfr, hKf⟩
      refine ⟨_, rfl, trivial, ?_⟩
      simp only [List.setIfInBounds_toArray, List.set_cons_zero, List.set_cons_succ]
      refine px_rd 9 ?vQB9 (by kernel_rfl) (fun _ _ d _ _ h => by cases d <;> exact h) (by kernel_rfl) trivial rfl rfl rfl (fun w' _ => ?hQB9) ?_
      case hQB9 => first | (go_simp; rfl) | go_simp
      simp only [List.setIfInBounds_toArray, List.set_cons_zero, List.set_cons_succ]
      refine px_rd 10 ?vQB10 (by kernel_rfl) (fun _ _ d _ _ h => by cases d <;> exact h) (by kernel_rfl) trivial rfl rfl rfl (fun w' _ => ?hQB10) ?_
      case hQB10 => first | (go_simp; rfl) | go_simp
      simp only [List.setIfInBounds_toArray, List.set_cons_zero, List.set_cons_succ]
      refine px_rd 11 ?vQB11 (by kernel_rfl) (fun _ _ d _ _ h => by cases d <;> exact h) (by kernel_rfl) trivial rfl rfl rfl (fun w' _ => ?hQB11) ?_
      case hQB11 => first | (go_simp; rfl) | go_simp
      simp only [List.setIfInBounds_toArray, List.set_cons_zero, List.set_cons_succ]
      refine px_rd 12 ?vQB12 (by kernel_rfl) (fun _ _ d _ _ h => by cases d <;> exact h) (by kernel_rfl) trivial rfl rfl rfl (fun w' _ => ?hQB12) ?_
      case hQB12 => first | (go_simp; rfl) | go_simp
      simp only [List.setIfInBounds_toArray, List.set_cons_zero, List.set_cons_succ]
      refine px_rd 13 ?vQB13 (by kernel_rfl) (fun _ _ d _ _ h => by cases d <;> exact h) (by kernel_rfl) trivial rfl rfl rfl (fun w' _ => ?hQB13) ?_
      case hQB13 => first | (go_simp; rfl) | go_simp
      simp only [List.setIfInBounds_toArray, List.set_cons_zero, List.set_cons_succ]
      refine px_nil (by kernel_rfl) ?_
      have e1 : (pkM M xs k, ([] : List Int), true).1.length = k := HPL.out
      have hrr' : RRd wf al k (pkM M xs k) := by rw [e1] at hrr; exact hrr
      go_wp2
      go_meet
      exact ⟨al, cl, av, cv, rfl, rfl, hrc, (hKB.trans hX4).trans hKf⟩
  case rest =>
  obtain ⟨al2, cl2, av2, cv2, rfl, rfl, hC13, hK13⟩ := hcut
  obtain ⟨wy, hwy⟩ : ∃ wy, wy = wc := ⟨_, rfl⟩
  subst hwy
  have hR13 : RC wy w.heap.size M (.slice av 0 cv) false := hC12.keep hK13 (fun h => by omega)
  have hcy : wy.cell? ⟨b, off + k, none⟩ = some (.slice aj M cj) := hK13.cell hcell (fun h => by have h' : b = w1.heap.size := h; omega)
  have hBy : Below w.heap.size w wy := (hBw.trans (hK12.below hBw.size (fun j e => by omega))).trans (hK13.below (Nat.le_trans hBw.size hK12.size) (fun j e => by omega))
  clear hK12 hK13 hC12 hcell hB hB3 hBw
  have hadd : wrap64 ((k : Int) + 1) = ((k + 1 : Nat) : Int) := by unfold wrap64; omega
  clear hR hmx hxl hs1 s3 hC3 hD3 hkn hrb hnb hBs HPL hCr hDr hKL hd3 hbb hD12 hrb12 hpq
  have s1 : True := trivial
  go_wp2_with (first
    | (go_at_call 15; clear s1; refine (held_any w.heap.size M av 0 cv false _ hR13).mono ?_; rintro e wq ⟨rfl, rfl⟩)
    | (go_at_call 15; refine (held_any w1.heap.size M av2 0 cv2 true _ hC13).mono ?_; rintro e wq ⟨rfl, rfl⟩)
    | (go_at_call 17; refine (putR none 0 0 [] none 0 0 [] _ (rd_nil _) (rd_nil _) (by omega) (by omega)).mono ?_; rintro e w8 ⟨a8, n8, c8, rfl, -, -, hb8, -⟩; have hC8 : RC w8 w1.heap.size M (.slice av2 0 cv2) true := (hb8.block _ hC13.lt).trans hC13)
    | (go_at_call 11; refine (feed_big w1.heap.size M _ a8 n8 c8 _ hC8).mono ?_; rintro e w9 ⟨rfl, rfl⟩))
  go_ret
  exact ⟨rfl, hBy.trans (hb8.mono hBy.size)⟩

theorem own : ownKnob Try.prog.godebug = none := by kernel_rfl
theorem laidOut : laidOutB Try.prog = true := by kernel_rfl

set_option maxRecDepth 100000 in
theorem lifted (os : Os) (started : os.Started) (H : Type) (enc : TypeId × Value → H) :
    ReturnsInHanded {} Try.checked os 7 .any (Rows.frameMostSpec.pre6 enc Try.prog Try.f7 Rows.frameMostRow.domain false) (Rows.frameMostSpec.post enc Try.prog Try.f7 false true false false) := by
  refine returnsInHanded_of_change (C := Try.checked) own started (by kernel_rfl) Try.func7
    (ChangeSpec.witness6 (enc := enc) (C := Try.checked) false ⟨#[], #[.int .i64 0, .slice none 0 0], []⟩ 8 (by kernel_rfl) (by kernel_rfl) (by kernel_rfl) (by kernel_rfl)) ?_
  intro W base args ds gs before hval0 hW hcnd _
  have hval : ∀ (j : Nat) t v, Try.f7.params[j]? = some t → args[j]? = some v → Value.okWide Try.prog W .any base t v := hval0
  have hW' := hW
  obtain ⟨p, q, hA0, hV, rfl, hfz, hnd⟩ := hW
  have hA : DataW.TrodAll enc Try.prog W 0 (fun _ => true) true Try.f7.params.toList args.toList ds p := hA0
  rw [Try.params7] at hA hval
  obtain ⟨v0, vs0, d0, ds0, p0, q0, hargs, rfl, rfl, h0, r0⟩ := trodAll_cons hA
  obtain ⟨v1, vs1, d1, ds1, p1, q1, rfl, rfl, rfl, h1, r1⟩ := trodAll_cons r0
  obtain ⟨rfl, rfl, rfl⟩ := trodAll_nil r1
  obtain rfl : args = #[v0, v1] := by cases args; simp_all
  obtain ⟨rfl, rfl⟩ := trodVars_none hV
  obtain ⟨a0, rfl, rfl, rfl, w0⟩ := open_int Try.underlying3 (hval 0 3 v0 rfl rfl) h0
  have g0 := bounds_i64 w0
  obtain ⟨a1, len1, cap1, rfl⟩ := okWide_slice Try.underlying22 (hval 1 22 v1 rfl rfl)
  have k1 := h1
  have lt1 : ∀ x ∈ p1, x.block < W.heap.size := by obtain ⟨m, hm⟩ := k1; exact DataW.trod_lt m _ _ _ hm
  obtain ⟨z1, hR1⟩ : ∃ zs, RRd W a1 len1 zs := rrd_of_trod h1
  clear hA0 hval0
  refine (walk a0 a1 len1 cap1 z1 W hR1).mono fun e W' ⟨he, bel⟩ => ?_
  subst he
  exact ⟨_, rfl, _, _, _, [], _, [], hW', trodAll_mk1 (shut_bool Try.underlying4 _), (trodAll_cons_mk (shut_int Try.underlying3 w0) (trodAll_cons_mk (Below.trod laidOut (by kernel_rfl) (of_decide_eq_true (by kernel_rfl)) k1 bel lt1) trodAll_mk0)), rfl, bel.frame _, fun h => by cases h⟩

end Go.Proofs.Ytmpoddgmkneffaa.frameMost

namespace Go.Proofs.Ytmpoddgmkneffaa
theorem frameMost_holds : Rows.FrameMostSaid :=
  OpenClaim.holds_of_wide 7 Try.f7 rfl rfl rfl rfl rfl rfl rfl ⟨rfl, rfl, rfl, rfl, rfl⟩ rfl rfl rfl rfl rfl (by kernel_rfl) Try.func7 (by kernel_rfl)
    (of_decide_eq_true (by kernel_rfl)) (by unfold Func.isWrapper; first | (rw [if_pos (by decide +kernel)]; kernel_rfl) | (rw [if_neg (by decide +kernel)]; exact ⟨rfl, rfl⟩))
    (fun os started H enc _ => frameMost.lifted os started H enc)
#print axioms frameMost_holds
end Go.Proofs.Ytmpoddgmkneffaa
