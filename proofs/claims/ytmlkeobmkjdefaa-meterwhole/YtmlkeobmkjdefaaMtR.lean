/- The document's bucket: New, wrong, Level, Wait, Take: as the program's, the rate without its sign where it is nothing. -/
import Derived.Test.YtmlkeobmkjdefaaMtD
namespace Go.Proofs.Ytmlkeobmkjdefaa
open Go.RowKit

abbrev RBAt := BkT 58

theorem amt_split (x : Nat) : amt x = (!Fl.nan x && !flt x 0) := by
  unfold amt fle flt
  rw [nan_pos zero_inf, sr_pos zero_inf]
  cases Fl.nan x
  · by_cases h : Fl.sr x < 0
    · rw [decide_eq_true (show Fl.sr x < ((0 : Nat) : Int) from h), decide_eq_false (show ¬ ((0 : Nat) : Int) ≤ Fl.sr x by omega)]; rfl
    · rw [decide_eq_false (show ¬ Fl.sr x < ((0 : Nat) : Int) from h), decide_eq_true (show ((0 : Nat) : Int) ≤ Fl.sr x by omega)]; rfl
  · rfl

theorem add_zero {x : Nat} (h : amt x = true) (h64 : x < 2 ^ 64) : Ieee.double.add x 0 = some (nz x) := by
  unfold nz
  rcases (amt_iff h64).1 h with g | g
  · rw [feq_pos g zero_inf]
    have e1 : (if decide (x = 0) = true then 0 else x) = x := by
      by_cases hx : x = 0
      · subst hx; rfl
      · rw [decide_eq_false hx]; rfl
    rw [e1]
    rcases Nat.lt_or_eq_of_le g with g2 | g2
    · rw [Fl.add_pos g2 (by decide), Fl.vl_zero, Nat.add_zero, Fl.rnd_vl g]
    · subst g2; decide
  · subst g; decide

theorem nz_amt {x : Nat} (h : amt x = true) (h64 : x < 2 ^ 64) : amt (nz x) = true ∧ nz x < 2 ^ 64 := by
  unfold nz
  split
  · decide
  · exact ⟨h, h64⟩

def newR (r s : Nat) : Bk := ⟨nz r, nz s, nz s, NI⟩
theorem newR_ok {r s : Nat} (hr : r < 2 ^ 64) (hs : s < 2 ^ 64) (h : fine r s = true) : (newR r s).Ok := by
  unfold fine at h
  simp only [Bool.and_eq_true, Bool.not_eq_true', decide_eq_false_iff_not] at h
  obtain ⟨⟨h1, h2⟩, h3⟩ := h
  exact ⟨(nz_amt h1 hr).1, (nz_amt h1 hr).2, nz_fin h2 hs h3, Nat.le_refl _, (show Fl.nan NI = false by decide), (show NI < 2 ^ 64 by decide)⟩

set_option maxRecDepth 100000 in
set_option maxHeartbeats 1000000 in
theorem rnew_bad (r s : Nat) (hs : s < 2 ^ 64) (h : fine r s = false) (w : World) :
    Calls Try.prog 10 #[.float .f64 r, .float .f64 s] w fun e w' => e = .returned (.tuple #[.pointer none, .bool false]) ∧ w' = w := by
  have iI := fun w => isInf_pos s hs w
  have q1 := nan_neq r
  have q2 := nan_neq s
  have q3 := f64_lt r 0
  have q4 := f64_lt s 0
  unfold fine at h
  rw [amt_split, amt_split] at h
  cases g0 : Fl.nan r with
  | true =>
    rw [g0] at q1
    clear h iI
    go_enter Try.func10, Try.ntmps10
    go_wp2
    go_ret2
    exact ⟨rfl, rfl⟩
  | false =>
  rw [g0] at q1 h
  cases g1 : Fl.nan s with
  | true =>
    rw [g1] at q2
    clear h iI
    go_enter Try.func10, Try.ntmps10
    go_wp2
    go_ret2
    exact ⟨rfl, rfl⟩
  | false =>
  rw [g1] at q2 h
  cases g2 : flt r 0 with
  | true =>
    rw [g2] at q3
    clear h iI
    go_enter Try.func10, Try.ntmps10
    go_wp2
    go_ret2
    exact ⟨rfl, rfl⟩
  | false =>
  rw [g2] at q3 h
  cases g3 : flt s 0 with
  | true =>
    rw [g3] at q4
    clear h iI
    go_enter Try.func10, Try.ntmps10
    go_wp2
    go_ret2
    exact ⟨rfl, rfl⟩
  | false =>
  rw [g3] at q4 h
  have g5 : decide (s = Fl.inf) = true := by simpa using h
  rw [g5] at iI
  clear h g5
  go_enter Try.func10, Try.ntmps10
  go_wp2_with (first
    | (go_at_call 20; refine (iI _).mono ?_; clear iI; rintro e w1 ⟨rfl, rfl⟩))
  go_ret2
  exact ⟨rfl, rfl⟩

set_option maxRecDepth 100000 in
set_option maxHeartbeats 1000000 in
theorem rnew_ok (r s : Nat) (hr : r < 2 ^ 64) (hs : s < 2 ^ 64) (h : fine r s = true) (w : World) :
    Calls Try.prog 10 #[.float .f64 r, .float .f64 s] w fun e w' => ∃ p, e = .returned (.tuple #[.pointer (some ⟨p, 0, none⟩), .bool true]) ∧ RBAt w' p (newR r s) ∧ w.heap.size ≤ p ∧ Below w.heap.size w w' := by
  have iI := fun w => isInf_pos s hs w
  have hf := inf_any
  have q1 := nan_neq r
  have q2 := nan_neq s
  have q3 := f64_lt r 0
  have q4 := f64_lt s 0
  unfold fine at h
  simp only [Bool.and_eq_true, Bool.not_eq_true'] at h
  obtain ⟨⟨g1, g2⟩, g3⟩ := h
  have a1 := add_zero g1 hr
  have a2 := add_zero g2 hs
  rw [amt_split] at g1 g2
  simp only [Bool.and_eq_true, Bool.not_eq_true'] at g1 g2
  rw [g1.1] at q1
  rw [g1.2] at q3
  rw [g2.1] at q2
  rw [g2.2] at q4
  rw [g3] at iI
  have f1 : ∀ w : World, (binOp .add 24 (.float .f64 r) (.float .f64 0)).run Try.prog w = .ok (.float .f64 (nz r)) w := fun w => run_float_arith w .add 24 .f64 _ _ _ a1
  have f2 : ∀ w : World, (binOp .add 24 (.float .f64 s) (.float .f64 0)).run Try.prog w = .ok (.float .f64 (nz s)) w := fun w => run_float_arith w .add 24 .f64 _ _ _ a2
  have f3 : RBAt (w.alloc (Obj.cells #[.float .f64 (nz r), .float .f64 (nz s), .float .f64 (nz s), .float .f64 NI] 58)) w.heap.size (newR r s) := BkT.new w (newR r s)
  have f4 : Below w.heap.size w (w.alloc (Obj.cells #[.float .f64 (nz r), .float .f64 (nz s), .float .f64 (nz s), .float .f64 NI] 58)) := ((Keep.refl (fun _ => False) _).alloc _).below (Nat.le_refl _) (fun _ h => h.elim)
  clear a1 a2 g1 g2 g3
  go_enter Try.func10, Try.ntmps10
  go_wp2_with (first
    | (go_at_call 20; refine (iI _).mono ?_; clear iI; rintro e w1 ⟨rfl, rfl⟩)
    | (go_at_call 22; refine (hf _).mono ?_; clear hf; rintro e w1 ⟨rfl, rfl⟩))
  go_ret2
  exact ⟨_, rfl, f3, Nat.le_refl _, f4⟩

set_option maxRecDepth 100000 in
set_option maxHeartbeats 1000000 in
theorem wrong_any (p : Nat) (b : Bk) (now cost : Nat) (hn : now < 2 ^ 64) (w : World) (hB : RBAt w p b) :
    Calls Try.prog 27 #[.pointer (some ⟨p, 0, none⟩), .float .f64 now, .float .f64 cost] w fun e w' => e = .returned (.int .i64 (chk b.s now cost)) ∧ w' = w := by
  have iI := fun w => isInf_neg now hn w
  have h1 := hB.c1
  have hgt := f64_gt cost b.s
  have q1 := nan_neq now
  have q2 := nan_neq cost
  have q3 := f64_lt cost 0
  have ha := amt_split cost
  cases g1 : Fl.nan now with
  | true =>
    have HE : Hid (chk b.s now cost = 1) := by unfold Hid chk; rw [g1]; simp
    rw [g1] at q1
    clear ha
    go_enter Try.func27, Try.ntmps27
    go_wp2_with (first
      | (go_at_call 20; refine (iI _).mono ?_; clear iI; rintro e w1 ⟨rfl, rfl⟩))
    go_ret
    exact ⟨by rw [HE.out]; rfl, rfl⟩
  | false =>
  rw [g1] at q1
  cases g2 : Fl.nan cost with
  | true =>
    have hx : amt cost = false := by rw [ha, g2]; rfl
    have HE : Hid (chk b.s now cost = 1) := by unfold Hid chk; rw [hx]; simp
    rw [g2] at q2
    clear ha
    go_enter Try.func27, Try.ntmps27
    go_wp2_with (first
      | (go_at_call 20; refine (iI _).mono ?_; clear iI; rintro e w1 ⟨rfl, rfl⟩))
    go_ret
    exact ⟨by rw [HE.out]; rfl, rfl⟩
  | false =>
  rw [g2] at q2
  cases g3 : decide (now = NI) with
  | true =>
    have HE : Hid (chk b.s now cost = 1) := by unfold Hid chk; rw [g3]; simp
    rw [g3] at iI
    clear ha
    go_enter Try.func27, Try.ntmps27
    go_wp2_with (first
      | (go_at_call 20; refine (iI _).mono ?_; clear iI; rintro e w1 ⟨rfl, rfl⟩))
    go_ret
    exact ⟨by rw [HE.out]; rfl, rfl⟩
  | false =>
  rw [g3] at iI
  cases g4 : flt cost 0 with
  | true =>
    have hx : amt cost = false := by rw [ha, g2, g4]; rfl
    have HE : Hid (chk b.s now cost = 1) := by unfold Hid chk; rw [hx]; simp
    rw [g4] at q3
    clear ha
    go_enter Try.func27, Try.ntmps27
    go_wp2_with (first
      | (go_at_call 20; refine (iI _).mono ?_; clear iI; rintro e w1 ⟨rfl, rfl⟩))
    go_ret
    exact ⟨by rw [HE.out]; rfl, rfl⟩
  | false =>
  rw [g4] at q3
  have hx : amt cost = true := by rw [ha, g2, g4]; rfl
  cases g5 : flt b.s cost with
  | true =>
    have HE : Hid (chk b.s now cost = 3) := by unfold Hid chk; rw [g1, g3, hx, g5]; simp
    rw [g5] at hgt
    clear ha
    go_enter Try.func27, Try.ntmps27
    go_wp2_with (first
      | (go_at_call 20; refine (iI _).mono ?_; clear iI; rintro e w1 ⟨rfl, rfl⟩))
    go_ret
    exact ⟨by rw [HE.out]; rfl, rfl⟩
  | false =>
    have HE : Hid (chk b.s now cost = 0) := by unfold Hid chk; rw [g1, g3, hx, g5]; simp
    rw [g5] at hgt
    clear ha
    go_enter Try.func27, Try.ntmps27
    go_wp2_with (first
      | (go_at_call 20; refine (iI _).mono ?_; clear iI; rintro e w1 ⟨rfl, rfl⟩))
    go_ret
    exact ⟨by rw [HE.out]; rfl, rfl⟩

set_option maxRecDepth 100000 in
set_option maxHeartbeats 2000000 in
theorem rlevel_any (p : Nat) (b : Bk) (hb : b.Ok) (now : Nat) (hn : now < 2 ^ 64) (w : World) (hB : RBAt w p b) :
    Calls Try.prog 14 #[.pointer (some ⟨p, 0, none⟩), .float .f64 now] w fun e w' => e = .returned (.float .f64 (b.lvl now)) ∧ ∃ k, w' = w.drewN k := by
  have q1 := nan_neq now
  have iT := fun w => isInf_neg b.t hb.t64 w
  have iR := fun w => isInf_pos b.r hb.r64 w
  have iW := fun w => isInf_pos now hn w
  have h0 := hB.c0
  have h1 := hB.c1
  have h2 := hB.c2
  have h3 := hB.c3
  have hle := f64_le now b.t
  have heq := f64_eq b.r 0
  have hne := f64_ne b.r 0
  cases gn : Fl.nan now with
  | true =>
    have HE : Hid (b.lvl now = b.l) := by unfold Hid Bk.lvl Bk.old; rw [gn]; rfl
    rw [gn] at q1
    generalize decide (b.t = NI) = bt at iT
    go_enter Try.func14, Try.ntmps14
    go_wp2_with (first
      | (go_at_call 20; refine (iT _).mono ?_; clear iT; rintro e w1 ⟨rfl, rfl⟩))
    go_ret
    exact ⟨by rw [HE.out]; rfl, 0, rfl⟩
  | false =>
  rw [gn] at q1
  by_cases gt : b.t = NI
  · have HE : Hid (b.lvl now = b.l) := by unfold Hid Bk.lvl Bk.old; rw [gn, decide_eq_true gt]; rfl
    rw [decide_eq_true gt] at iT
    clear gt
    go_enter Try.func14, Try.ntmps14
    go_wp2_with (first
      | (go_at_call 20; refine (iT _).mono ?_; clear iT; rintro e w1 ⟨rfl, rfl⟩))
    go_ret
    exact ⟨by rw [HE.out]; rfl, 0, rfl⟩
  rw [decide_eq_false gt] at iT
  cases gl : fle now b.t with
  | true =>
    have HE : Hid (b.lvl now = b.l) := by unfold Hid Bk.lvl Bk.old; rw [gn, decide_eq_false gt, gl]; rfl
    rw [gl] at hle
    clear gt
    go_enter Try.func14, Try.ntmps14
    go_wp2_with (first
      | (go_at_call 20; refine (iT _).mono ?_; clear iT; rintro e w1 ⟨rfl, rfl⟩))
    go_ret
    exact ⟨by rw [HE.out]; rfl, 0, rfl⟩
  | false =>
  have ho : b.old now = false := by unfold Bk.old; rw [gn, decide_eq_false gt, gl]; rfl
  rw [gl] at hle
  by_cases gr : b.r = Fl.inf
  · have HE : Hid (b.lvl now = b.s) := by unfold Hid Bk.lvl Bk.full; rw [ho, decide_eq_true gr]; rfl
    rw [decide_eq_true gr] at iR
    clear gt gr heq hne
    go_enter Try.func14, Try.ntmps14
    go_wp2_with (first
      | (go_at_call 20; first | (refine (iT _).mono ?_; clear iT; rintro e w1 ⟨rfl, rfl⟩) | (refine (iR _).mono ?_; clear iR; rintro e w1 ⟨rfl, rfl⟩)))
    go_ret
    exact ⟨by rw [HE.out]; rfl, 0, rfl⟩
  rw [decide_eq_false gr] at iR
  cases g0 : feq b.r 0 with
  | true =>
    have HE : Hid (b.lvl now = b.l) := by unfold Hid Bk.lvl Bk.full; rw [ho, decide_eq_false gr, g0]; simp
    rw [g0] at heq hne
    clear gt gr
    generalize decide (now = Fl.inf) = bw at iW
    cases bw
    · go_enter Try.func14, Try.ntmps14
      go_wp2_with (first
        | (go_at_call 20; first | (refine (iT _).mono ?_; clear iT; rintro e w1 ⟨rfl, rfl⟩) | (refine (iR _).mono ?_; clear iR; rintro e w1 ⟨rfl, rfl⟩) | (refine (iW _).mono ?_; clear iW; rintro e w1 ⟨rfl, rfl⟩)))
      go_ret
      exact ⟨by rw [HE.out]; rfl, 0, rfl⟩
    · go_enter Try.func14, Try.ntmps14
      go_wp2_with (first
        | (go_at_call 20; first | (refine (iT _).mono ?_; clear iT; rintro e w1 ⟨rfl, rfl⟩) | (refine (iR _).mono ?_; clear iR; rintro e w1 ⟨rfl, rfl⟩) | (refine (iW _).mono ?_; clear iW; rintro e w1 ⟨rfl, rfl⟩)))
      go_ret
      exact ⟨by rw [HE.out]; rfl, 0, rfl⟩
  | false =>
  by_cases gw : now = Fl.inf
  · have HE : Hid (b.lvl now = b.s) := by unfold Hid Bk.lvl Bk.full; rw [ho, decide_eq_false gr, decide_eq_true gw, g0]; rfl
    rw [g0] at heq hne
    rw [decide_eq_true gw] at iW
    clear gt gr gw
    go_enter Try.func14, Try.ntmps14
    go_wp2_with (first
      | (go_at_call 20; first | (refine (iT _).mono ?_; clear iT; rintro e w1 ⟨rfl, rfl⟩) | (refine (iR _).mono ?_; clear iR; rintro e w1 ⟨rfl, rfl⟩) | (refine (iW _).mono ?_; clear iW; rintro e w1 ⟨rfl, rfl⟩)))
    go_ret
    exact ⟨by rw [HE.out]; rfl, 0, rfl⟩
  obtain ⟨d, q, v, e1, e2, e3, hd, hq, hv, hg⟩ := grown_some hb hn gn gw gt gl gr g0
  have HE : Hid (b.lvl now = min b.s v) := by unfold Hid Bk.lvl Bk.full; rw [ho, decide_eq_false gr, decide_eq_false gw, g0, hg]; rfl
  rw [g0] at heq hne
  rw [decide_eq_false gw] at iW
  have f1 : ∀ w : World, (binOp .sub 24 (.float .f64 now) (.float .f64 b.t)).run Try.prog w = .ok (.float .f64 d) w := fun w => run_float_arith w .sub 24 .f64 now b.t d e1
  have f2 : ∀ w : World, (binOp .mul 24 (.float .f64 d) (.float .f64 b.r)).run Try.prog w = .ok (.float .f64 q) w := fun w => run_float_arith w .mul 24 .f64 d b.r q e2
  have f3 : ∀ w : World, (binOp .add 24 (.float .f64 b.l) (.float .f64 q)).run Try.prog w = .ok (.float .f64 v) w := fun w => run_float_arith w .add 24 .f64 b.l q v e3
  have hgv := f64_gt v b.s
  rw [flt_pos (Nat.le_of_lt hb.sb) hv] at hgv
  clear e1 e2 e3 hg hd hq hv gt gr gw
  by_cases g9 : b.s < v
  · have HM : Hid (min b.s v = b.s) := Nat.min_eq_left (Nat.le_of_lt g9)
    rw [decide_eq_true g9] at hgv
    clear g9
    go_enter Try.func14, Try.ntmps14
    go_wp2_with (first
      | (go_at_call 20; first | (refine (iT _).mono ?_; clear iT; rintro e w1 ⟨rfl, rfl⟩) | (refine (iR _).mono ?_; clear iR; rintro e w1 ⟨rfl, rfl⟩) | (refine (iW _).mono ?_; clear iW; rintro e w1 ⟨rfl, rfl⟩)))
    go_quiet (fail)
    have k1 := (hB.drewN nq).c1
    have k2 := (hB.drewN nq).c2
    go_wp2
    go_ret
    exact ⟨by rw [HE.out, HM.out]; rfl, nq, rfl⟩
  · have HM : Hid (min b.s v = v) := Nat.min_eq_right (by omega)
    rw [decide_eq_false g9] at hgv
    clear g9
    go_enter Try.func14, Try.ntmps14
    go_wp2_with (first
      | (go_at_call 20; first | (refine (iT _).mono ?_; clear iT; rintro e w1 ⟨rfl, rfl⟩) | (refine (iR _).mono ?_; clear iR; rintro e w1 ⟨rfl, rfl⟩) | (refine (iW _).mono ?_; clear iW; rintro e w1 ⟨rfl, rfl⟩)))
    go_quiet (fail)
    have k1 := (hB.drewN nq).c1
    have k2 := (hB.drewN nq).c2
    go_wp2
    go_ret
    exact ⟨by rw [HE.out, HM.out]; rfl, nq, rfl⟩


set_option maxRecDepth 100000 in
set_option maxHeartbeats 1000000 in
theorem rwait_any (p : Nat) (b : Bk) (hb : b.Ok) (now cost : Nat) (hn : now < 2 ^ 64) (hc : cost < 2 ^ 64) (w : World) (hB : RBAt w p b) :
    Calls Try.prog 16 #[.pointer (some ⟨p, 0, none⟩), .float .f64 now, .float .f64 cost] w fun e w' => e = .returned (.float .f64 (b.wt now cost)) ∧ ∃ k, w' = w.drewN k := by
  have iC := fun w h => wrong_any p b now cost hn w h
  have iL := fun w h => rlevel_any p b hb now hn w h
  have iR := fun w => isInf_pos b.r hb.r64 w
  have iN := nan_any
  have iI := infP_any
  have heq := f64_eq b.r 0
  have hle := f64_le cost (b.lvl now)
  by_cases g1 : chk b.s now cost = 0
  · rw [g1] at iC
    cases g2 : fle cost (b.lvl now) with
    | true =>
      have HE : Hid (b.wt now cost = 0) := by unfold Hid Bk.wt; rw [if_neg (by rw [g1]; simp), g2]; rfl
      rw [g2] at hle
      clear g1
      generalize b.lvl now = L at *
      go_enter Try.func16, Try.ntmps16
      go_wp2_with (first
        | (go_at_call 27; refine (iC _ hB).mono ?_; clear iC; rintro e w1 ⟨rfl, rfl⟩)
        | (go_at_call 14; refine (iL _ hB).mono ?_; clear iL; rintro e w1 ⟨rfl, k, rfl⟩))
      go_ret
      exact ⟨by rw [HE.out]; rfl, k, rfl⟩
    | false =>
    rw [g2] at hle
    cases g3 : feq b.r 0 with
    | true =>
      have HE : Hid (b.wt now cost = Fl.inf) := by unfold Hid Bk.wt; rw [if_neg (by rw [g1]; simp), g2, g3]; rfl
      rw [g3] at heq
      clear g1
      generalize b.lvl now = L at *
      go_enter Try.func16, Try.ntmps16
      go_wp2_with (first
        | (go_at_call 27; refine (iC _ hB).mono ?_; clear iC; rintro e w1 ⟨rfl, rfl⟩)
        | (go_at_call 14; refine (iL _ hB).mono ?_; clear iL; rintro e w1 ⟨rfl, k, rfl⟩; have h0 := (hB.drewN k).c0)
        | (go_at_call 22; refine (iI _).mono ?_; clear iI; rintro e w1 ⟨rfl, rfl⟩))
      go_ret
      exact ⟨by rw [HE.out]; rfl, k, rfl⟩
    | false =>
    rw [g3] at heq
    by_cases g4 : b.r = Fl.inf
    · have HE : Hid (b.wt now cost = 0) := by unfold Hid Bk.wt; rw [if_neg (by rw [g1]; simp), g2, g3, if_pos g4]; rfl
      rw [decide_eq_true g4] at iR
      clear g1 g4
      generalize b.lvl now = L at *
      go_enter Try.func16, Try.ntmps16
      go_wp2_with (first
        | (go_at_call 27; refine (iC _ hB).mono ?_; clear iC; rintro e w1 ⟨rfl, rfl⟩)
        | (go_at_call 14; refine (iL _ hB).mono ?_; clear iL; rintro e w1 ⟨rfl, k, rfl⟩; have h0 := (hB.drewN k).c0)
        | (go_at_call 20; refine (iR _).mono ?_; clear iR; rintro e w1 ⟨rfl, rfl⟩))
      go_ret
      exact ⟨by rw [HE.out]; rfl, k, rfl⟩
    · obtain ⟨d, v, e1, e2, _, _, _⟩ := wt_some hb hc g1 g2 g3 g4
      have HE : Hid (b.wt now cost = v) := by unfold Hid Bk.wt; rw [if_neg (by rw [g1]; simp), g2, g3, if_neg g4, e1, Option.getD_some, e2]; rfl
      rw [decide_eq_false g4] at iR
      have f1 : ∀ w : World, (binOp .sub 24 (.float .f64 cost) (.float .f64 (b.lvl now))).run Try.prog w = .ok (.float .f64 d) w := fun w => run_float_arith w .sub 24 .f64 _ _ d e1
      have f2 : ∀ w : World, (binOp .quo 24 (.float .f64 d) (.float .f64 b.r)).run Try.prog w = .ok (.float .f64 v) w := fun w => run_float_arith w .quo 24 .f64 _ _ v e2
      clear g1 g4 e1 e2
      generalize b.lvl now = L at *
      go_enter Try.func16, Try.ntmps16
      go_wp2_with (first
        | (go_at_call 27; refine (iC _ hB).mono ?_; clear iC; rintro e w1 ⟨rfl, rfl⟩)
        | (go_at_call 14; refine (iL _ hB).mono ?_; clear iL; rintro e w1 ⟨rfl, k, rfl⟩; have h0 := (hB.drewN k).c0)
        | (go_at_call 20; refine (iR _).mono ?_; clear iR; rintro e w1 ⟨rfl, rfl⟩))
      go_ret
      exact ⟨by rw [HE.out]; rfl, k, rfl⟩
  · have HE : Hid (b.wt now cost = NaN) := by unfold Hid Bk.wt; rw [if_pos g1]
    have hz : (chk b.s now cost != 0) = true := by simpa using g1
    generalize chk b.s now cost = C at *
    clear g1
    go_enter Try.func16, Try.ntmps16
    go_wp2_with (first
      | (go_at_call 27; refine (iC _ hB).mono ?_; clear iC; rintro e w1 ⟨rfl, rfl⟩)
      | (go_at_call 26; refine (iN _).mono ?_; clear iN; rintro e w1 ⟨rfl, rfl⟩))
    go_ret
    exact ⟨by rw [HE.out]; rfl, 0, rfl⟩


/-- What was seen: where no time has passed, it is as it was. -/
theorem lvl_old {b : Bk} (hb : b.Ok) {now : Nat} (nn : Fl.nan now = false) (h : flt b.t now = false) : b.lvl now = b.l := by
  unfold Bk.lvl Bk.old
  have : fle now b.t = true := by
    unfold flt at h
    unfold fle
    rw [nn, hb.tn] at *
    simp at h ⊢
    omega
  rw [this]
  simp

set_option maxRecDepth 100000 in
set_option maxHeartbeats 2000000 in
theorem rtake_any (p : Nat) (b : Bk) (hb : b.Ok) (now cost : Nat) (hn : now < 2 ^ 64) (hc : cost < 2 ^ 64) (w : World) (hB : RBAt w p b) :
    Calls Try.prog 18 #[.pointer (some ⟨p, 0, none⟩), .float .f64 now, .float .f64 cost] w fun e w' => e = .returned (.int .i64 (b.tk now cost).1) ∧ RBAt w' p (b.tk now cost).2 ∧ Keep (fun k => k = p) w w' := by
  have iC := fun w h => wrong_any p b now cost hn w h
  have iL := fun w h => rlevel_any p b hb now hn w h
  have hsf := run_store_float
  by_cases g1 : chk b.s now cost = 0
  · rw [g1] at iC
    obtain ⟨c1, c2, c3, c4⟩ := chk_zero g1
    have hgt := f64_gt now b.t
    cases g2 : flt b.t now with
    | true =>
      have hs : b.seen now = ⟨b.r, b.s, b.lvl now, now⟩ := by unfold Bk.seen; rw [g2]; rfl
      have hgl := f64_gt cost (b.lvl now)
      cases g3 : flt (b.lvl now) cost with
      | true =>
        have HE : Hid (b.tk now cost = (19, ⟨b.r, b.s, b.lvl now, now⟩)) := by unfold Hid Bk.tk; rw [if_neg (by rw [g1]; simp), hs]; show (if flt (b.lvl now) cost = true then _ else _) = _; rw [g3]; rfl
        rw [g2] at hgt
        rw [g3] at hgl
        clear g1 hs c1 c2 c3 c4
        generalize b.lvl now = L at *
        go_enter Try.func18, Try.ntmps18
        go_wp2_with (first
          | (go_at_call 27; refine (iC _ hB).mono ?_; clear iC; rintro e w1 ⟨rfl, rfl⟩)
          | (go_at_call 14; refine (iL _ hB).mono ?_; clear iL; rintro e w1 ⟨rfl, k, rfl⟩; have hB1 := hB.drewN k; have h4 := hB1.c2; have z4 := hB1.fz 2; have h5 := (hB1.setL L).c3; have z5 := (hB1.setL L).fz 3; have h6 := ((hB1.setL L).setT now).c2; have z6 := ((hB1.setL L).setT now).fz 2))
        go_ret
        refine ⟨by rw [HE.out]; rfl, ?_, ?_⟩
        · rw [HE.out]; exact (hB1.setL L).setT now
        · exact ((((Keep.refl (fun i => i = p) _).drewN k).setCell (p := ⟨p, 2, none⟩) rfl _).setCell (p := ⟨p, 3, none⟩) rfl _)
      | false =>
        obtain ⟨d, e1, hd⟩ := sub_amt (l := b.lvl now) (Nat.lt_of_le_of_lt (lvl_le hb now) hb.sb) hc c3 g3
        have HE : Hid (b.tk now cost = (0, ⟨b.r, b.s, d, now⟩)) := by unfold Hid Bk.tk; rw [if_neg (by rw [g1]; simp), hs]; show (if flt (b.lvl now) cost = true then _ else _) = _; rw [g3]; unfold Bk.less; show (_, (⟨b.r, b.s, (Ieee.double.sub (b.lvl now) cost).getD 0, now⟩ : Bk)) = _; rw [e1]; rfl
        have f1 : ∀ w : World, (binOp .sub 24 (.float .f64 (b.lvl now)) (.float .f64 cost)).run Try.prog w = .ok (.float .f64 d) w := fun w => run_float_arith w .sub 24 .f64 _ _ d e1
        rw [g2] at hgt
        rw [g3] at hgl
        clear g1 hs c1 c2 c3 c4 e1
        generalize b.lvl now = L at *
        go_enter Try.func18, Try.ntmps18
        go_wp2_with (first
          | (go_at_call 27; refine (iC _ hB).mono ?_; clear iC; rintro e w1 ⟨rfl, rfl⟩)
          | (go_at_call 14; refine (iL _ hB).mono ?_; clear iL; rintro e w1 ⟨rfl, k, rfl⟩; have hB1 := hB.drewN k; have h4 := hB1.c2; have z4 := hB1.fz 2; have h5 := (hB1.setL L).c3; have z5 := (hB1.setL L).fz 3; have h6 := ((hB1.setL L).setT now).c2; have z6 := ((hB1.setL L).setT now).fz 2))
        go_ret
        refine ⟨by rw [HE.out]; rfl, ?_, ?_⟩
        · rw [HE.out]; exact ((hB1.setL L).setT now).setL d
        · exact (((((Keep.refl (fun i => i = p) _).drewN k).setCell (p := ⟨p, 2, none⟩) rfl _).setCell (p := ⟨p, 3, none⟩) rfl _).setCell (p := ⟨p, 2, none⟩) rfl _)
    | false =>
      have hs : b.seen now = b := by unfold Bk.seen; rw [g2]; rfl
      have hL := lvl_old hb c1 g2
      rw [hL] at iL
      have hgl := f64_gt cost b.l
      cases g3 : flt b.l cost with
      | true =>
        have HE : Hid (b.tk now cost = (19, b)) := by unfold Hid Bk.tk; rw [if_neg (by rw [g1]; simp), hs, g3]; rfl
        rw [g2] at hgt
        rw [g3] at hgl
        clear g1 hs c1 c2 c3 c4 hL
        go_enter Try.func18, Try.ntmps18
        go_wp2_with (first
          | (go_at_call 27; refine (iC _ hB).mono ?_; clear iC; rintro e w1 ⟨rfl, rfl⟩)
          | (go_at_call 14; refine (iL _ hB).mono ?_; clear iL; rintro e w1 ⟨rfl, k, rfl⟩; have hB1 := hB.drewN k; have h4 := hB1.c2; have z4 := hB1.fz 2; have h5 := (hB1.setL b.l).c3; have h6 := (hB1.setL b.l).c2; have z6 := (hB1.setL b.l).fz 2))
        go_ret
        refine ⟨by rw [HE.out]; rfl, ?_, ?_⟩
        · rw [HE.out]; exact hB1.setL b.l
        · exact (((Keep.refl (fun i => i = p) _).drewN k).setCell (p := ⟨p, 2, none⟩) rfl _)
      | false =>
        obtain ⟨d, e1, hd⟩ := sub_amt (Nat.lt_of_le_of_lt hb.ls hb.sb) hc c3 g3
        have HE : Hid (b.tk now cost = (0, ⟨b.r, b.s, d, b.t⟩)) := by unfold Hid Bk.tk; rw [if_neg (by rw [g1]; simp), hs, g3]; unfold Bk.less; rw [e1]; rfl
        have f1 : ∀ w : World, (binOp .sub 24 (.float .f64 b.l) (.float .f64 cost)).run Try.prog w = .ok (.float .f64 d) w := fun w => run_float_arith w .sub 24 .f64 _ _ d e1
        rw [g2] at hgt
        rw [g3] at hgl
        clear g1 hs c1 c2 c3 c4 e1 hL
        go_enter Try.func18, Try.ntmps18
        go_wp2_with (first
          | (go_at_call 27; refine (iC _ hB).mono ?_; clear iC; rintro e w1 ⟨rfl, rfl⟩)
          | (go_at_call 14; refine (iL _ hB).mono ?_; clear iL; rintro e w1 ⟨rfl, k, rfl⟩; have hB1 := hB.drewN k; have h4 := hB1.c2; have z4 := hB1.fz 2; have h5 := (hB1.setL b.l).c3; have h6 := (hB1.setL b.l).c2; have z6 := (hB1.setL b.l).fz 2))
        go_ret
        refine ⟨by rw [HE.out]; rfl, ?_, ?_⟩
        · rw [HE.out]; exact (hB1.setL b.l).setL d
        · exact ((((Keep.refl (fun i => i = p) _).drewN k).setCell (p := ⟨p, 2, none⟩) rfl _).setCell (p := ⟨p, 2, none⟩) rfl _)
  · have HE : Hid (b.tk now cost = (chk b.s now cost, b)) := by unfold Hid Bk.tk; rw [if_pos g1]
    have hz : (chk b.s now cost != 0) = true := by simpa using g1
    generalize chk b.s now cost = C at *
    clear g1
    go_enter Try.func18, Try.ntmps18
    go_wp2_with (first
      | (go_at_call 27; refine (iC _ hB).mono ?_; clear iC; rintro e w1 ⟨rfl, rfl⟩))
    go_ret
    exact ⟨by rw [HE.out]; rfl, by rw [HE.out]; exact hB, Keep.refl _ _⟩

end Go.Proofs.Ytmlkeobmkjdefaa
