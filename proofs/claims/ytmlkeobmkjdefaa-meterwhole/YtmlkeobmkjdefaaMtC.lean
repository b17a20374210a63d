/- meter: New, check, Wait, Take. -/
import Derived.Test.YtmlkeobmkjdefaaMtB
namespace Go.Proofs.Ytmlkeobmkjdefaa
open Go.RowKit

/-- A burst without its sign, if it is nothing. -/
def nz (s : Nat) : Nat := if feq s 0 then 0 else s
def newB (r s : Nat) : Bk := ⟨r, nz s, nz s, NI⟩
def fine (r s : Nat) : Bool := amt r && amt s && !decide (s = Fl.inf)

theorem nz_fin {s : Nat} (h : amt s = true) (h64 : s < 2 ^ 64) (hi : s ≠ Fl.inf) : nz s < Fl.inf := by
  unfold nz
  cases g : feq s 0 with
  | true => rw [if_pos rfl]; decide
  | false =>
    rw [if_neg (by decide)]
    have := amt_pos h h64 g
    omega

theorem newB_ok {r s : Nat} (hr : r < 2 ^ 64) (hs : s < 2 ^ 64) (h : fine r s = true) : (newB r s).Ok := by
  unfold fine at h
  simp only [Bool.and_eq_true, Bool.not_eq_true', decide_eq_false_iff_not] at h
  obtain ⟨⟨h1, h2⟩, h3⟩ := h
  exact ⟨h1, hr, nz_fin h2 hs h3, Nat.le_refl _, (show Fl.nan NI = false by decide), (show NI < 2 ^ 64 by decide)⟩

set_option maxRecDepth 100000 in
set_option maxHeartbeats 1000000 in
theorem new_bad (r s : Nat) (hs : s < 2 ^ 64) (h : fine r s = false) (w : World) :
    Calls Try.prog 9 #[.float .f64 r, .float .f64 s] w fun e w' => e = .returned (.tuple #[.pointer none, .int .i64 1]) ∧ w' = w := by
  have iR := fun w => amt_any r w
  have iS := fun w => amt_any s w
  have iI := fun w => isInf_pos s hs w
  unfold fine at h
  cases g1 : amt r with
  | false =>
    rw [g1] at iR
    go_enter Try.func9, Try.ntmps9
    go_wp2_with (first
      | (go_at_call 21; refine (iR _).mono ?_; clear iR; rintro e w1 ⟨rfl, rfl⟩))
    go_ret2
    exact ⟨rfl, rfl⟩
  | true =>
  rw [g1] at iR h
  cases g2 : amt s with
  | false =>
    rw [g2] at iS
    go_enter Try.func9, Try.ntmps9
    go_wp2_with (first
      | (go_at_call 21; refine (iR _).mono ?_; clear iR; rintro e w1 ⟨rfl, rfl⟩)
      | (go_at_call 21; refine (iS _).mono ?_; clear iS; rintro e w1 ⟨rfl, rfl⟩))
    go_ret2
    exact ⟨rfl, rfl⟩
  | true =>
  rw [g2] at iS h
  have g3 : decide (s = Fl.inf) = true := by simpa using h
  rw [g3] at iI
  clear g3 h
  go_enter Try.func9, Try.ntmps9
  go_wp2_with (first
    | (go_at_call 21; refine (iR _).mono ?_; clear iR; rintro e w1 ⟨rfl, rfl⟩)
    | (go_at_call 21; refine (iS _).mono ?_; clear iS; rintro e w1 ⟨rfl, rfl⟩)
    | (go_at_call 20; refine (iI _).mono ?_; clear iI; rintro e w1 ⟨rfl, rfl⟩))
  go_ret2
  exact ⟨rfl, rfl⟩

set_option maxRecDepth 100000 in
set_option maxHeartbeats 1000000 in
theorem new_ok (r s : Nat) (hs : s < 2 ^ 64) (h : fine r s = true) (w : World) :
    Calls Try.prog 9 #[.float .f64 r, .float .f64 s] w fun e w' => ∃ p, e = .returned (.tuple #[.pointer (some ⟨p, 0, none⟩), .int .i64 0]) ∧ BkAt w' p (newB r s) ∧ w.heap.size ≤ p ∧ Below w.heap.size w w' := by
  have iR := fun w => amt_any r w
  have iS := fun w => amt_any s w
  have iI := fun w => isInf_pos s hs w
  unfold fine at h
  simp only [Bool.and_eq_true, Bool.not_eq_true'] at h
  obtain ⟨⟨g1, g2⟩, g3⟩ := h
  rw [g1] at iR
  rw [g2] at iS
  rw [g3] at iI
  clear g1 g2 g3
  have heq := f64_eq s 0
  have hf := inf_any
  have fin : ∀ z, z = nz s → ∃ p, (⟨w.heap.size, 0, none⟩ : Addr) = ⟨p, 0, none⟩ ∧ BkAt (w.alloc (Obj.cells #[.float .f64 r, .float .f64 z, .float .f64 z, .float .f64 NI] 56)) p (newB r s) ∧ w.heap.size ≤ p ∧ Below w.heap.size w (w.alloc (Obj.cells #[.float .f64 r, .float .f64 z, .float .f64 z, .float .f64 NI] 56)) := by
    rintro z rfl
    exact ⟨_, rfl, BkT.new w (newB r s), Nat.le_refl _, ((Keep.refl (fun _ => False) _).alloc _).below (Nat.le_refl _) (fun _ h => h.elim)⟩
  cases g0 : feq s 0 with
  | true =>
    obtain ⟨p, hp, f1, f2, f3⟩ := fin 0 (by unfold nz; rw [g0]; rfl)
    cases hp
    rw [g0] at heq
    clear fin
    go_enter Try.func9, Try.ntmps9
    go_wp2_with (first
      | (go_at_call 21; refine (iR _).mono ?_; clear iR; rintro e w1 ⟨rfl, rfl⟩)
      | (go_at_call 21; refine (iS _).mono ?_; clear iS; rintro e w1 ⟨rfl, rfl⟩)
      | (go_at_call 20; refine (iI _).mono ?_; clear iI; rintro e w1 ⟨rfl, rfl⟩)
      | (go_at_call 22; refine (hf _).mono ?_; clear hf; rintro e w1 ⟨rfl, rfl⟩))
    go_ret2
    exact ⟨_, rfl, f1, f2, f3⟩
  | false =>
    obtain ⟨p, hp, f1, f2, f3⟩ := fin s (by unfold nz; rw [g0]; rfl)
    cases hp
    rw [g0] at heq
    clear fin
    go_enter Try.func9, Try.ntmps9
    go_wp2_with (first
      | (go_at_call 21; refine (iR _).mono ?_; clear iR; rintro e w1 ⟨rfl, rfl⟩)
      | (go_at_call 21; refine (iS _).mono ?_; clear iS; rintro e w1 ⟨rfl, rfl⟩)
      | (go_at_call 20; refine (iI _).mono ?_; clear iI; rintro e w1 ⟨rfl, rfl⟩)
      | (go_at_call 22; refine (hf _).mono ?_; clear hf; rintro e w1 ⟨rfl, rfl⟩))
    go_ret2
    exact ⟨_, rfl, f1, f2, f3⟩

/-- Why so much can't be asked for. -/
def chk (s now cost : Nat) : Int := if (Fl.nan now || decide (now = NI) || !amt cost) = true then 1 else if flt s cost = true then 3 else 0

set_option maxRecDepth 100000 in
set_option maxHeartbeats 1000000 in
theorem check_any (p : Nat) (b : Bk) (now cost : Nat) (hn : now < 2 ^ 64) (w : World) (hB : BkAt w p b) :
    Calls Try.prog 25 #[.pointer (some ⟨p, 0, none⟩), .float .f64 now, .float .f64 cost] w fun e w' => e = .returned (.int .i64 (chk b.s now cost)) ∧ w' = w := by
  have iN := fun w => isNaN_any now w
  have iI := fun w => isInf_neg now hn w
  have iA := fun w => amt_any cost w
  have h1 := hB.c1
  have hgt := f64_gt cost b.s
  cases g1 : Fl.nan now with
  | true =>
    have HE : Hid (chk b.s now cost = 1) := by unfold Hid chk; rw [g1]; rfl
    rw [g1] at iN
    go_enter Try.func25, Try.ntmps25
    go_wp2_with (first
      | (go_at_call 24; refine (iN _).mono ?_; clear iN; rintro e w1 ⟨rfl, rfl⟩))
    go_ret
    exact ⟨by rw [HE.out]; rfl, rfl⟩
  | false =>
  rw [g1] at iN
  cases g2 : decide (now = NI) with
  | true =>
    have HE : Hid (chk b.s now cost = 1) := by unfold Hid chk; rw [g1, g2]; rfl
    rw [g2] at iI
    go_enter Try.func25, Try.ntmps25
    go_wp2_with (first
      | (go_at_call 24; refine (iN _).mono ?_; clear iN; rintro e w1 ⟨rfl, rfl⟩)
      | (go_at_call 20; refine (iI _).mono ?_; clear iI; rintro e w1 ⟨rfl, rfl⟩))
    go_ret
    exact ⟨by rw [HE.out]; rfl, rfl⟩
  | false =>
  rw [g2] at iI
  cases g3 : amt cost with
  | false =>
    have HE : Hid (chk b.s now cost = 1) := by unfold Hid chk; rw [g1, g2, g3]; rfl
    rw [g3] at iA
    go_enter Try.func25, Try.ntmps25
    go_wp2_with (first
      | (go_at_call 24; refine (iN _).mono ?_; clear iN; rintro e w1 ⟨rfl, rfl⟩)
      | (go_at_call 20; refine (iI _).mono ?_; clear iI; rintro e w1 ⟨rfl, rfl⟩)
      | (go_at_call 21; refine (iA _).mono ?_; clear iA; rintro e w1 ⟨rfl, rfl⟩))
    go_ret
    exact ⟨by rw [HE.out]; rfl, rfl⟩
  | true =>
  rw [g3] at iA
  cases g4 : flt b.s cost with
  | true =>
    have HE : Hid (chk b.s now cost = 3) := by unfold Hid chk; rw [g1, g2, g3, g4]; rfl
    rw [g4] at hgt
    go_enter Try.func25, Try.ntmps25
    go_wp2_with (first
      | (go_at_call 24; refine (iN _).mono ?_; clear iN; rintro e w1 ⟨rfl, rfl⟩)
      | (go_at_call 20; refine (iI _).mono ?_; clear iI; rintro e w1 ⟨rfl, rfl⟩)
      | (go_at_call 21; refine (iA _).mono ?_; clear iA; rintro e w1 ⟨rfl, rfl⟩))
    go_ret
    exact ⟨by rw [HE.out]; rfl, rfl⟩
  | false =>
    have HE : Hid (chk b.s now cost = 0) := by unfold Hid chk; rw [g1, g2, g3, g4]; rfl
    rw [g4] at hgt
    go_enter Try.func25, Try.ntmps25
    go_wp2_with (first
      | (go_at_call 24; refine (iN _).mono ?_; clear iN; rintro e w1 ⟨rfl, rfl⟩)
      | (go_at_call 20; refine (iI _).mono ?_; clear iI; rintro e w1 ⟨rfl, rfl⟩)
      | (go_at_call 21; refine (iA _).mono ?_; clear iA; rintro e w1 ⟨rfl, rfl⟩))
    go_ret
    exact ⟨by rw [HE.out]; rfl, rfl⟩

/-- How long it lasts till there is as much. -/
def Bk.wt (b : Bk) (now cost : Nat) : Nat :=
  if chk b.s now cost ≠ 0 then NaN else if fle cost (b.lvl now) then 0 else if feq b.r 0 then Fl.inf else if b.r = Fl.inf then 0
  else (Ieee.double.div ((Ieee.double.sub cost (b.lvl now)).getD 0) b.r).getD 0

theorem chk_zero {s now cost : Nat} (h : chk s now cost = 0) : Fl.nan now = false ∧ now ≠ NI ∧ amt cost = true ∧ flt s cost = false := by
  unfold chk at h
  split at h
  · cases h
  · rename_i g
    split at h
    · cases h
    · rename_i g2
      simp only [Bool.or_eq_true, not_or, Bool.not_eq_true, decide_eq_false_iff_not, Bool.not_eq_false'] at g
      exact ⟨g.1.1, g.1.2, g.2, by simpa using g2⟩

/-- A cost that is no more than there may be: a word up to infinity's, or -0. -/
theorem cost_le {s cost : Nat} (hs : s < Fl.inf) (h64 : cost < 2 ^ 64) (h : amt cost = true) (hl : flt s cost = false) : cost ≤ s ∨ cost = Fl.sgn := by
  rcases (amt_iff h64).1 h with g | g
  · left
    rw [flt_pos (Nat.le_of_lt hs) g] at hl
    simpa using hl
  · exact Or.inr g

theorem wt_some {b : Bk} (hb : b.Ok) {now cost : Nat} (h64 : cost < 2 ^ 64) (hc : chk b.s now cost = 0) (h1 : fle cost (b.lvl now) = false) (h2 : feq b.r 0 = false) (h3 : b.r ≠ Fl.inf) :
    ∃ d v, Ieee.double.sub cost (b.lvl now) = some d ∧ Ieee.double.div d b.r = some v ∧ v ≤ Fl.inf ∧ d ≤ cost ∧ cost < Fl.inf := by
  obtain ⟨_, _, c1, c2⟩ := chk_zero hc
  have hl := lvl_le hb now
  have hs := hb.sb
  rcases cost_le hb.sb h64 c1 c2 with g | g
  · rw [fle_pos (by omega) (by omega)] at h1
    have h1' : b.lvl now < cost := by simpa using h1
    have e1 := Fl.sub_pos (show cost < Fl.inf by omega) (Nat.le_of_lt h1')
    have e2 : Fl.rnd (Fl.vl cost - Fl.vl (b.lvl now)) ≤ cost := by
      have := Fl.rnd_mono (show Fl.vl cost - Fl.vl (b.lvl now) ≤ Fl.vl cost from Nat.sub_le _ _)
      rw [Fl.rnd_vl (show cost ≤ Fl.inf by omega)] at this
      exact this
    obtain ⟨p1, p2⟩ := amt_pos hb.ra hb.r64 h2
    obtain ⟨v, e3, hv⟩ := Fl.div_pos (x := Fl.rnd (Fl.vl cost - Fl.vl (b.lvl now))) (by omega) p2 (show b.r < Fl.inf by omega)
    exact ⟨_, v, e1, e3, hv, e2, by omega⟩
  · subst g
    have hl2 : b.lvl now ≤ Fl.inf := by omega
    unfold fle at h1
    rw [nan_pos hl2, sr_pos hl2] at h1
    have e1 : Fl.nan Fl.sgn = false := by decide
    have e2 : Fl.sr Fl.sgn = 0 := by decide
    rw [e1, e2] at h1
    simp at h1

set_option maxRecDepth 100000 in
set_option maxHeartbeats 1000000 in
theorem wait_any (p : Nat) (b : Bk) (hb : b.Ok) (now cost : Nat) (hn : now < 2 ^ 64) (hc : cost < 2 ^ 64) (w : World) (hB : BkAt w p b) :
    Calls Try.prog 15 #[.pointer (some ⟨p, 0, none⟩), .float .f64 now, .float .f64 cost] w fun e w' => e = .returned (.float .f64 (b.wt now cost)) ∧ ∃ k, w' = w.drewN k := by
  have iC := fun w h => check_any p b now cost hn w h
  have iL := fun w h => level_any p b hb now hn w h
  have iR := fun w => isInf_pos b.r hb.r64 w
  have iN := nan_any
  have iI := infP_any
  have heq := f64_eq b.r 0
  have hle := f64_le cost (b.lvl now)
  by_cases g1 : chk b.s now cost = 0
  · rw [g1] at iC
    cases g2 : fle cost (b.lvl now) with
    | true =>
      have HE : Hid (b.wt now cost = 0) := by unfold Hid Bk.wt; rw [if_neg (by rw [g1]; simp), g2]; rfl
      rw [g2] at hle
      clear g1
      generalize b.lvl now = L at *
      go_enter Try.func15, Try.ntmps15
      go_wp2_with (first
        | (go_at_call 25; refine (iC _ hB).mono ?_; clear iC; rintro e w1 ⟨rfl, rfl⟩)
        | (go_at_call 13; refine (iL _ hB).mono ?_; clear iL; rintro e w1 ⟨rfl, k, rfl⟩))
      go_ret
      exact ⟨by rw [HE.out]; rfl, k, rfl⟩
    | false =>
    rw [g2] at hle
    cases g3 : feq b.r 0 with
    | true =>
      have HE : Hid (b.wt now cost = Fl.inf) := by unfold Hid Bk.wt; rw [if_neg (by rw [g1]; simp), g2, g3]; rfl
      rw [g3] at heq
      clear g1
      generalize b.lvl now = L at *
      go_enter Try.func15, Try.ntmps15
      go_wp2_with (first
        | (go_at_call 25; refine (iC _ hB).mono ?_; clear iC; rintro e w1 ⟨rfl, rfl⟩)
        | (go_at_call 13; refine (iL _ hB).mono ?_; clear iL; rintro e w1 ⟨rfl, k, rfl⟩; have h0 := (hB.drewN k).c0)
        | (go_at_call 22; refine (iI _).mono ?_; clear iI; rintro e w1 ⟨rfl, rfl⟩))
      go_ret
      exact ⟨by rw [HE.out]; rfl, k, rfl⟩
    | false =>
    rw [g3] at heq
    by_cases g4 : b.r = Fl.inf
    · have HE : Hid (b.wt now cost = 0) := by unfold Hid Bk.wt; rw [if_neg (by rw [g1]; simp), g2, g3, if_pos g4]; rfl
      rw [decide_eq_true g4] at iR
      clear g1 g4
      generalize b.lvl now = L at *
      go_enter Try.func15, Try.ntmps15
      go_wp2_with (first
        | (go_at_call 25; refine (iC _ hB).mono ?_; clear iC; rintro e w1 ⟨rfl, rfl⟩)
        | (go_at_call 13; refine (iL _ hB).mono ?_; clear iL; rintro e w1 ⟨rfl, k, rfl⟩; have h0 := (hB.drewN k).c0)
        | (go_at_call 20; refine (iR _).mono ?_; clear iR; rintro e w1 ⟨rfl, rfl⟩))
      go_ret
      exact ⟨by rw [HE.out]; rfl, k, rfl⟩
    · obtain ⟨d, v, e1, e2, _, _, _⟩ := wt_some hb hc g1 g2 g3 g4
      have HE : Hid (b.wt now cost = v) := by unfold Hid Bk.wt; rw [if_neg (by rw [g1]; simp), g2, g3, if_neg g4, e1, Option.getD_some, e2]; rfl
      rw [decide_eq_false g4] at iR
      have f1 : ∀ w : World, (binOp .sub 24 (.float .f64 cost) (.float .f64 (b.lvl now))).run Try.prog w = .ok (.float .f64 d) w := fun w => run_float_arith w .sub 24 .f64 _ _ d e1
      have f2 : ∀ w : World, (binOp .quo 24 (.float .f64 d) (.float .f64 b.r)).run Try.prog w = .ok (.float .f64 v) w := fun w => run_float_arith w .quo 24 .f64 _ _ v e2
      clear g1 g4 e1 e2
      generalize b.lvl now = L at *
      go_enter Try.func15, Try.ntmps15
      go_wp2_with (first
        | (go_at_call 25; refine (iC _ hB).mono ?_; clear iC; rintro e w1 ⟨rfl, rfl⟩)
        | (go_at_call 13; refine (iL _ hB).mono ?_; clear iL; rintro e w1 ⟨rfl, k, rfl⟩; have h0 := (hB.drewN k).c0)
        | (go_at_call 20; refine (iR _).mono ?_; clear iR; rintro e w1 ⟨rfl, rfl⟩))
      go_ret
      exact ⟨by rw [HE.out]; rfl, k, rfl⟩
  · have HE : Hid (b.wt now cost = NaN) := by unfold Hid Bk.wt; rw [if_pos g1]
    have hz : (chk b.s now cost != 0) = true := by simpa using g1
    generalize chk b.s now cost = C at *
    clear g1
    go_enter Try.func15, Try.ntmps15
    go_wp2_with (first
      | (go_at_call 25; refine (iC _ hB).mono ?_; clear iC; rintro e w1 ⟨rfl, rfl⟩)
      | (go_at_call 26; refine (iN _).mono ?_; clear iN; rintro e w1 ⟨rfl, rfl⟩))
    go_ret
    exact ⟨by rw [HE.out]; rfl, 0, rfl⟩

end Go.Proofs.Ytmlkeobmkjdefaa
