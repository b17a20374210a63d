/- LeaseUntil: the end of a lease, the program's and the document's; the law. -/
import Derived.Test.YtfakcjelibdnbaaHuA
import Derived.Test.YtfakcjelibdnbaaHpW
namespace Go.Proofs.Ytfakcjelibdnbaa
open Go.RowKit Go.Joins

theorem run_bits (x : Nat) (w : World) : (callFunc 44 #[.float .f64 x]).run Try.prog w = .ok (.value (.int .u64 x)) w := by
  rw [run_callFunc_extern Try.func44 (by kernel_rfl) (by kernel_rfl) (by kernel_rfl) (e := Extern.MathFloatBits.float64bits) (by kernel_rfl)]
  rfl

set_option maxHeartbeats 400000 in
theorem rbits_any (x : Nat) (w : World) : Calls Try.prog 37 #[.float .f64 x] w fun e w' => e = .returned (.int .u64 (if Fl.nan x then 9221120237041090560 else (x : Int))) ∧ w' = w := by
  have hb := run_bits x
  have hn := nan_neq x
  cases g : Fl.nan x with
  | true =>
    rw [g] at hn
    go_enter Try.func37, Try.ntmps37
    go_wp2
    go_ret
    exact ⟨rfl, rfl⟩
  | false =>
    rw [g] at hn
    go_enter Try.func37, Try.ntmps37
    go_wp2
    go_ret
    exact ⟨rfl, rfl⟩

set_option maxHeartbeats 400000 in
theorem same_any (x : Nat) (w : World) : Calls Try.prog 22 #[.float .f64 x, .float .f64 x] w fun e w' => e = .returned (.bool true) ∧ w' = w := by
  have hb := fun w => rbits_any x w
  generalize (if Fl.nan x then (9221120237041090560 : Int) else (x : Int)) = z at hb
  go_enter Try.func22, Try.ntmps22
  go_wp2_with (first
    | (go_at_call 37; refine (hb _).mono ?_; rintro e w1 ⟨rfl, hw⟩; rw [hw]; clear hw w1))
  go_ret
  exact ⟨by simp, rfl⟩

def absv (x : Nat) : Nat := (bits .andNot .u64 (x : Int) 9223372036854775808).toNat
set_option maxHeartbeats 400000 in
theorem abs_any (x : Nat) (w : World) : Calls Try.prog 38 #[.float .f64 x] w fun e w' => e = .returned (.float .f64 (absv x)) ∧ w' = w := by
  have h1 := run_bits
  have h2 := run_from
  unfold absv
  generalize hz : bits .andNot .u64 (x : Int) 9223372036854775808 = z
  go_enter Try.func38, Try.ntmps38
  go_wp2
  go_ret
  exact ⟨rfl, rfl⟩

def infv (x : Nat) : Bool := flt 9218868437227405311 (absv x)
set_option maxHeartbeats 400000 in
theorem isInf_any (x : Nat) (w : World) : Calls Try.prog 23 #[.float .f64 x, .int .i64 0] w fun e w' => e = .returned (.bool (infv x)) ∧ w' = w := by
  have h1 := abs_any x
  have h2 := f64_gt (absv x) 9218868437227405311
  unfold infv
  generalize flt 9218868437227405311 (absv x) = b at *
  go_enter Try.func23, Try.ntmps23
  go_wp2_with (go_at_call 38; refine (h1 _).mono ?_; rintro e w1 ⟨rfl, rfl⟩)
  go_ret
  exact ⟨rfl, rfl⟩
theorem infv_inf : infv Fl.inf = true := by decide
theorem infv_NI : infv NI = true := by decide

/-- No end can be told. -/
def badU (a b : Nat) : Bool := Fl.nan a || Fl.nan b || infv a
def untl (a b : Nat) : Nat × Nat := if badU a b then (0, 1) else if fle b 0 then (a, 0) else ((Ieee.double.add a b).getD 0, 0)

theorem rung_leU {x : Nat} (h : Fl.nan x = false) : Fl.rung x ≤ Fl.inf := by
  unfold Fl.nan at h
  simpa using h
theorem rung_infU {x : Nat} (hx : x < 2 ^ 64) (h : Fl.rung x = Fl.inf) : x = Fl.inf ∨ x = NI := by
  have hs : Fl.sgn = 9223372036854775808 := rfl
  have hi : Fl.inf = 9218868437227405312 := rfl
  have hN : NI = 18442240474082181120 := rfl
  unfold Fl.rung at h
  rw [hs, hi] at h
  omega

theorem add_some {a b : Nat} (ha : a < 2 ^ 64) (hb : b < 2 ^ 64) (h : badU a b = false) (h0 : fle b 0 = false) : ∃ r, Ieee.double.add a b = some r ∧ fle a r = true := by
  unfold badU at h
  simp only [Bool.or_eq_false_iff] at h
  obtain ⟨⟨h1, h2⟩, h3⟩ := h
  refine Fl.add_ge ?_ ?_
  · have := rung_leU h1
    refine Nat.lt_of_le_of_ne this fun e => ?_
    rcases rung_infU ha e with g | g
    · rw [g, infv_inf] at h3; cases h3
    · rw [g, infv_NI] at h3; cases h3
  · have hs : Fl.sgn = 9223372036854775808 := rfl
    have hi : Fl.inf = 9218868437227405312 := rfl
    unfold fle at h0
    rw [h2, nan_pos zero_inf, sr_pos zero_inf] at h0
    simp at h0
    unfold Fl.nan at h2
    have hr : Fl.rung b ≤ Fl.inf := by simpa using h2
    unfold Fl.sr at h0
    cases hn : Fl.neg b with
    | true => rw [hn] at h0; simp at h0; omega
    | false =>
      unfold Fl.neg at hn
      unfold Fl.rung at hr
      rw [hs] at hn hr
      have : b / 9223372036854775808 % 2 ≠ 1 := by simpa using hn
      omega

set_option maxHeartbeats 1000000 in
theorem until_any (a b : Nat) (ha : a < 2 ^ 64) (hb : b < 2 ^ 64) (w : World) : Calls Try.prog 20 #[.float .f64 a, .float .f64 b] w fun e w' => e = .returned (.tuple #[.float .f64 (untl a b).1, .int .i64 ((untl a b).2 : Nat)]) ∧ w' = w := by
  have iA := isNaN_any a w
  have iB := isNaN_any b w
  have iI := isInf_any a w
  have hle := f64_le b 0
  cases hbad : badU a b with
  | true =>
    have e : untl a b = (0, 1) := by unfold untl; rw [hbad]; rfl
    rw [e]
    unfold badU at hbad
    generalize infv a = b3 at *
    generalize Fl.nan a = b1 at *
    generalize Fl.nan b = b2 at *
    cases b1 <;> cases b2 <;> cases b3
    · cases hbad
    all_goals
      go_enter Try.func20, Try.ntmps20
      go_wp2_with (first
        | (go_at_call 33; refine iA.mono ?_; clear iA; rintro e w1 ⟨rfl, hw⟩; rw [hw]; clear hw w1)
        | (go_at_call 33; refine iB.mono ?_; clear iB; rintro e w1 ⟨rfl, hw⟩; rw [hw]; clear hw w1)
        | (go_at_call 23; refine iI.mono ?_; clear iI; rintro e w1 ⟨rfl, hw⟩; rw [hw]; clear hw w1))
      go_ret2
      exact ⟨rfl, rfl⟩
  | false =>
    have hbad' := hbad
    unfold badU at hbad'
    simp only [Bool.or_eq_false_iff] at hbad'
    rw [hbad'.1.1] at iA
    rw [hbad'.1.2] at iB
    rw [hbad'.2] at iI
    cases h0 : fle b 0 with
    | true =>
      have e : untl a b = (a, 0) := by unfold untl; rw [hbad, h0]; rfl
      rw [e]
      rw [h0] at hle
      clear hbad hbad' h0 e
      go_enter Try.func20, Try.ntmps20
      go_wp2_with (first
        | (go_at_call 33; refine iA.mono ?_; clear iA; rintro e w1 ⟨rfl, hw⟩; rw [hw]; clear hw w1)
        | (go_at_call 33; refine iB.mono ?_; clear iB; rintro e w1 ⟨rfl, hw⟩; rw [hw]; clear hw w1)
        | (go_at_call 23; refine iI.mono ?_; clear iI; rintro e w1 ⟨rfl, hw⟩; rw [hw]; clear hw w1))
      go_ret2
      exact ⟨rfl, rfl⟩
    | false =>
      obtain ⟨r, hr, _⟩ := add_some ha hb hbad h0
      have e : untl a b = (r, 0) := by unfold untl; rw [hbad, h0, hr]; rfl
      have hadd : ∀ w : World, (binOp .add 39 (.float .f64 a) (.float .f64 b)).run Try.prog w = .ok (.float .f64 r) w := fun w => run_float_arith w .add 39 .f64 a b r hr
      rw [e]
      rw [h0] at hle
      clear hbad hbad' h0 e hr
      go_enter Try.func20, Try.ntmps20
      go_wp2_with (first
        | (go_at_call 33; refine iA.mono ?_; clear iA; rintro e w1 ⟨rfl, hw⟩; rw [hw]; clear hw w1)
        | (go_at_call 33; refine iB.mono ?_; clear iB; rintro e w1 ⟨rfl, hw⟩; rw [hw]; clear hw w1)
        | (go_at_call 23; refine iI.mono ?_; clear iI; rintro e w1 ⟨rfl, hw⟩; rw [hw]; clear hw w1))
      go_ret2
      exact ⟨rfl, rfl⟩

set_option maxHeartbeats 1000000 in
theorem runtil_any (a b : Nat) (ha : a < 2 ^ 64) (hb : b < 2 ^ 64) (w : World) : Calls Try.prog 21 #[.float .f64 a, .float .f64 b] w fun e w' => e = .returned (.tuple #[.float .f64 (untl a b).1, .int .i64 ((untl a b).2 : Nat)]) ∧ w' = w := by
  have iA := nan_neq a
  have iB := nan_neq b
  have iI := isInf_any a w
  have hle := f64_le b 0
  cases hbad : badU a b with
  | true =>
    have e : untl a b = (0, 1) := by unfold untl; rw [hbad]; rfl
    rw [e]
    unfold badU at hbad
    generalize infv a = b3 at *
    generalize Fl.nan a = b1 at *
    generalize Fl.nan b = b2 at *
    cases b1 <;> cases b2 <;> cases b3
    · cases hbad
    all_goals
      go_enter Try.func21, Try.ntmps21
      go_wp2_with (first
        | (go_at_call 23; refine iI.mono ?_; clear iI; rintro e w1 ⟨rfl, hw⟩; rw [hw]; clear hw w1))
      go_ret2
      exact ⟨rfl, rfl⟩
  | false =>
    have hbad' := hbad
    unfold badU at hbad'
    simp only [Bool.or_eq_false_iff] at hbad'
    rw [hbad'.1.1] at iA
    rw [hbad'.1.2] at iB
    rw [hbad'.2] at iI
    cases h0 : fle b 0 with
    | true =>
      have e : untl a b = (a, 0) := by unfold untl; rw [hbad, h0]; rfl
      rw [e]
      rw [h0] at hle
      clear hbad hbad' h0 e
      go_enter Try.func21, Try.ntmps21
      go_wp2_with (first
        | (go_at_call 23; refine iI.mono ?_; clear iI; rintro e w1 ⟨rfl, hw⟩; rw [hw]; clear hw w1))
      go_ret2
      exact ⟨rfl, rfl⟩
    | false =>
      obtain ⟨r, hr, _⟩ := add_some ha hb hbad h0
      have e : untl a b = (r, 0) := by unfold untl; rw [hbad, h0, hr]; rfl
      have hadd : ∀ w : World, (binOp .add 39 (.float .f64 a) (.float .f64 b)).run Try.prog w = .ok (.float .f64 r) w := fun w => run_float_arith w .add 39 .f64 a b r hr
      rw [e]
      rw [h0] at hle
      clear hbad hbad' h0 e hr
      go_enter Try.func21, Try.ntmps21
      go_wp2_with (first
        | (go_at_call 23; refine iI.mono ?_; clear iI; rintro e w1 ⟨rfl, hw⟩; rw [hw]; clear hw w1))
      go_ret2
      exact ⟨rfl, rfl⟩

theorem fle_refl {a : Nat} (h : Fl.nan a = false) : fle a a = true := by unfold fle; simp [h]

set_option maxHeartbeats 1000000 in
theorem until_law (a b : Nat) (ha : a < 2 ^ 64) (hb : b < 2 ^ 64) (w : World) : Calls Try.prog 5 #[.int .u64 a, .int .u64 b] w fun e w' => e = .returned (.bool true) ∧ Below w.heap.size w w' := by
  have hf := run_from
  have hge : (untl a b).2 = 0 → fle a (untl a b).1 = true := fun h => by
    unfold untl at h ⊢
    cases hbad : badU a b with
    | true => rw [hbad] at h; cases h
    | false =>
      cases h0 : fle b 0 with
      | true =>
        have : Fl.nan a = false := by unfold badU at hbad; simp only [Bool.or_eq_false_iff] at hbad; exact hbad.1.1
        simpa using fle_refl this
      | false =>
        obtain ⟨r, hr, h2⟩ := add_some ha hb hbad h0
        rw [hr]; simpa using h2
  have h01 : (untl a b).2 = 0 ∨ (untl a b).2 = 1 := by
    unfold untl; split
    · exact .inr rfl
    · split <;> exact .inl rfl
  have cU := until_any a b ha hb w
  have cR := runtil_any a b ha hb w
  have cS := same_any (untl a b).1 w
  have cW := wakes_any w
  have hgf := f64_ge (untl a b).1 a
  generalize (untl a b).1 = x at *
  generalize (untl a b).2 = z at *
  rcases h01 with rfl | rfl
  · rw [hge rfl] at hgf
    clear hge ha hb
    go_enter Try.func5, Try.ntmps5
    go_wp2_with (first
      | (go_at_call 20; refine cU.mono ?_; clear cU; rintro e w1 ⟨rfl, hw⟩; rw [hw]; clear hw w1)
      | (go_at_call 21; refine cR.mono ?_; clear cR; rintro e w1 ⟨rfl, hw⟩; rw [hw]; clear hw w1)
      | (go_at_call 22; refine cS.mono ?_; clear cS; rintro e w1 ⟨rfl, hw⟩; rw [hw]; clear hw w1)
      | (go_at_call 9; refine cW.mono ?_; clear cW; rintro e w1 ⟨rfl, hbw⟩))
    go_ret
    exact ⟨rfl, hbw⟩
  · clear hge ha hb hgf
    go_enter Try.func5, Try.ntmps5
    go_wp2_with (first
      | (go_at_call 20; refine cU.mono ?_; clear cU; rintro e w1 ⟨rfl, hw⟩; rw [hw]; clear hw w1)
      | (go_at_call 21; refine cR.mono ?_; clear cR; rintro e w1 ⟨rfl, hw⟩; rw [hw]; clear hw w1)
      | (go_at_call 22; refine cS.mono ?_; clear cS; rintro e w1 ⟨rfl, hw⟩; rw [hw]; clear hw w1)
      | (go_at_call 9; refine cW.mono ?_; clear cW; rintro e w1 ⟨rfl, hbw⟩))
    go_ret
    exact ⟨rfl, hbw⟩

end Go.Proofs.Ytfakcjelibdnbaa
