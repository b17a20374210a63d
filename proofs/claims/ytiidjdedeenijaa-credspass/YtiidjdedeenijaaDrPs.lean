/- CredsPass: who passed begins anew. -/
import Derived.Test.YtiidjdedeenijaaDrAp
namespace Go.Proofs.Ytiidjdedeenijaa
open Go.RowKit

theorem run_bits (x : Nat) (w : World) : (callFunc 25 #[.float .f64 x]).run Try.prog w = .ok (.value (.int .u64 x)) w := by
  rw [run_callFunc_extern Try.func25 (by kernel_rfl) (by kernel_rfl) (by kernel_rfl) (e := Extern.MathFloatBits.float64bits) (by kernel_rfl)]
  rfl

def absv (x : Nat) : Nat := (bits .andNot .u64 (x : Int) 9223372036854775808).toNat
set_option maxHeartbeats 400000 in
theorem abs_any (x : Nat) (w : World) : Calls Try.prog 22 #[.float .f64 x] w fun e w' => e = .returned (.float .f64 (absv x)) ∧ w' = w := by
  have h1 := run_bits
  have h2 := run_from
  unfold absv
  generalize hz : bits .andNot .u64 (x : Int) 9223372036854775808 = z
  go_enter Try.func22, Try.ntmps22
  go_wp2
  go_ret
  exact ⟨rfl, rfl⟩

def infv (x : Nat) : Bool := flt 9218868437227405311 (absv x)
set_option maxHeartbeats 400000 in
theorem isInf_any (x : Nat) (w : World) : Calls Try.prog 17 #[.float .f64 x, .int .i64 0] w fun e w' => e = .returned (.bool (infv x)) ∧ w' = w := by
  have h1 := abs_any x
  have h2 := f64_gt (absv x) 9218868437227405311
  unfold infv
  generalize flt 9218868437227405311 (absv x) = b at *
  go_enter Try.func17, Try.ntmps17
  go_wp2_with (go_at_call 22; refine (h1 _).mono ?_; rintro e w1 ⟨rfl, rfl⟩)
  go_ret
  exact ⟨rfl, rfl⟩

/-- A million; a milliard and its opposite. -/
def M6 : Nat := 4696837146684686336
def B9 : Nat := 4741671816366391296
def N9 : Nat := 13965043853221167104

theorem v1 : decide (Fl.val (Fl.rung B9) ≤ 2 ^ (1052 + 52)) = true := by kernel_rfl
theorem v2 : decide (2 ^ (1052 + 2) ≤ Fl.val (Fl.rung M6)) = true := by kernel_rfl
theorem v3 : decide (Fl.val (Fl.rung M6) < 2 ^ (1052 + 52)) = true := by kernel_rfl

/-- A million seconds behind such a time lies behind it. -/
theorem later {t : Nat} (h0 : Fl.nan t = false) (h1 : flt B9 t = false) (h2 : flt t N9 = false) : ∃ r, Ieee.double.add t M6 = some r ∧ flt t r = true := by
  have n9 : Fl.nan B9 = false := by decide
  have m9 : Fl.nan N9 = false := by decide
  have s9 : Fl.sr B9 = 4741671816366391296 := by decide
  have t9 : Fl.sr N9 = -4741671816366391296 := by decide
  unfold flt at h1 h2
  rw [h0, n9] at h1
  rw [h0, m9] at h2
  simp only [Bool.not_false, Bool.true_and, decide_eq_false_iff_not] at h1 h2
  rw [s9] at h1
  rw [t9] at h2
  have hr : Fl.rung t ≤ 4741671816366391296 := by
    unfold Fl.sr at h1 h2
    split at h1 <;> rename_i hn
    · rw [if_pos hn] at h2; omega
    · omega
  have hB : Fl.rung B9 = 4741671816366391296 := by decide
  have hx : Fl.rung t < Fl.inf := by have : Fl.inf = 9218868437227405312 := rfl; omega
  have hv : Fl.val (Fl.rung t) ≤ Fl.val (Fl.rung B9) := by
    rw [hB]
    rcases Nat.lt_or_eq_of_le hr with g | g
    · exact Nat.le_of_lt (Fl.val_lt g)
    · rw [g]; exact Nat.le_refl _
  obtain ⟨r, hr1, hr2, hr3⟩ := Fl.add_gt 1052 (by omega) t M6 hx (by decide) (by decide) (Nat.le_trans hv (of_decide_eq_true v1)) (of_decide_eq_true v2) (of_decide_eq_true v3)
  refine ⟨r, hr1, ?_⟩
  unfold flt
  have hnr : Fl.nan r = false := by unfold Fl.nan; simp; omega
  rw [h0, hnr, decide_eq_true hr3]
  rfl

theorem lock_M6 {t r : Nat} (h : Ieee.double.add t M6 = some r) (h1 : flt t r = true) : lock t M6 = some (0, r) := by
  unfold lock
  rw [h]
  show kp (0, r) = _
  unfold kp
  rw [if_neg (fun g => by rw [flt_up h1] at g; cases g.2)]

theorem stA_pass0 {t s k i : Nat} (h : i < k) : passM (stA t s k i) ann = stA t s k 0 := by
  unfold passM
  rw [stA_tr h, kp_NI]
  unfold stA
  rw [mput_mput, if_pos rfl]

/-- It is too late to pass. -/
theorem stA_late {t s k r : Nat} (hk : 1 ≤ k) (h : lock t s = some (0, r)) (hr : flt NI r = true) : passM (stA t s k k) ann = stA t s k k := by
  have e : stA t s k k = mput (fun _ => none) ann (some (0, r)) := by unfold stA; rw [if_neg (by omega), if_neg (by omega), h]
  unfold passM
  rw [e, tr_put]
  have e2 : kp (0, ((some ((0 : Int), r)).getD (0, NI)).2) = some (0, r) := by
    show kp (0, r) = _
    unfold kp
    rw [if_neg (fun g => by rw [hr] at g; cases g.2)]
  rw [e2, mput_mput]

set_option maxRecDepth 100000 in
set_option maxHeartbeats 3200000 in
theorem pass_out (M : Int) (T : Nat) (w : World) (h : (Fl.nan T || infv T || flt B9 T || flt T N9) = true) :
    Calls Try.prog 5 #[.int .i64 M, .int .u64 T] w fun e w' => e = .returned (.bool true) ∧ Below w.heap.size w w' := by
  have hfr := run_from
  obtain ⟨k, hk, hk1, hk2⟩ := tm20 M
  have hnn := nan_neq T
  have hI := isInf_any T
  have hg := f64_gt T B9
  have hl := f64_lt T N9
  have hN := fun w => new_ok k M6 (by omega) (by decide) (by decide) w
  have hask : ask (fun _ => none) ann T = if Fl.nan T then 1 else 0 := by
    unfold ask
    rw [tr_none, flt_NI]
    rfl
  have A1 := fun d bm w h => ask_any d bm 0 k M6 (fun _ => none) ann ann_len T w h
  rw [hask] at A1
  clear hask
  unfold B9 at hg h
  unfold N9 at hl h
  generalize flt 4741671816366391296 T = b1 at *
  generalize flt T 13965043853221167104 = b2 at *
  generalize infv T = b3 at *
  generalize Fl.nan T = b4 at *
  cases b4 with
  | true =>
    rw [if_pos rfl] at A1
    clear hI hg hl h
    go_enter Try.func5, Try.ntmps5
    go_wp2_with (first
      | (go_at_call 7; refine (hN _).mono ?_; rintro e w1 ⟨d, bm, rfl, hD1, hd1, hm1, hb1⟩)
      | (go_at_call 9; refine (wakes_any _).mono ?_; rintro e w2 ⟨rfl, hb2⟩; have hB2 := hb1.trans (hb2.mono hb1.size); have hD2 := hD1.below hb2)
      | (go_at_call 15; refine (A1 d bm _ hD2).mono ?_; rintro e w3 ⟨rfl, hb3⟩; have hB3 := hB2.trans (hb3.mono hB2.size)))
    go_ret
    exact ⟨rfl, hB3⟩
  | false =>
    rw [if_neg (by decide)] at A1
    cases b3 with
    | true =>
      clear hg hl h
      go_enter Try.func5, Try.ntmps5
      go_wp2_with (first
        | (go_at_call 7; refine (hN _).mono ?_; rintro e w1 ⟨d, bm, rfl, hD1, hd1, hm1, hb1⟩)
        | (go_at_call 9; refine (wakes_any _).mono ?_; rintro e w2 ⟨rfl, hb2⟩; have hB2 := hb1.trans (hb2.mono hb1.size); have hD2 := hD1.below hb2)
        | (go_at_call 17; refine (hI _).mono ?_; rintro e w4 ⟨rfl, rfl⟩)
        | (go_at_call 15; refine (A1 d bm _ hD2).mono ?_; rintro e w3 ⟨rfl, hb3⟩; have hB3 := hB2.trans (hb3.mono hB2.size)))
      go_ret
      exact ⟨rfl, hB3⟩
    | false =>
      cases b1 with
      | true =>
        clear hl h
        go_enter Try.func5, Try.ntmps5
        go_wp2_with (first
          | (go_at_call 7; refine (hN _).mono ?_; rintro e w1 ⟨d, bm, rfl, hD1, hd1, hm1, hb1⟩)
          | (go_at_call 9; refine (wakes_any _).mono ?_; rintro e w2 ⟨rfl, hb2⟩; have hB2 := hb1.trans (hb2.mono hb1.size); have hD2 := hD1.below hb2)
          | (go_at_call 17; refine (hI _).mono ?_; rintro e w4 ⟨rfl, rfl⟩)
          | (go_at_call 15; refine (A1 d bm _ hD2).mono ?_; rintro e w3 ⟨rfl, hb3⟩; have hB3 := hB2.trans (hb3.mono hB2.size)))
        go_ret
        exact ⟨rfl, hB3⟩
      | false =>
        obtain rfl : b2 = true := by simpa using h
        clear h
        go_enter Try.func5, Try.ntmps5
        go_wp2_with (first
          | (go_at_call 7; refine (hN _).mono ?_; rintro e w1 ⟨d, bm, rfl, hD1, hd1, hm1, hb1⟩)
          | (go_at_call 9; refine (wakes_any _).mono ?_; rintro e w2 ⟨rfl, hb2⟩; have hB2 := hb1.trans (hb2.mono hb1.size); have hD2 := hD1.below hb2)
          | (go_at_call 17; refine (hI _).mono ?_; rintro e w4 ⟨rfl, rfl⟩)
          | (go_at_call 15; refine (A1 d bm _ hD2).mono ?_; rintro e w3 ⟨rfl, hb3⟩; have hB3 := hB2.trans (hb3.mono hB2.size)))
        go_ret
        exact ⟨rfl, hB3⟩

set_option maxRecDepth 100000 in
set_option maxHeartbeats 3200000 in
theorem pass_in (M : Int) (T : Nat) (w : World) (h0 : Fl.nan T = false) (h1 : infv T = false) (h2 : flt B9 T = false) (h3 : flt T N9 = false) :
    Calls Try.prog 5 #[.int .i64 M, .int .u64 T] w fun e w' => e = .returned (.bool true) ∧ Below w.heap.size w w' := by
  have hfr := run_from
  obtain ⟨k, hk, hk1, hk2⟩ := tm20 M
  have hnn := nan_neq T
  have hI := isInf_any T
  have hg := f64_gt T B9
  have hl := f64_lt T N9
  have hN := fun w => new_ok k M6 (by omega) (by decide) (by decide) w
  obtain ⟨r, hr1, hr2⟩ := later h0 h2 h3
  have hlk := lock_M6 hr1 hr2
  have hrn := flt_up hr2
  rw [h0] at hnn
  rw [h1] at hI
  rw [h2] at hg
  rw [h3] at hl
  unfold B9 at hg
  unfold N9 at hl
  clear h1 h2 h3 hr1
  go_enter Try.func5, Try.ntmps5
  go_upto_region 8 with (first
    | (go_at_call 7; refine (hN _).mono ?_; rintro e w1 ⟨d, bm, rfl, hD1, hd1, hm1, hb1⟩; have Hbm : Hid (w.heap.size ≤ bm) := hm1)
    | (go_at_call 9; refine (wakes_any _).mono ?_; rintro e w2 ⟨rfl, hb2⟩; have hB2 := hb1.trans (hb2.mono hb1.size); have hD2 := hD1.below hb2)
    | (go_at_call 17; refine (hI _).mono ?_; rintro e w4 ⟨rfl, rfl⟩))
  clear hb1 hd1 hm1 hk hfr hI hg hl hN hnn hb2 hD1
  rw [← stA_zero T M6 k] at hD2
  go_wp2
  go_loopw [9, 10] (fun i _ wr => ∃ j : Nat, i = .int .i64 j ∧ j ≤ 3 ∧ DoorAt wr d bm (21 * j) k M6 (stA T M6 k 0) ∧ Below w.heap.size w wr) (fun i _ _ => 3 - natV i)
  case atStart => exact ⟨0, rfl, Nat.zero_le _, hD2, hB2⟩
  case round =>
    clear hD2 hB2
    obtain ⟨j, rfl, hj, hD, hB⟩ := hrel
    by_cases hlt : j < 3
    · have hlz : (j : Int) < 3 := by omega
      go_wp2
      go_loopw [10] (fun i wr => ∃ q : Nat, i = .int .i64 q ∧ q ≤ k - 1 ∧ DoorAt wr d bm (21 * j + q) k M6 (stA T M6 k q) ∧ Below w.heap.size w wr) (fun i _ => 20 - natV i)
      case atStart => exact ⟨0, rfl, Nat.zero_le _, hD, hB⟩
      case round =>
        clear hD hB
        obtain ⟨q, rfl, hq, hD, hB⟩ := hrel
        have hqk : q < k := by omega
        have htr := stA_tr (t := T) (s := M6) hqk
        have hask : ask (stA T M6 k q) ann T = 0 := ask_NI h0 (by rw [htr])
        by_cases hql : q < k - 1
        · have hqz : (q : Int) < wrap64 ((k : Int) - 1) := by unfold wrap64; omega
          have hqz2 : (q : Int) < (k : Int) - 1 := by omega
          have F1 := fun w h => fail_ok d bm (21 * j + q) k M6 (stA T M6 k q) ann ann_small (by omega) T hask (by rw [htr]; show (0 : Int) ≤ (q : Int); omega) (by rw [htr]; show (q : Int) < _; omega) w h
          rw [stA_fail hqk] at F1
          clear hask htr
          go_wp2_with (first
            | (go_at_call 11; refine (F1 _ hD).mono ?_; rintro e w3 ⟨rfl, hD3, hk3⟩; have hB3 : Below w.heap.size w w3 := hB.trans (hk3.below hB.size (fun q e => by subst e; exact Hbm.out))))
          refine ⟨⟨q + 1, by go_num, by omega, hD3, hB3⟩, by simp [natV]; omega⟩
        · obtain rfl : q = k - 1 := by omega
          have hqz : ¬ ((k - 1 : Nat) : Int) < (k : Int) - 1 := by omega
          have A1 := fun w h => ask_any d bm (21 * j + (k - 1)) k M6 (stA T M6 k (k - 1)) ann ann_len T w h
          rw [hask] at A1
          have P1 := fun w h => pass_any d bm (21 * j + (k - 1)) k M6 (stA T M6 k (k - 1)) ann ann_len (Or.inr ann_small) (by omega) w h
          rw [stA_pass0 hqk] at P1
          clear hask htr
          go_wp2_with (first
            | (go_at_call 15; refine (A1 _ hD).mono ?_; rintro e w3 ⟨rfl, hb3⟩; have hD3 := hD.below hb3; have hB3 := hB.trans (hb3.mono hB.size))
            | (go_at_call 13; refine (P1 _ hD3).mono ?_; rintro e w4 ⟨rfl, hD4, hk4⟩; have hB4 : Below w.heap.size w w4 := hB3.trans (hk4.below hB3.size (fun q e => by subst e; exact Hbm.out))))
          refine ⟨⟨j + 1, by go_num, by omega, hD4.mono (by omega), hB4⟩, by simp [natV]; omega⟩
    · have hlz : ¬ (j : Int) < 3 := by omega
      go_wp2
      go_loopw [11] (fun i wr => ∃ q : Nat, i = .int .i64 q ∧ q ≤ k ∧ DoorAt wr d bm (21 * j + q) k M6 (stA T M6 k q) ∧ Below w.heap.size w wr) (fun i _ => 20 - natV i)
      case atStart => exact ⟨0, rfl, Nat.zero_le _, hD, hB⟩
      case round =>
        clear hD hB
        obtain ⟨q, rfl, hq, hD, hB⟩ := hrel
        by_cases hqk : q < k
        · have hqz : (q : Int) < (k : Int) := by omega
          have htr := stA_tr (t := T) (s := M6) hqk
          have hask : ask (stA T M6 k q) ann T = 0 := ask_NI h0 (by rw [htr])
          have F1 := fun w h => fail_ok d bm (21 * j + q) k M6 (stA T M6 k q) ann ann_small (by omega) T hask (by rw [htr]; show (0 : Int) ≤ (q : Int); omega) (by rw [htr]; show (q : Int) < _; omega) w h
          rw [stA_fail hqk] at F1
          clear hask htr
          go_wp2_with (first
            | (go_at_call 11; refine (F1 _ hD).mono ?_; rintro e w3 ⟨rfl, hD3, hk3⟩; have hB3 : Below w.heap.size w w3 := hB.trans (hk3.below hB.size (fun q e => by subst e; exact Hbm.out))))
          go_roundw
          case rel => exact ⟨q + 1, by go_num, by omega, hD3, hB3⟩
          case measure => simp [natV]; omega
        · obtain rfl : q = k := by omega
          have hqz : ¬ (q : Int) < (q : Int) := by omega
          have P1 := fun w h => pass_any d bm (21 * j + q) q M6 (stA T M6 q q) ann ann_len (Or.inr ann_small) (by omega) w h
          rw [stA_late hk1 hlk hrn] at P1
          have A1 := fun w h => ask_any d bm (21 * j + q + 1) q M6 (stA T M6 q q) ann ann_len T w h
          have a1 : ask (stA T M6 q q) ann T = 12 := by
            unfold ask
            rw [h0, stA_end T M6 q hk1, hlk]
            show (if flt T r = true then (12 : Int) else 0) = 12
            rw [hr2, if_pos rfl]
          rw [a1] at A1
          clear a1
          go_wp2_with (first
            | (go_at_call 13; refine (P1 _ hD).mono ?_; rintro e w4 ⟨rfl, hD4, hk4⟩; have hB4 : Below w.heap.size w w4 := hB.trans (hk4.below hB.size (fun q e => by subst e; exact Hbm.out)))
            | (go_at_call 15; refine (A1 _ hD4).mono ?_; rintro e w5 ⟨rfl, hb5⟩; have hB5 := hB4.trans (hb5.mono hB4.size)))
          go_ret
          exact ⟨rfl, hB5⟩

theorem pass_law (M : Int) (T : Nat) (w : World) : Calls Try.prog 5 #[.int .i64 M, .int .u64 T] w fun e w' => e = .returned (.bool true) ∧ Below w.heap.size w w' := by
  cases h : (Fl.nan T || infv T || flt B9 T || flt T N9) with
  | true => exact pass_out M T w h
  | false =>
    simp only [Bool.or_eq_false_iff] at h
    exact pass_in M T w h.1.1.1 h.1.1.2 h.1.2 h.2

end Go.Proofs.Ytiidjdedeenijaa
