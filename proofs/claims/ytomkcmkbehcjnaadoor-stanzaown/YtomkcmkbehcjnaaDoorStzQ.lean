/- The document's word on kinds, on parts that are there, on texts. -/
import Derived.Test.YtomkcmkbehcjnaaDoorStzM
import Derived.Test.YtomkcmkbehcjnaaDoorRefV
namespace Go.Proofs.YtomkcmkbehcjnaaDoor
open Go.RowKit

theorem parts_1 (w : World) : Calls Tryd.prog 28 #[.int .i64 1] w fun e w' => e = .returned (.int .i64 1) ∧ w' = w := by
  go_enter Tryd.func28, Tryd.ntmps28
  go_wp2
  go_ret
  exact ⟨rfl, rfl⟩
theorem parts_2 (w : World) : Calls Tryd.prog 28 #[.int .i64 2] w fun e w' => e = .returned (.int .i64 4) ∧ w' = w := by
  go_enter Tryd.func28, Tryd.ntmps28
  go_wp2
  go_ret
  exact ⟨rfl, rfl⟩
theorem parts_3 (w : World) : Calls Tryd.prog 28 #[.int .i64 3] w fun e w' => e = .returned (.int .i64 4) ∧ w' = w := by
  go_enter Tryd.func28, Tryd.ntmps28
  go_wp2
  go_ret
  exact ⟨rfl, rfl⟩
theorem parts_4 (w : World) : Calls Tryd.prog 28 #[.int .i64 4] w fun e w' => e = .returned (.int .i64 33) ∧ w' = w := by
  go_enter Tryd.func28, Tryd.ntmps28
  go_wp2
  go_ret
  exact ⟨rfl, rfl⟩
theorem parts_5 (w : World) : Calls Tryd.prog 28 #[.int .i64 5] w fun e w' => e = .returned (.int .i64 0) ∧ w' = w := by
  go_enter Tryd.func28, Tryd.ntmps28
  go_wp2
  go_ret
  exact ⟨rfl, rfl⟩
theorem parts_6 (w : World) : Calls Tryd.prog 28 #[.int .i64 6] w fun e w' => e = .returned (.int .i64 21) ∧ w' = w := by
  go_enter Tryd.func28, Tryd.ntmps28
  go_wp2
  go_ret
  exact ⟨rfl, rfl⟩
theorem parts_7 (w : World) : Calls Tryd.prog 28 #[.int .i64 7] w fun e w' => e = .returned (.int .i64 4) ∧ w' = w := by
  go_enter Tryd.func28, Tryd.ntmps28
  go_wp2
  go_ret
  exact ⟨rfl, rfl⟩
theorem parts_8 (w : World) : Calls Tryd.prog 28 #[.int .i64 8] w fun e w' => e = .returned (.int .i64 16) ∧ w' = w := by
  go_enter Tryd.func28, Tryd.ntmps28
  go_wp2
  go_ret
  exact ⟨rfl, rfl⟩
theorem parts_9 (w : World) : Calls Tryd.prog 28 #[.int .i64 9] w fun e w' => e = .returned (.int .i64 11) ∧ w' = w := by
  go_enter Tryd.func28, Tryd.ntmps28
  go_wp2
  go_ret
  exact ⟨rfl, rfl⟩
theorem parts_10 (w : World) : Calls Tryd.prog 28 #[.int .i64 10] w fun e w' => e = .returned (.int .i64 1) ∧ w' = w := by
  go_enter Tryd.func28, Tryd.ntmps28
  go_wp2
  go_ret
  exact ⟨rfl, rfl⟩
theorem parts_11 (w : World) : Calls Tryd.prog 28 #[.int .i64 11] w fun e w' => e = .returned (.int .i64 1) ∧ w' = w := by
  go_enter Tryd.func28, Tryd.ntmps28
  go_wp2
  go_ret
  exact ⟨rfl, rfl⟩
theorem parts_12 (w : World) : Calls Tryd.prog 28 #[.int .i64 12] w fun e w' => e = .returned (.int .i64 1) ∧ w' = w := by
  go_enter Tryd.func28, Tryd.ntmps28
  go_wp2
  go_ret
  exact ⟨rfl, rfl⟩
theorem parts_13 (w : World) : Calls Tryd.prog 28 #[.int .i64 13] w fun e w' => e = .returned (.int .i64 1) ∧ w' = w := by
  go_enter Tryd.func28, Tryd.ntmps28
  go_wp2
  go_ret
  exact ⟨rfl, rfl⟩
theorem parts_14 (w : World) : Calls Tryd.prog 28 #[.int .i64 14] w fun e w' => e = .returned (.int .i64 1) ∧ w' = w := by
  go_enter Tryd.func28, Tryd.ntmps28
  go_wp2
  go_ret
  exact ⟨rfl, rfl⟩
theorem parts_15 (w : World) : Calls Tryd.prog 28 #[.int .i64 15] w fun e w' => e = .returned (.int .i64 9) ∧ w' = w := by
  go_enter Tryd.func28, Tryd.ntmps28
  go_wp2
  go_ret
  exact ⟨rfl, rfl⟩
theorem parts_16 (w : World) : Calls Tryd.prog 28 #[.int .i64 16] w fun e w' => e = .returned (.int .i64 1) ∧ w' = w := by
  go_enter Tryd.func28, Tryd.ntmps28
  go_wp2
  go_ret
  exact ⟨rfl, rfl⟩
theorem parts_17 (w : World) : Calls Tryd.prog 28 #[.int .i64 17] w fun e w' => e = .returned (.int .i64 1) ∧ w' = w := by
  go_enter Tryd.func28, Tryd.ntmps28
  go_wp2
  go_ret
  exact ⟨rfl, rfl⟩
theorem parts_18 (w : World) : Calls Tryd.prog 28 #[.int .i64 18] w fun e w' => e = .returned (.int .i64 1) ∧ w' = w := by
  go_enter Tryd.func28, Tryd.ntmps28
  go_wp2
  go_ret
  exact ⟨rfl, rfl⟩
theorem parts_19 (w : World) : Calls Tryd.prog 28 #[.int .i64 19] w fun e w' => e = .returned (.int .i64 32) ∧ w' = w := by
  go_enter Tryd.func28, Tryd.ntmps28
  go_wp2
  go_ret
  exact ⟨rfl, rfl⟩
theorem parts_31 (w : World) : Calls Tryd.prog 28 #[.int .i64 31] w fun e w' => e = .returned (.int .i64 8) ∧ w' = w := by
  go_enter Tryd.func28, Tryd.ntmps28
  go_wp2
  go_ret
  exact ⟨rfl, rfl⟩
theorem parts_32 (w : World) : Calls Tryd.prog 28 #[.int .i64 32] w fun e w' => e = .returned (.int .i64 4) ∧ w' = w := by
  go_enter Tryd.func28, Tryd.ntmps28
  go_wp2
  go_ret
  exact ⟨rfl, rfl⟩
theorem parts_33 (w : World) : Calls Tryd.prog 28 #[.int .i64 33] w fun e w' => e = .returned (.int .i64 4) ∧ w' = w := by
  go_enter Tryd.func28, Tryd.ntmps28
  go_wp2
  go_ret
  exact ⟨rfl, rfl⟩
theorem parts_34 (w : World) : Calls Tryd.prog 28 #[.int .i64 34] w fun e w' => e = .returned (.int .i64 16) ∧ w' = w := by
  go_enter Tryd.func28, Tryd.ntmps28
  go_wp2
  go_ret
  exact ⟨rfl, rfl⟩
theorem parts_35 (w : World) : Calls Tryd.prog 28 #[.int .i64 35] w fun e w' => e = .returned (.int .i64 16) ∧ w' = w := by
  go_enter Tryd.func28, Tryd.ntmps28
  go_wp2
  go_ret
  exact ⟨rfl, rfl⟩
theorem parts_36 (w : World) : Calls Tryd.prog 28 #[.int .i64 36] w fun e w' => e = .returned (.int .i64 16) ∧ w' = w := by
  go_enter Tryd.func28, Tryd.ntmps28
  go_wp2
  go_ret
  exact ⟨rfl, rfl⟩
theorem parts_37 (w : World) : Calls Tryd.prog 28 #[.int .i64 37] w fun e w' => e = .returned (.int .i64 31) ∧ w' = w := by
  go_enter Tryd.func28, Tryd.ntmps28
  go_wp2
  go_ret
  exact ⟨rfl, rfl⟩
theorem parts_38 (w : World) : Calls Tryd.prog 28 #[.int .i64 38] w fun e w' => e = .returned (.int .i64 17) ∧ w' = w := by
  go_enter Tryd.func28, Tryd.ntmps28
  go_wp2
  go_ret
  exact ⟨rfl, rfl⟩
theorem parts_39 (w : World) : Calls Tryd.prog 28 #[.int .i64 39] w fun e w' => e = .returned (.int .i64 16) ∧ w' = w := by
  go_enter Tryd.func28, Tryd.ntmps28
  go_wp2
  go_ret
  exact ⟨rfl, rfl⟩
theorem parts_40 (w : World) : Calls Tryd.prog 28 #[.int .i64 40] w fun e w' => e = .returned (.int .i64 31) ∧ w' = w := by
  go_enter Tryd.func28, Tryd.ntmps28
  go_wp2
  go_ret
  exact ⟨rfl, rfl⟩
theorem parts_41 (w : World) : Calls Tryd.prog 28 #[.int .i64 41] w fun e w' => e = .returned (.int .i64 7) ∧ w' = w := by
  go_enter Tryd.func28, Tryd.ntmps28
  go_wp2
  go_ret
  exact ⟨rfl, rfl⟩
theorem parts_42 (w : World) : Calls Tryd.prog 28 #[.int .i64 42] w fun e w' => e = .returned (.int .i64 1) ∧ w' = w := by
  go_enter Tryd.func28, Tryd.ntmps28
  go_wp2
  go_ret
  exact ⟨rfl, rfl⟩
theorem parts_43 (w : World) : Calls Tryd.prog 28 #[.int .i64 43] w fun e w' => e = .returned (.int .i64 1) ∧ w' = w := by
  go_enter Tryd.func28, Tryd.ntmps28
  go_wp2
  go_ret
  exact ⟨rfl, rfl⟩
theorem parts_44 (w : World) : Calls Tryd.prog 28 #[.int .i64 44] w fun e w' => e = .returned (.int .i64 1) ∧ w' = w := by
  go_enter Tryd.func28, Tryd.ntmps28
  go_wp2
  go_ret
  exact ⟨rfl, rfl⟩
theorem parts_45 (w : World) : Calls Tryd.prog 28 #[.int .i64 45] w fun e w' => e = .returned (.int .i64 1) ∧ w' = w := by
  go_enter Tryd.func28, Tryd.ntmps28
  go_wp2
  go_ret
  exact ⟨rfl, rfl⟩
theorem parts_46 (w : World) : Calls Tryd.prog 28 #[.int .i64 46] w fun e w' => e = .returned (.int .i64 16) ∧ w' = w := by
  go_enter Tryd.func28, Tryd.ntmps28
  go_wp2
  go_ret
  exact ⟨rfl, rfl⟩

set_option maxHeartbeats 1600000 in
theorem parts_none (K : Int) (w : World) (h : kn K = false) : Calls Tryd.prog 28 #[.int .i64 K] w fun e w' => e = .returned (.int .i64 (-1)) ∧ w' = w := by
  have hn : ∀ c : Int, kn c = true → (K == c) = false := fun c hc => by
    cases hx : (K == c) with
    | false => rfl
    | true => have : K = c := by simpa using hx
              subst this; rw [h] at hc; cases hc
  have k1 := hn 1 (by decide)
  have k2 := hn 2 (by decide)
  have k3 := hn 3 (by decide)
  have k4 := hn 4 (by decide)
  have k5 := hn 5 (by decide)
  have k6 := hn 6 (by decide)
  have k7 := hn 7 (by decide)
  have k8 := hn 8 (by decide)
  have k9 := hn 9 (by decide)
  have k10 := hn 10 (by decide)
  have k11 := hn 11 (by decide)
  have k12 := hn 12 (by decide)
  have k13 := hn 13 (by decide)
  have k14 := hn 14 (by decide)
  have k15 := hn 15 (by decide)
  have k16 := hn 16 (by decide)
  have k17 := hn 17 (by decide)
  have k18 := hn 18 (by decide)
  have k19 := hn 19 (by decide)
  have k31 := hn 31 (by decide)
  have k32 := hn 32 (by decide)
  have k33 := hn 33 (by decide)
  have k34 := hn 34 (by decide)
  have k35 := hn 35 (by decide)
  have k36 := hn 36 (by decide)
  have k37 := hn 37 (by decide)
  have k38 := hn 38 (by decide)
  have k39 := hn 39 (by decide)
  have k40 := hn 40 (by decide)
  have k41 := hn 41 (by decide)
  have k42 := hn 42 (by decide)
  have k43 := hn 43 (by decide)
  have k44 := hn 44 (by decide)
  have k45 := hn 45 (by decide)
  have k46 := hn 46 (by decide)
  clear hn h
  go_enter Tryd.func28, Tryd.ntmps28
  go_wp2
  go_ret
  exact ⟨rfl, rfl⟩

/-- Which parts a kind has; -1: there is no such kind. -/
def rp (K : Int) : Int := if kn K = true then ((kp K.toNat : Nat) : Int) else -1
theorem kn_cases {K : Int} (h : kn K = true) : K = 1 ∨ K = 2 ∨ K = 3 ∨ K = 4 ∨ K = 5 ∨ K = 6 ∨ K = 7 ∨ K = 8 ∨ K = 9 ∨ K = 10 ∨ K = 11 ∨ K = 12 ∨ K = 13 ∨ K = 14 ∨ K = 15 ∨ K = 16 ∨ K = 17 ∨ K = 18 ∨ K = 19 ∨ K = 31 ∨ K = 32 ∨ K = 33 ∨ K = 34 ∨ K = 35 ∨ K = 36 ∨ K = 37 ∨ K = 38 ∨ K = 39 ∨ K = 40 ∨ K = 41 ∨ K = 42 ∨ K = 43 ∨ K = 44 ∨ K = 45 ∨ K = 46 := by
  unfold kn at h; simp at h; omega
theorem parts_any (K : Int) (w : World) : Calls Tryd.prog 28 #[.int .i64 K] w fun e w' => e = .returned (.int .i64 (rp K)) ∧ w' = w := by
  cases h : kn K with
  | false =>
    have e : rp K = -1 := by unfold rp; rw [h]; rfl
    rw [e]; exact parts_none K w h
  | true =>
    rcases kn_cases h with rfl | rfl | rfl | rfl | rfl | rfl | rfl | rfl | rfl | rfl | rfl | rfl | rfl | rfl | rfl | rfl | rfl | rfl | rfl | rfl | rfl | rfl | rfl | rfl | rfl | rfl | rfl | rfl | rfl | rfl | rfl | rfl | rfl | rfl | rfl
    · exact parts_1 w
    · exact parts_2 w
    · exact parts_3 w
    · exact parts_4 w
    · exact parts_5 w
    · exact parts_6 w
    · exact parts_7 w
    · exact parts_8 w
    · exact parts_9 w
    · exact parts_10 w
    · exact parts_11 w
    · exact parts_12 w
    · exact parts_13 w
    · exact parts_14 w
    · exact parts_15 w
    · exact parts_16 w
    · exact parts_17 w
    · exact parts_18 w
    · exact parts_19 w
    · exact parts_31 w
    · exact parts_32 w
    · exact parts_33 w
    · exact parts_34 w
    · exact parts_35 w
    · exact parts_36 w
    · exact parts_37 w
    · exact parts_38 w
    · exact parts_39 w
    · exact parts_40 w
    · exact parts_41 w
    · exact parts_42 w
    · exact parts_43 w
    · exact parts_44 w
    · exact parts_45 w
    · exact parts_46 w

/-! ### there -/
theorem bits_zero (F : Nat) : ((((bitsv F : Nat) : Int)) != 0) = (F != 0) := by
  unfold bitsv
  cases h : Fl.nan F with
  | false => rw [if_neg (by simp)]; rw [Bool.eq_iff_iff]; simp
  | true =>
    rw [if_pos rfl]
    have : F ≠ 0 := by intro e; subst e; revert h; decide
    rw [Bool.eq_iff_iff]; simp [this]
set_option maxHeartbeats 1600000 in
theorem refThere_any (K : Int) (I : Nat) (A B T : ByteArray) (la : Option Addr) (ln lc : Nat) (N : Int) (F : Nat) (w : World) :
    Calls Tryd.prog 29 #[.agg #[.int .i64 K, .int .u64 I, .string A, .string B, .string T, .slice la ln lc, .int .i64 N, .float .f64 F]] w fun e w' => e = .returned (.int .i64 ((thr A B T ln N F : Nat) : Int)) ∧ Below w.heap.size w w' := by
  have hb1 : Below w.heap.size w (w.alloc (.cells #[.int .i64 K, .int .u64 I, .string A, .string B, .string T, .slice la ln lc, .int .i64 N, .float .f64 F] 26)) := (Below.refl _ _).alloc (Nat.le_refl _) _
  have hz1 := SzAt.new (K := K) (I := I) (A := A) (B := B) (T := T) (la := la) (ln := ln) (lc := lc) (N := N) (F := F) w
  have hFb : ((((bitsv F : Nat) : Int)) != 0) = (F != 0) := bits_zero F
  have hlp : decide ((0 : Int) < (ln : Int)) = decide (0 < ln) := by simp
  go_enter Tryd.func29, Tryd.ntmps29
  obtain ⟨b0, HB0⟩ : ∃ b, Hid ((!A.toList.isEmpty) = b) := ⟨_, rfl⟩
  obtain ⟨b1, HB1⟩ : ∃ b, Hid ((!B.toList.isEmpty) = b) := ⟨_, rfl⟩
  obtain ⟨b2, HB2⟩ : ∃ b, Hid ((!T.toList.isEmpty) = b) := ⟨_, rfl⟩
  obtain ⟨b3, HB3⟩ : ∃ b, Hid ((decide (0 < ln)) = b) := ⟨_, rfl⟩
  obtain ⟨b4, HB4⟩ : ∃ b, Hid ((N != 0) = b) := ⟨_, rfl⟩
  obtain ⟨b5, HB5⟩ : ∃ b, Hid ((F != 0) = b) := ⟨_, rfl⟩
  have HT : Hid (thr A B T ln N F = bsum [b0, b1, b2, b3, b4, b5] 1) := by rw [← HB0.out, ← HB1.out, ← HB2.out, ← HB3.out, ← HB4.out, ← HB5.out]; rfl
  go_upto_if 6 with fail
  generalize hW1 : w.alloc _ = W1 at hb1 hz1 ⊢
  clear hW1
  obtain ⟨q0, q1, q2, q3, q4, q5, q6, q7⟩ := hz1
  rw [HB0.out]
  go_cut [3] from 6 to 8 (fun x wx => ∃ v : Nat, Hid (bsum ([b0, b1, b2, b3, b4, b5].take 1) 1 = v) ∧ v < 2 ∧ x = .int .i64 v ∧ wx = W1)
  case first =>
    cases b0 with
    | true =>
      go_wp2
      go_meet
      case rel => exact ⟨1, rfl, by omega, by first | rfl | (congr 1; omega), rfl⟩
    | false =>
      go_wp2
      go_meet
      case rel => exact ⟨0, rfl, by omega, rfl, rfl⟩
  obtain ⟨v0, HV0, hv0, rfl, hwc0⟩ := hcut
  replace hwc0 := hwc0.symm
  subst hwc0
  go_upto_if 11 with fail
  rw [HB1.out]
  go_cut [3] from 11 to 13 (fun x wx => ∃ v : Nat, Hid (bsum ([b0, b1, b2, b3, b4, b5].take 2) 1 = v) ∧ v < 4 ∧ x = .int .i64 v ∧ wx = W1)
  case first =>
    cases b1 with
    | true =>
      go_wp2
      go_meet
      case rel => exact ⟨v0 + 2, (show _ = _ by rw [take_next1, HV0.out]; rfl), by omega, by first | rfl | (congr 1; omega), rfl⟩
    | false =>
      go_wp2
      go_meet
      case rel => exact ⟨v0, (show _ = _ by rw [take_next1, HV0.out]; rfl), by omega, rfl, rfl⟩
  obtain ⟨v1, HV1, hv1, rfl, hwc1⟩ := hcut
  replace hwc1 := hwc1.symm
  subst hwc1
  go_upto_if 16 with fail
  rw [HB2.out]
  go_cut [3] from 16 to 18 (fun x wx => ∃ v : Nat, Hid (bsum ([b0, b1, b2, b3, b4, b5].take 3) 1 = v) ∧ v < 8 ∧ x = .int .i64 v ∧ wx = W1)
  case first =>
    cases b2 with
    | true =>
      go_wp2
      go_meet
      case rel => exact ⟨v1 + 4, (show _ = _ by rw [take_next2, HV1.out]; rfl), by omega, by first | rfl | (congr 1; omega), rfl⟩
    | false =>
      go_wp2
      go_meet
      case rel => exact ⟨v1, (show _ = _ by rw [take_next2, HV1.out]; rfl), by omega, rfl, rfl⟩
  obtain ⟨v2, HV2, hv2, rfl, hwc2⟩ := hcut
  replace hwc2 := hwc2.symm
  subst hwc2
  go_upto_if 22 with fail
  rw [HB3.out]
  go_cut [3] from 22 to 24 (fun x wx => ∃ v : Nat, Hid (bsum ([b0, b1, b2, b3, b4, b5].take 4) 1 = v) ∧ v < 16 ∧ x = .int .i64 v ∧ wx = W1)
  case first =>
    cases b3 with
    | true =>
      go_wp2
      go_meet
      case rel => exact ⟨v2 + 8, (show _ = _ by rw [take_next3, HV2.out]; rfl), by omega, by first | rfl | (congr 1; omega), rfl⟩
    | false =>
      go_wp2
      go_meet
      case rel => exact ⟨v2, (show _ = _ by rw [take_next3, HV2.out]; rfl), by omega, rfl, rfl⟩
  obtain ⟨v3, HV3, hv3, rfl, hwc3⟩ := hcut
  replace hwc3 := hwc3.symm
  subst hwc3
  go_upto_if 27 with fail
  rw [HB4.out]
  go_cut [3] from 27 to 29 (fun x wx => ∃ v : Nat, Hid (bsum ([b0, b1, b2, b3, b4, b5].take 5) 1 = v) ∧ v < 32 ∧ x = .int .i64 v ∧ wx = W1)
  case first =>
    cases b4 with
    | true =>
      go_wp2
      go_meet
      case rel => exact ⟨v3 + 16, (show _ = _ by rw [take_next4, HV3.out]; rfl), by omega, by first | rfl | (congr 1; omega), rfl⟩
    | false =>
      go_wp2
      go_meet
      case rel => exact ⟨v3, (show _ = _ by rw [take_next4, HV3.out]; rfl), by omega, rfl, rfl⟩
  obtain ⟨v4, HV4, hv4, rfl, hwc4⟩ := hcut
  replace hwc4 := hwc4.symm
  subst hwc4
  go_upto_if 33 with (go_at_call 56; refine (refBits_any _ _).mono ?_; rintro e w2 ⟨rfl, hw2⟩; replace hw2 := hw2.symm; subst hw2)
  rw [HB5.out]
  go_cut [3] from 33 to 35 (fun x wx => ∃ v : Nat, Hid (bsum ([b0, b1, b2, b3, b4, b5].take 6) 1 = v) ∧ v < 64 ∧ x = .int .i64 v ∧ wx = W1)
  case first =>
    cases b5 with
    | true =>
      go_wp2
      go_meet
      case rel => exact ⟨v4 + 32, (show _ = _ by rw [take_next5, HV4.out]; rfl), by omega, by first | rfl | (congr 1; omega), rfl⟩
    | false =>
      go_wp2
      go_meet
      case rel => exact ⟨v4, (show _ = _ by rw [take_next5, HV4.out]; rfl), by omega, rfl, rfl⟩
  obtain ⟨v5, HV5, hv5, rfl, hwc5⟩ := hcut
  replace hwc5 := hwc5.symm
  subst hwc5
  go_wp2
  go_ret
  rw [HT.out]
  exact ⟨ret_int (by rw [← HV5.out]; rfl), hb1⟩

end Go.Proofs.YtomkcmkbehcjnaaDoor
