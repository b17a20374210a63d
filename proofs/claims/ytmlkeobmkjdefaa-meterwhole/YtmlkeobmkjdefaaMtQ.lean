/- MeterWait: what Wait says is just how long it lasts. -/
import Derived.Test.YtmlkeobmkjdefaaMtF
namespace Go.Proofs.Ytmlkeobmkjdefaa
open Go.RowKit

theorem emp_s (r s : Nat) : (emp r s).s = nz s := rfl
theorem emp_t (r s : Nat) : (emp r s).t = 0 := rfl
theorem emp_r (r s : Nat) : (emp r s).r = r := rfl
theorem seen_l {b : Bk} {now : Nat} (h : flt b.t now = true) : (b.seen now).l = b.lvl now := by unfold Bk.seen; rw [if_pos h]

/-- The bucket of the law: rate 2 ^ j, burst B. -/
structure Qs (j B c : Nat) : Prop where
  hj : j < 5
  hB : B ≤ 256
  h1 : 1 ≤ c
  h2 : c ≤ B

section
variable {j B c : Nat}
theorem Qs.r (h : Qs j B c) : 64 * 2 ^ j < 2 ^ 53 := by
  have : 2 ^ j ≤ 2 ^ 4 := Nat.pow_le_pow_right (by omega) (by have := h.hj; omega)
  omega
theorem Qs.r0 (_ : Qs j B c) : 0 < 64 * 2 ^ j := by have := Nat.two_pow_pos j; omega
theorem Qs.b (h : Qs j B c) : 64 * B < 2 ^ 53 := by have := h.hB; omega
theorem Qs.cc (h : Qs j B c) : 64 * c < 2 ^ 53 := by have := h.hB; have := h.h2; omega
theorem Qs.up (h : Qs j B c) : c * 2 ^ (6 - j) < 2 ^ 53 ∧ 4 ≤ c * 2 ^ (6 - j) ∧ c * 2 ^ (6 - j) * 2 ^ j = 64 * c := by
  have hj := h.hj
  have h1 := h.h1
  have h2 := h.h2
  have hB := h.hB
  have e1 : 2 ^ (6 - j) * 2 ^ j = 64 := by
    rw [← Nat.pow_add]
    have : 6 - j + j = 6 := by omega
    rw [this]
  have e2 : 2 ^ (6 - j) ≤ 2 ^ 6 := Nat.pow_le_pow_right (by omega) (by omega)
  have e3 : 2 ^ 2 ≤ 2 ^ (6 - j) := Nat.pow_le_pow_right (by omega) (by omega)
  have e4 : c * 2 ^ (6 - j) ≤ 256 * 2 ^ 6 := Nat.mul_le_mul (by omega) e2
  have e5 : 1 * 2 ^ 2 ≤ c * 2 ^ (6 - j) := Nat.mul_le_mul h1 e3
  refine ⟨by omega, by omega, ?_⟩
  rw [Nat.mul_assoc, e1, Nat.mul_comm]

theorem Qs.fine (h : Qs j B c) : fine (E (64 * 2 ^ j)) (E (64 * B)) = true := by
  unfold Go.Proofs.Ytmlkeobmkjdefaa.fine
  rw [E_amt h.r, E_amt h.b, decide_eq_false (E_ninf h.b)]
  rfl

theorem E_flt {a b : Nat} (ha : a < 2 ^ 53) (hb : b < 2 ^ 53) : flt (E a) (E b) = decide (a < b) := by
  rw [flt_pos (E_le ha) (E_le hb)]
  have := E_lt_iff ha hb
  rw [Bool.eq_iff_iff]
  simp [this]
theorem E_fle {a b : Nat} (ha : a < 2 ^ 53) (hb : b < 2 ^ 53) : fle (E a) (E b) = decide (a ≤ b) := by
  rw [fle_pos (E_le ha) (E_le hb)]
  have := E_le_iff ha hb
  rw [Bool.eq_iff_iff]
  simp [this]

theorem E_chk {s t c : Nat} (hs : s < 2 ^ 53) (ht : t < 2 ^ 53) (hc : c < 2 ^ 53) : chk (E s) (E t) (E c) = if s < c then 3 else 0 := by
  unfold chk
  rw [nan_pos (E_le ht), decide_eq_false (E_nNI ht), E_amt hc, E_flt hs hc]
  by_cases h : s < c
  · rw [if_pos h, decide_eq_true h]; rfl
  · rw [if_neg h, decide_eq_false h]; rfl

/-- The level of an emptied bucket, in sixty-fourths. -/
theorem E_lev {s r t : Nat} (hs : s < 2 ^ 53) (hr : 64 * r < 2 ^ 53) (h0 : 0 < r) (ht : t < 2 ^ 53) (hp : t * r < 2 ^ 53) : (emp (E (64 * r)) (E s)).lvl (E t) = E (min s (t * r)) := by
  rw [emp_lvl (E_amt hr) (E_64 hr) (E_amt ht) (E_64 ht), E_nz hs, E_nz hr, E_nz ht]
  unfold lev
  by_cases g : t = 0
  · subst g
    rw [E_zero, if_pos rfl, Nat.zero_mul, Nat.min_zero, E_zero]
  · have p1 := E_pos ht (by omega)
    have p2 := E_pos hr (by omega)
    rw [if_neg (by omega), if_neg, if_neg (by omega)]
    · have e1 : some (Fl.rnd (Fl.val (E t) * Fl.val (E (64 * r)) * 2 ^ 1852)) = some (E (t * r)) := by
        rw [← E_mul ht hr]
        exact (Fl.mul_pos (E_val ht).1 (E_val hr).1).symm
      have e2 := Option.some.inj e1
      rw [e2]
      rcases Nat.le_total s (t * r) with q | q
      · rw [Nat.min_eq_left q, Nat.min_eq_left ((E_le_iff hs hp).2 q)]
      · rw [Nat.min_eq_right q, Nat.min_eq_right ((E_le_iff hp hs).2 q)]
    · rintro (q | ⟨q, _⟩)
      · exact E_ninf hr q
      · exact E_ninf ht q

theorem Qs.wait (h : Qs j B c) : (emp (E (64 * 2 ^ j)) (E (64 * B))).wt 0 (E (64 * c)) = E (c * 2 ^ (6 - j)) := by
  have hc := h.cc
  have hl : (emp (E (64 * 2 ^ j)) (E (64 * B))).lvl 0 = 0 := by
    have := E_lev (t := 0) h.b h.r (Nat.two_pow_pos j) (by decide) (by rw [Nat.zero_mul]; decide)
    rw [E_zero, Nat.zero_mul, Nat.min_zero, E_zero] at this
    exact this
  have hk : chk (emp (E (64 * 2 ^ j)) (E (64 * B))).s 0 (E (64 * c)) = 0 := by
    rw [emp_s]
    have := E_chk (t := 0) h.b (by decide) hc
    rw [E_zero] at this
    rw [E_nz h.b, this, if_neg (by have := h.h2; omega)]
  unfold Bk.wt
  rw [if_neg (by rw [hk]; simp), hl]
  have f1 : fle (E (64 * c)) 0 = false := by
    have := E_fle (b := 0) hc (by decide)
    rw [E_zero] at this
    rw [this]
    exact decide_eq_false (by have := h.h1; omega)
  rw [f1, if_neg (by decide)]
  have f2 : feq (E (64 * 2 ^ j)) 0 = false := by
    rw [feq_nz (E_amt h.r) (E_64 h.r), E_nz h.r]
    exact decide_eq_false (by have := E_pos h.r h.r0; omega)
  rw [emp_r, f2, if_neg (by decide), if_neg (E_ninf h.r), sub_zero (E_val hc).1, Option.getD_some, E_div h.hj hc, Option.getD_some]

theorem Qs.tk1 (h : Qs j B c) : ((emp (E (64 * 2 ^ j)) (E (64 * B))).tk (E (c * 2 ^ (6 - j) - 1)) (E (64 * c))).1 = 19 := by
  obtain ⟨u1, u2, u3⟩ := h.up
  have hp : (c * 2 ^ (6 - j) - 1) * 2 ^ j = 64 * c - 2 ^ j := by rw [Nat.sub_mul, u3, Nat.one_mul]
  have hl := E_lev (t := c * 2 ^ (6 - j) - 1) h.b h.r (Nat.two_pow_pos j) (by omega) (by rw [hp]; exact Nat.lt_of_le_of_lt (Nat.sub_le _ _) h.cc)
  rw [hp] at hl
  have hk : chk (emp (E (64 * 2 ^ j)) (E (64 * B))).s (E (c * 2 ^ (6 - j) - 1)) (E (64 * c)) = 0 := by
    rw [emp_s]
    rw [E_nz h.b, E_chk h.b (by omega) h.cc, if_neg (by have := h.h2; omega)]
  have hs : ((emp (E (64 * 2 ^ j)) (E (64 * B))).seen (E (c * 2 ^ (6 - j) - 1))).l = E (min (64 * B) (64 * c - 2 ^ j)) := by
    rw [seen_l, hl]
    rw [emp_t, flt_pos zero_inf (E_le (by omega))]
    exact decide_eq_true (E_pos (by omega) (by omega))
  unfold Bk.tk
  rw [if_neg (by rw [hk]; simp), hs, E_flt (by have := h.b; omega) h.cc]
  have hpow := Nat.two_pow_pos j
  rw [decide_eq_true (by have := h.h1; omega), if_pos rfl]

theorem Qs.tk2 (h : Qs j B c) : ((emp (E (64 * 2 ^ j)) (E (64 * B))).tk (E (c * 2 ^ (6 - j))) (E (64 * c))).1 = 0 := by
  obtain ⟨u1, u2, u3⟩ := h.up
  have hl := E_lev (t := c * 2 ^ (6 - j)) h.b h.r (Nat.two_pow_pos j) (by omega) (by rw [u3]; exact h.cc)
  rw [u3] at hl
  have hk : chk (emp (E (64 * 2 ^ j)) (E (64 * B))).s (E (c * 2 ^ (6 - j))) (E (64 * c)) = 0 := by
    rw [emp_s]
    rw [E_nz h.b, E_chk h.b (by omega) h.cc, if_neg (by have := h.h2; omega)]
  have hs : ((emp (E (64 * 2 ^ j)) (E (64 * B))).seen (E (c * 2 ^ (6 - j)))).l = E (min (64 * B) (64 * c)) := by
    rw [seen_l, hl]
    rw [emp_t, flt_pos zero_inf (E_le (by omega))]
    exact decide_eq_true (E_pos (by omega) (by omega))
  unfold Bk.tk
  rw [if_neg (by rw [hk]; simp), hs, E_flt (by have := h.b; omega) h.cc]
  rw [decide_eq_false (by have := h.h2; omega), if_neg (by decide)]
end

set_option maxRecDepth 100000 in
set_option maxHeartbeats 3200000 in
theorem wait_0 (x0 x1 x2 : Nat) (h1 : x1 < 256) (h2 : x2 < 256) (hm : (x0 : Int).tmod 5 = 0) (w : World) :
    Calls Try.prog 7 #[.int .u8 x0, .int .u8 x1, .int .u8 x2] w fun e w' => e = .returned (.bool true) ∧ Below w.heap.size w w' := by
  have hcv : ∀ (q : IntKind) (t : TypeId) (z : Int) (w : World), (Try.prog.underlying t).isSome = true → (convert t 24 (.int q z)).run Try.prog w = .ok (.float .f64 (floatOfInt .f64 z)) w := fun q t z w h => run_convert_int_float w t 24 q .f64 z h Try.underlying24
  have c3 := fun z w => hcv .i64 3 z w (by kernel_rfl)
  have c5 := fun z w => hcv .u8 5 z w (by kernel_rfl)
  clear hcv
  have hmod : x2 % (x1 + 1) < x1 + 1 := Nat.mod_lt _ (by omega)
  have hq : (x2 : Int).tmod ((x1 : Int) + 1) = ((x2 % (x1 + 1) : Nat) : Int) := by
    rw [Int.tmod_eq_emod_of_nonneg (by omega), Int.natCast_emod, Int.natCast_add]
    rfl
  have hQ : Qs 0 (x1 + 1) (x2 % (x1 + 1) + 1) := ⟨by omega, by omega, by omega, by omega⟩
  generalize x2 % (x1 + 1) = y at *
  have a1 : ∀ w : World, (binOp .add 24 (.float .f64 (floatOfInt .f64 (x1 : Int))) (.float .f64 4607182418800017408)).run Try.prog w = .ok (.float .f64 (E (64 * (x1 + 1)))) w := fun w =>
    run_float_arith w .add 24 .f64 _ _ _ (by show Ieee.double.add _ _ = _; rw [E_int, E_one, E_add (by omega) (by omega), Nat.mul_add])
  have a2 : ∀ w : World, (binOp .add 24 (.float .f64 (floatOfInt .f64 (y : Int))) (.float .f64 4607182418800017408)).run Try.prog w = .ok (.float .f64 (E (64 * (y + 1)))) w := fun w =>
    run_float_arith w .add 24 .f64 _ _ _ (by show Ieee.double.add _ _ = _; rw [E_int, E_one, E_add (by omega) (by omega), Nat.mul_add])
  have a3 : floatOfInt .f64 1 = E (64 * 2 ^ 0) := E_int 1
  have N1 := fun w => new_ok (E (64 * 2 ^ 0)) (E (64 * (x1 + 1))) (E_64 hQ.b) hQ.fine w
  have T1 := fun p w h => take_any p (newB (E (64 * 2 ^ 0)) (E (64 * (x1 + 1)))) (newB_ok (E_64 hQ.r) (E_64 hQ.b) hQ.fine) 0 (E (64 * (x1 + 1))) (by decide) (E_64 hQ.b) w h
  rw [emp_of (E_64 hQ.r) (E_64 hQ.b) hQ.fine] at T1
  have ok := emp_ok (E_64 hQ.r) (E_64 hQ.b) hQ.fine
  have W1 := fun p w h => wait_any p _ ok 0 (E (64 * (y + 1))) (by decide) (E_64 hQ.cc) w h
  rw [hQ.wait] at W1
  have u := hQ.up
  have T2 := fun p w h => take_any p _ ok (E ((y + 1) * 2 ^ (6 - 0) - 1)) (E (64 * (y + 1))) (E_64 (by omega)) (E_64 hQ.cc) w h
  rw [hQ.tk1] at T2
  have T3 := fun p w h => take_any p _ ok (E ((y + 1) * 2 ^ (6 - 0))) (E (64 * (y + 1))) (E_64 u.1) (E_64 hQ.cc) w h
  rw [hQ.tk2] at T3
  have d1 : ∀ w : World, (binOp .quo 24 (.float .f64 (E (64 * (y + 1)))) (.float .f64 (E (64 * 2 ^ 0)))).run Try.prog w = .ok (.float .f64 (E ((y + 1) * 2 ^ (6 - 0)))) w := fun w => run_float_arith w .quo 24 .f64 _ _ _ (E_div (by omega) hQ.cc)
  have d2 : ∀ w : World, (binOp .sub 24 (.float .f64 (E ((y + 1) * 2 ^ (6 - 0)))) (.float .f64 4580160821035794432)).run Try.prog w = .ok (.float .f64 (E ((y + 1) * 2 ^ (6 - 0) - 1))) w := fun w =>
    run_float_arith w .sub 24 .f64 _ _ _ (by show Ieee.double.sub _ _ = _; rw [E_least]; exact E_sub u.1 (by omega))
  have d3 := f64_eq (E ((y + 1) * 2 ^ (6 - 0))) (E ((y + 1) * 2 ^ (6 - 0)))
  rw [feq_pos (E_le u.1) (E_le u.1), decide_eq_true rfl] at d3
  have HW := wakes_any
  clear u hQ ok
  generalize emp (E (64 * 2 ^ 0)) (E (64 * (x1 + 1))) = b0 at *
  generalize newB (E (64 * 2 ^ 0)) (E (64 * (x1 + 1))) = b1 at *
  generalize E ((y + 1) * 2 ^ (6 - 0) - 1) = ew at *
  generalize E ((y + 1) * 2 ^ (6 - 0)) = eu at *
  generalize E (64 * 2 ^ 0) = er at *
  generalize E (64 * (x1 + 1)) = es at *
  generalize E (64 * (y + 1)) = ec at *
  generalize (b0.tk ew ec).2 = b2 at *
  generalize (b0.tk eu ec).2 = b3 at *
  have N2 := N1
  go_enter Try.func7, Try.ntmps7
  go_upto_region 5 with (first
    | (go_at_call 9; refine (N1 _).mono ?_; clear N1; rintro e w1 ⟨p, rfl, hB1, hp1, hb1⟩)
    | (go_at_call 9; refine (N2 _).mono ?_; clear N2; rintro e w2 ⟨q, rfl, hB2, hq2, hb2⟩))
  have hpq : p ≠ q := fun e => by subst e; have := hB1.lt; omega
  have hBel2 := hb1.trans (hb2.mono hb1.size)
  have hP2 := hB1.below hb2
  have hq0 : w.heap.size ≤ q := Nat.le_trans hb1.size hq2
  clear hB1 hq2
  have U1 := T1 q
  replace T1 := T1 p
  replace W1 := W1 p
  replace T2 := T2 q
  replace T3 := T3 p
  go_wp2_with (first
    | (go_at_call 11; refine (HW _).mono ?_; clear HW; rintro e w3 ⟨rfl, hb3⟩; have hP3 := hP2.below hb3; have hQ3 := hB2.below hb3)
    | (go_at_call 17; refine (T1 _ hP3).mono ?_; clear T1; rintro e w4 ⟨rfl, hB4, hk4⟩; have hQ4 := hQ3.keep hk4 (fun e => hpq e.symm))
    | (go_at_call 17; refine (U1 _ hQ4).mono ?_; clear U1; rintro e w5 ⟨rfl, hB5, hk5⟩; have hP5 := hB4.keep hk5 hpq)
    | (go_at_call 15; refine (W1 _ hP5).mono ?_; clear W1; rintro e w6 ⟨rfl, k, rfl⟩; have hP6 := hP5.drewN k; have hQ6 := hB5.drewN k)
    | (go_at_call 17; refine (T2 _ hQ6).mono ?_; clear T2; rintro e w7 ⟨rfl, hB7, hk7⟩; have hP7 := hP6.keep hk7 hpq)
    | (go_at_call 17; refine (T3 _ hP7).mono ?_; clear T3; rintro e w8 ⟨rfl, hB8, hk8⟩))
  go_ret
  refine ⟨rfl, ?_⟩
  have b3' := hBel2.trans (hb3.mono hBel2.size)
  have b4 := b3'.trans (hk4.below b3'.size (fun k e => by subst e; exact hp1))
  have b5 := b4.trans (hk5.below b4.size (fun k e => by subst e; exact hq0))
  have b6 := b5.trans (((Keep.refl (fun _ => False) w5).drewN k).below b5.size (fun _ h => h.elim))
  have b7 := b6.trans (hk7.below b6.size (fun k e => by subst e; exact hq0))
  exact b7.trans (hk8.below b7.size (fun k e => by subst e; exact hp1))

set_option maxRecDepth 100000 in
set_option maxHeartbeats 3200000 in
theorem wait_1 (x0 x1 x2 : Nat) (h1 : x1 < 256) (h2 : x2 < 256) (hm : (x0 : Int).tmod 5 = 1) (w : World) :
    Calls Try.prog 7 #[.int .u8 x0, .int .u8 x1, .int .u8 x2] w fun e w' => e = .returned (.bool true) ∧ Below w.heap.size w w' := by
  have hcv : ∀ (q : IntKind) (t : TypeId) (z : Int) (w : World), (Try.prog.underlying t).isSome = true → (convert t 24 (.int q z)).run Try.prog w = .ok (.float .f64 (floatOfInt .f64 z)) w := fun q t z w h => run_convert_int_float w t 24 q .f64 z h Try.underlying24
  have c3 := fun z w => hcv .i64 3 z w (by kernel_rfl)
  have c5 := fun z w => hcv .u8 5 z w (by kernel_rfl)
  clear hcv
  have hmod : x2 % (x1 + 1) < x1 + 1 := Nat.mod_lt _ (by omega)
  have hq : (x2 : Int).tmod ((x1 : Int) + 1) = ((x2 % (x1 + 1) : Nat) : Int) := by
    rw [Int.tmod_eq_emod_of_nonneg (by omega), Int.natCast_emod, Int.natCast_add]
    rfl
  have hQ : Qs 1 (x1 + 1) (x2 % (x1 + 1) + 1) := ⟨by omega, by omega, by omega, by omega⟩
  generalize x2 % (x1 + 1) = y at *
  have a1 : ∀ w : World, (binOp .add 24 (.float .f64 (floatOfInt .f64 (x1 : Int))) (.float .f64 4607182418800017408)).run Try.prog w = .ok (.float .f64 (E (64 * (x1 + 1)))) w := fun w =>
    run_float_arith w .add 24 .f64 _ _ _ (by show Ieee.double.add _ _ = _; rw [E_int, E_one, E_add (by omega) (by omega), Nat.mul_add])
  have a2 : ∀ w : World, (binOp .add 24 (.float .f64 (floatOfInt .f64 (y : Int))) (.float .f64 4607182418800017408)).run Try.prog w = .ok (.float .f64 (E (64 * (y + 1)))) w := fun w =>
    run_float_arith w .add 24 .f64 _ _ _ (by show Ieee.double.add _ _ = _; rw [E_int, E_one, E_add (by omega) (by omega), Nat.mul_add])
  have a3 : floatOfInt .f64 2 = E (64 * 2 ^ 1) := E_int 2
  have N1 := fun w => new_ok (E (64 * 2 ^ 1)) (E (64 * (x1 + 1))) (E_64 hQ.b) hQ.fine w
  have T1 := fun p w h => take_any p (newB (E (64 * 2 ^ 1)) (E (64 * (x1 + 1)))) (newB_ok (E_64 hQ.r) (E_64 hQ.b) hQ.fine) 0 (E (64 * (x1 + 1))) (by decide) (E_64 hQ.b) w h
  rw [emp_of (E_64 hQ.r) (E_64 hQ.b) hQ.fine] at T1
  have ok := emp_ok (E_64 hQ.r) (E_64 hQ.b) hQ.fine
  have W1 := fun p w h => wait_any p _ ok 0 (E (64 * (y + 1))) (by decide) (E_64 hQ.cc) w h
  rw [hQ.wait] at W1
  have u := hQ.up
  have T2 := fun p w h => take_any p _ ok (E ((y + 1) * 2 ^ (6 - 1) - 1)) (E (64 * (y + 1))) (E_64 (by omega)) (E_64 hQ.cc) w h
  rw [hQ.tk1] at T2
  have T3 := fun p w h => take_any p _ ok (E ((y + 1) * 2 ^ (6 - 1))) (E (64 * (y + 1))) (E_64 u.1) (E_64 hQ.cc) w h
  rw [hQ.tk2] at T3
  have d1 : ∀ w : World, (binOp .quo 24 (.float .f64 (E (64 * (y + 1)))) (.float .f64 (E (64 * 2 ^ 1)))).run Try.prog w = .ok (.float .f64 (E ((y + 1) * 2 ^ (6 - 1)))) w := fun w => run_float_arith w .quo 24 .f64 _ _ _ (E_div (by omega) hQ.cc)
  have d2 : ∀ w : World, (binOp .sub 24 (.float .f64 (E ((y + 1) * 2 ^ (6 - 1)))) (.float .f64 4580160821035794432)).run Try.prog w = .ok (.float .f64 (E ((y + 1) * 2 ^ (6 - 1) - 1))) w := fun w =>
    run_float_arith w .sub 24 .f64 _ _ _ (by show Ieee.double.sub _ _ = _; rw [E_least]; exact E_sub u.1 (by omega))
  have d3 := f64_eq (E ((y + 1) * 2 ^ (6 - 1))) (E ((y + 1) * 2 ^ (6 - 1)))
  rw [feq_pos (E_le u.1) (E_le u.1), decide_eq_true rfl] at d3
  have HW := wakes_any
  clear u hQ ok
  generalize emp (E (64 * 2 ^ 1)) (E (64 * (x1 + 1))) = b0 at *
  generalize newB (E (64 * 2 ^ 1)) (E (64 * (x1 + 1))) = b1 at *
  generalize E ((y + 1) * 2 ^ (6 - 1) - 1) = ew at *
  generalize E ((y + 1) * 2 ^ (6 - 1)) = eu at *
  generalize E (64 * 2 ^ 1) = er at *
  generalize E (64 * (x1 + 1)) = es at *
  generalize E (64 * (y + 1)) = ec at *
  generalize (b0.tk ew ec).2 = b2 at *
  generalize (b0.tk eu ec).2 = b3 at *
  have N2 := N1
  go_enter Try.func7, Try.ntmps7
  go_upto_region 5 with (first
    | (go_at_call 9; refine (N1 _).mono ?_; clear N1; rintro e w1 ⟨p, rfl, hB1, hp1, hb1⟩)
    | (go_at_call 9; refine (N2 _).mono ?_; clear N2; rintro e w2 ⟨q, rfl, hB2, hq2, hb2⟩))
  have hpq : p ≠ q := fun e => by subst e; have := hB1.lt; omega
  have hBel2 := hb1.trans (hb2.mono hb1.size)
  have hP2 := hB1.below hb2
  have hq0 : w.heap.size ≤ q := Nat.le_trans hb1.size hq2
  clear hB1 hq2
  have U1 := T1 q
  replace T1 := T1 p
  replace W1 := W1 p
  replace T2 := T2 q
  replace T3 := T3 p
  go_wp2_with (first
    | (go_at_call 11; refine (HW _).mono ?_; clear HW; rintro e w3 ⟨rfl, hb3⟩; have hP3 := hP2.below hb3; have hQ3 := hB2.below hb3)
    | (go_at_call 17; refine (T1 _ hP3).mono ?_; clear T1; rintro e w4 ⟨rfl, hB4, hk4⟩; have hQ4 := hQ3.keep hk4 (fun e => hpq e.symm))
    | (go_at_call 17; refine (U1 _ hQ4).mono ?_; clear U1; rintro e w5 ⟨rfl, hB5, hk5⟩; have hP5 := hB4.keep hk5 hpq)
    | (go_at_call 15; refine (W1 _ hP5).mono ?_; clear W1; rintro e w6 ⟨rfl, k, rfl⟩; have hP6 := hP5.drewN k; have hQ6 := hB5.drewN k)
    | (go_at_call 17; refine (T2 _ hQ6).mono ?_; clear T2; rintro e w7 ⟨rfl, hB7, hk7⟩; have hP7 := hP6.keep hk7 hpq)
    | (go_at_call 17; refine (T3 _ hP7).mono ?_; clear T3; rintro e w8 ⟨rfl, hB8, hk8⟩))
  go_ret
  refine ⟨rfl, ?_⟩
  have b3' := hBel2.trans (hb3.mono hBel2.size)
  have b4 := b3'.trans (hk4.below b3'.size (fun k e => by subst e; exact hp1))
  have b5 := b4.trans (hk5.below b4.size (fun k e => by subst e; exact hq0))
  have b6 := b5.trans (((Keep.refl (fun _ => False) w5).drewN k).below b5.size (fun _ h => h.elim))
  have b7 := b6.trans (hk7.below b6.size (fun k e => by subst e; exact hq0))
  exact b7.trans (hk8.below b7.size (fun k e => by subst e; exact hp1))

set_option maxRecDepth 100000 in
set_option maxHeartbeats 3200000 in
theorem wait_2 (x0 x1 x2 : Nat) (h1 : x1 < 256) (h2 : x2 < 256) (hm : (x0 : Int).tmod 5 = 2) (w : World) :
    Calls Try.prog 7 #[.int .u8 x0, .int .u8 x1, .int .u8 x2] w fun e w' => e = .returned (.bool true) ∧ Below w.heap.size w w' := by
  have hcv : ∀ (q : IntKind) (t : TypeId) (z : Int) (w : World), (Try.prog.underlying t).isSome = true → (convert t 24 (.int q z)).run Try.prog w = .ok (.float .f64 (floatOfInt .f64 z)) w := fun q t z w h => run_convert_int_float w t 24 q .f64 z h Try.underlying24
  have c3 := fun z w => hcv .i64 3 z w (by kernel_rfl)
  have c5 := fun z w => hcv .u8 5 z w (by kernel_rfl)
  clear hcv
  have hmod : x2 % (x1 + 1) < x1 + 1 := Nat.mod_lt _ (by omega)
  have hq : (x2 : Int).tmod ((x1 : Int) + 1) = ((x2 % (x1 + 1) : Nat) : Int) := by
    rw [Int.tmod_eq_emod_of_nonneg (by omega), Int.natCast_emod, Int.natCast_add]
    rfl
  have hQ : Qs 2 (x1 + 1) (x2 % (x1 + 1) + 1) := ⟨by omega, by omega, by omega, by omega⟩
  generalize x2 % (x1 + 1) = y at *
  have a1 : ∀ w : World, (binOp .add 24 (.float .f64 (floatOfInt .f64 (x1 : Int))) (.float .f64 4607182418800017408)).run Try.prog w = .ok (.float .f64 (E (64 * (x1 + 1)))) w := fun w =>
    run_float_arith w .add 24 .f64 _ _ _ (by show Ieee.double.add _ _ = _; rw [E_int, E_one, E_add (by omega) (by omega), Nat.mul_add])
  have a2 : ∀ w : World, (binOp .add 24 (.float .f64 (floatOfInt .f64 (y : Int))) (.float .f64 4607182418800017408)).run Try.prog w = .ok (.float .f64 (E (64 * (y + 1)))) w := fun w =>
    run_float_arith w .add 24 .f64 _ _ _ (by show Ieee.double.add _ _ = _; rw [E_int, E_one, E_add (by omega) (by omega), Nat.mul_add])
  have a3 : floatOfInt .f64 4 = E (64 * 2 ^ 2) := E_int 4
  have N1 := fun w => new_ok (E (64 * 2 ^ 2)) (E (64 * (x1 + 1))) (E_64 hQ.b) hQ.fine w
  have T1 := fun p w h => take_any p (newB (E (64 * 2 ^ 2)) (E (64 * (x1 + 1)))) (newB_ok (E_64 hQ.r) (E_64 hQ.b) hQ.fine) 0 (E (64 * (x1 + 1))) (by decide) (E_64 hQ.b) w h
  rw [emp_of (E_64 hQ.r) (E_64 hQ.b) hQ.fine] at T1
  have ok := emp_ok (E_64 hQ.r) (E_64 hQ.b) hQ.fine
  have W1 := fun p w h => wait_any p _ ok 0 (E (64 * (y + 1))) (by decide) (E_64 hQ.cc) w h
  rw [hQ.wait] at W1
  have u := hQ.up
  have T2 := fun p w h => take_any p _ ok (E ((y + 1) * 2 ^ (6 - 2) - 1)) (E (64 * (y + 1))) (E_64 (by omega)) (E_64 hQ.cc) w h
  rw [hQ.tk1] at T2
  have T3 := fun p w h => take_any p _ ok (E ((y + 1) * 2 ^ (6 - 2))) (E (64 * (y + 1))) (E_64 u.1) (E_64 hQ.cc) w h
  rw [hQ.tk2] at T3
  have d1 : ∀ w : World, (binOp .quo 24 (.float .f64 (E (64 * (y + 1)))) (.float .f64 (E (64 * 2 ^ 2)))).run Try.prog w = .ok (.float .f64 (E ((y + 1) * 2 ^ (6 - 2)))) w := fun w => run_float_arith w .quo 24 .f64 _ _ _ (E_div (by omega) hQ.cc)
  have d2 : ∀ w : World, (binOp .sub 24 (.float .f64 (E ((y + 1) * 2 ^ (6 - 2)))) (.float .f64 4580160821035794432)).run Try.prog w = .ok (.float .f64 (E ((y + 1) * 2 ^ (6 - 2) - 1))) w := fun w =>
    run_float_arith w .sub 24 .f64 _ _ _ (by show Ieee.double.sub _ _ = _; rw [E_least]; exact E_sub u.1 (by omega))
  have d3 := f64_eq (E ((y + 1) * 2 ^ (6 - 2))) (E ((y + 1) * 2 ^ (6 - 2)))
  rw [feq_pos (E_le u.1) (E_le u.1), decide_eq_true rfl] at d3
  have HW := wakes_any
  clear u hQ ok
  generalize emp (E (64 * 2 ^ 2)) (E (64 * (x1 + 1))) = b0 at *
  generalize newB (E (64 * 2 ^ 2)) (E (64 * (x1 + 1))) = b1 at *
  generalize E ((y + 1) * 2 ^ (6 - 2) - 1) = ew at *
  generalize E ((y + 1) * 2 ^ (6 - 2)) = eu at *
  generalize E (64 * 2 ^ 2) = er at *
  generalize E (64 * (x1 + 1)) = es at *
  generalize E (64 * (y + 1)) = ec at *
  generalize (b0.tk ew ec).2 = b2 at *
  generalize (b0.tk eu ec).2 = b3 at *
  have N2 := N1
  go_enter Try.func7, Try.ntmps7
  go_upto_region 5 with (first
    | (go_at_call 9; refine (N1 _).mono ?_; clear N1; rintro e w1 ⟨p, rfl, hB1, hp1, hb1⟩)
    | (go_at_call 9; refine (N2 _).mono ?_; clear N2; rintro e w2 ⟨q, rfl, hB2, hq2, hb2⟩))
  have hpq : p ≠ q := fun e => by subst e; have := hB1.lt; omega
  have hBel2 := hb1.trans (hb2.mono hb1.size)
  have hP2 := hB1.below hb2
  have hq0 : w.heap.size ≤ q := Nat.le_trans hb1.size hq2
  clear hB1 hq2
  have U1 := T1 q
  replace T1 := T1 p
  replace W1 := W1 p
  replace T2 := T2 q
  replace T3 := T3 p
  go_wp2_with (first
    | (go_at_call 11; refine (HW _).mono ?_; clear HW; rintro e w3 ⟨rfl, hb3⟩; have hP3 := hP2.below hb3; have hQ3 := hB2.below hb3)
    | (go_at_call 17; refine (T1 _ hP3).mono ?_; clear T1; rintro e w4 ⟨rfl, hB4, hk4⟩; have hQ4 := hQ3.keep hk4 (fun e => hpq e.symm))
    | (go_at_call 17; refine (U1 _ hQ4).mono ?_; clear U1; rintro e w5 ⟨rfl, hB5, hk5⟩; have hP5 := hB4.keep hk5 hpq)
    | (go_at_call 15; refine (W1 _ hP5).mono ?_; clear W1; rintro e w6 ⟨rfl, k, rfl⟩; have hP6 := hP5.drewN k; have hQ6 := hB5.drewN k)
    | (go_at_call 17; refine (T2 _ hQ6).mono ?_; clear T2; rintro e w7 ⟨rfl, hB7, hk7⟩; have hP7 := hP6.keep hk7 hpq)
    | (go_at_call 17; refine (T3 _ hP7).mono ?_; clear T3; rintro e w8 ⟨rfl, hB8, hk8⟩))
  go_ret
  refine ⟨rfl, ?_⟩
  have b3' := hBel2.trans (hb3.mono hBel2.size)
  have b4 := b3'.trans (hk4.below b3'.size (fun k e => by subst e; exact hp1))
  have b5 := b4.trans (hk5.below b4.size (fun k e => by subst e; exact hq0))
  have b6 := b5.trans (((Keep.refl (fun _ => False) w5).drewN k).below b5.size (fun _ h => h.elim))
  have b7 := b6.trans (hk7.below b6.size (fun k e => by subst e; exact hq0))
  exact b7.trans (hk8.below b7.size (fun k e => by subst e; exact hp1))

set_option maxRecDepth 100000 in
set_option maxHeartbeats 3200000 in
theorem wait_3 (x0 x1 x2 : Nat) (h1 : x1 < 256) (h2 : x2 < 256) (hm : (x0 : Int).tmod 5 = 3) (w : World) :
    Calls Try.prog 7 #[.int .u8 x0, .int .u8 x1, .int .u8 x2] w fun e w' => e = .returned (.bool true) ∧ Below w.heap.size w w' := by
  have hcv : ∀ (q : IntKind) (t : TypeId) (z : Int) (w : World), (Try.prog.underlying t).isSome = true → (convert t 24 (.int q z)).run Try.prog w = .ok (.float .f64 (floatOfInt .f64 z)) w := fun q t z w h => run_convert_int_float w t 24 q .f64 z h Try.underlying24
  have c3 := fun z w => hcv .i64 3 z w (by kernel_rfl)
  have c5 := fun z w => hcv .u8 5 z w (by kernel_rfl)
  clear hcv
  have hmod : x2 % (x1 + 1) < x1 + 1 := Nat.mod_lt _ (by omega)
  have hq : (x2 : Int).tmod ((x1 : Int) + 1) = ((x2 % (x1 + 1) : Nat) : Int) := by
    rw [Int.tmod_eq_emod_of_nonneg (by omega), Int.natCast_emod, Int.natCast_add]
    rfl
  have hQ : Qs 3 (x1 + 1) (x2 % (x1 + 1) + 1) := ⟨by omega, by omega, by omega, by omega⟩
  generalize x2 % (x1 + 1) = y at *
  have a1 : ∀ w : World, (binOp .add 24 (.float .f64 (floatOfInt .f64 (x1 : Int))) (.float .f64 4607182418800017408)).run Try.prog w = .ok (.float .f64 (E (64 * (x1 + 1)))) w := fun w =>
    run_float_arith w .add 24 .f64 _ _ _ (by show Ieee.double.add _ _ = _; rw [E_int, E_one, E_add (by omega) (by omega), Nat.mul_add])
  have a2 : ∀ w : World, (binOp .add 24 (.float .f64 (floatOfInt .f64 (y : Int))) (.float .f64 4607182418800017408)).run Try.prog w = .ok (.float .f64 (E (64 * (y + 1)))) w := fun w =>
    run_float_arith w .add 24 .f64 _ _ _ (by show Ieee.double.add _ _ = _; rw [E_int, E_one, E_add (by omega) (by omega), Nat.mul_add])
  have a3 : floatOfInt .f64 8 = E (64 * 2 ^ 3) := E_int 8
  have N1 := fun w => new_ok (E (64 * 2 ^ 3)) (E (64 * (x1 + 1))) (E_64 hQ.b) hQ.fine w
  have T1 := fun p w h => take_any p (newB (E (64 * 2 ^ 3)) (E (64 * (x1 + 1)))) (newB_ok (E_64 hQ.r) (E_64 hQ.b) hQ.fine) 0 (E (64 * (x1 + 1))) (by decide) (E_64 hQ.b) w h
  rw [emp_of (E_64 hQ.r) (E_64 hQ.b) hQ.fine] at T1
  have ok := emp_ok (E_64 hQ.r) (E_64 hQ.b) hQ.fine
  have W1 := fun p w h => wait_any p _ ok 0 (E (64 * (y + 1))) (by decide) (E_64 hQ.cc) w h
  rw [hQ.wait] at W1
  have u := hQ.up
  have T2 := fun p w h => take_any p _ ok (E ((y + 1) * 2 ^ (6 - 3) - 1)) (E (64 * (y + 1))) (E_64 (by omega)) (E_64 hQ.cc) w h
  rw [hQ.tk1] at T2
  have T3 := fun p w h => take_any p _ ok (E ((y + 1) * 2 ^ (6 - 3))) (E (64 * (y + 1))) (E_64 u.1) (E_64 hQ.cc) w h
  rw [hQ.tk2] at T3
  have d1 : ∀ w : World, (binOp .quo 24 (.float .f64 (E (64 * (y + 1)))) (.float .f64 (E (64 * 2 ^ 3)))).run Try.prog w = .ok (.float .f64 (E ((y + 1) * 2 ^ (6 - 3)))) w := fun w => run_float_arith w .quo 24 .f64 _ _ _ (E_div (by omega) hQ.cc)
  have d2 : ∀ w : World, (binOp .sub 24 (.float .f64 (E ((y + 1) * 2 ^ (6 - 3)))) (.float .f64 4580160821035794432)).run Try.prog w = .ok (.float .f64 (E ((y + 1) * 2 ^ (6 - 3) - 1))) w := fun w =>
    run_float_arith w .sub 24 .f64 _ _ _ (by show Ieee.double.sub _ _ = _; rw [E_least]; exact E_sub u.1 (by omega))
  have d3 := f64_eq (E ((y + 1) * 2 ^ (6 - 3))) (E ((y + 1) * 2 ^ (6 - 3)))
  rw [feq_pos (E_le u.1) (E_le u.1), decide_eq_true rfl] at d3
  have HW := wakes_any
  clear u hQ ok
  generalize emp (E (64 * 2 ^ 3)) (E (64 * (x1 + 1))) = b0 at *
  generalize newB (E (64 * 2 ^ 3)) (E (64 * (x1 + 1))) = b1 at *
  generalize E ((y + 1) * 2 ^ (6 - 3) - 1) = ew at *
  generalize E ((y + 1) * 2 ^ (6 - 3)) = eu at *
  generalize E (64 * 2 ^ 3) = er at *
  generalize E (64 * (x1 + 1)) = es at *
  generalize E (64 * (y + 1)) = ec at *
  generalize (b0.tk ew ec).2 = b2 at *
  generalize (b0.tk eu ec).2 = b3 at *
  have N2 := N1
  go_enter Try.func7, Try.ntmps7
  go_upto_region 5 with (first
    | (go_at_call 9; refine (N1 _).mono ?_; clear N1; rintro e w1 ⟨p, rfl, hB1, hp1, hb1⟩)
    | (go_at_call 9; refine (N2 _).mono ?_; clear N2; rintro e w2 ⟨q, rfl, hB2, hq2, hb2⟩))
  have hpq : p ≠ q := fun e => by subst e; have := hB1.lt; omega
  have hBel2 := hb1.trans (hb2.mono hb1.size)
  have hP2 := hB1.below hb2
  have hq0 : w.heap.size ≤ q := Nat.le_trans hb1.size hq2
  clear hB1 hq2
  have U1 := T1 q
  replace T1 := T1 p
  replace W1 := W1 p
  replace T2 := T2 q
  replace T3 := T3 p
  go_wp2_with (first
    | (go_at_call 11; refine (HW _).mono ?_; clear HW; rintro e w3 ⟨rfl, hb3⟩; have hP3 := hP2.below hb3; have hQ3 := hB2.below hb3)
    | (go_at_call 17; refine (T1 _ hP3).mono ?_; clear T1; rintro e w4 ⟨rfl, hB4, hk4⟩; have hQ4 := hQ3.keep hk4 (fun e => hpq e.symm))
    | (go_at_call 17; refine (U1 _ hQ4).mono ?_; clear U1; rintro e w5 ⟨rfl, hB5, hk5⟩; have hP5 := hB4.keep hk5 hpq)
    | (go_at_call 15; refine (W1 _ hP5).mono ?_; clear W1; rintro e w6 ⟨rfl, k, rfl⟩; have hP6 := hP5.drewN k; have hQ6 := hB5.drewN k)
    | (go_at_call 17; refine (T2 _ hQ6).mono ?_; clear T2; rintro e w7 ⟨rfl, hB7, hk7⟩; have hP7 := hP6.keep hk7 hpq)
    | (go_at_call 17; refine (T3 _ hP7).mono ?_; clear T3; rintro e w8 ⟨rfl, hB8, hk8⟩))
  go_ret
  refine ⟨rfl, ?_⟩
  have b3' := hBel2.trans (hb3.mono hBel2.size)
  have b4 := b3'.trans (hk4.below b3'.size (fun k e => by subst e; exact hp1))
  have b5 := b4.trans (hk5.below b4.size (fun k e => by subst e; exact hq0))
  have b6 := b5.trans (((Keep.refl (fun _ => False) w5).drewN k).below b5.size (fun _ h => h.elim))
  have b7 := b6.trans (hk7.below b6.size (fun k e => by subst e; exact hq0))
  exact b7.trans (hk8.below b7.size (fun k e => by subst e; exact hp1))

set_option maxRecDepth 100000 in
set_option maxHeartbeats 3200000 in
theorem wait_4 (x0 x1 x2 : Nat) (h1 : x1 < 256) (h2 : x2 < 256) (hm : (x0 : Int).tmod 5 = 4) (w : World) :
    Calls Try.prog 7 #[.int .u8 x0, .int .u8 x1, .int .u8 x2] w fun e w' => e = .returned (.bool true) ∧ Below w.heap.size w w' := by
  have hcv : ∀ (q : IntKind) (t : TypeId) (z : Int) (w : World), (Try.prog.underlying t).isSome = true → (convert t 24 (.int q z)).run Try.prog w = .ok (.float .f64 (floatOfInt .f64 z)) w := fun q t z w h => run_convert_int_float w t 24 q .f64 z h Try.underlying24
  have c3 := fun z w => hcv .i64 3 z w (by kernel_rfl)
  have c5 := fun z w => hcv .u8 5 z w (by kernel_rfl)
  clear hcv
  have hmod : x2 % (x1 + 1) < x1 + 1 := Nat.mod_lt _ (by omega)
  have hq : (x2 : Int).tmod ((x1 : Int) + 1) = ((x2 % (x1 + 1) : Nat) : Int) := by
    rw [Int.tmod_eq_emod_of_nonneg (by omega), Int.natCast_emod, Int.natCast_add]
    rfl
  have hQ : Qs 4 (x1 + 1) (x2 % (x1 + 1) + 1) := ⟨by omega, by omega, by omega, by omega⟩
  generalize x2 % (x1 + 1) = y at *
  have a1 : ∀ w : World, (binOp .add 24 (.float .f64 (floatOfInt .f64 (x1 : Int))) (.float .f64 4607182418800017408)).run Try.prog w = .ok (.float .f64 (E (64 * (x1 + 1)))) w := fun w =>
    run_float_arith w .add 24 .f64 _ _ _ (by show Ieee.double.add _ _ = _; rw [E_int, E_one, E_add (by omega) (by omega), Nat.mul_add])
  have a2 : ∀ w : World, (binOp .add 24 (.float .f64 (floatOfInt .f64 (y : Int))) (.float .f64 4607182418800017408)).run Try.prog w = .ok (.float .f64 (E (64 * (y + 1)))) w := fun w =>
    run_float_arith w .add 24 .f64 _ _ _ (by show Ieee.double.add _ _ = _; rw [E_int, E_one, E_add (by omega) (by omega), Nat.mul_add])
  have a3 : floatOfInt .f64 16 = E (64 * 2 ^ 4) := E_int 16
  have N1 := fun w => new_ok (E (64 * 2 ^ 4)) (E (64 * (x1 + 1))) (E_64 hQ.b) hQ.fine w
  have T1 := fun p w h => take_any p (newB (E (64 * 2 ^ 4)) (E (64 * (x1 + 1)))) (newB_ok (E_64 hQ.r) (E_64 hQ.b) hQ.fine) 0 (E (64 * (x1 + 1))) (by decide) (E_64 hQ.b) w h
  rw [emp_of (E_64 hQ.r) (E_64 hQ.b) hQ.fine] at T1
  have ok := emp_ok (E_64 hQ.r) (E_64 hQ.b) hQ.fine
  have W1 := fun p w h => wait_any p _ ok 0 (E (64 * (y + 1))) (by decide) (E_64 hQ.cc) w h
  rw [hQ.wait] at W1
  have u := hQ.up
  have T2 := fun p w h => take_any p _ ok (E ((y + 1) * 2 ^ (6 - 4) - 1)) (E (64 * (y + 1))) (E_64 (by omega)) (E_64 hQ.cc) w h
  rw [hQ.tk1] at T2
  have T3 := fun p w h => take_any p _ ok (E ((y + 1) * 2 ^ (6 - 4))) (E (64 * (y + 1))) (E_64 u.1) (E_64 hQ.cc) w h
  rw [hQ.tk2] at T3
  have d1 : ∀ w : World, (binOp .quo 24 (.float .f64 (E (64 * (y + 1)))) (.float .f64 (E (64 * 2 ^ 4)))).run Try.prog w = .ok (.float .f64 (E ((y + 1) * 2 ^ (6 - 4)))) w := fun w => run_float_arith w .quo 24 .f64 _ _ _ (E_div (by omega) hQ.cc)
  have d2 : ∀ w : World, (binOp .sub 24 (.float .f64 (E ((y + 1) * 2 ^ (6 - 4)))) (.float .f64 4580160821035794432)).run Try.prog w = .ok (.float .f64 (E ((y + 1) * 2 ^ (6 - 4) - 1))) w := fun w =>
    run_float_arith w .sub 24 .f64 _ _ _ (by show Ieee.double.sub _ _ = _; rw [E_least]; exact E_sub u.1 (by omega))
  have d3 := f64_eq (E ((y + 1) * 2 ^ (6 - 4))) (E ((y + 1) * 2 ^ (6 - 4)))
  rw [feq_pos (E_le u.1) (E_le u.1), decide_eq_true rfl] at d3
  have HW := wakes_any
  clear u hQ ok
  generalize emp (E (64 * 2 ^ 4)) (E (64 * (x1 + 1))) = b0 at *
  generalize newB (E (64 * 2 ^ 4)) (E (64 * (x1 + 1))) = b1 at *
  generalize E ((y + 1) * 2 ^ (6 - 4) - 1) = ew at *
  generalize E ((y + 1) * 2 ^ (6 - 4)) = eu at *
  generalize E (64 * 2 ^ 4) = er at *
  generalize E (64 * (x1 + 1)) = es at *
  generalize E (64 * (y + 1)) = ec at *
  generalize (b0.tk ew ec).2 = b2 at *
  generalize (b0.tk eu ec).2 = b3 at *
  have N2 := N1
  go_enter Try.func7, Try.ntmps7
  go_upto_region 5 with (first
    | (go_at_call 9; refine (N1 _).mono ?_; clear N1; rintro e w1 ⟨p, rfl, hB1, hp1, hb1⟩)
    | (go_at_call 9; refine (N2 _).mono ?_; clear N2; rintro e w2 ⟨q, rfl, hB2, hq2, hb2⟩))
  have hpq : p ≠ q := fun e => by subst e; have := hB1.lt; omega
  have hBel2 := hb1.trans (hb2.mono hb1.size)
  have hP2 := hB1.below hb2
  have hq0 : w.heap.size ≤ q := Nat.le_trans hb1.size hq2
  clear hB1 hq2
  have U1 := T1 q
  replace T1 := T1 p
  replace W1 := W1 p
  replace T2 := T2 q
  replace T3 := T3 p
  go_wp2_with (first
    | (go_at_call 11; refine (HW _).mono ?_; clear HW; rintro e w3 ⟨rfl, hb3⟩; have hP3 := hP2.below hb3; have hQ3 := hB2.below hb3)
    | (go_at_call 17; refine (T1 _ hP3).mono ?_; clear T1; rintro e w4 ⟨rfl, hB4, hk4⟩; have hQ4 := hQ3.keep hk4 (fun e => hpq e.symm))
    | (go_at_call 17; refine (U1 _ hQ4).mono ?_; clear U1; rintro e w5 ⟨rfl, hB5, hk5⟩; have hP5 := hB4.keep hk5 hpq)
    | (go_at_call 15; refine (W1 _ hP5).mono ?_; clear W1; rintro e w6 ⟨rfl, k, rfl⟩; have hP6 := hP5.drewN k; have hQ6 := hB5.drewN k)
    | (go_at_call 17; refine (T2 _ hQ6).mono ?_; clear T2; rintro e w7 ⟨rfl, hB7, hk7⟩; have hP7 := hP6.keep hk7 hpq)
    | (go_at_call 17; refine (T3 _ hP7).mono ?_; clear T3; rintro e w8 ⟨rfl, hB8, hk8⟩))
  go_ret
  refine ⟨rfl, ?_⟩
  have b3' := hBel2.trans (hb3.mono hBel2.size)
  have b4 := b3'.trans (hk4.below b3'.size (fun k e => by subst e; exact hp1))
  have b5 := b4.trans (hk5.below b4.size (fun k e => by subst e; exact hq0))
  have b6 := b5.trans (((Keep.refl (fun _ => False) w5).drewN k).below b5.size (fun _ h => h.elim))
  have b7 := b6.trans (hk7.below b6.size (fun k e => by subst e; exact hq0))
  exact b7.trans (hk8.below b7.size (fun k e => by subst e; exact hp1))

theorem wait_law (x0 x1 x2 : Nat) (_ : x0 < 256) (h1 : x1 < 256) (h2 : x2 < 256) (w : World) :
    Calls Try.prog 7 #[.int .u8 x0, .int .u8 x1, .int .u8 x2] w fun e w' => e = .returned (.bool true) ∧ Below w.heap.size w w' := by
  have hm : (x0 : Int).tmod 5 = ((x0 % 5 : Nat) : Int) := by
    rw [Int.tmod_eq_emod_of_nonneg (by omega)]
    omega
  have hl : x0 % 5 < 5 := Nat.mod_lt _ (by omega)
  generalize x0 % 5 = j at *
  match j, hl with
  | 0, _ => exact wait_0 x0 x1 x2 h1 h2 hm w
  | 1, _ => exact wait_1 x0 x1 x2 h1 h2 hm w
  | 2, _ => exact wait_2 x0 x1 x2 h1 h2 hm w
  | 3, _ => exact wait_3 x0 x1 x2 h1 h2 hm w
  | 4, _ => exact wait_4 x0 x1 x2 h1 h2 hm w

end Go.Proofs.Ytmlkeobmkjdefaa
