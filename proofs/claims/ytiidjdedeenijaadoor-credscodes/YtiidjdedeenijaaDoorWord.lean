/- unicode/utf8.word at bytes: what it says of the eight bytes' highest bits. -/
import Derived.Test.YtiidjdedeenijaaDoorBytes
import Derived.Test.YtiidjdedeenijaaDoorOrderA
import Derived.Deep.QuietTactic
import Derived.BigQuiet
namespace Go.Proofs.YtiidjdedeenijaaDoor
open Go.RowKit

def hi8 : Nat := 9259542123273814144

theorem hi_0 : ∀ n, n < 256 → n &&& 9259542123273814144 = 0 → n < 128 := by decide +kernel
theorem hi_1 : ∀ n, n < 256 → (n * 256) &&& 9259542123273814144 = 0 → n < 128 := by decide +kernel
theorem hi_2 : ∀ n, n < 256 → (n * 65536) &&& 9259542123273814144 = 0 → n < 128 := by decide +kernel
theorem hi_3 : ∀ n, n < 256 → (n * 16777216) &&& 9259542123273814144 = 0 → n < 128 := by decide +kernel
theorem hi_4 : ∀ n, n < 256 → (n * 4294967296) &&& 9259542123273814144 = 0 → n < 128 := by decide +kernel
theorem hi_5 : ∀ n, n < 256 → (n * 1099511627776) &&& 9259542123273814144 = 0 → n < 128 := by decide +kernel
theorem hi_6 : ∀ n, n < 256 → (n * 281474976710656) &&& 9259542123273814144 = 0 → n < 128 := by decide +kernel
theorem hi_7 : ∀ n, n < 256 → (n * 72057594037927936) &&& 9259542123273814144 = 0 → n < 128 := by decide +kernel

theorem or_and_zero {x y h : Nat} (k : (x ||| y) &&& h = 0) : x &&& h = 0 ∧ y &&& h = 0 := by
  rw [Nat.and_or_distrib_right] at k
  exact Nat.or_eq_zero_iff.1 k

theorem or_lt {x y : Nat} (hx : x < 18446744073709551616) (hy : y < 18446744073709551616) : x ||| y < 18446744073709551616 := by
  have e : (2 : Nat) ^ 64 = 18446744073709551616 := by decide
  rw [← e] at *
  exact Nat.or_lt_two_pow hx hy

theorem or_step {x y : Int} {m k : Nat} (hx : x = (m : Int)) (hy : y = (k : Int)) (hm : m < 18446744073709551616) (hk : k < 18446744073709551616) : bits .or .u64 x y = ((m ||| k : Nat) : Int) := by
  rw [hx, hy]; exact u64_or_nat m k hm hk

/-- The eight bytes as one number. -/
def wv (ys : List Int) : Nat := (ys.getD 0 0).toNat ||| (ys.getD 1 0).toNat * 256 ||| (ys.getD 2 0).toNat * 65536 ||| (ys.getD 3 0).toNat * 16777216 ||| (ys.getD 4 0).toNat * 4294967296 ||| (ys.getD 5 0).toNat * 1099511627776 ||| (ys.getD 6 0).toNat * 281474976710656 ||| (ys.getD 7 0).toNat * 72057594037927936

theorem word_math (z0 z1 z2 z3 z4 z5 z6 z7 : Int) (d0 : 0 ≤ z0) (e0 : z0 ≤ 255) (d1 : 0 ≤ z1) (e1 : z1 ≤ 255) (d2 : 0 ≤ z2) (e2 : z2 ≤ 255) (d3 : 0 ≤ z3) (e3 : z3 ≤ 255) (d4 : 0 ≤ z4) (e4 : z4 ≤ 255) (d5 : 0 ≤ z5) (e5 : z5 ≤ 255) (d6 : 0 ≤ z6) (e6 : z6 ≤ 255) (d7 : 0 ≤ z7) (e7 : z7 ≤ 255) :
    bits .or .u64 (bits .or .u64 (bits .or .u64 (bits .or .u64 (bits .or .u64 (bits .or .u64 (bits .or .u64 z0 (z1 * 256)) (z2 * 65536)) (z3 * 16777216)) (z4 * 4294967296)) (z5 * 1099511627776)) (z6 * 281474976710656)) (z7 * 72057594037927936) = ((z0.toNat ||| z1.toNat * 256 ||| z2.toNat * 65536 ||| z3.toNat * 16777216 ||| z4.toNat * 4294967296 ||| z5.toNat * 1099511627776 ||| z6.toNat * 281474976710656 ||| z7.toNat * 72057594037927936 : Nat) : Int) ∧ (z0.toNat ||| z1.toNat * 256 ||| z2.toNat * 65536 ||| z3.toNat * 16777216 ||| z4.toNat * 4294967296 ||| z5.toNat * 1099511627776 ||| z6.toNat * 281474976710656 ||| z7.toNat * 72057594037927936) < 18446744073709551616 := by
  obtain ⟨n0, rfl⟩ := Int.eq_ofNat_of_zero_le d0
  obtain ⟨n1, rfl⟩ := Int.eq_ofNat_of_zero_le d1
  obtain ⟨n2, rfl⟩ := Int.eq_ofNat_of_zero_le d2
  obtain ⟨n3, rfl⟩ := Int.eq_ofNat_of_zero_le d3
  obtain ⟨n4, rfl⟩ := Int.eq_ofNat_of_zero_le d4
  obtain ⟨n5, rfl⟩ := Int.eq_ofNat_of_zero_le d5
  obtain ⟨n6, rfl⟩ := Int.eq_ofNat_of_zero_le d6
  obtain ⟨n7, rfl⟩ := Int.eq_ofNat_of_zero_le d7
  have l0 : n0 < 18446744073709551616 := by omega
  have l1 : n1 * 256 < 18446744073709551616 := Nat.lt_of_le_of_lt (Nat.mul_le_mul_right _ (show n1 ≤ 255 by omega)) (by decide)
  have l2 : n2 * 65536 < 18446744073709551616 := Nat.lt_of_le_of_lt (Nat.mul_le_mul_right _ (show n2 ≤ 255 by omega)) (by decide)
  have l3 : n3 * 16777216 < 18446744073709551616 := Nat.lt_of_le_of_lt (Nat.mul_le_mul_right _ (show n3 ≤ 255 by omega)) (by decide)
  have l4 : n4 * 4294967296 < 18446744073709551616 := Nat.lt_of_le_of_lt (Nat.mul_le_mul_right _ (show n4 ≤ 255 by omega)) (by decide)
  have l5 : n5 * 1099511627776 < 18446744073709551616 := Nat.lt_of_le_of_lt (Nat.mul_le_mul_right _ (show n5 ≤ 255 by omega)) (by decide)
  have l6 : n6 * 281474976710656 < 18446744073709551616 := Nat.lt_of_le_of_lt (Nat.mul_le_mul_right _ (show n6 ≤ 255 by omega)) (by decide)
  have l7 : n7 * 72057594037927936 < 18446744073709551616 := Nat.lt_of_le_of_lt (Nat.mul_le_mul_right _ (show n7 ≤ 255 by omega)) (by decide)
  have m1 := or_lt l0 l1
  have m2 := or_lt m1 l2
  have m3 := or_lt m2 l3
  have m4 := or_lt m3 l4
  have m5 := or_lt m4 l5
  have m6 := or_lt m5 l6
  have m7 := or_lt m6 l7
  have s1 := or_step (x := (n0 : Int)) (y := (n1 : Int) * 256) rfl (by omega) l0 l1
  have s2 := or_step (y := (n2 : Int) * 65536) s1 (by omega) m1 l2
  have s3 := or_step (y := (n3 : Int) * 16777216) s2 (by omega) m2 l3
  have s4 := or_step (y := (n4 : Int) * 4294967296) s3 (by omega) m3 l4
  have s5 := or_step (y := (n5 : Int) * 1099511627776) s4 (by omega) m4 l5
  have s6 := or_step (y := (n6 : Int) * 281474976710656) s5 (by omega) m5 l6
  have s7 := or_step (y := (n7 : Int) * 72057594037927936) s6 (by omega) m6 l7
  exact ⟨s7, m7⟩

theorem wv_lt {xs : List Int} (h : Bd xs) : wv xs < 18446744073709551616 :=
  (word_math _ _ _ _ _ _ _ _ (h.get 0).1 (h.get 0).2 (h.get 1).1 (h.get 1).2 (h.get 2).1 (h.get 2).2 (h.get 3).1 (h.get 3).2 (h.get 4).1 (h.get 4).2 (h.get 5).1 (h.get 5).2 (h.get 6).1 (h.get 6).2 (h.get 7).1 (h.get 7).2).2

theorem wv_hi {xs : List Int} (hb : Bd xs) (h : wv xs &&& 9259542123273814144 = 0) : ∀ j, j < 8 → xs.getD j 0 < 128 := by
  unfold wv at h
  obtain ⟨h, k7⟩ := or_and_zero h
  obtain ⟨h, k6⟩ := or_and_zero h
  obtain ⟨h, k5⟩ := or_and_zero h
  obtain ⟨h, k4⟩ := or_and_zero h
  obtain ⟨h, k3⟩ := or_and_zero h
  obtain ⟨h, k2⟩ := or_and_zero h
  obtain ⟨k0, k1⟩ := or_and_zero h
  have r0 := hi_0 _ (by have := hb.get 0; omega) k0
  have r1 := hi_1 _ (by have := hb.get 1; omega) k1
  have r2 := hi_2 _ (by have := hb.get 2; omega) k2
  have r3 := hi_3 _ (by have := hb.get 3; omega) k3
  have r4 := hi_4 _ (by have := hb.get 4; omega) k4
  have r5 := hi_5 _ (by have := hb.get 5; omega) k5
  have r6 := hi_6 _ (by have := hb.get 6; omega) k6
  have r7 := hi_7 _ (by have := hb.get 7; omega) k7
  intro j hj
  have b0 := hb.get 0
  have b1 := hb.get 1
  have b2 := hb.get 2
  have b3 := hb.get 3
  have b4 := hb.get 4
  have b5 := hb.get 5
  have b6 := hb.get 6
  have b7 := hb.get 7
  match j, hj with
  | 0, _ => omega
  | 1, _ => omega
  | 2, _ => omega
  | 3, _ => omega
  | 4, _ => omega
  | 5, _ => omega
  | 6, _ => omega
  | 7, _ => omega

set_option maxHeartbeats 3200000 in
theorem word_any (a : Option Addr) (n c : Nat) (xs : List Int) (w : World) (hR : Rd w a n c xs) (hn : 8 ≤ n) :
    Calls Tryd.prog 104 #[.slice a n c] w fun e w' => e = .returned (.int .u64 (wv xs)) ∧ ∃ k, w' = w.drewN k := by
  obtain ⟨b, off, rfl, hcell⟩ := hR.flat (by omega)
  have hl := hR.len
  have hmost : n ≤ 9223372036854775807 := Nat.le_trans hR.cap hR.most
  have c0 := hcell 0 (by omega)
  rw [Nat.add_zero] at c0
  have c1 := hcell 1 (by omega)
  have c2 := hcell 2 (by omega)
  have c3 := hcell 3 (by omega)
  have c4 := hcell 4 (by omega)
  have c5 := hcell 5 (by omega)
  have c6 := hcell 6 (by omega)
  have c7 := hcell 7 (by omega)
  have d0 := hR.bytes.get 0
  have d1 := hR.bytes.get 1
  have d2 := hR.bytes.get 2
  have d3 := hR.bytes.get 3
  have d4 := hR.bytes.get 4
  have d5 := hR.bytes.get 5
  have d6 := hR.bytes.get 6
  have d7 := hR.bytes.get 7
  obtain ⟨z0, y0⟩ : ∃ z, z = xs.getD 0 0 := ⟨_, rfl⟩
  rw [← y0] at c0 d0
  have Y0 : Hid (z0 = xs.getD 0 0) := y0
  clear y0
  obtain ⟨z1, y1⟩ : ∃ z, z = xs.getD 1 0 := ⟨_, rfl⟩
  rw [← y1] at c1 d1
  have Y1 : Hid (z1 = xs.getD 1 0) := y1
  clear y1
  obtain ⟨z2, y2⟩ : ∃ z, z = xs.getD 2 0 := ⟨_, rfl⟩
  rw [← y2] at c2 d2
  have Y2 : Hid (z2 = xs.getD 2 0) := y2
  clear y2
  obtain ⟨z3, y3⟩ : ∃ z, z = xs.getD 3 0 := ⟨_, rfl⟩
  rw [← y3] at c3 d3
  have Y3 : Hid (z3 = xs.getD 3 0) := y3
  clear y3
  obtain ⟨z4, y4⟩ : ∃ z, z = xs.getD 4 0 := ⟨_, rfl⟩
  rw [← y4] at c4 d4
  have Y4 : Hid (z4 = xs.getD 4 0) := y4
  clear y4
  obtain ⟨z5, y5⟩ : ∃ z, z = xs.getD 5 0 := ⟨_, rfl⟩
  rw [← y5] at c5 d5
  have Y5 : Hid (z5 = xs.getD 5 0) := y5
  clear y5
  obtain ⟨z6, y6⟩ : ∃ z, z = xs.getD 6 0 := ⟨_, rfl⟩
  rw [← y6] at c6 d6
  have Y6 : Hid (z6 = xs.getD 6 0) := y6
  clear y6
  obtain ⟨z7, y7⟩ : ∃ z, z = xs.getD 7 0 := ⟨_, rfl⟩
  rw [← y7] at c7 d7
  have Y7 : Hid (z7 = xs.getD 7 0) := y7
  clear y7
  clear hcell hR
  obtain ⟨d0, e0⟩ := d0; obtain ⟨d1, e1⟩ := d1; obtain ⟨d2, e2⟩ := d2; obtain ⟨d3, e3⟩ := d3
  obtain ⟨d4, e4⟩ := d4; obtain ⟨d5, e5⟩ := d5; obtain ⟨d6, e6⟩ := d6; obtain ⟨d7, e7⟩ := d7
  have i1 : (1 : Int) < (n : Int) := by omega
  have i2 : (2 : Int) < (n : Int) := by omega
  have i3 : (3 : Int) < (n : Int) := by omega
  have i4 : (4 : Int) < (n : Int) := by omega
  have i5 : (5 : Int) < (n : Int) := by omega
  have i6 : (6 : Int) < (n : Int) := by omega
  have i7 : (7 : Int) < (n : Int) := by omega
  have i0 : 0 < n := by omega
  go_enter Tryd.func104, Tryd.ntmps104
  go_wp2
  go_quiet (fail)
  go_wp2
  go_ret
  have hV := (word_math z0 z1 z2 z3 z4 z5 z6 z7 d0 e0 d1 e1 d2 e2 d3 e3 d4 e4 d5 e5 d6 e6 d7 e7).1
  refine ⟨ret_int ?_, nq, rfl⟩
  unfold wv
  rw [← Y0.out, ← Y1.out, ← Y2.out, ← Y3.out, ← Y4.out, ← Y5.out, ← Y6.out, ← Y7.out]
  exact hV

end Go.Proofs.YtiidjdedeenijaaDoor
