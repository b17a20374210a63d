/- The contracts of math.IsNaN, math.Signbit, octet.held and octet.Order: floats by their bits. -/
import Derived.Test.YtephpbbooicfoaaDoorProg
import Derived.Test.YtephpbbooicfoaaDoorFloat
import Derived.WalkKit
import Derived.WalkLawsBesides
import Derived.WalkSpells
namespace Go.Proofs.YtephpbbooicfoaaDoor
open Go.RowKit

theorem run_bits (x : Nat) (w : World) : (callFunc 21 #[.float .f64 x]).run Tryd.prog w = .ok (.value (.int .u64 x)) w := by
  rw [run_callFunc_extern Tryd.func21 (by kernel_rfl) (by kernel_rfl) (by kernel_rfl) (e := Extern.MathFloatBits.float64bits) (by kernel_rfl)]
  rfl

theorem nan_neq (x : Nat) : (FloatKind.f64.format.order x x != some .eq) = Fl.nan x := by
  show (Ieee.double.order x x != some .eq) = _
  unfold Fl.nan
  by_cases h : Fl.inf < Fl.rung x
  · rw [Fl.order_nan x x (Or.inl h), decide_eq_true h]; rfl
  · rw [Fl.order_eq x x (by omega) (by omega), decide_eq_false h, Fl.cmp_int, if_neg (by omega), if_pos rfl]; rfl

set_option maxHeartbeats 400000 in
theorem isNaN_any (x : Nat) (w : World) : Calls Tryd.prog 32 #[.float .f64 x] w fun e w' => e = .returned (.bool (Fl.nan x)) ∧ w' = w := by
  go_enter Tryd.func32, Tryd.ntmps32
  go_wp2
  go_ret
  rw [nan_neq]
  exact ⟨rfl, rfl⟩

def sbit (x : Nat) : Bool := decide (9223372036854775808 ≤ x)

theorem sbit_wrap (x : Nat) (hx : x < 18446744073709551616) : decide (wrap64 (x : Int) < 0) = sbit x := by
  unfold sbit
  rw [decide_eq_decide]
  unfold wrap64
  constructor <;> intro h <;> omega

set_option maxHeartbeats 400000 in
theorem signbit_any (x : Nat) (w : World) (hx : x < 18446744073709551616) : Calls Tryd.prog 45 #[.float .f64 x] w fun e w' => e = .returned (.bool (sbit x)) ∧ w' = w := by
  have hb := run_bits
  go_enter Tryd.func45, Tryd.ntmps45
  go_wp2
  go_ret
  refine ⟨?_, rfl⟩
  show Ending.returned (.bool (decide (wrap64 ↑x < 0))) = _
  rw [sbit_wrap x hx]

theorem ret_bool {a b : Bool} (h : a = b) : Ending.returned (.bool a) = .returned (.bool b) := by rw [h]
theorem ret_int {k : IntKind} {a b : Int} (h : a = b) : Ending.returned (.int k a) = .returned (.int k b) := by rw [h]

def heldv (a b : Bool) : Int := if a = b then 0 else if b then -1 else 1

set_option maxHeartbeats 400000 in
theorem held_any (a b : Bool) (w : World) : Calls Tryd.prog 44 #[.bool a, .bool b] w fun e w' => e = .returned (.int .i64 (heldv a b)) ∧ w' = w := by
  cases a <;> cases b
  all_goals
    go_enter Tryd.func44, Tryd.ntmps44
    go_wp2
    go_ret
    exact ⟨ret_int (by decide), rfl⟩

/-! ### octet.Order -/
theorem f64_lt (x y : Nat) : (FloatKind.f64.format.order x y == some .lt) = (!Fl.nan x && !Fl.nan y && decide (Fl.sr x < Fl.sr y)) := by
  show (Ieee.double.order x y == some .lt) = _
  unfold Fl.nan
  by_cases hx : Fl.inf < Fl.rung x
  · rw [Fl.order_nan x y (Or.inl hx), decide_eq_true hx]; rfl
  · by_cases hy : Fl.inf < Fl.rung y
    · rw [Fl.order_nan x y (Or.inr hy), decide_eq_true hy]; simp
    · rw [Fl.order_eq x y (by omega) (by omega), decide_eq_false hx, decide_eq_false hy, Fl.cmp_int]
      by_cases h : Fl.sr x < Fl.sr y
      · rw [if_pos h, decide_eq_true h]; rfl
      · rw [if_neg h, decide_eq_false h]; split <;> rfl

theorem f64_gt (x y : Nat) : (FloatKind.f64.format.order x y == some .gt) = (!Fl.nan x && !Fl.nan y && decide (Fl.sr y < Fl.sr x)) := by
  show (Ieee.double.order x y == some .gt) = _
  unfold Fl.nan
  by_cases hx : Fl.inf < Fl.rung x
  · rw [Fl.order_nan x y (Or.inl hx), decide_eq_true hx]; rfl
  · by_cases hy : Fl.inf < Fl.rung y
    · rw [Fl.order_nan x y (Or.inr hy), decide_eq_true hy]; simp
    · rw [Fl.order_eq x y (by omega) (by omega), decide_eq_false hx, decide_eq_false hy, Fl.cmp_int]
      by_cases h : Fl.sr x < Fl.sr y
      · rw [if_pos h, decide_eq_false (by omega)]; rfl
      · rw [if_neg h]
        by_cases h2 : Fl.sr x = Fl.sr y
        · rw [if_pos h2, decide_eq_false (by omega)]; rfl
        · rw [if_neg h2, decide_eq_true (by omega)]; rfl

/-- A word that fits 64 bits: its sign and rung, and its key. -/
theorem word_parts (x : Nat) (hx : x < 18446744073709551616) : (sbit x = true ∧ Fl.neg x = true ∧ x = Fl.rung x + 9223372036854775808 ∧ Fl.rung x < 9223372036854775808 ∧ Fl.sr x = -(Fl.rung x : Int)) ∨ (sbit x = false ∧ Fl.neg x = false ∧ x = Fl.rung x ∧ Fl.rung x < 9223372036854775808 ∧ Fl.sr x = (Fl.rung x : Int)) := by
  have hs : Fl.sgn = 9223372036854775808 := rfl
  by_cases h : 9223372036854775808 ≤ x
  · left
    have hn : Fl.neg x = true := by unfold Fl.neg; rw [hs]; simp; omega
    refine ⟨decide_eq_true h, hn, ?_, ?_, ?_⟩
    · unfold Fl.rung; rw [hs]; omega
    · unfold Fl.rung; rw [hs]; omega
    · unfold Fl.sr; rw [hn, if_pos rfl]
  · right
    have hn : Fl.neg x = false := by unfold Fl.neg; rw [hs]; simp; omega
    refine ⟨decide_eq_false h, hn, ?_, ?_, ?_⟩
    · unfold Fl.rung; rw [hs]; omega
    · unfold Fl.rung; rw [hs]; omega
    · unfold Fl.sr; rw [hn]; simp

theorem key_parts (x : Nat) (hx : x < 18446744073709551616) : (Fl.nan x = true ∧ Fl.key x = 18446744073709551615) ∨ (Fl.nan x = false ∧ sbit x = true ∧ (Fl.key x : Int) = 9223372036854775807 + Fl.sr x ∧ Fl.sr x ≤ 0 ∧ -9218868437227405312 ≤ Fl.sr x) ∨ (Fl.nan x = false ∧ sbit x = false ∧ (Fl.key x : Int) = 9223372036854775808 + Fl.sr x ∧ 0 ≤ Fl.sr x ∧ Fl.sr x ≤ 9218868437227405312) := by
  have hi : Fl.inf = 9218868437227405312 := rfl
  have hs : Fl.sgn = 9223372036854775808 := rfl
  unfold Fl.nan Fl.key
  rw [hi, hs]
  by_cases h : 9218868437227405312 < Fl.rung x
  · left; exact ⟨decide_eq_true h, by rw [if_pos h]⟩
  · right
    rcases word_parts x hx with ⟨hb, _, hx1, hx2, hx3⟩ | ⟨hb, _, hx1, hx2, hx3⟩
    · left
      refine ⟨decide_eq_false h, hb, ?_, by omega, by omega⟩
      rw [if_neg h, if_pos (of_decide_eq_true hb)]; omega
    · right
      refine ⟨decide_eq_false h, hb, ?_, by omega, by omega⟩
      rw [if_neg h, if_neg (of_decide_eq_false hb)]; omega

def Lt (x y : Nat) : Bool := !Fl.nan x && !Fl.nan y && decide (Fl.sr x < Fl.sr y)

theorem ord_nan (x y : Nat) (hx : x < 18446744073709551616) (hy : y < 18446744073709551616) (h : (Fl.nan x || Fl.nan y) = true) : heldv (Fl.nan x) (Fl.nan y) = Fl.ordv x y := by
  unfold Fl.ordv heldv
  rcases key_parts x hx with ⟨a, b⟩ | ⟨a, b, c, d, e⟩ | ⟨a, b, c, d, e⟩ <;> rcases key_parts y hy with ⟨a', b'⟩ | ⟨a', b', c', d', e'⟩ | ⟨a', b', c', d', e'⟩ <;> rw [a, a'] at h ⊢ <;> simp at h ⊢
  all_goals first | (rw [b, b']; simp; done) | (intro hh; omega) | (rw [if_neg (by omega), if_pos (by omega)]; done) | (rw [if_pos (by omega)]; done)

theorem ord_lt (x y : Nat) (hx : x < 18446744073709551616) (hy : y < 18446744073709551616) (h : Lt x y = true) : (-1 : Int) = Fl.ordv x y := by
  unfold Fl.ordv
  unfold Lt at h
  simp at h
  rcases key_parts x hx with ⟨a, b⟩ | ⟨a, b, c, d, e⟩ | ⟨a, b, c, d, e⟩ <;> rcases key_parts y hy with ⟨a', b'⟩ | ⟨a', b', c', d', e'⟩ | ⟨a', b', c', d', e'⟩ <;> rw [a, a'] at h <;> simp at h
  all_goals (rw [if_pos (by omega)])

theorem ord_gt (x y : Nat) (hx : x < 18446744073709551616) (hy : y < 18446744073709551616) (h : Lt y x = true) : (1 : Int) = Fl.ordv x y := by
  unfold Fl.ordv
  unfold Lt at h
  simp at h
  rcases key_parts x hx with ⟨a, b⟩ | ⟨a, b, c, d, e⟩ | ⟨a, b, c, d, e⟩ <;> rcases key_parts y hy with ⟨a', b'⟩ | ⟨a', b', c', d', e'⟩ | ⟨a', b', c', d', e'⟩ <;> rw [a, a'] at h <;> simp at h
  all_goals (rw [if_neg (by omega), if_pos (by omega)])

theorem ord_same (x y : Nat) (hx : x < 18446744073709551616) (hy : y < 18446744073709551616) (hn : (Fl.nan x || Fl.nan y) = false) (h1 : Lt x y = false) (h2 : Lt y x = false) : heldv (sbit y) (sbit x) = Fl.ordv x y := by
  unfold Fl.ordv heldv
  unfold Lt at h1 h2
  rcases key_parts x hx with ⟨a, b⟩ | ⟨a, b, c, d, e⟩ | ⟨a, b, c, d, e⟩ <;> rcases key_parts y hy with ⟨a', b'⟩ | ⟨a', b', c', d', e'⟩ | ⟨a', b', c', d', e'⟩ <;> rw [a, a'] at hn h1 h2 <;> simp at hn h1 h2
  all_goals rw [b, b']
  all_goals simp
  all_goals first | (intro hh; omega) | (rw [if_neg (by omega), if_neg (by omega)]; done) | (rw [if_pos (by omega)]; done) | (rw [if_neg (by omega), if_pos (by omega)]; done)

set_option maxHeartbeats 800000 in
theorem order_any (x y : Nat) (w : World) (hx : x < 18446744073709551616) (hy : y < 18446744073709551616) : Calls Tryd.prog 36 #[.float .f64 x, .float .f64 y] w fun e w' => e = .returned (.int .i64 (Fl.ordv x y)) ∧ w' = w := by
  by_cases hn : (Fl.nan x || Fl.nan y) = true
  · have HE : Hid (heldv (Fl.nan x) (Fl.nan y) = Fl.ordv x y) := ord_nan x y hx hy hn
    by_cases hnx : Fl.nan x = true
    · clear hn
      go_enter Tryd.func36, Tryd.ntmps36
      go_wp2_with (first | (go_at_call 32; refine (isNaN_any _ _).mono ?_; rintro e w' ⟨rfl, rfl⟩) | (go_at_call 44; refine (held_any _ _ _).mono ?_; rintro e w' ⟨rfl, rfl⟩))
      go_ret
      exact ⟨ret_int (by rw [← HE.out, hnx]), rfl⟩
    · have hny : Fl.nan y = true := by simpa [hnx] using hn
      have hnx' : Fl.nan x = false := by simpa using hnx
      clear hn hnx
      go_enter Tryd.func36, Tryd.ntmps36
      go_wp2_with (first | (go_at_call 32; refine (isNaN_any _ _).mono ?_; rintro e w' ⟨rfl, rfl⟩) | (go_at_call 44; refine (held_any _ _ _).mono ?_; rintro e w' ⟨rfl, rfl⟩))
      go_ret
      exact ⟨ret_int (by rw [← HE.out, hnx', hny]), rfl⟩
  · have hn' : (Fl.nan x || Fl.nan y) = false := by simpa using hn
    have hnx : Fl.nan x = false := by simp at hn'; exact hn'.1
    have hny : Fl.nan y = false := by simp at hn'; exact hn'.2
    by_cases h1 : Lt x y = true
    · have HE : Hid ((-1 : Int) = Fl.ordv x y) := ord_lt x y hx hy h1
      have h1' : (FloatKind.f64.format.order x y == some .lt) = true := by rw [f64_lt]; exact h1
      clear hn hn' h1
      go_enter Tryd.func36, Tryd.ntmps36
      go_wp2_with (first | (go_at_call 32; refine (isNaN_any _ _).mono ?_; rintro e w' ⟨rfl, rfl⟩) | (go_at_call 44; refine (held_any _ _ _).mono ?_; rintro e w' ⟨rfl, rfl⟩))
      go_ret
      exact ⟨ret_int (by rw [← HE.out]), rfl⟩
    · by_cases h2 : Lt y x = true
      · have HE : Hid ((1 : Int) = Fl.ordv x y) := ord_gt x y hx hy h2
        have h1' : (FloatKind.f64.format.order x y == some .lt) = false := by rw [f64_lt]; simpa [Lt] using h1
        have h2' : (FloatKind.f64.format.order x y == some .gt) = true := by
          rw [f64_gt]; unfold Lt at h2; rw [hnx, hny] at h2 ⊢; exact h2
        clear hn hn' h1 h2
        go_enter Tryd.func36, Tryd.ntmps36
        go_wp2_with (first | (go_at_call 32; refine (isNaN_any _ _).mono ?_; rintro e w' ⟨rfl, rfl⟩) | (go_at_call 44; refine (held_any _ _ _).mono ?_; rintro e w' ⟨rfl, rfl⟩))
        go_ret
        exact ⟨ret_int (by rw [← HE.out]), rfl⟩
      · have HE : Hid (heldv (sbit y) (sbit x) = Fl.ordv x y) := ord_same x y hx hy hn' (by simpa using h1) (by simpa using h2)
        have h1' : (FloatKind.f64.format.order x y == some .lt) = false := by rw [f64_lt]; simpa [Lt] using h1
        have h2' : (FloatKind.f64.format.order x y == some .gt) = false := by
          rw [f64_gt]; unfold Lt at h2; rw [hnx, hny] at h2 ⊢; simpa using h2
        clear hn hn' h1 h2
        go_enter Tryd.func36, Tryd.ntmps36
        go_wp2_with (first | (go_at_call 32; refine (isNaN_any _ _).mono ?_; rintro e w' ⟨rfl, rfl⟩) | (go_at_call 45; refine (signbit_any _ _ (by assumption)).mono ?_; rintro e w' ⟨rfl, rfl⟩) | (go_at_call 44; refine (held_any _ _ _).mono ?_; rintro e w' ⟨rfl, rfl⟩))
        go_ret
        exact ⟨ret_int (by rw [← HE.out]), rfl⟩

end Go.Proofs.YtephpbbooicfoaaDoor
