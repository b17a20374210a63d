/- The reference's side: key and Order of the document's answer. -/
import Derived.Test.YtephpbbooicfoaaBitsB
namespace Go.Proofs.Ytephpbbooicfoaa
open Go.RowKit

theorem key_nan (x : Nat) (h : Fl.nan x = true) : Fl.key x = 18446744073709551615 := by
  unfold Fl.nan at h; unfold Fl.key; rw [if_pos (of_decide_eq_true h)]
theorem key_neg (x : Nat) (h : Fl.nan x = false) (hs : 9223372036854775808 ≤ x) : Fl.key x = 18446744073709551615 - x := by
  unfold Fl.nan at h; unfold Fl.key; rw [if_neg (of_decide_eq_false h), if_pos (show Fl.sgn ≤ x from hs)]
theorem key_pos (x : Nat) (h : Fl.nan x = false) (hs : ¬ 9223372036854775808 ≤ x) : Fl.key x = x + 9223372036854775808 := by
  unfold Fl.nan at h; unfold Fl.key; rw [if_neg (of_decide_eq_false h), if_neg (show ¬ Fl.sgn ≤ x from hs)]; rfl

set_option maxHeartbeats 800000 in
theorem key_any (x : Nat) (w : World) (hx : x < 18446744073709551616) : Calls Try.prog 30 #[.float .f64 x] w fun e w' => e = .returned (.int .u64 (Fl.key x)) ∧ w' = w := by
  by_cases hn : Fl.nan x = true
  · have HE : Hid (Fl.key x = 18446744073709551615) := key_nan x hn
    have h1 : (FloatKind.f64.format.order x x != some .eq) = true := by rw [nan_neq]; exact hn
    clear hn
    go_enter Try.func30, Try.ntmps30
    go_wp2_with (go_at_call 26; refine (refBits_any _ _).mono ?_; rintro e w' ⟨rfl, rfl⟩)
    go_ret
    exact ⟨ret_int (by rw [HE.out]; rfl), rfl⟩
  · have hn' : Fl.nan x = false := by simpa using hn
    have HB : bitsv x = x := by unfold bitsv; rw [hn']; rfl
    have h1 : (FloatKind.f64.format.order x x != some .eq) = false := by rw [nan_neq]; exact hn'
    by_cases hs : 9223372036854775808 ≤ x
    · have HE : Hid (Fl.key x = 18446744073709551615 - x) := key_neg x hn' hs
      clear hn hn'
      go_enter Try.func30, Try.ntmps30
      go_wp2_with (go_at_call 26; refine (refBits_any _ _).mono ?_; rintro e w' ⟨rfl, rfl⟩)
      go_ret
      exact ⟨ret_int (by rw [HE.out]; omega), rfl⟩
    · have HE : Hid (Fl.key x = x + 9223372036854775808) := key_pos x hn' hs
      clear hn hn'
      go_enter Try.func30, Try.ntmps30
      go_wp2_with (go_at_call 26; refine (refBits_any _ _).mono ?_; rintro e w' ⟨rfl, rfl⟩)
      go_ret
      exact ⟨ret_int (by rw [HE.out]; omega), rfl⟩

theorem key_le (x : Nat) (hx : x < 18446744073709551616) : Fl.key x ≤ 18446744073709551615 := by
  rcases key_parts x hx with ⟨a, b⟩ | ⟨a, b, c, d, e⟩ | ⟨a, b, c, d, e⟩ <;> omega

set_option maxHeartbeats 800000 in
theorem refOrder_any (x y : Nat) (w : World) (hx : x < 18446744073709551616) (hy : y < 18446744073709551616) : Calls Try.prog 19 #[.float .f64 x, .float .f64 y] w fun e w' => e = .returned (.int .i64 (Fl.ordv x y)) ∧ w' = w := by
  rcases Nat.lt_trichotomy (Fl.key x) (Fl.key y) with h | h | h
  · have HE : Hid (Fl.ordv x y = -1) := (by unfold Fl.ordv; rw [if_pos h] : Fl.ordv x y = -1)
    have h' : (Fl.key x : Int) < (Fl.key y : Int) := by omega
    clear h
    go_enter Try.func19, Try.ntmps19
    go_wp2_with (go_at_call 30; refine (key_any _ _ (by assumption)).mono ?_; rintro e w' ⟨rfl, rfl⟩)
    go_ret
    exact ⟨ret_int (by rw [HE.out]), rfl⟩
  · have HE : Hid (Fl.ordv x y = 0) := (by unfold Fl.ordv; rw [if_neg (by omega), if_neg (by omega)] : Fl.ordv x y = 0)
    have h1 : ¬ (Fl.key x : Int) < (Fl.key y : Int) := by omega
    have h2 : ¬ (Fl.key y : Int) < (Fl.key x : Int) := by omega
    clear h
    go_enter Try.func19, Try.ntmps19
    go_wp2_with (go_at_call 30; refine (key_any _ _ (by assumption)).mono ?_; rintro e w' ⟨rfl, rfl⟩)
    go_ret
    exact ⟨ret_int (by rw [HE.out]), rfl⟩
  · have HE : Hid (Fl.ordv x y = 1) := (by unfold Fl.ordv; rw [if_neg (by omega), if_pos h] : Fl.ordv x y = 1)
    have h1 : ¬ (Fl.key x : Int) < (Fl.key y : Int) := by omega
    have h2 : (Fl.key y : Int) < (Fl.key x : Int) := by omega
    clear h
    go_enter Try.func19, Try.ntmps19
    go_wp2_with (go_at_call 30; refine (key_any _ _ (by assumption)).mono ?_; rintro e w' ⟨rfl, rfl⟩)
    go_ret
    exact ⟨ret_int (by rw [HE.out]), rfl⟩

end Go.Proofs.Ytephpbbooicfoaa
