/- The contracts of math.IsNaN, math.Signbit, octet.held and octet.Order: floats by their bits. -/
import Derived.Test.YtiidjdedeenijaaDoorDgA
import Derived.Test.YtiidjdedeenijaaDoorDrM
import Derived.Test.YtiidjdedeenijaaDoorProg
import Derived.Test.YtiidjdedeenijaaDoorFlAdd
import Derived.WalkKit
import Derived.WalkLawsBesides
import Derived.WalkSpells
namespace Go.Proofs.YtiidjdedeenijaaDoor
open Go.RowKit

def sbit (x : Nat) : Bool := decide (9223372036854775808 ≤ x)

theorem sbit_wrap (x : Nat) (hx : x < 18446744073709551616) : decide (wrap64 (x : Int) < 0) = sbit x := by
  unfold sbit
  rw [decide_eq_decide]
  unfold wrap64
  constructor <;> intro h <;> omega

theorem ret_bool {a b : Bool} (h : a = b) : Ending.returned (.bool a) = .returned (.bool b) := by rw [h]
def heldv (a b : Bool) : Int := if a = b then 0 else if b then -1 else 1

/-! ### octet.Order -/
/-- A word that fits 64 bits: its sign and rung, and its key. -/
theorem word_parts (x : Nat) (hx : x < 18446744073709551616) : (sbit x = true ∧ Fl.neg x = true ∧ x = Fl.rung x + 9223372036854775808 ∧ Fl.rung x < 9223372036854775808 ∧ Fl.sr x = -(Fl.rung x : Int)) ∨ (sbit x = false ∧ Fl.neg x = false ∧ x = Fl.rung x ∧ Fl.rung x < 9223372036854775808 ∧ Fl.sr x = (Fl.rung x : Int)) := by
  have hs : Fl.sgn = 9223372036854775808 := rfl
  by_cases h : 9223372036854775808 ≤ x
  · left
    have hn : Fl.neg x = true := by unfold Fl.neg; rw [hs]; simp; omega
    refine ⟨decide_eq_true h, hn, ?_, ?_, ?_⟩
    · unfold Fl.rung; rw [hs]; omega
    · unfold Fl.rung; rw [hs]; omega
    · unfold Fl.sr; rw [hn, if_pos rfl]
  · right
    have hn : Fl.neg x = false := by unfold Fl.neg; rw [hs]; simp; omega
    refine ⟨decide_eq_false h, hn, ?_, ?_, ?_⟩
    · unfold Fl.rung; rw [hs]; omega
    · unfold Fl.rung; rw [hs]; omega
    · unfold Fl.sr; rw [hn]; simp

theorem key_parts (x : Nat) (hx : x < 18446744073709551616) : (Fl.nan x = true ∧ Fl.key x = 18446744073709551615) ∨ (Fl.nan x = false ∧ sbit x = true ∧ (Fl.key x : Int) = 9223372036854775807 + Fl.sr x ∧ Fl.sr x ≤ 0 ∧ -9218868437227405312 ≤ Fl.sr x) ∨ (Fl.nan x = false ∧ sbit x = false ∧ (Fl.key x : Int) = 9223372036854775808 + Fl.sr x ∧ 0 ≤ Fl.sr x ∧ Fl.sr x ≤ 9218868437227405312) := by
  have hi : Fl.inf = 9218868437227405312 := rfl
  have hs : Fl.sgn = 9223372036854775808 := rfl
  unfold Fl.nan Fl.key
  rw [hi, hs]
  by_cases h : 9218868437227405312 < Fl.rung x
  · left; exact ⟨decide_eq_true h, by rw [if_pos h]⟩
  · right
    rcases word_parts x hx with ⟨hb, _, hx1, hx2, hx3⟩ | ⟨hb, _, hx1, hx2, hx3⟩
    · left
      refine ⟨decide_eq_false h, hb, ?_, by omega, by omega⟩
      rw [if_neg h, if_pos (of_decide_eq_true hb)]; omega
    · right
      refine ⟨decide_eq_false h, hb, ?_, by omega, by omega⟩
      rw [if_neg h, if_neg (of_decide_eq_false hb)]; omega

def Lt (x y : Nat) : Bool := !Fl.nan x && !Fl.nan y && decide (Fl.sr x < Fl.sr y)

theorem ord_nan (x y : Nat) (hx : x < 18446744073709551616) (hy : y < 18446744073709551616) (h : (Fl.nan x || Fl.nan y) = true) : heldv (Fl.nan x) (Fl.nan y) = Fl.ordv x y := by
  unfold Fl.ordv heldv
  rcases key_parts x hx with ⟨a, b⟩ | ⟨a, b, c, d, e⟩ | ⟨a, b, c, d, e⟩ <;> rcases key_parts y hy with ⟨a', b'⟩ | ⟨a', b', c', d', e'⟩ | ⟨a', b', c', d', e'⟩ <;> rw [a, a'] at h ⊢ <;> simp at h ⊢
  all_goals first | (rw [b, b']; simp; done) | (intro hh; omega) | (rw [if_neg (by omega), if_pos (by omega)]; done) | (rw [if_pos (by omega)]; done)

theorem ord_lt (x y : Nat) (hx : x < 18446744073709551616) (hy : y < 18446744073709551616) (h : Lt x y = true) : (-1 : Int) = Fl.ordv x y := by
  unfold Fl.ordv
  unfold Lt at h
  simp at h
  rcases key_parts x hx with ⟨a, b⟩ | ⟨a, b, c, d, e⟩ | ⟨a, b, c, d, e⟩ <;> rcases key_parts y hy with ⟨a', b'⟩ | ⟨a', b', c', d', e'⟩ | ⟨a', b', c', d', e'⟩ <;> rw [a, a'] at h <;> simp at h
  all_goals (rw [if_pos (by omega)])

theorem ord_gt (x y : Nat) (hx : x < 18446744073709551616) (hy : y < 18446744073709551616) (h : Lt y x = true) : (1 : Int) = Fl.ordv x y := by
  unfold Fl.ordv
  unfold Lt at h
  simp at h
  rcases key_parts x hx with ⟨a, b⟩ | ⟨a, b, c, d, e⟩ | ⟨a, b, c, d, e⟩ <;> rcases key_parts y hy with ⟨a', b'⟩ | ⟨a', b', c', d', e'⟩ | ⟨a', b', c', d', e'⟩ <;> rw [a, a'] at h <;> simp at h
  all_goals (rw [if_neg (by omega), if_pos (by omega)])

theorem ord_same (x y : Nat) (hx : x < 18446744073709551616) (hy : y < 18446744073709551616) (hn : (Fl.nan x || Fl.nan y) = false) (h1 : Lt x y = false) (h2 : Lt y x = false) : heldv (sbit y) (sbit x) = Fl.ordv x y := by
  unfold Fl.ordv heldv
  unfold Lt at h1 h2
  rcases key_parts x hx with ⟨a, b⟩ | ⟨a, b, c, d, e⟩ | ⟨a, b, c, d, e⟩ <;> rcases key_parts y hy with ⟨a', b'⟩ | ⟨a', b', c', d', e'⟩ | ⟨a', b', c', d', e'⟩ <;> rw [a, a'] at hn h1 h2 <;> simp at hn h1 h2
  all_goals rw [b, b']
  all_goals simp
  all_goals first | (intro hh; omega) | (rw [if_neg (by omega), if_neg (by omega)]; done) | (rw [if_pos (by omega)]; done) | (rw [if_neg (by omega), if_pos (by omega)]; done)

end Go.Proofs.YtiidjdedeenijaaDoor
