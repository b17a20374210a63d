/- What Restart leaves of a file, in numbers. -/
import Derived.Test.YtimfidhehikaiaaDkZb
namespace Go.Proofs.Ytimfidhehikaiaa
open Go.RowKit Go.Joins

theorem Rp.then {w w1 w2 : World} {G : Nat → Prop} {rd : Nat} {k : Dk} (h : Rp w G rd k w1) (hb : Below w1.heap.size w1 w2) : Rp w G rd k w2 := by
  obtain ⟨G', h1, h2, h3⟩ := h
  exact ⟨G', h1.below hb, h2.trans (Keep.ofBelow hb), h3⟩
theorem headD_drop (l : List Int) (n : Nat) : (l.drop n).headD 0 = l.getD n 0 := by
  induction l generalizing n with
  | nil => cases n <;> rfl
  | cons x r ih => cases n with | zero => rfl | succ n => exact ih n
theorem tail_drop (l : List Int) (n : Nat) : (l.drop n).tail = l.drop (n + 1) := by rw [List.tail_drop]
theorem mid_at (dn post : Fls) (x : Nm × Fle) : (dn ++ x :: post)[dn.length]? = some x := by simp
theorem rest_zero (f : Fle) (z : Int) (h : max z 0 = 0) : restF f z = ⟨f.b.take f.safe, f.safe⟩ := by
  have h2 : ((max z 0) % (((f.b.length - f.safe : Nat) : Int) + 1)).toNat = 0 := by rw [h, Int.zero_emod]; rfl
  unfold restF
  rw [h2, Nat.add_zero]
theorem rest_pos (f : Fle) (z : Int) (h : 0 < z) (hs : f.safe ≤ f.b.length) : ∃ kq : Nat, z % ((f.b.length : Int) - (f.safe : Int) + 1) = (kq : Int) ∧ f.safe + kq ≤ f.b.length ∧ restF f z = ⟨f.b.take (f.safe + kq), f.safe + kq⟩ := by
  have e1 : ((f.b.length - f.safe : Nat) : Int) = (f.b.length : Int) - (f.safe : Int) := Int.ofNat_sub hs
  have e2 : max z 0 = z := Int.max_eq_left (Int.le_of_lt h)
  have h1 := Int.emod_nonneg z (show ((f.b.length : Int) - (f.safe : Int)) + 1 ≠ 0 by omega)
  have h2 := Int.emod_lt_of_pos z (show 0 < ((f.b.length : Int) - (f.safe : Int)) + 1 by omega)
  obtain ⟨m, hm⟩ := Int.eq_ofNat_of_zero_le h1
  rw [hm] at h2
  refine ⟨m, hm, by omega, ?_⟩
  unfold restF
  rw [e2, e1, hm]
  rfl

end Go.Proofs.Ytimfidhehikaiaa
