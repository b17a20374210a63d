/- DigestSha's walk. -/
import Derived.Test.YtbeemlfggbnknaaDoorDgS
import Derived.Test.YtbeemlfggbnknaaDoorDgQ
namespace Go.Proofs.YtbeemlfggbnknaaDoor
open Go.RowKit

/-- Two arrays of 32 bytes compared. -/
theorem wp_eql23 {ops : Array Oper} {rest : List Oper} {o : Oper} {a : Act} {w : World} {Q : Exit → Act → World → Prop} (hgd : o.guard = none) (x y : Operand) (ho : o.op = .binOp .eql 23 x y 23)
    (xs ys : List Int) (hx : a.eval x = .agg (ic .u8 xs).toArray) (hy : a.eval y = .agg (ic .u8 ys).toArray) (hlx : xs.length = 32) (hly : ys.length = 32)
    (h : wpList Tryd.prog ops Q rest (a.put o.dst (.bool (decide (xs = ys)))) w) : wpList Tryd.prog ops Q (o :: rest) a w := by
  have hr := exec_binOp (P := Tryd.prog) (w := w) (ρ := a.eval) .eql 23 x y _ ho _ _ _ hx hy (Tryd.guard23 w .eql x y _ _) (Tryd.eql23 w xs ys hlx hly)
  refine wpList_plain hgd fun _ hK => ?_
  unfold Oper.wp
  rw [hr]
  exact hK _ _ h

set_option maxRecDepth 100000 in
theorem digestSha_any (a : Option Addr) (n c : Nat) (xs : List Int) (w : World) (hR : Rd w a n c xs) (hK : Kt w) :
    Calls Tryd.prog 3 #[.slice a n c] w fun e w' => e = .returned (.bool true) ∧ Below w.heap.size w w' := by
  obtain ⟨X, HX⟩ : ∃ X, Hid (xs.take 1000 = X) := ⟨_, rfl⟩
  have hl : (sha X).length = 32 := shaB_len 0 h0s X
  obtain ⟨S, HS⟩ : ∃ S, Hid (sha X = S) := ⟨_, rfl⟩
  rw [HS.out] at hl
  have t1 : True := trivial
  have t2 : True := trivial
  go_enter Tryd.func3, Tryd.ntmps3
  go_wp2_with (first
    | (go_at_call 10; clear t1; refine (fewR a n c xs _ hR).mono ?_; rintro e w1 ⟨a1, n1, c1, rfl, hn1, hr1, hb1⟩; rw [HX.out] at hr1)
    | (go_at_call 9; refine (sha_any a1 n1 c1 X _ hr1 (by omega) (hK.below (Nat.le_refl _) hb1)).mono ?_; rintro e w2 ⟨rfl, hb2⟩; rw [HS.out]; have e2 := hb1.trans (hb2.mono hb1.size))
    | (go_at_call 10; refine (fewR a n c xs _ (hR.carry (Nat.le_refl _) e2)).mono ?_; rintro e w3 ⟨a3, n3, c3, rfl, hn3, hr3, hb3⟩; rw [HX.out] at hr3; have e3 := e2.trans (hb3.mono e2.size))
    | (go_at_call 11; refine (refSha_any a3 n3 c3 X _ hr3 (by omega)).mono ?_; rintro e w4 ⟨rfl, hb4⟩; rw [HS.out]; have e4 := e3.trans (hb4.mono e3.size))
    | (refine wp_eql23 rfl (.tmp 5) (.tmp 8) rfl S S rfl rfl hl hl ?_; rw [show decide (S = S) = true from by simp])
    | (go_at_call 12; refine (wakes_any _ (hK.below (Nat.le_refl _) e4)).mono ?_; rintro e w5 ⟨rfl, hb5⟩))
  go_ret
  exact ⟨rfl, e4.trans (hb5.mono e4.size)⟩
end Go.Proofs.YtbeemlfggbnknaaDoor
