/- The contract of math.IsNaN: floats by their bits. -/
import Derived.Test.YtomkcmkbehcjnaaDoorProg
import Derived.Test.YtomkcmkbehcjnaaDoorFloat
import Derived.WalkKit
import Derived.WalkLawsBesides
import Derived.WalkSpells
namespace Go.Proofs.YtomkcmkbehcjnaaDoor
open Go.RowKit

theorem run_bits (x : Nat) (w : World) : (callFunc 49 #[.float .f64 x]).run Tryd.prog w = .ok (.value (.int .u64 x)) w := by
  rw [run_callFunc_extern Tryd.func49 (by kernel_rfl) (by kernel_rfl) (by kernel_rfl) (e := Extern.MathFloatBits.float64bits) (by kernel_rfl)]
  rfl

theorem nan_neq (x : Nat) : (FloatKind.f64.format.order x x != some .eq) = Fl.nan x := by
  show (Ieee.double.order x x != some .eq) = _
  unfold Fl.nan
  by_cases h : Fl.inf < Fl.rung x
  · rw [Fl.order_nan x x (Or.inl h), decide_eq_true h]; rfl
  · rw [Fl.order_eq x x (by omega) (by omega), decide_eq_false h, Fl.cmp_int, if_neg (by omega), if_pos rfl]; rfl

set_option maxHeartbeats 400000 in
theorem isNaN_any (x : Nat) (w : World) : Calls Tryd.prog 77 #[.float .f64 x] w fun e w' => e = .returned (.bool (Fl.nan x)) ∧ w' = w := by
  go_enter Tryd.func77, Tryd.ntmps77
  go_wp2
  go_ret
  rw [nan_neq]
  exact ⟨rfl, rfl⟩

theorem ret_bool {a b : Bool} (h : a = b) : Ending.returned (.bool a) = .returned (.bool b) := by rw [h]
theorem ret_int {k : IntKind} {a b : Int} (h : a = b) : Ending.returned (.int k a) = .returned (.int k b) := by rw [h]

end Go.Proofs.YtomkcmkbehcjnaaDoor
