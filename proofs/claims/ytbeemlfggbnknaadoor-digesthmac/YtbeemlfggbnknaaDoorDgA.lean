/- digest's small functions on words. -/
import Derived.Test.YtbeemlfggbnknaaDoorDgP
import Derived.Deep.QuietTactic
import Derived.BigQuiet
namespace Go.Proofs.YtbeemlfggbnknaaDoor
open Go.RowKit

theorem neg_and31 : ∀ b : Fin 32, b.val ≠ 0 → bits .and .u64 (IntKind.u64.wrap (-(b.val : Int))) 31 = ((32 - b.val : Nat) : Int) := by decide +kernel
theorem ret_int {k : IntKind} {a b : Int} (h : a = b) : Ending.returned (.int k a) = .returned (.int k b) := by rw [h]

set_option maxHeartbeats 400000 in
theorem rotl_any (x : Int) (b : Nat) (w : World) (h0 : 0 < b) (h1 : b < 32) :
    Calls Tryd.prog 42 #[.int .u32 x, .int .i64 (-(b : Int))] w fun e w' => e = .returned (.int .u32 (rr x b)) ∧ w' = w := by
  have hb : bits .and .u64 (IntKind.u64.wrap (-(b : Int))) 31 = ((32 - b : Nat) : Int) := neg_and31 ⟨b, h1⟩ (by show b ≠ 0; omega)
  have hr : bits .or .u32 (x * 2 ^ (32 - b) % 4294967296) (x / 2 ^ (32 - (32 - b))) = rr x b := by
    rw [bits_or_comm]; unfold rr; rw [show 32 - (32 - b) = b from by omega]
  go_enter Tryd.func42, Tryd.ntmps42
  go_wp2
  go_ret
  exact ⟨rfl, rfl⟩

set_option maxHeartbeats 400000 in
theorem turned_any (x : Int) (b : Nat) (w : World) (h0 : 0 < b) (h1 : b < 32) :
    Calls Tryd.prog 41 #[.int .u32 x, .int .i64 (b : Int)] w fun e w' => e = .returned (.int .u32 (rr x b)) ∧ w' = w := by
  go_enter Tryd.func41, Tryd.ntmps41
  go_wp2_with (go_at_call 42; refine (rotl_any x b _ h0 h1).mono ?_; rintro e w' ⟨rfl, rfl⟩)
  go_ret
  exact ⟨rfl, rfl⟩

theorem choice_any (x y z : Int) (w : World)  :
    Calls Tryd.prog 36 #[.int .u32 x, .int .u32 y, .int .u32 z] w fun e w' => e = .returned (.int .u32 (wch x y z)) ∧ w' = w := by
  go_enter Tryd.func36, Tryd.ntmps36
  go_wp2
  go_ret
  exact ⟨rfl, rfl⟩

theorem majority_any (x y z : Int) (w : World)  :
    Calls Tryd.prog 38 #[.int .u32 x, .int .u32 y, .int .u32 z] w fun e w' => e = .returned (.int .u32 (wmaj x y z)) ∧ w' = w := by
  go_enter Tryd.func38, Tryd.ntmps38
  go_wp2
  go_ret
  exact ⟨rfl, rfl⟩

set_option maxHeartbeats 400000 in
theorem bigS0_any (x : Int) (w : World)  :
    Calls Tryd.prog 37 #[.int .u32 x] w fun e w' => e = .returned (.int .u32 (wS0 x)) ∧ w' = w := by
  go_enter Tryd.func37, Tryd.ntmps37
  go_wp2_with fail
  refine (turned_any x 2 _ (by omega) (by omega)).mono ?_; rintro e w' ⟨rfl, rfl⟩
  go_wp2_with fail
  refine (turned_any x 13 _ (by omega) (by omega)).mono ?_; rintro e w' ⟨rfl, rfl⟩
  go_wp2_with fail
  refine (turned_any x 22 _ (by omega) (by omega)).mono ?_; rintro e w' ⟨rfl, rfl⟩
  go_wp2
  go_ret
  exact ⟨rfl, rfl⟩

set_option maxHeartbeats 400000 in
theorem bigS1_any (x : Int) (w : World)  :
    Calls Tryd.prog 35 #[.int .u32 x] w fun e w' => e = .returned (.int .u32 (wS1 x)) ∧ w' = w := by
  go_enter Tryd.func35, Tryd.ntmps35
  go_wp2_with fail
  refine (turned_any x 6 _ (by omega) (by omega)).mono ?_; rintro e w' ⟨rfl, rfl⟩
  go_wp2_with fail
  refine (turned_any x 11 _ (by omega) (by omega)).mono ?_; rintro e w' ⟨rfl, rfl⟩
  go_wp2_with fail
  refine (turned_any x 25 _ (by omega) (by omega)).mono ?_; rintro e w' ⟨rfl, rfl⟩
  go_wp2
  go_ret
  exact ⟨rfl, rfl⟩

set_option maxHeartbeats 400000 in
theorem smallS0_any (x : Int) (w : World)  :
    Calls Tryd.prog 40 #[.int .u32 x] w fun e w' => e = .returned (.int .u32 (ws0 x)) ∧ w' = w := by
  go_enter Tryd.func40, Tryd.ntmps40
  go_wp2_with fail
  refine (turned_any x 7 _ (by omega) (by omega)).mono ?_; rintro e w' ⟨rfl, rfl⟩
  go_wp2_with fail
  refine (turned_any x 18 _ (by omega) (by omega)).mono ?_; rintro e w' ⟨rfl, rfl⟩
  go_wp2
  go_ret
  exact ⟨rfl, rfl⟩

set_option maxHeartbeats 400000 in
theorem smallS1_any (x : Int) (w : World)  :
    Calls Tryd.prog 39 #[.int .u32 x] w fun e w' => e = .returned (.int .u32 (ws1 x)) ∧ w' = w := by
  go_enter Tryd.func39, Tryd.ntmps39
  go_wp2_with fail
  refine (turned_any x 17 _ (by omega) (by omega)).mono ?_; rintro e w' ⟨rfl, rfl⟩
  go_wp2_with fail
  refine (turned_any x 19 _ (by omega) (by omega)).mono ?_; rintro e w' ⟨rfl, rfl⟩
  go_wp2
  go_ret
  exact ⟨rfl, rfl⟩

end Go.Proofs.YtbeemlfggbnknaaDoor
