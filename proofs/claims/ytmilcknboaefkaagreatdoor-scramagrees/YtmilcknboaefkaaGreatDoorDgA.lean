/- digest's small functions on words. -/
import Derived.Test.YtmilcknboaefkaaGreatDoorDgP
import Derived.Deep.QuietTactic
import Derived.BigQuiet
set_option maxRecDepth 100000
namespace Go.Proofs.YtmilcknboaefkaaGreatDoor
open Go.RowKit

theorem neg_and31 : ∀ b : Fin 32, b.val ≠ 0 → bits .and .u64 (IntKind.u64.wrap (-(b.val : Int))) 31 = ((32 - b.val : Nat) : Int) := by decide +kernel
theorem ret_int {k : IntKind} {a b : Int} (h : a = b) : Ending.returned (.int k a) = .returned (.int k b) := by rw [h]

set_option maxHeartbeats 400000 in
theorem rotl_any (x : Int) (b : Nat) (w : World) (h0 : 0 < b) (h1 : b < 32) :
    Calls Tryz.prog 144 #[.int .u32 x, .int .i64 (-(b : Int))] w fun e w' => e = .returned (.int .u32 (rr x b)) ∧ w' = w := by
  have hb : bits .and .u64 (IntKind.u64.wrap (-(b : Int))) 31 = ((32 - b : Nat) : Int) := neg_and31 ⟨b, h1⟩ (by show b ≠ 0; omega)
  have hr : bits .or .u32 (x * 2 ^ (32 - b) % 4294967296) (x / 2 ^ (32 - (32 - b))) = rr x b := by
    rw [bits_or_comm]; unfold rr; rw [show 32 - (32 - b) = b from by omega]
  go_enter Tryz.func144, Tryz.ntmps144
  go_wp2
  go_ret
  exact ⟨rfl, rfl⟩

set_option maxHeartbeats 400000 in
theorem turned_any (x : Int) (b : Nat) (w : World) (h0 : 0 < b) (h1 : b < 32) :
    Calls Tryz.prog 121 #[.int .u32 x, .int .i64 (b : Int)] w fun e w' => e = .returned (.int .u32 (rr x b)) ∧ w' = w := by
  go_enter Tryz.func121, Tryz.ntmps121
  go_wp2_with (go_at_call 144; refine (rotl_any x b _ h0 h1).mono ?_; rintro e w' ⟨rfl, rfl⟩)
  go_ret
  exact ⟨rfl, rfl⟩

theorem choice_any (x y z : Int) (w : World)  :
    Calls Tryz.prog 98 #[.int .u32 x, .int .u32 y, .int .u32 z] w fun e w' => e = .returned (.int .u32 (wch x y z)) ∧ w' = w := by
  go_enter Tryz.func98, Tryz.ntmps98
  go_wp2
  go_ret
  exact ⟨rfl, rfl⟩

theorem majority_any (x y z : Int) (w : World)  :
    Calls Tryz.prog 100 #[.int .u32 x, .int .u32 y, .int .u32 z] w fun e w' => e = .returned (.int .u32 (wmaj x y z)) ∧ w' = w := by
  go_enter Tryz.func100, Tryz.ntmps100
  go_wp2
  go_ret
  exact ⟨rfl, rfl⟩

set_option maxHeartbeats 400000 in
theorem bigS0_any (x : Int) (w : World)  :
    Calls Tryz.prog 99 #[.int .u32 x] w fun e w' => e = .returned (.int .u32 (wS0 x)) ∧ w' = w := by
  go_enter Tryz.func99, Tryz.ntmps99
  go_wp2_with fail
  refine (turned_any x 2 _ (by omega) (by omega)).mono ?_; rintro e w' ⟨rfl, rfl⟩
  go_wp2_with fail
  refine (turned_any x 13 _ (by omega) (by omega)).mono ?_; rintro e w' ⟨rfl, rfl⟩
  go_wp2_with fail
  refine (turned_any x 22 _ (by omega) (by omega)).mono ?_; rintro e w' ⟨rfl, rfl⟩
  go_wp2
  go_ret
  exact ⟨rfl, rfl⟩

set_option maxHeartbeats 400000 in
theorem bigS1_any (x : Int) (w : World)  :
    Calls Tryz.prog 97 #[.int .u32 x] w fun e w' => e = .returned (.int .u32 (wS1 x)) ∧ w' = w := by
  go_enter Tryz.func97, Tryz.ntmps97
  go_wp2_with fail
  refine (turned_any x 6 _ (by omega) (by omega)).mono ?_; rintro e w' ⟨rfl, rfl⟩
  go_wp2_with fail
  refine (turned_any x 11 _ (by omega) (by omega)).mono ?_; rintro e w' ⟨rfl, rfl⟩
  go_wp2_with fail
  refine (turned_any x 25 _ (by omega) (by omega)).mono ?_; rintro e w' ⟨rfl, rfl⟩
  go_wp2
  go_ret
  exact ⟨rfl, rfl⟩

set_option maxHeartbeats 400000 in
theorem smallS0_any (x : Int) (w : World)  :
    Calls Tryz.prog 120 #[.int .u32 x] w fun e w' => e = .returned (.int .u32 (ws0 x)) ∧ w' = w := by
  go_enter Tryz.func120, Tryz.ntmps120
  go_wp2_with fail
  refine (turned_any x 7 _ (by omega) (by omega)).mono ?_; rintro e w' ⟨rfl, rfl⟩
  go_wp2_with fail
  refine (turned_any x 18 _ (by omega) (by omega)).mono ?_; rintro e w' ⟨rfl, rfl⟩
  go_wp2
  go_ret
  exact ⟨rfl, rfl⟩

set_option maxHeartbeats 400000 in
theorem smallS1_any (x : Int) (w : World)  :
    Calls Tryz.prog 119 #[.int .u32 x] w fun e w' => e = .returned (.int .u32 (ws1 x)) ∧ w' = w := by
  go_enter Tryz.func119, Tryz.ntmps119
  go_wp2_with fail
  refine (turned_any x 17 _ (by omega) (by omega)).mono ?_; rintro e w' ⟨rfl, rfl⟩
  go_wp2_with fail
  refine (turned_any x 19 _ (by omega) (by omega)).mono ?_; rintro e w' ⟨rfl, rfl⟩
  go_wp2
  go_ret
  exact ⟨rfl, rfl⟩

end Go.Proofs.YtmilcknboaefkaaGreatDoor
