/- octet.unfolded and octet.Int. -/
import Derived.Test.YtiidjdedeenijaaDoorUint
import Derived.Test.YtiidjdedeenijaaDoorPutI
import Derived.Test.YtiidjdedeenijaaDoorLate
namespace Go.Proofs.YtiidjdedeenijaaDoor
open Go.RowKit

def unfv (u : Nat) : Int := if u % 2 = 1 then -((u / 2 : Nat) : Int) - 1 else ((u / 2 : Nat) : Int)

theorem unf_fold (n : Int) : unfv (foldv n) = n := by
  unfold unfv foldv
  by_cases h : n < 0
  · rw [if_pos h, if_pos (by omega)]; omega
  · rw [if_neg h, if_neg (by omega)]; omega
theorem fold_unf (u : Nat) : foldv (unfv u) = u := by
  unfold unfv
  by_cases h : u % 2 = 1
  · rw [if_pos h]; unfold foldv; rw [if_pos (by omega)]; omega
  · rw [if_neg h]; unfold foldv; rw [if_neg (by omega)]; omega

theorem scan_lt (xs : List Int) : ∀ i acc, Bd xs → i ≤ 9 → acc < 2 ^ (7 * i) → (scan xs i acc).1 < 18446744073709551616 := by
  induction xs with
  | nil => intro i acc _ _ _; simp [scan]
  | cons c r ih =>
    intro i acc hb hi ha
    have hc := hb c (List.mem_cons_self ..)
    rw [scan]
    split
    · decide
    · rename_i h9
      have hov := or_val (acc := acc) (k := i) (z := c) hc.1 hc.2 hi (fun h => by omega) ha
      split
      · refine ih _ _ (fun x hx => hb x (List.mem_cons_of_mem _ hx)) ?_ hov.2.1
        rename_i h128
        rcases Nat.lt_or_ge i 9 with g | g
        · omega
        · have : i = 9 := by omega
          omega
      · split
        · decide
        · exact hov.2.2

end Go.Proofs.YtiidjdedeenijaaDoor
