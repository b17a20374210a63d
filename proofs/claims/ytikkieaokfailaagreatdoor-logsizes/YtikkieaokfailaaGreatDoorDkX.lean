/- The law's wakes: the document's run of a disk. -/
import Derived.Test.YtikkieaokfailaaGreatDoorDkR
namespace Go.Proofs.YtikkieaokfailaaGreatDoor
open Go.RowKit Go.Joins

def sA : Nm := ⟨#[97]⟩
def k1a : Dk := ⟨100, [(sA, ⟨[1, 2, 3], 0⟩)], 1, false, none⟩
def k2a : Dk := ⟨100, [(sA, ⟨[1, 2, 3], 3⟩)], 2, false, none⟩
def k3a : Dk := ⟨100, [(sA, ⟨[1, 2, 3, 4, 5], 3⟩)], 3, false, none⟩
def k4a : Dk := ⟨100, [(sA, ⟨[1, 2, 3, 4], 4⟩)], 3, false, none⟩
theorem run1 : appK (newK 100) sA [1, 2, 3] = (0, k1a) := by kernel_rfl
theorem run2 : syncK k1a sA = (0, k2a) := by kernel_rfl
theorem run3 : appK k2a sA [4, 5] = (0, k3a) := by kernel_rfl
theorem run4 : restK k3a [1] = k4a := by kernel_rfl
theorem run5 : readK k4a sA = (0, [1, 2, 3, 4]) := by kernel_rfl

theorem rd_lit (w : World) (xs : List Int) (hb : Bd xs) (hl : xs.length ≤ 1000) : Rd (w.alloc (.cells (bc xs).toArray 5)) (some ⟨w.heap.size, 0, none⟩) xs.length xs.length xs :=
  ⟨rfl, Nat.le_refl _, by unfold maxLen; omega, (fun e => by cases e), hb, fun ad ha j hj => by
    cases ha
    rw [add_flat, Nat.zero_add]
    rw [cell_of_block (alloc_at w (.cells (bc xs).toArray 5)) j]
    simp [bc, hj, List.getD]⟩

theorem Keep.low {F : Nat → Prop} {B : Nat} {w w' : World} (h : Keep F w w') (hB : B ≤ w.heap.size) (hF : ∀ i, F i → B ≤ i) : Below B w w' := h.below hB hF

end Go.Proofs.YtikkieaokfailaaGreatDoor
