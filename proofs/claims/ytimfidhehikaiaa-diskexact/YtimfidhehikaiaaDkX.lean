/- The law's wakes: the document's run of a disk. -/
import Derived.Test.YtimfidhehikaiaaDkR
namespace Go.Proofs.Ytimfidhehikaiaa
open Go.RowKit Go.Joins

def sA : Nm := ⟨#[97]⟩
def k1a : Dk := ⟨100, [(sA, ⟨[1, 2, 3], 0⟩)], 1, false, none⟩
def k2a : Dk := ⟨100, [(sA, ⟨[1, 2, 3], 3⟩)], 2, false, none⟩
def k3a : Dk := ⟨100, [(sA, ⟨[1, 2, 3, 4, 5], 3⟩)], 3, false, none⟩
def k4a : Dk := ⟨100, [(sA, ⟨[1, 2, 3, 4], 4⟩)], 3, false, none⟩
theorem run1 : appK (newK 100) sA [1, 2, 3] = (0, k1a) := by kernel_rfl
theorem run2 : syncK k1a sA = (0, k2a) := by kernel_rfl
theorem run3 : appK k2a sA [4, 5] = (0, k3a) := by kernel_rfl
theorem run4 : restK k3a [1] = k4a := by kernel_rfl
theorem run5 : readK k4a sA = (0, [1, 2, 3, 4]) := by kernel_rfl

theorem rd_lit (w : World) (xs : List Int) (hb : Bd xs) (hl : xs.length ≤ 1000) : Rd (w.alloc (.cells (bc xs).toArray 5)) (some ⟨w.heap.size, 0, none⟩) xs.length xs.length xs :=
  ⟨rfl, Nat.le_refl _, by unfold maxLen; omega, (fun e => by cases e), hb, fun ad ha j hj => by
    cases ha
    rw [add_flat, Nat.zero_add]
    rw [cell_of_block (alloc_at w (.cells (bc xs).toArray 5)) j]
    simp [bc, hj, List.getD]⟩

theorem Keep.low {F : Nat → Prop} {B : Nat} {w w' : World} (h : Keep F w w') (hB : B ≤ w.heap.size) (hF : ∀ i, F i → B ≤ i) : Below B w w' := h.below hB hF

set_option maxRecDepth 100000 in
set_option maxHeartbeats 2000000 in
theorem wakes_any (w : World) : Calls Try.prog 9 #[] w fun e w' => e = .returned (.bool true) ∧ Below w.heap.size w w' := by
  have hN := new_ok 100 (by omega) w
  have hA1 := fun d F w' hD a c hR => append_any d F (newK 100) sA a 3 c [1, 2, 3] (by decide) (by decide) (by omega) w' hD hR
  have hS := fun d F w' hD => sync_any d F k1a sA (by decide) (by decide) w' hD
  have hA2 := fun d F w' hD a c hR => append_any d F k2a sA a 2 c [4, 5] (by decide) (by decide) (by omega) w' hD hR
  have hR1 := fun d F w' hD bk v hI hb => restart_any d F k3a bk v [1] (by decide) w' hD hI hb
  have hRd := fun d F w' hD => read_any d F k4a sA w' hD
  have hSt := fun d F w' hD => steps_any d F k4a w' hD
  rw [run1] at hA1
  rw [run2] at hS
  rw [run3] at hA2
  rw [run4] at hR1
  rw [run5] at hRd
  unfold sA at *
  go_enter Try.func9, Try.ntmps9
  go_upto_region 4 with (first
    | (go_at_call 7; refine hN.mono ?_; rintro e w1 ⟨d, rfl, ⟨F1, hD1, hF1⟩, hB1⟩))
  have ha1 : Below w1.heap.size w1 (w1.alloc (.cells #[.int .u8 1, .int .u8 2, .int .u8 3] 5)) := (Below.refl _ _).alloc (Nat.le_refl _) _
  have hr1 := rd_lit w1 [1, 2, 3] (by intro x hx; simp at hx; omega) (by decide)
  replace hA1 := hA1 d F1 _ (hD1.below ha1) _ _ hr1
  go_upto_region 5 with (first
    | (go_at_call 13; refine hA1.mono ?_; rintro e w2 ⟨rfl, F2, hD2, hk2, hF2⟩))
  have hB2 : Below w.heap.size w w2 := (hB1.alloc hB1.size _).trans (hk2.low (by have := hB1.size; simp; omega) hF1)
  have hF2' : ∀ i, F2 i → w.heap.size ≤ i := fun i hi => (hF2 i hi).elim (hF1 i) (fun h => by have := hB1.size; simp at h; omega)
  clear hA1 hr1 hk2 ha1 hF2
  replace hS := hS d F2 _ hD2
  go_upto_region 6 with (first
    | (go_at_call 14; refine hS.mono ?_; rintro e w3 ⟨rfl, F3, hD3, hk3, hF3⟩))
  have hB3 : Below w.heap.size w w3 := hB2.trans (hk3.low hB2.size hF2')
  have hF3' : ∀ i, F3 i → w.heap.size ≤ i := fun i hi => (hF3 i hi).elim (hF2' i) (fun h => by have := hB2.size; omega)
  clear hS hk3 hF3
  have ha3 : Below w3.heap.size w3 (w3.alloc (.cells #[.int .u8 4, .int .u8 5] 5)) := (Below.refl _ _).alloc (Nat.le_refl _) _
  have hr3 := rd_lit w3 [4, 5] (by intro x hx; simp at hx; omega) (by decide)
  replace hA2 := hA2 d F3 _ (hD3.below ha3) _ _ hr3
  go_upto_region 7 with (first
    | (go_at_call 13; refine hA2.mono ?_; rintro e w4 ⟨rfl, F4, hD4, hk4, hF4⟩))
  have hB4 : Below w.heap.size w w4 := (hB3.alloc hB3.size _).trans (hk4.low (by have := hB3.size; simp; omega) hF3')
  have hF4' : ∀ i, F4 i → w.heap.size ≤ i := fun i hi => (hF4 i hi).elim (hF3' i) (fun h => by have := hB3.size; simp at h; omega)
  clear hA2 hr3 hk4 ha3 hF4
  have ha4 : Below w4.heap.size w4 (w4.alloc (.cells #[.int .i64 1] 3)) := (Below.refl _ _).alloc (Nat.le_refl _) _
  have hI4 : IRd (w4.alloc (.cells #[.int .i64 1] 3)) w4.heap.size (.slice (some ⟨w4.heap.size, 0, none⟩) 1 1) [1] := ⟨_, _, rfl, Nat.le_refl _, by omega, fun _ => ⟨0, rfl, fun j hj => by
    have : j = 0 := by simp at hj; omega
    subst this
    exact World.cell?_alloc_at _ _ _ 0 rfl⟩⟩
  replace hR1 := hR1 d F4 _ (hD4.below ha4) _ _ hI4 (fun _ h => by have := hD4.lt _ h; omega)
  go_upto_region 8 with (first
    | (go_at_call 16; refine hR1.mono ?_; rintro e w5 ⟨rfl, F5, hD5, hk5, hF5⟩))
  have hB5 : Below w.heap.size w w5 := (hB4.alloc hB4.size _).trans (hk5.low (by have := hB4.size; simp; omega) hF4')
  clear hR1 hI4 ha4 hk5
  replace hRd := hRd d F5 _ hD5
  go_upto_region 9 with (first
    | (go_at_call 18; refine hRd.mono ?_; rintro e w6 ⟨v, rfl, hown, hb6⟩; obtain ⟨a6, c6, rfl, hR6⟩ := Rd.ofOwn hown (by intro x hx; simp at hx; omega)))
  have hst : (convert 31 9 (.slice a6 4 c6)).run Try.prog w6 = .ok (.string (strOfNums [1, 2, 3, 4])) w6 := hR6.string
  have hstr : strOfNums [1, 2, 3, 4] = ⟨#[1, 2, 3, 4]⟩ := by kernel_rfl
  rw [hstr] at hst
  replace hSt := hSt d F5 _ (hD5.below hb6)
  rw [show ((k4a.steps : Nat) : Int) = 3 from rfl] at hSt
  clear hRd hstr
  go_wp2_with (first
    | (go_at_call 27; refine hSt.mono ?_; rintro e w7 ⟨rfl, rfl⟩))
  go_ret
  exact ⟨rfl, hB5.trans (hb6.mono hB5.size)⟩

end Go.Proofs.Ytimfidhehikaiaa
