/- wakes: the document's runs that each law asks for first. -/
import Derived.Test.YtephpbbooicfoaaDoorOrderA
import Derived.Test.YtephpbbooicfoaaDoorPut
import Derived.Test.YtephpbbooicfoaaDoorUint
namespace Go.Proofs.YtephpbbooicfoaaDoor
open Go.RowKit

theorem scan_wakes : scan [172, 2, 9] 0 0 = (300, 2, 0) := by decide
theorem form_300 : form 300 = [172, 2] := by
  rw [form_big (by omega), form_small (by omega)]; rfl
theorem rd_nil (w : World) : Rd w none 0 0 [] := ⟨rfl, Nat.le_refl _, by unfold maxLen; omega, fun _ => rfl, Bd.nil, fun _ h => by cases h⟩
theorem ord_12 : Fl.ordv 4607182418800017408 4611686018427387904 = -1 := by decide
theorem str_9 : strOfNums [9] = ⟨#[9]⟩ := by decide
theorem str_ac : strOfNums [172, 2] = ⟨#[172, 2]⟩ := by decide

theorem bd_wakes : Bd [172, 2, 9] := by intro x hx; simp at hx; omega
theorem bd_ac : Bd [172, 2] := by intro x hx; simp at hx; omega
theorem bd_9 : Bd [9] := by intro x hx; simp at hx; omega

theorem rd_wakes (w : World) : Rd (w.alloc (.cells #[.int .u8 172, .int .u8 2, .int .u8 9] 5)) (some ⟨w.heap.size, 0, none⟩) 3 3 [172, 2, 9] := by
  refine ⟨rfl, Nat.le_refl _, by unfold maxLen; omega, (fun h => by cases h), bd_wakes, fun ad had j hj => ?_⟩
  cases had
  rw [add_flat]
  match j, hj with
  | 0, _ => simp
  | 1, _ => simp
  | 2, _ => simp

theorem uint_wakes (w : World) : Calls Tryd.prog 7 #[.slice (some ⟨w.heap.size, 0, none⟩) 3 3] (w.alloc (.cells #[.int .u8 172, .int .u8 2, .int .u8 9] 5)) fun e w' =>
    ∃ a1 c1, e = .returned (.tuple #[.int .u64 300, .slice a1 1 c1, .int .i64 0]) ∧ (convert 22 9 (.slice a1 1 c1)).run Tryd.prog w' = .ok (.string ⟨#[9]⟩) w' ∧ w.heap.size < w'.heap.size ∧ Below w.heap.size w w' := by
  have HU := uint_any (some ⟨w.heap.size, 0, none⟩) 3 3 [172, 2, 9] _ (rd_wakes w) (by omega)
  rw [scan_wakes] at HU
  refine HU.mono ?_
  rintro e w1 (⟨h, _⟩ | ⟨_, v, rfl, hown1, hb1⟩)
  · exact absurd rfl h
  · obtain ⟨a1, c1, rfl, hr1⟩ := Rd.ofOwn (xs := [9]) hown1 bd_9
    have hs := hr1.string
    rw [str_9] at hs
    have hz := hb1.size
    rw [World.size_alloc] at hz
    exact ⟨a1, c1, rfl, hs, by omega, ((Below.refl _ _).alloc (Nat.le_refl _) _).trans (hb1.mono (by simp))⟩

theorem putUint_wakes (w : World) : Calls Tryd.prog 18 #[.slice none 0 0, .int .u64 300] w fun e w' =>
    ∃ a1 c1, e = .returned (.slice a1 2 c1) ∧ (convert 22 9 (.slice a1 2 c1)).run Tryd.prog w' = .ok (.string ⟨#[172, 2]⟩) w' ∧ Below w.heap.size w w' := by
  have HP := putUint_any none 0 0 [] 300 w (rd_nil w) (by omega) (by omega)
  rw [form_300] at HP
  refine HP.mono ?_
  rintro e w1 ⟨v, rfl, hown1, hb1⟩
  obtain ⟨a1, c1, rfl, hr1⟩ := Rd.ofOwn (xs := [172, 2]) hown1 bd_ac
  have hs := hr1.string
  rw [str_ac] at hs
  exact ⟨a1, c1, rfl, hs, hb1⟩

set_option maxHeartbeats 1600000 in
theorem wakes_any (w : World) : Calls Tryd.prog 16 #[] w fun e w' => e = .returned (.bool true) ∧ Below w.heap.size w w' := by
  have ho := ord_12
  go_enter Tryd.func16, Tryd.ntmps16
  go_wp2_with (first
    | (go_at_call 7; refine (uint_wakes w).mono ?_; rintro e w1 ⟨a1, c1, rfl, hs1, hz1, hb1⟩)
    | (go_at_call 18; refine (putUint_wakes _).mono ?_; rintro e w2 ⟨a2, c2, rfl, hs2, hb2⟩)
    | (go_at_call 36; refine (order_any _ _ _ (by omega) (by omega)).mono ?_; rintro e w3 ⟨rfl, rfl⟩))
  go_ret
  exact ⟨rfl, hb1.trans (hb2.mono (by omega))⟩

end Go.Proofs.YtephpbbooicfoaaDoor
