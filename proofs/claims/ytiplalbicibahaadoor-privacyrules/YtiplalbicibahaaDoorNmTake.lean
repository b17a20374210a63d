/- What a text's runes are taken by: the three function values, and what eachRune asks of one. -/
import Derived.Test.YtiplalbicibahaaDoorNmSmall
import Derived.Below
import Derived.Shelf.Abstract
namespace Go.Proofs.YtiplalbicibahaaDoor.Nm
open Go.RowKit

/-- Blocks from B on stand as they stood, and so do those below B0. -/
structure Aside (B0 B : Nat) (w w' : World) : Prop where
  below : Below B0 w w'
  size : w'.heap.size = w.heap.size
  above : ∀ k, B ≤ k → w'.heap[k]? = w.heap[k]?

theorem Aside.refl (B0 B : Nat) (w : World) : Aside B0 B w w := ⟨Below.refl _ _, rfl, fun _ _ => rfl⟩

/-- What eachRune asks of the function that takes the runes. -/
structure Taker (k : Nat) (caps : Array Value) (step : Int → Int → Option Int) (B0 B : Nat) (J : Int → World → Prop) : Prop where
  ent : ∀ args w, (callFunc k args).run Tryd.prog w = .ok (.enter k args) w
  call : ∀ st r W, J st W → 0 ≤ r → r ≤ 1114111 → Calls Tryd.prog k (#[.int .i32 r] ++ caps) W fun e W' =>
    (step st r = none ∧ e = .panicked (gaveUp 4) ∧ Below B0 W W') ∨ ∃ r', step st r = some r' ∧ e = .returned (.int .i32 r') ∧ J r' W' ∧ Aside B0 B W W'
  keep : ∀ st W W', J st W → Below B W W' → J st W'
  lim : ∀ st r r', 0 ≤ r → r ≤ 1114111 → step st r = some r' → 0 ≤ r' ∧ r' ≤ 1114200

theorem small_lim (r : Int) (h0 : 0 ≤ r) (h1 : r ≤ 1114111) : 0 ≤ small r ∧ small r ≤ 1114200 := by unfold small; split <;> omega
theorem foldR_lim (r : Int) (h0 : 0 ≤ r) (h1 : r ≤ 1114111) : 0 ≤ foldR r ∧ foldR r ≤ 1114200 := by unfold foldR; split <;> omega
theorem stepL_lim (st r r' : Int) (h0 : 0 ≤ r) (h1 : r ≤ 1114111) (h : stepL st r = some r') : 0 ≤ r' ∧ r' ≤ 1114200 := by
  unfold stepL at h; split at h
  · cases h; exact foldR_lim r h0 h1
  · cases h
theorem stepH_lim (st r r' : Int) (h0 : 0 ≤ r) (h1 : r ≤ 1114111) (h : stepH st r = some r') : 0 ≤ r' ∧ r' ≤ 1114200 := by
  unfold stepH at h; split at h
  · cases h; exact small_lim r h0 h1
  · cases h
theorem stepR_lim (st r r' : Int) (h0 : 0 ≤ r) (h1 : r ≤ 1114111) (h : stepR st r = some r') : 0 ≤ r' ∧ r' ≤ 1114200 := by
  unfold stepR at h; split at h
  · cases h; omega
  · cases h

theorem takeL_any (st r : Int) (w : World) (h0 : 0 ≤ r) (h1 : r ≤ 1114111) : Calls Tryd.prog 70 #[.int .i32 r] w fun e w' =>
    (stepL st r = none ∧ e = .panicked (gaveUp 4) ∧ w' = w) ∨ ∃ r', stepL st r = some r' ∧ e = .returned (.int .i32 r') ∧ w' = w := by
  unfold stepL
  generalize hL : letterB (foldR r) = L
  cases L with
  | true =>
    rw [if_pos rfl]
    go_enter Tryd.func70, Tryd.ntmps70
    go_wp2_with (first
      | (go_at_call 71; refine (folded_any _ _ h0 h1).mono ?_; rintro e w1 ⟨rfl, rfl⟩)
      | (go_at_call 72; refine (ofLocal_any _ _).mono ?_; rw [hL]; rintro e w1 ⟨rfl, rfl⟩))
    go_ret
    exact .inr ⟨_, rfl, rfl, rfl⟩
  | false =>
    rw [if_neg (by simp)]
    go_enter Tryd.func70, Tryd.ntmps70
    go_wp2_with (first
      | (go_at_call 71; refine (folded_any _ _ h0 h1).mono ?_; rintro e w1 ⟨rfl, rfl⟩)
      | (go_at_call 72; refine (ofLocal_any _ _).mono ?_; rw [hL]; rintro e w1 ⟨rfl, rfl⟩)
      | (go_at_call 73; refine (giveUp_any _ _).mono ?_; rintro e w1 ⟨rfl, rfl⟩))
    exact ⟨rfl, .inl ⟨trivial, rfl, rfl⟩⟩

theorem takerL (B : Nat) : Taker 70 #[] stepL B B (fun _ _ => True) :=
  ⟨enters_of Tryd.func70 (by kernel_rfl) rfl,
   fun st r W _ h0 h1 => (takeL_any st r W h0 h1).mono fun _ _ h => by
     rcases h with ⟨a, b, rfl⟩ | ⟨r', a, b, rfl⟩
     · exact .inl ⟨a, b, Below.refl _ _⟩
     · exact .inr ⟨r', a, b, trivial, Aside.refl _ _ _⟩,
   fun _ _ _ _ _ => trivial, stepL_lim⟩
/-- The variable that holds what stood last. -/
def LastAt (B : Nat) (st : Int) (w : World) : Prop := w.heap[B]? = some (.cells #[.int .i32 st] 21 (0, 0))

theorem LastAt.cell {B : Nat} {st : Int} {w : World} (h : LastAt B st w) : w.cell? ⟨B, 0, none⟩ = some (.int .i32 st) := by simp [World.cell?, show w.heap[B]? = _ from h]
theorem LastAt.thaw {B : Nat} {st : Int} {w : World} (h : LastAt B st w) : w.frozen? ⟨B, 0, none⟩ = false := by simp [World.frozen?, show w.heap[B]? = _ from h]
theorem LastAt.put {B : Nat} {st : Int} {w : World} (h : LastAt B st w) (r : Int) : LastAt B r (w.setCell ⟨B, 0, none⟩ (.int .i32 r)) := by
  show (w.setCell ⟨B, 0, none⟩ (.int .i32 r)).heap[B]? = _
  simp [World.setCell, Array.getElem?_modify, show w.heap[B]? = _ from h]
theorem LastAt.aside {B : Nat} {st : Int} {w : World} (_ : LastAt B st w) (r : Int) : Aside B (B + 1) w (w.setCell ⟨B, 0, none⟩ (.int .i32 r)) :=
  ⟨⟨rfl, rfl, rfl, by simp [World.setCell], fun k hk => Below.heap_setCell _ _ _ _ (by show k ≠ B; omega)⟩, by simp [World.setCell], fun k hk => Below.heap_setCell _ _ _ _ (by show k ≠ B; omega)⟩

end Go.Proofs.YtiplalbicibahaaDoor.Nm
