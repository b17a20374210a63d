/- Copies of bytes; wakes. -/
import Derived.Test.YtbeemlfggbnknaaDoorDgH
import Derived.Lib.SlBytesConst
namespace Go.Proofs.YtbeemlfggbnknaaDoor
open Go.RowKit

theorem sha_none : (sha []).getD 0 0 = 227 ∧ (sha []).getD 31 0 = 85 := by decide +kernel

theorem rd_nilK (w : World) : Rd w none 0 0 [] := ⟨rfl, Nat.le_refl _, by unfold maxLen; omega, fun _ => rfl, Bd.nil, fun _ h => by cases h⟩
/-- A new block of bytes, read. -/
theorem rd_row {w : World} {g : Nat} {t : TypeId} {xs : List Int} (h : Ar w g t .u8 xs) (hb : Bd xs) (hl : xs.length ≤ maxLen) : Rd w (some ⟨g, 0, none⟩) xs.length xs.length xs :=
  ⟨rfl, Nat.le_refl _, hl, (fun e => by cases e), hb, fun ad had j hj => by cases had; rw [add_flat, Nat.zero_add]; exact h.cell hj⟩

set_option maxHeartbeats 800000 in
theorem twin_any (a : Option Addr) (n c : Nat) (xs : List Int) (most : Nat) (w : World) (hR : Rd w a n c xs) (hm : most ≤ 100000) :
    Calls Tryd.prog 15 #[.slice a n c, .int .i64 most] w fun e w' => ∃ v, e = .returned v ∧ w'.ownsRow w.heap.size 5 1 v (xs.take most).length (bc (xs.take most)) ∧ Below w.heap.size w w' := by
  have hl := hR.len
  have hcp := hR.cap
  have hmx : c ≤ 9223372036854775807 := hR.most
  by_cases hn : (most : Int) < (n : Int)
  · have hlt : (xs.take most).length = most := by rw [List.length_take]; omega
    rw [hlt]
    go_enter Tryd.func15, Tryd.ntmps15
    go_wp2_with (at_builtin; refine wp_app0K rfl _ _ rfl rfl a most c (xs.take most) rfl (hR.takeK (by omega)) (by omega) ?_; intro v' w1 hown1 hb1 _)
    go_ret
    exact ⟨_, rfl, hown1, hb1⟩
  · have hlt : xs.take most = xs := List.take_of_length_le (by omega)
    rw [hlt, hl]
    go_enter Tryd.func15, Tryd.ntmps15
    go_wp2_with (at_builtin; refine wp_app0K rfl _ _ rfl rfl a n c xs rfl hR (by omega) ?_; intro v' w1 hown1 hb1 _)
    go_ret
    exact ⟨_, rfl, hown1, hb1⟩

/-- The same as own bytes, new since w. -/
def New (w w' : World) (v : Value) (xs : List Int) : Prop := w'.ownsRow w.heap.size 5 1 v xs.length (bc xs) ∧ Bd xs
theorem New.rd {w w' : World} {v : Value} {xs : List Int} (h : New w w' v xs) : ∃ a c, v = .slice a xs.length c ∧ Rd w' a xs.length c xs := Rd.ofOwn h.1 h.2

theorem few_any (a : Option Addr) (n c : Nat) (xs : List Int) (w : World) (hR : Rd w a n c xs) :
    Calls Tryd.prog 10 #[.slice a n c] w fun e w' => ∃ v, e = .returned v ∧ New w w' v (xs.take 1000) ∧ Below w.heap.size w w' := by
  have hb := hR.bytes.take 1000
  go_enter Tryd.func10, Tryd.ntmps10
  go_wp2_with (go_at_call 15; refine (twin_any a n c xs 1000 _ hR (by omega)).mono ?_; rintro e w1 ⟨v1, rfl, ho1, hb1⟩)
  go_ret
  exact ⟨_, rfl, ⟨ho1, hb⟩, hb1⟩

theorem fewR (a : Option Addr) (n c : Nat) (xs : List Int) (w : World) (hR : Rd w a n c xs) :
    Calls Tryd.prog 10 #[.slice a n c] w fun e w' => ∃ a' n' c', e = .returned (.slice a' n' c') ∧ n' ≤ 1000 ∧ Rd w' a' n' c' (xs.take 1000) ∧ Below w.heap.size w w' := by
  refine (few_any a n c xs w hR).mono ?_
  rintro e w1 ⟨v1, rfl, hn1, hb1⟩
  obtain ⟨a1, c1, rfl, hr1⟩ := hn1.rd
  exact ⟨a1, _, c1, rfl, by rw [List.length_take]; omega, hr1, hb1⟩

theorem below_drewN {B : Nat} {w w' : World} (h : Below B w w') (n : Nat) : Below B w (w'.drewN n) := ⟨h.os, h.tape, h.output, h.size, h.block⟩
theorem Lib_conv2 (w : World) (O : Obj) (C : Array Value) (n c : Nat) : (convert 22 22 (.slice (some ⟨w.heap.size + 1, 0, none⟩) n c)).run Tryd.prog ((w.alloc O).alloc (.cells C 5)) = .ok (.slice (some ⟨w.heap.size + 1, 0, none⟩) n c) ((w.alloc O).alloc (.cells C 5 (C.size, C.size + 1))) := by
  have := Lib.run_convert_bytes_const (P := Tryd.prog) (w.alloc O) 22 5 C n c Tryd.underlying22 Tryd.underlying5
  rw [World.size_alloc] at this
  exact this
theorem rd_a (w : World) (m : Nat × Nat) : Rd (w.alloc (.cells #[.int .u8 97] 5 m)) (some ⟨w.heap.size, 0, none⟩) 1 1 [97] := by
  refine ⟨rfl, Nat.le_refl _, by unfold maxLen; omega, (fun h => by cases h), (fun q hq => by simp at hq; omega), fun ad had j hj => ?_⟩
  cases had
  rw [add_flat]
  match j, hj with
  | 0, _ => unfold World.cell?; rw [World.alloc_heap_new]; rfl
theorem rd_ab (w : World) (m : Nat × Nat) : Rd (w.alloc (.cells #[.int .u8 97, .int .u8 98] 5 m)) (some ⟨w.heap.size, 0, none⟩) 2 2 [97, 98] := by
  refine ⟨rfl, Nat.le_refl _, by unfold maxLen; omega, (fun h => by cases h), (fun q hq => by simp at hq; omega), fun ad had j hj => ?_⟩
  cases had
  rw [add_flat]
  match j, hj with
  | 0, _ => unfold World.cell?; rw [World.alloc_heap_new]; rfl
  | 1, _ => unfold World.cell?; rw [World.alloc_heap_new]; rfl

/-- few, with all that is known of its answer. -/
theorem fewN (a : Option Addr) (n c : Nat) (xs : List Int) (w : World) (hR : Rd w a n c xs) :
    Calls Tryd.prog 10 #[.slice a n c] w fun e w' => ∃ a' n' c', e = .returned (.slice a' n' c') ∧ n' ≤ 1000 ∧ Rd w' a' n' c' (xs.take 1000) ∧ New w w' (.slice a' n' c') (xs.take 1000) ∧ Below w.heap.size w w' := by
  refine (few_any a n c xs w hR).mono ?_
  rintro e w1 ⟨v1, rfl, hn1, hb1⟩
  obtain ⟨a1, c1, rfl, hr1⟩ := hn1.rd
  exact ⟨a1, _, c1, rfl, by rw [List.length_take]; omega, hr1, hn1, hb1⟩
/-- Own bytes that are not empty: their block. -/
theorem New.flat {w w' : World} {a : Option Addr} {n c : Nat} {xs : List Int} (h : New w w' (.slice a n c) xs) (hn : 0 < n) : ∃ g, a = some ⟨g, 0, none⟩ ∧ w.heap.size ≤ g ∧ ∀ j, w'.frozen? ⟨g, j, none⟩ = false := by
  rcases h.1.2 with ⟨h1, _⟩ | ⟨g, cap, cur, hv, hg, hh, _⟩
  · cases h1; omega
  · cases hv; exact ⟨g, rfl, hg, fun j => frozen_of_row w' g j cur _ hh⟩
/-- A byte written. -/
theorem Rd.setAt {w : World} {g n c : Nat} {xs : List Int} (h : Rd w (some ⟨g, 0, none⟩) n c xs) {k : Nat} (hk : k < n) {v : Int} (h0 : 0 ≤ v) (h1 : v ≤ 255) : Rd (w.setCell ⟨g, k, none⟩ (.int .u8 v)) (some ⟨g, 0, none⟩) n c (xs.set k v) := by
  refine ⟨by rw [List.length_set]; exact h.len, h.cap, h.most, h.nil, h.bytes.set k h0 h1, fun ad had j hj => ?_⟩
  cases had
  have hl := h.len
  have hc := h.cells _ rfl j hj
  rw [add_flat, Nat.zero_add] at hc ⊢
  by_cases e : k = j
  · subst e
    rw [World.cell?_setCell_same _ _ _ hc]
    simp [List.getD, show k < xs.length by omega]
  · rw [World.cell?_setCell_other _ _ _ _ (fun e' => e (by injection e')), hc]
    simp [List.getD, e]

set_option maxRecDepth 100000 in
set_option maxHeartbeats 1600000 in
theorem wakes_any (w : World) (hK : Kt w) : Calls Tryd.prog 12 #[] w fun e w' => e = .returned (.bool true) ∧ Below w.heap.size w w' := by
  have hi23 := (size_of Tryd.u23).2
  have hl : (sha []).length = 32 := shaB_len 0 h0s []
  have hs0 := sha_none.1
  have hs31 := sha_none.2
  generalize hS : sha [] = S at hs0 hs31 hl
  have HS : Hid (sha [] = S) := hS
  have tk1 : True := trivial
  have kc2 := fun (w : World) (O : Obj) (C : Array Value) (n c : Nat) => Lib_conv2 w O C n c
  have kc := fun (w : World) (C : Array Value) (n c : Nat) => Lib.run_convert_bytes_const (P := Tryd.prog) w 22 5 C n c Tryd.underlying22 Tryd.underlying5
  clear hS
  go_enter Tryd.func12, Tryd.ntmps12
  go_wp2_with (first
    | (go_at_call 9; refine (sha_any none 0 0 [] _ (rd_nilK _) (by omega) hK).mono ?_; rintro e w1 ⟨rfl, hb1⟩; rw [HS.out])
    | (refine wp_alloc_ar rfl 23 rfl .u8 (List.replicate 32 0) 32 Tryd.z23 ?_; intro g2 w2 A2 hg2 hb2)
    | (refine wp_store_ar rfl 23 (.tmp 1) (.tmp 2) rfl g2 rfl .u8 S rfl 23 _ A2 (by rw [hl]; rfl) (by rw [hl]; exact hi23) ?_; intro w3 A3 hk3 hs3; have c0 := A3.cell (j := 0) (by omega); have c31 := A3.cell (j := 31) (by omega); rw [hs0] at c0; rw [hs31] at c31; clear hs3)
    | (go_at_call 19; clear tk1; refine (equal_any _ 1 1 [97] _ 1 1 [97] _ ((rd_a w3 _).carry (Nat.le_refl _) ((Below.refl _ _).alloc (Nat.le_refl _) _)) (by have := rd_a (w3.alloc (.cells #[.int .u8 97] 5 (1, 2))) (1, 2); rw [World.size_alloc] at this; exact this)).mono ?_; rintro e w5 ⟨rfl, d5, hw5⟩; have hb5 : Below w3.heap.size w3 w5 := (by rw [hw5]; exact below_drewN (((Below.refl _ _).alloc (Nat.le_refl _) _).alloc (by simp) _) _); clear hw5; rw [show decide (([97] : List Int) = [97]) = true from rfl])
    | (go_at_call 19; refine (equal_any _ 1 1 [97] _ 2 2 [97, 98] _ ((rd_a w5 _).carry (Nat.le_refl _) ((Below.refl _ _).alloc (Nat.le_refl _) _)) (by have := rd_ab (w5.alloc (.cells #[.int .u8 97] 5 (1, 2))) (2, 3); rw [World.size_alloc] at this; exact this)).mono ?_; rintro e w6 ⟨rfl, d6, hw6⟩; have hb6 : Below w5.heap.size w5 w6 := (by rw [hw6]; exact below_drewN (((Below.refl _ _).alloc (Nat.le_refl _) _).alloc (by simp) _) _); clear hw6; rw [show decide (([97] : List Int) = [97, 98]) = false from rfl]))
  go_ret
  have e2 := hb1.trans (hb2.mono hb1.size)
  have e3 : Below w.heap.size w w3 := e2.trans (hk3.below e2.size (fun q hq => by have := hb1.size; omega))
  have e5 := e3.trans (hb5.mono e3.size)
  exact ⟨rfl, e5.trans (hb6.mono e5.size)⟩
end Go.Proofs.YtbeemlfggbnknaaDoor
