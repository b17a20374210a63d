/- New, Held, the document's New. -/
import Derived.Test.YtmpoddgmkneffaaFrFeed
namespace Go.Proofs.Ytmpoddgmkneffaa
open Go.RowKit Go.Shelf

/-- A reader of the document's: its cells. -/
def RF (W : World) (p M : Nat) (v : Value) (big : Bool) : Prop := W.heap[p]? = some (.cells #[.int .i64 M, v, .bool big] 38 (0, 0))
theorem RF.lt {W : World} {p M : Nat} {v : Value} {big : Bool} (h : RF W p M v big) : p < W.heap.size := (Array.getElem?_eq_some_iff.1 (show W.heap[p]? = _ from h)).1
theorem RF.c0 {W : World} {p M : Nat} {v : Value} {big : Bool} (h : RF W p M v big) : W.cell? ⟨p, 0, none⟩ = some (.int .i64 M) := by simp [World.cell?, show W.heap[p]? = _ from h]
theorem RF.c1 {W : World} {p M : Nat} {v : Value} {big : Bool} (h : RF W p M v big) : W.cell? ⟨p, 1, none⟩ = some v := by simp [World.cell?, show W.heap[p]? = _ from h]
theorem RF.c2 {W : World} {p M : Nat} {v : Value} {big : Bool} (h : RF W p M v big) : W.cell? ⟨p, 2, none⟩ = some (.bool big) := by simp [World.cell?, show W.heap[p]? = _ from h]
theorem RF.fz {W : World} {p M : Nat} {v : Value} {big : Bool} (h : RF W p M v big) (j : Nat) : W.frozen? ⟨p, j, none⟩ = false := by simp [World.frozen?, show W.heap[p]? = _ from h]
theorem RF.set1 {W : World} {p M : Nat} {v : Value} {big : Bool} (h : RF W p M v big) (u : Value) : RF (W.setCell ⟨p, 1, none⟩ u) p M u big := by
  have h' : W.heap[p]? = _ := h
  show (W.setCell ⟨p, 1, none⟩ u).heap[p]? = _
  simp [World.setCell, Array.getElem?_modify, h']
theorem RF.set2 {W : World} {p M : Nat} {v : Value} {big : Bool} (h : RF W p M v big) (b : Bool) : RF (W.setCell ⟨p, 2, none⟩ (.bool b)) p M v b := by
  have h' : W.heap[p]? = _ := h
  show (W.setCell ⟨p, 2, none⟩ (.bool b)).heap[p]? = _
  simp [World.setCell, Array.getElem?_modify, h']
theorem RF.keep {S : Nat → Prop} {W W' : World} {p M : Nat} {v : Value} {big : Bool} (h : RF W p M v big) (hk : Keep S W W') (hs : ¬ S p) : RF W' p M v big := (hk.block p h.lt hs).trans h

def refHeld (W : World) (p : Nat) : Nat :=
  match W.cell? ⟨p, 1, none⟩ with
  | some (.slice _ n _) => n
  | _ => 0
theorem RF.heldLen {W : World} {p M : Nat} {a : Option Addr} {n c : Nat} {big : Bool} (h : RF W p M (.slice a n c) big) : refHeld W p = n := by unfold refHeld; rw [h.c1]

theorem new_any (i : Int) (w : World) (h0 : -9223372036854775808 ≤ i) (h1 : i ≤ 9223372036854775807) :
    Calls Try.prog 8 #[.int .i64 i] w fun e w' => e = .returned (.pointer (some ⟨w.heap.size, 0, none⟩)) ∧ RC w' w.heap.size i.toNat (.slice none 0 0) false ∧ Below w.heap.size w w' := by
  by_cases hi : i < 0
  · go_enter Try.func8, Try.ntmps8
    go_wp2
    go_ret
    exact ⟨rfl, by rw [show i.toNat = 0 by omega]; exact World.alloc_heap_new w _, (Below.refl _ _).alloc (Nat.le_refl _) _⟩
  · have hi' : 0 ≤ i := by omega
    obtain ⟨n, rfl⟩ : ∃ n : Nat, i = n := ⟨i.toNat, by omega⟩
    go_enter Try.func8, Try.ntmps8
    go_wp2
    go_ret
    exact ⟨rfl, World.alloc_heap_new w _, (Below.refl _ _).alloc (Nat.le_refl _) _⟩

theorem refNew_any (i : Int) (w : World) (h0 : -9223372036854775808 ≤ i) (h1 : i ≤ 9223372036854775807) :
    Calls Try.prog 9 #[.int .i64 i] w fun e w' => e = .returned (.pointer (some ⟨w.heap.size, 0, none⟩)) ∧ RF w' w.heap.size i.toNat (.slice none 0 0) false ∧ Below w.heap.size w w' := by
  by_cases hi : i < 0
  · go_enter Try.func9, Try.ntmps9
    go_wp2
    go_ret
    exact ⟨rfl, by rw [show i.toNat = 0 by omega]; exact World.alloc_heap_new w _, (Below.refl _ _).alloc (Nat.le_refl _) _⟩
  · have hi' : 0 ≤ i := by omega
    obtain ⟨n, rfl⟩ : ∃ n : Nat, i = n := ⟨i.toNat, by omega⟩
    go_enter Try.func9, Try.ntmps9
    go_wp2
    go_ret
    exact ⟨rfl, World.alloc_heap_new w _, (Below.refl _ _).alloc (Nat.le_refl _) _⟩

theorem held_any (p M : Nat) (a : Option Addr) (n c : Nat) (big : Bool) (w : World) (hC : RC w p M (.slice a n c) big) :
    Calls Try.prog 15 #[.pointer (some ⟨p, 0, none⟩)] w fun e w' => e = .returned (.int .i64 n) ∧ w' = w := by
  have hc1 := hC.c1
  go_enter Try.func15, Try.ntmps15
  go_wp2
  go_ret
  exact ⟨rfl, rfl⟩

end Go.Proofs.Ytmpoddgmkneffaa
