/- Copies of bytes; wakes. -/
import Derived.Test.YtmilcknboaefkaaGreatDoorDgH
import Derived.Test.YtmilcknboaefkaaGreatDoorB6A
import Derived.Lib.SlBytesConst
set_option maxRecDepth 100000
namespace Go.Proofs.YtmilcknboaefkaaGreatDoor
open Go.RowKit

theorem sha_none : (sha []).getD 0 0 = 227 ∧ (sha []).getD 31 0 = 85 := by decide +kernel

/-- A new block of bytes, read. -/
theorem rd_row {w : World} {g : Nat} {t : TypeId} {xs : List Int} (h : Ar w g t .u8 xs) (hb : Bd xs) (hl : xs.length ≤ maxLen) : Rd w (some ⟨g, 0, none⟩) xs.length xs.length xs :=
  ⟨rfl, Nat.le_refl _, hl, (fun e => by cases e), hb, fun ad had j hj => by cases had; rw [add_flat, Nat.zero_add]; exact h.cell hj⟩

set_option maxHeartbeats 800000 in
theorem twin_any (a : Option Addr) (n c : Nat) (xs : List Int) (most : Nat) (w : World) (hR : Rd w a n c xs) (hm : most ≤ 100000) :
    Calls Tryz.prog 27 #[.slice a n c, .int .i64 most] w fun e w' => ∃ v, e = .returned v ∧ w'.ownsRow w.heap.size 5 1 v (xs.take most).length (bc (xs.take most)) ∧ Below w.heap.size w w' := by
  have hl := hR.len
  have hcp := hR.cap
  have hmx : c ≤ 9223372036854775807 := hR.most
  by_cases hn : (most : Int) < (n : Int)
  · have hlt : (xs.take most).length = most := by rw [List.length_take]; omega
    rw [hlt]
    go_enter Tryz.func27, Tryz.ntmps27
    go_wp2_with (at_builtin; refine wp_app0K rfl _ _ rfl rfl a most c (xs.take most) rfl (hR.takeK (by omega)) (by omega) ?_; intro v' w1 hown1 hb1 _)
    go_ret
    exact ⟨_, rfl, hown1, hb1⟩
  · have hlt : xs.take most = xs := List.take_of_length_le (by omega)
    rw [hlt, hl]
    go_enter Tryz.func27, Tryz.ntmps27
    go_wp2_with (at_builtin; refine wp_app0K rfl _ _ rfl rfl a n c xs rfl hR (by omega) ?_; intro v' w1 hown1 hb1 _)
    go_ret
    exact ⟨_, rfl, hown1, hb1⟩

theorem below_drewN {B : Nat} {w w' : World} (h : Below B w w') (n : Nat) : Below B w (w'.drewN n) := ⟨h.os, h.tape, h.output, h.size, h.block⟩
theorem Lib_conv2 (w : World) (O : Obj) (C : Array Value) (n c : Nat) : (convert 22 22 (.slice (some ⟨w.heap.size + 1, 0, none⟩) n c)).run Tryz.prog ((w.alloc O).alloc (.cells C 5)) = .ok (.slice (some ⟨w.heap.size + 1, 0, none⟩) n c) ((w.alloc O).alloc (.cells C 5 (C.size, C.size + 1))) := by
  have := Lib.run_convert_bytes_const (P := Tryz.prog) (w.alloc O) 22 5 C n c Tryz.underlying22 Tryz.underlying5
  rw [World.size_alloc] at this
  exact this
/-- Own bytes that are not empty: their block. -/
theorem New.flat {w w' : World} {a : Option Addr} {n c : Nat} {xs : List Int} (h : New w w' (.slice a n c) xs) (hn : 0 < n) : ∃ g, a = some ⟨g, 0, none⟩ ∧ w.heap.size ≤ g ∧ ∀ j, w'.frozen? ⟨g, j, none⟩ = false := by
  rcases h.1.2 with ⟨h1, _⟩ | ⟨g, cap, cur, hv, hg, hh, _⟩
  · cases h1; omega
  · cases hv; exact ⟨g, rfl, hg, fun j => frozen_of_row w' g j cur _ hh⟩
/-- A byte written. -/
theorem Rd.setAt {w : World} {g n c : Nat} {xs : List Int} (h : Rd w (some ⟨g, 0, none⟩) n c xs) {k : Nat} (hk : k < n) {v : Int} (h0 : 0 ≤ v) (h1 : v ≤ 255) : Rd (w.setCell ⟨g, k, none⟩ (.int .u8 v)) (some ⟨g, 0, none⟩) n c (xs.set k v) := by
  refine ⟨by rw [List.length_set]; exact h.len, h.cap, h.most, h.nil, h.bytes.set k h0 h1, fun ad had j hj => ?_⟩
  cases had
  have hl := h.len
  have hc := h.cells _ rfl j hj
  rw [add_flat, Nat.zero_add] at hc ⊢
  by_cases e : k = j
  · subst e
    rw [World.cell?_setCell_same _ _ _ hc]
    simp [List.getD, show k < xs.length by omega]
  · rw [World.cell?_setCell_other _ _ _ _ (fun e' => e (by injection e')), hc]
    simp [List.getD, e]

/-- few, with all that is known of its answer. -/
theorem fewN (a : Option Addr) (n c : Nat) (xs : List Int) (w : World) (hR : Rd w a n c xs) :
    Calls Tryz.prog 9 #[.slice a n c] w fun e w' => ∃ a' c', e = .returned (.slice a' (xs.take 60).length c') ∧ New w w' (.slice a' (xs.take 60).length c') (xs.take 60) ∧ Rd w' a' (xs.take 60).length c' (xs.take 60) ∧ Below w.heap.size w w' := by
  have hb := hR.bytes.take 60
  go_enter Tryz.func9, Tryz.ntmps9
  go_wp2_with (go_at_call 27; refine (twin_any a n c xs 60 _ hR (by omega)).mono ?_; rintro e w1 ⟨v1, rfl, ho1, hb1⟩)
  go_ret
  obtain ⟨a', c', rfl, hr⟩ := Rd.ofOwn ho1 hb
  exact ⟨a', c', rfl, ⟨ho1, hb⟩, hr, hb1⟩
end Go.Proofs.YtmilcknboaefkaaGreatDoor
