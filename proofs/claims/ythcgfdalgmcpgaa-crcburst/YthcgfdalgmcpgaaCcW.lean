/- crc: wakes; CrcBoth. -/
import Derived.Test.YthcgfdalgmcpgaaCcA
import Derived.Lib.SlBytesConst
import Derived.BigFrame
namespace Go.Proofs.Ythcgfdalgmcpgaa
open Go.RowKit

theorem rd_nine (w : World) (m : Nat × Nat) : Rd (w.alloc (.cells #[.int .u8 49, .int .u8 50, .int .u8 51, .int .u8 52, .int .u8 53, .int .u8 54, .int .u8 55, .int .u8 56, .int .u8 57] 5 m)) (some ⟨w.heap.size, 0, none⟩) 9 9 [49, 50, 51, 52, 53, 54, 55, 56, 57] := by
  refine ⟨rfl, Nat.le_refl _, by unfold maxLen; omega, (fun h => by cases h), (fun q hq => by simp at hq; omega), fun ad had j hj => ?_⟩
  cases had
  rw [add_flat]
  match j, hj with
  | 0, _ | 1, _ | 2, _ | 3, _ | 4, _ | 5, _ | 6, _ | 7, _ | 8, _ => unfold World.cell?; rw [World.alloc_heap_new]; rfl
theorem sum_nine : uw (more 0#32 [49, 50, 51, 52, 53, 54, 55, 56, 57]) = 3421780262 := by decide +kernel
theorem sum_none : uw (more 0#32 []) = 0 := by rw [more_nil]; rfl

set_option maxRecDepth 100000 in
set_option maxHeartbeats 1600000 in
theorem wakes_any (w : World) : Calls Try.prog 12 #[] w fun e w' => e = .returned (.bool true) ∧ Below w.heap.size w w' := by
  have kc := fun (w : World) (C : Array Value) (n c : Nat) => Lib.run_convert_bytes_const (P := Try.prog) w 23 5 C n c Try.underlying23 Try.underlying5
  have hS := fun (u : World) => sum_any (some ⟨u.heap.size, 0, none⟩) 9 9 _ _ (rd_nine u (9, 10))
  rw [sum_nine] at hS
  have hZ := fun (u : World) => sum_any none 0 0 [] u (rd_nilK u)
  rw [sum_none] at hZ
  have tk1 : True := trivial
  go_enter Try.func12, Try.ntmps12
  go_wp2_with (first
    | (go_at_call 7; clear tk1; refine (hS w).mono ?_; rintro e w1 ⟨rfl, rfl⟩; clear hS)
    | (go_at_call 7; refine (hZ _).mono ?_; rintro e w2 ⟨rfl, rfl⟩))
  go_ret
  exact ⟨rfl, (Below.refl _ _).alloc (Nat.le_refl _) _⟩

/-- The law's copy, its place told. -/
theorem twinF (a : Option Addr) (n c : Nat) (xs : List Int) (most : Nat) (w : World) (hR : Rd w a n c xs) (hm : most ≤ 100000) :
    Calls Try.prog 13 #[.slice a n c, .int .i64 most] w fun e w' => ∃ g n' cap, e = .returned (.slice (some ⟨g, 0, none⟩) n' cap) ∧ n' ≤ most ∧ w'.ownsRow w.heap.size 5 1 (.slice (some ⟨g, 0, none⟩) n' cap) n' (bc (xs.take most)) ∧ Bd (xs.take most) ∧ Below w.heap.size w w' := by
  have hl := hR.len
  have hcp := hR.cap
  have hmx : c ≤ 9223372036854775807 := hR.most
  have hbd := hR.bytes.take most
  by_cases hn : (most : Int) < (n : Int)
  · go_enter Try.func13, Try.ntmps13
    go_wp2_with (at_builtin; refine wp_app0K rfl _ _ rfl rfl a most c (xs.take most) rfl (hR.takeK (by omega)) (by omega) ?_; rintro v' w1 hown1 hb1 ⟨g, cap, rfl⟩)
    go_ret
    exact ⟨g, most, cap, rfl, Nat.le_refl _, hown1, hbd, hb1⟩
  · have hlt : xs.take most = xs := List.take_of_length_le (by omega)
    rw [hlt] at hbd ⊢
    have hHid : Hid (Bd xs) := hbd
    clear hlt hbd
    go_enter Try.func13, Try.ntmps13
    go_wp2_with (at_builtin; refine wp_app0K rfl _ _ rfl rfl a n c xs rfl hR (by omega) ?_; rintro v' w1 hown1 hb1 ⟨g, cap, rfl⟩)
    go_ret
    exact ⟨g, n, cap, rfl, by omega, hown1, hHid.out, hb1⟩
theorem fewF (a : Option Addr) (n c : Nat) (xs : List Int) (w : World) (hR : Rd w a n c xs) :
    Calls Try.prog 8 #[.slice a n c] w fun e w' => ∃ g n' cap, e = .returned (.slice (some ⟨g, 0, none⟩) n' cap) ∧ n' ≤ 1000 ∧ w'.ownsRow w.heap.size 5 1 (.slice (some ⟨g, 0, none⟩) n' cap) n' (bc (xs.take 1000)) ∧ Bd (xs.take 1000) ∧ Below w.heap.size w w' := by
  go_enter Try.func8, Try.ntmps8
  go_wp2_with (go_at_call 13; refine (twinF a n c xs 1000 _ hR (by omega)).mono ?_; rintro e w1 ⟨g, n', cap, rfl, hn, ho, hbd, hb⟩)
  go_ret
  exact ⟨g, n', cap, rfl, hn, ho, hbd, hb⟩
theorem own_rd {w : World} {B g n c : Nat} {xs : List Int} (h : w.ownsRow B 5 1 (.slice (some ⟨g, 0, none⟩) n c) n (bc xs)) (hb : Bd xs) : Rd w (some ⟨g, 0, none⟩) n c xs := by
  obtain ⟨a, c', e, hr⟩ := Rd.ofOwn h hb
  cases e
  exact hr
end Go.Proofs.Ythcgfdalgmcpgaa
