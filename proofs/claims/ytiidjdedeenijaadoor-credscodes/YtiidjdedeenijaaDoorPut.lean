/- octet.PutUint: the bytes ahead, and the form of the number. -/
import Derived.Test.YtiidjdedeenijaaDoorBehind
import Derived.Test.YtiidjdedeenijaaDoorNumForm
namespace Go.Proofs.YtiidjdedeenijaaDoor
open Go.RowKit

set_option maxHeartbeats 800000 in
theorem putUint_any (a : Option Addr) (n c : Nat) (xs : List Int) (k : Nat) (w : World) (h : Rd w a n c xs) (hn : n ≤ 100000) (hk : k < 18446744073709551616) :
    Calls Tryd.prog 33 #[.slice a n c, .int .u64 k] w fun e w' => ∃ v,
      e = .returned v ∧ w'.ownsRow w.heap.size 5 1 v (n + (form k).length) (bc (xs ++ form k)) ∧ Below w.heap.size w w' := by
  have hl10 := form_len10 k hk
  go_enter Tryd.func33, Tryd.ntmps33
  go_wp2_with (first
    | (go_at_call 55; refine (numberForm_any k _ (by assumption)).mono ?_; rintro e w1 ⟨v, rfl, hown, hb1⟩; obtain ⟨a1, c1, rfl, hr⟩ := Rd.ofOwn hown (form_bd k))
    | (go_at_call 54; refine (behind1_any a n c xs _ a1 _ c1 (form k) _ (h.carry (Nat.le_refl _) (hb1.alloc hb1.size _)) (hr.carry (Nat.le_refl _) ((Below.refl _ _).alloc (Nat.le_refl _) _)) (by simp) (by omega) (by omega)).mono ?_; rintro e w2 ⟨rfl, hown2, hb2⟩))
  go_ret
  have hs1 := hb1.size
  simp only [World.size_alloc] at hown2
  exact ⟨.slice (some ⟨w1.heap.size + 1, 0, none⟩) (n + (form k).length) (n + (form k).length), rfl, own_weaken hown2 (by omega), (hb1.alloc hb1.size _).trans (hb2.mono (by have := hb1.size; simp; omega))⟩

end Go.Proofs.YtiidjdedeenijaaDoor
