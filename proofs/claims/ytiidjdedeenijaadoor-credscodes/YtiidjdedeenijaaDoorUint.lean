/- octet.Uint: the number at the beginning, and a copy of what is behind it. -/
import Derived.Test.YtiidjdedeenijaaDoorNumber
import Derived.Test.YtiidjdedeenijaaDoorBehind
namespace Go.Proofs.YtiidjdedeenijaaDoor
open Go.RowKit

theorem scan_le (xs : List Int) : ∀ i acc, (scan xs i acc).2.1 ≤ i + xs.length ∧ ((scan xs i acc).2.2 = 0 ∨ (scan xs i acc).2.2 = 2 ∨ (scan xs i acc).2.2 = 3) := by
  induction xs with
  | nil => intro i acc; simp [scan]
  | cons c r ih =>
    intro i acc
    rw [scan]
    split
    · simp
    · split
      · have := ih (i + 1) (acc + (c % 128).toNat * 2 ^ (7 * i))
        refine ⟨?_, this.2⟩
        have := this.1
        simp; omega
      · split
        · simp
        · simp

/-- A slice cut at its front: all of its room is cut off; or some is left. -/
theorem Rd.cutAll {w : World} {a : Option Addr} {n c : Nat} {xs : List Int} (_ : Rd w a n c xs) : Rd w a 0 0 [] :=
  ⟨rfl, Nat.le_refl _, by unfold maxLen; omega, fun _ => rfl, Bd.nil, fun _ _ j hj => by omega⟩

theorem Rd.cut {w : World} {a : Option Addr} {n c : Nat} {xs : List Int} (h : Rd w a n c xs) (k : Nat) : Rd w (a.map fun x => x.add k) (n - k) (c - k) (xs.drop k) := by
  refine ⟨by rw [List.length_drop, h.len], by have := h.cap; omega, by have := h.most; omega, fun hx => by have := h.nil (by simpa using hx); omega, h.bytes.drop k, fun ad had j hj => ?_⟩
  obtain ⟨b, off, rfl, hcell⟩ := h.flat (by omega)
  simp only [Option.map_some, Option.some.injEq] at had
  subst had
  rw [add_flat, add_flat, Nat.add_assoc, hcell (k + j) (by omega)]
  simp [List.getD]

set_option maxHeartbeats 1600000 in
theorem uint_any (a : Option Addr) (n c : Nat) (xs : List Int) (w : World) (hR : Rd w a n c xs) (hn : n ≤ 1000000) :
    Calls Tryd.prog 79 #[.slice a n c] w fun e w' =>
      ((scan xs 0 0).2.2 ≠ 0 ∧ e = .returned (.tuple #[.int .u64 0, .slice none 0 0, .int .i64 (scan xs 0 0).2.2]) ∧ w' = w) ∨
      ((scan xs 0 0).2.2 = 0 ∧ ∃ v, e = .returned (.tuple #[.int .u64 (scan xs 0 0).1, v, .int .i64 0]) ∧ w'.ownsRow w.heap.size 5 1 v (n - (scan xs 0 0).2.1) (bc (xs.drop (scan xs 0 0).2.1)) ∧ Below w.heap.size w w') := by
  have hsl := (scan_le xs 0 0).1
  have hl := hR.len
  have hcp := hR.cap
  have HN := number_any a n c xs w hR
  obtain ⟨p, s, e, hs⟩ : ∃ p s e, scan xs 0 0 = (p, s, e) := ⟨_, _, _, rfl⟩
  rw [hs] at hsl HN
  rw [hs]
  simp only at hsl HN ⊢
  clear hs
  by_cases he : e = 0
  · subst he
    by_cases hcs : c = s
    · subst hcs
      go_enter Tryd.func79, Tryd.ntmps79
      go_wp2_with (first
        | (go_at_call 93; refine HN.mono ?_; rintro e w' ⟨rfl, rfl⟩)
        | (go_at_call 54; refine (behind0_any _ _ _ _ _ hR.cutAll (by omega)).mono ?_; rintro e w2 ⟨rfl, hown2, hb2⟩))
      go_ret3
      have e1 : n - c = 0 := by omega
      have e2 : xs.drop c = [] := List.drop_of_length_le (by omega)
      refine .inr ⟨trivial, _, rfl, ?_, hb2⟩
      rw [e1, e2]
      exact hown2
    · go_enter Tryd.func79, Tryd.ntmps79
      go_wp2_with (first
        | (go_at_call 93; refine HN.mono ?_; rintro e w' ⟨rfl, rfl⟩)
        | (go_at_call 54; refine (behind0_any _ _ _ _ _ (hR.cut s) (by omega)).mono ?_; rintro e w2 ⟨rfl, hown2, hb2⟩))
      go_ret3
      exact .inr ⟨trivial, _, rfl, hown2, hb2⟩
  · have he' : ((e : Int) != 0) = true := by simp; omega
    go_enter Tryd.func79, Tryd.ntmps79
    go_wp2_with (first
      | (go_at_call 93; refine HN.mono ?_; rintro e w' ⟨rfl, rfl⟩))
    go_ret3
    exact .inl ⟨he, rfl, rfl⟩

end Go.Proofs.YtiidjdedeenijaaDoor
