/- Slices of strings. -/
import Derived.Test.YtiidjdedeenijaaDrM
namespace Go.Proofs.Ytiidjdedeenijaa
open Go.RowKit

/-- What a slice of strings reads as. -/
structure SRd (w : World) (a : Option Addr) (n c : Nat) (ss : List ByteArray) : Prop where
  len : ss.length = n
  cap : n ≤ c
  most : c ≤ maxLen
  nil : a = none → c = 0
  small : ∀ s ∈ ss, s.size ≤ 9223372036854775807
  cells : ∀ ad, a = some ad → ∀ j, j < n → w.cell? (ad.add j) = some (.string (ss.getD j ⟨#[]⟩))

theorem SRd.carry {w w' : World} {a : Option Addr} {n c : Nat} {ss : List ByteArray} (h : SRd w a n c ss) (hb : Below w.heap.size w w') : SRd w' a n c ss :=
  ⟨h.len, h.cap, h.most, h.nil, h.small, fun ad ha j hj => by
    have hc := h.cells ad ha j hj
    rw [hb.cell (World.block_lt_of_cell? w _ hc)]; exact hc⟩

theorem SRd.flat {w : World} {a : Option Addr} {n c : Nat} {ss : List ByteArray} (h : SRd w a n c ss) (hn : 0 < n) : ∃ b off, a = some ⟨b, off, none⟩ ∧ ∀ j, j < n → w.cell? ⟨b, off + j, none⟩ = some (.string (ss.getD j ⟨#[]⟩)) := by
  cases a with
  | none => have := h.nil rfl; have := h.cap; omega
  | some ad =>
    obtain ⟨b, off, spot⟩ := ad
    have hc := h.cells _ rfl 0 hn
    have hspot : spot = none := by simpa [Addr.add] using World.cell?_spot hc
    subst hspot
    refine ⟨b, off, rfl, fun j hj => ?_⟩
    have := h.cells _ rfl j hj
    rw [add_flat] at this
    exact this

theorem srd_nil (w : World) : SRd w none 0 0 [] := ⟨rfl, Nat.le_refl _, by unfold maxLen; omega, fun _ => rfl, (fun _ h => by cases h), (fun _ h => by cases h)⟩

theorem drop_cons' {ss : List ByteArray} {k : Nat} (h : k < ss.length) : ss.drop k = ss.getD k ⟨#[]⟩ :: ss.drop (k + 1) := by
  rw [List.drop_eq_getElem_cons h]; simp [List.getD, List.getElem?_eq_getElem h]
theorem getD_mem' {ss : List ByteArray} {k : Nat} (h : k < ss.length) : ss.getD k ⟨#[]⟩ ∈ ss := by
  simp [List.getD, List.getElem?_eq_getElem h]

theorem SRd.keep {S : Nat → Prop} {w w' : World} {a : Option Addr} {n c : Nat} {ss : List ByteArray} (h : SRd w a n c ss) (hk : Keep S w w') (hs : ∀ k, S k → w.heap.size ≤ k) : SRd w' a n c ss :=
  h.carry (hk.below (Nat.le_refl _) hs)

end Go.Proofs.Ytiidjdedeenijaa
