/- Where a byte stands first. No program in this text. -/
import Derived.Test.YtikklhnkkfimfaaDoorNmDef
namespace Go.Proofs.YtikklhnkkfimfaaDoor
theorem ix_skip' {c : UInt8} {l : List UInt8} {k : Nat} (hk : k < l.length) (h : ∀ j, j < k → l.getD j 0 ≠ c) (hc : l[k] = c) : ix c l = k := by
  unfold ix
  rw [List.findIdx_eq hk]
  refine ⟨by simp [hc], fun j hj => ?_⟩
  have := h j hj
  rw [List.getD, List.getElem?_eq_getElem (by omega)] at this
  simpa using this
theorem ix_none' {c : UInt8} {l : List UInt8} (h : ∀ j, j < l.length → l.getD j 0 ≠ c) : ¬ ix c l < l.length := by
  unfold ix
  intro hlt
  have := List.findIdx_getElem (w := hlt)
  have h2 := h _ hlt
  rw [List.getD, List.getElem?_eq_getElem hlt] at h2
  simp at this
  exact h2 this

end Go.Proofs.YtikklhnkkfimfaaDoor
