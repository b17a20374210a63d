/- NameBack: its ways. -/
import Derived.Test.YtikklhnkkfimfaaDoorNmPure
import Derived.Test.YtikklhnkkfimfaaDoorNmParseL
namespace Go.Proofs.YtikklhnkkfimfaaDoor
open Go.RowKit

theorem JAt.put {W : World} {g : Nat} {a b c : Value} (h : JAt W g a b c) (x y z : Value) : JAt (((W.setCell ⟨g, 0, none⟩ x).setCell ⟨g, 1, none⟩ y).setCell ⟨g, 2, none⟩ z) g x y z := by
  have h' : W.heap[g]? = some (.cells #[a, b, c] 31 (0, 0)) := h
  show ((((W.setCell ⟨g, 0, none⟩ x).setCell ⟨g, 1, none⟩ y).setCell ⟨g, 2, none⟩ z)).heap[g]? = _
  simp [World.setCell, Array.getElem?_modify, h']
theorem below_put {B : Nat} {w W : World} (h : Below B w W) {g : Nat} (hg : B ≤ g) (x y z : Value) : Below B w (((W.setCell ⟨g, 0, none⟩ x).setCell ⟨g, 1, none⟩ y).setCell ⟨g, 2, none⟩ z) :=
  ((h.setCell (p := ⟨g, 0, none⟩) hg _).setCell (p := ⟨g, 1, none⟩) hg _).setCell (p := ⟨g, 2, none⟩) hg _

def Gives (f : Nat) (args : Array Value) (v : Value) : Prop := ∀ W, Lib.Utf8Tabs 0 1 W → Calls Tryd.prog f args W fun e W' => e = .returned v ∧ Below W.heap.size W W'
end Go.Proofs.YtikklhnkkfimfaaDoor
