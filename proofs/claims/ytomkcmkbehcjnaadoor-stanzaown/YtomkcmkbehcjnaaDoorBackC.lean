/- What the readers answer, as the laws use it. -/
import Derived.Test.YtomkcmkbehcjnaaDoorBackM
import Derived.Test.YtomkcmkbehcjnaaDoorReadT
import Derived.Test.YtomkcmkbehcjnaaDoorRs
namespace Go.Proofs.YtomkcmkbehcjnaaDoor
open Go.RowKit

theorem ownR {w w' : World} {v : Value} {M : Nat} {Z : List Int} (hZ : Bd Z) (h : w'.ownsRow w.heap.size 5 1 v M (bc Z)) : ∃ a' n' c', v = .slice a' n' c' ∧ Rd w' a' n' c' Z := by
  obtain ⟨a1, c1, rfl, hr1⟩ := Rd.ofOwn h hZ
  exact ⟨a1, _, c1, rfl, hr1⟩

end Go.Proofs.YtomkcmkbehcjnaaDoor
