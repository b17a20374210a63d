/- octet.Text, its two ways in one. -/
import Derived.Test.YtephpbbooicfoaaDoorOctOwnP
import Derived.Test.YtephpbbooicfoaaDoorReadT
namespace Go.Proofs.YtephpbbooicfoaaDoor
open Go.RowKit

theorem textN (a : Option Addr) (n c : Nat) (xs : List Int) (w : World) (hR : Rd w a n c xs) (hT : Tabs w) (hn : n ≤ 2000) :
    Calls Tryd.prog 14 #[.slice a n c, .int .i64 1000] w fun e w' => ∃ z v m, e = .returned (.tuple #[.string z, v, .int .i64 m]) ∧ New w w' v 2000 ∧ Ext w w' := by
  have hl := hR.len
  refine (text_read a n c xs 1000 w hR hT (by omega) (by omega) (by omega)).mono ?_
  rintro e w' (⟨_, rfl, hb⟩ | ⟨_, v, rfl, ho, hb⟩)
  · exact ⟨_, _, _, rfl, New.nil _ _ _, hb⟩
  · exact ⟨_, _, _, rfl, New.of ho ((hR.bytes.drop _).drop _) (by rw [List.length_drop, List.length_drop]; omega), hb⟩

end Go.Proofs.YtephpbbooicfoaaDoor
