/- roostkeep.Text: a text that is cut. -/
import Derived.Test.YtikklhnkkfimfaaDoorNmSmall
namespace Go.Proofs.YtikklhnkkfimfaaDoor
open Go.RowKit

theorem text_any (s : ByteArray) (most : Nat) (w : World) (hm : most ≤ 100000) :
    Calls Tryd.prog 8 #[.string s, .int .i64 most] w fun e w' => ∃ t : ByteArray, e = .returned (.string t) ∧ t.size ≤ most ∧ w' = w := by
  by_cases hn : (most : Int) < (s.size : Int)
  · go_enter Tryd.func8, Tryd.ntmps8
    go_wp2
    go_ret
    refine ⟨_, rfl, ?_, rfl⟩
    simp [ByteArray.size_extract]
    omega
  · go_enter Tryd.func8, Tryd.ntmps8
    go_wp2
    go_ret
    exact ⟨_, rfl, by omega, rfl⟩
end Go.Proofs.YtikklhnkkfimfaaDoor
