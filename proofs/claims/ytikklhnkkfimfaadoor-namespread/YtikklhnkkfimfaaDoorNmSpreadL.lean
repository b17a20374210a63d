/- NameSpread, the law. -/
import Derived.Test.YtikklhnkkfimfaaDoorNmSpread
import Derived.Test.YtikklhnkkfimfaaDoorNmWakes
import Derived.Test.YtikklhnkkfimfaaDoorNmKeep
namespace Go.Proofs.YtikklhnkkfimfaaDoor
open Go.RowKit

set_option maxHeartbeats 1600000 in
theorem nameSpread_any (a b : ByteArray) (w : World) (hT : Lib.Utf8Tabs 0 1 w) : Calls Tryd.prog 6 #[.string a, .string b] w fun e w' => e = .returned (.bool true) ∧ Below w.heap.size w w' := by
  have tok : True := trivial
  go_enter Tryd.func6, Tryd.ntmps6
  go_wp2_with (first
    | (go_at_call 8; clear tok; refine (text_any a 200 _ (by omega)).mono ?_; rintro e w1 ⟨h, rfl, hh, rfl⟩)
    | (go_at_call 8; refine (text_any b 200 _ (by omega)).mono ?_; rintro e w2 ⟨l, rfl, hl, rfl⟩)
    | (go_at_call 20; refine (spread_any h l _ (by omega) (by omega)).mono ?_; rintro e w3 ⟨rfl, hb3⟩)
    | (go_at_call 21; refine (refSpread_any h l _ (by omega) (by omega)).mono ?_; rintro e w4 ⟨rfl, hb4⟩; have hb34 := hb3.trans (hb4.mono hb3.size))
    | (go_at_call 15; refine (wakes_any _ (tabs_below hT hb34)).mono ?_; rintro e w5 ⟨rfl, hb5⟩))
  go_ret
  exact ⟨rfl, hb34.trans (hb5.mono hb34.size)⟩
end Go.Proofs.YtikklhnkkfimfaaDoor
