/- utf8.ValidString, by the library's contract. -/
import Derived.Test.YtmilcknboaefkaaGreatDoorScB
namespace Go.Proofs.YtmilcknboaefkaaGreatDoor
open Go.RowKit Go.Shelf

theorem validString_any (L : Tx) (w : World) (hs : L.length ≤ 1000000) (hT : Lib.Utf8Tabs 1 2 w) :
    Calls Tryz.prog 44 #[.string ⟨L.toArray⟩] w fun e w' => e = .returned (.bool (Lib.validD L)) ∧ Below w.heap.size w w' :=
  Any.utf8_ValidString Tryz.lays196 ⟨L.toArray⟩ w (by rw [size_tx]; omega) hT
theorem tabs_below {w w' : World} (hT : Lib.Utf8Tabs 1 2 w) (hb : Below w.heap.size w w') : Lib.Utf8Tabs 1 2 w' :=
  ⟨fun c hc => (Below.cell hb (World.block_lt_of_cell? w _ (hT.1 c hc))).trans (hT.1 c hc),
   fun i hi => ⟨(Below.cell hb (World.block_lt_of_cell? w _ (hT.2 i hi).1)).trans (hT.2 i hi).1, (Below.cell hb (World.block_lt_of_cell? w _ (hT.2 i hi).2)).trans (hT.2 i hi).2⟩⟩
theorem tabs_keep {S : Nat → Prop} {w w' : World} (hT : Lib.Utf8Tabs 1 2 w) (hk : Keep S w w') (h1 : ¬ S 1) (h2 : ¬ S 2) : Lib.Utf8Tabs 1 2 w' :=
  ⟨fun c hc => hk.cell (hT.1 c hc) h1, fun i hi => ⟨hk.cell (hT.2 i hi).1 h2, hk.cell (hT.2 i hi).2 h2⟩⟩
end Go.Proofs.YtmilcknboaefkaaGreatDoor
