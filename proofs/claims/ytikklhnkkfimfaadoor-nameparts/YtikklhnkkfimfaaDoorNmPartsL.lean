/- NameParts, the law. -/
import Derived.Test.YtikklhnkkfimfaaDoorNmRefR
import Derived.Test.YtikklhnkkfimfaaDoorNmRefH
import Derived.Test.YtikklhnkkfimfaaDoorNmWakes
import Derived.Test.YtikklhnkkfimfaaDoorNmKeep
namespace Go.Proofs.YtikklhnkkfimfaaDoor
open Go.RowKit

set_option maxHeartbeats 3200000 in
theorem nameParts_any (a : ByteArray) (w : World) (hT : Lib.Utf8Tabs 0 1 w) : Calls Tryd.prog 3 #[.string a] w fun e w' => e = .returned (.bool true) ∧ Below w.heap.size w w' := by
  go_enter Tryd.func3, Tryd.ntmps3
  go_wp2_with (first
    | (go_at_call 8; refine (text_any a 300 _ (by omega)).mono ?_; rintro e w1 ⟨s, rfl, hs, rfl⟩
       obtain ⟨x1, n1, h1⟩ : ∃ x n, localN s.data.toList = (x, n) := ⟨_, _, rfl⟩
       obtain ⟨x2, n2, h2⟩ : ∃ x n, hostN s.data.toList = (x, n) := ⟨_, _, rfl⟩
       obtain ⟨x3, n3, h3⟩ : ∃ x n, resN s.data.toList = (x, n) := ⟨_, _, rfl⟩
       have c1 := fun W hW => local_any s W (by omega) hW
       have c2 := fun W hW => host_any s W (by omega) hW
       have c3 := fun W hW => resource_any s W (by omega) hW
       have r1 := fun W => refLocal_any s W (by omega)
       have r2 := fun W => refHost_any s W (by omega)
       have r3 := fun W => refResource_any s W (by omega)
       rw [h1] at c1 r1
       rw [h2] at c2 r2
       rw [h3] at c3 r3
       unfold Told at c1 c2 c3)
    | (go_at_call 9; refine (c1 _ hT).mono ?_; rintro e w2 ⟨rfl, hb2⟩)
    | (go_at_call 10; refine (r1 _).mono ?_; rintro e w3 ⟨rfl, hb3⟩; have b3 := hb2.trans (hb3.mono hb2.size))
    | (go_at_call 11; refine (c2 _ (tabs_below hT b3)).mono ?_; rintro e w4 ⟨rfl, hb4⟩; have b4 := b3.trans (hb4.mono b3.size))
    | (go_at_call 12; refine (r2 _).mono ?_; rintro e w5 ⟨rfl, hb5⟩; have b5 := b4.trans (hb5.mono b4.size))
    | (go_at_call 13; refine (c3 _ (tabs_below hT b5)).mono ?_; rintro e w6 ⟨rfl, hb6⟩; have b6 := b5.trans (hb6.mono b5.size))
    | (go_at_call 14; refine (r3 _).mono ?_; rintro e w7 ⟨rfl, hb7⟩; have b7 := b6.trans (hb7.mono b6.size))
    | (go_at_call 15; refine (wakes_any _ (tabs_below hT b7)).mono ?_; rintro e w8 ⟨rfl, hb8⟩))
  go_ret
  exact ⟨rfl, b7.trans (hb8.mono b7.size)⟩
end Go.Proofs.YtikklhnkkfimfaaDoor
