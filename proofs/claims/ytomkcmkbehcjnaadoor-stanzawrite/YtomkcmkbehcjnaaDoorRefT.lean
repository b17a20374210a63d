/- The document's PutText. -/
import Derived.Test.YtomkcmkbehcjnaaDoorRefW
import Derived.Test.YtomkcmkbehcjnaaDoorTexts
namespace Go.Proofs.YtomkcmkbehcjnaaDoor
open Go.RowKit

set_option maxHeartbeats 1600000 in
theorem refPutText_any (a : Option Addr) (n c : Nat) (xs : List Int) (s : ByteArray) (w : World) (hR : Rd w a n c xs) (hn : n ≤ 100000) (hs : s.size ≤ 100000) :
    Calls Tryd.prog 34 #[.slice a n c, .string s] w fun e w' => ∃ v,
      e = .returned v ∧ w'.ownsRow w.heap.size 5 1 v (n + (form s.size).length + s.size) (bc (xs ++ form s.size ++ nums s)) ∧ Below w.heap.size w w' := by
  obtain ⟨i0, hi, hz0, hz1, hz2⟩ := info_parts Tryd.info5
  have hl10 := form_len10 s.size (by omega)
  go_enter Tryd.func34, Tryd.ntmps34
  go_wp2_with (first
    | (go_at_call 33; refine (refPutUint_any a n c xs s.size _ hR (by omega) (by omega)).mono ?_; rintro e w1 ⟨v, rfl, hown, hb1⟩)
    | (at_builtin; refine Lib.wpList_append_own_string _ rfl _ _ 28 9 rfl w.heap.size 5 i0 Tryd.underlying28 Tryd.underlying9 hi hz0 hz1 hz2 _ _ _ rfl hown s rfl (by unfold maxLen; omega) (by omega) hb1.size ?_; intro v2 w2 hown2 hgrow2 _))
  go_ret
  rw [← bc_nums, ← bc_append] at hown2
  exact ⟨_, rfl, hown2, hb1.grown hgrow2 hb1.size (fun k hk => (hown.lt k hk).1)⟩

end Go.Proofs.YtomkcmkbehcjnaaDoor
