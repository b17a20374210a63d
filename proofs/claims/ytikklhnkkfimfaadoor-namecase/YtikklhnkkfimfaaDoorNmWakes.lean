/- wakes: the document's runs that each law asks for. -/
import Derived.Test.YtikklhnkkfimfaaDoorNmTextA
namespace Go.Proofs.YtikklhnkkfimfaaDoor
open Go.RowKit Go.Lib

theorem parse_run : parseN [65, 110, 110, 64, 88, 46, 111, 114, 103, 47, 68, 101, 115, 107, 47, 50] = (⟨[97, 110, 110], [120, 46, 111, 114, 103], [68, 101, 115, 107, 47, 50]⟩, 0) := by kernel_rfl
theorem local_run : localN [97, 32, 98] = ([], 4) := by kernel_rfl

theorem wakes_any (w : World) (hT : Lib.Utf8Tabs 0 1 w) : Calls Tryd.prog 15 #[] w fun e w' => e = .returned (.bool true) ∧ Below w.heap.size w w' := by
  have cP := parse_any [65, 110, 110, 64, 88, 46, 111, 114, 103, 47, 68, 101, 115, 107, 47, 50] w (by decide) hT
  rw [parse_run] at cP
  have cP' : Calls Tryd.prog 16 #[.string ⟨#[65, 110, 110, 64, 88, 46, 111, 114, 103, 47, 68, 101, 115, 107, 47, 50]⟩] w fun e w' => e = .returned (.tuple #[.agg #[.string ⟨#[97, 110, 110]⟩, .string ⟨#[120, 46, 111, 114, 103]⟩, .string ⟨#[68, 101, 115, 107, 47, 50]⟩], .int .i64 0]) ∧ Below w.heap.size w w' := cP
  clear cP
  have cL : ∀ W, Lib.Utf8Tabs 0 1 W → Calls Tryd.prog 9 #[.string ⟨#[97, 32, 98]⟩] W fun e w' => e = .returned (.tuple #[.string ⟨#[]⟩, .int .i64 4]) ∧ Below W.heap.size W w' := fun W hW => by
    have h := local_any ⟨#[97, 32, 98]⟩ W (by decide) hW
    rw [show (⟨#[97, 32, 98]⟩ : ByteArray).data.toList = [97, 32, 98] from rfl, local_run] at h
    exact h
  go_enter Tryd.func15, Tryd.ntmps15
  go_wp2_with (first
    | (go_at_call 16; refine cP'.mono ?_; rintro e w1 ⟨rfl, hb1⟩; have hT1 := tabs_below hT (hb1.alloc hb1.size (.cells #[.string ⟨#[97, 110, 110]⟩, .string ⟨#[120, 46, 111, 114, 103]⟩, .string ⟨#[68, 101, 115, 107, 47, 50]⟩] 31)); have hS := St.box w1 (.string ⟨#[97, 110, 110]⟩) (.string ⟨#[120, 46, 111, 114, 103]⟩) (.string ⟨#[68, 101, 115, 107, 47, 50]⟩))
    | (go_at_call 9; refine (cL _ hT1).mono ?_; rintro e w2 ⟨rfl, hb2⟩; have h2 := hS.call hb2; have a0 := h2.c0; have a1 := h2.c1; have a2 := h2.c2))
  go_ret
  exact ⟨rfl, hb1.trans (h2.below.mono hb1.size)⟩
end Go.Proofs.YtikklhnkkfimfaaDoor
