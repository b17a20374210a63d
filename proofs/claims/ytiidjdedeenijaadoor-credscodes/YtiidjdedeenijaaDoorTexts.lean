/- Texts: a string's bytes as numbers; octet.PutText; roostkeep.Text. -/
import Derived.Test.YtiidjdedeenijaaDoorB6A
import Derived.Test.YtiidjdedeenijaaDoorPut
import Derived.Lib.AppendStr
namespace Go.Proofs.YtiidjdedeenijaaDoor
open Go.RowKit

theorem bc_nums (s : ByteArray) : bc (nums s) = Lib.strCells s := by simp [bc, nums, Lib.strCells]

/-- '[]byte(s)' reads as the string's bytes, in new memory. -/
theorem bytes_run (s : ByteArray) (w : World) (hs : s.size ≤ 1000000) : ∃ c w', (convert 9 22 (.string s)).run Tryd.prog w = .ok (.slice (some ⟨w.heap.size, 0, none⟩) s.size c) w' ∧ Rd w' (some ⟨w.heap.size, 0, none⟩) s.size c (nums s) ∧ Below w.heap.size w w' := by
  refine ⟨_, _, run_bytes_of_string w 9 22 5 s Tryd.underlying9 Tryd.underlying22 Tryd.underlying5, ?_, ?_⟩
  · refine ⟨nums_len s, grownCap_ge _ _ _ _, grownCap_le_maxLen _ _ _ _ (by unfold maxLen; omega), (fun h => by cases h), nums_bd s, fun ad had j hj => ?_⟩
    cases had
    have hj' : j < s.data.size := hj
    rw [add_flat, Nat.zero_add, show w.heap.size = w.drew.heap.size from rfl, World.cell?_alloc_mark, bytesRow_at s _ j hj']
    simp [nums, List.getD, Array.getElem?_eq_getElem hj']
  · exact ((Below.refl _ _).drew).alloc (Nat.le_refl _) _

set_option maxHeartbeats 1600000 in
theorem putText_any (a : Option Addr) (n c : Nat) (xs : List Int) (s : ByteArray) (w : World) (hR : Rd w a n c xs) (hn : n ≤ 100000) (hs : s.size ≤ 100000) :
    Calls Tryd.prog 32 #[.slice a n c, .string s] w fun e w' => ∃ v,
      e = .returned v ∧ w'.ownsRow w.heap.size 5 1 v (n + (form s.size).length + s.size) (bc (xs ++ form s.size ++ nums s)) ∧ Below w.heap.size w w' := by
  have hl10 := form_len10 s.size (by omega)
  go_enter Tryd.func32, Tryd.ntmps32
  go_wp2_with (first
    | (go_at_call 55; refine (numberForm_any s.size _ (by omega)).mono ?_; rintro e w1 ⟨v, rfl, hown, hb1⟩; obtain ⟨a1, c1, rfl, hr⟩ := Rd.ofOwn hown (form_bd s.size); obtain ⟨cc, wb, hcv, hrb, hbb⟩ := bytes_run s w1 (by omega))
    | (go_at_call 54; refine (behind2_any a n c xs _ a1 _ c1 (form s.size) _ _ cc (nums s) _ (hR.carry (Nat.le_refl _) ((hb1.trans (hbb.mono hb1.size)).alloc (hb1.trans (hbb.mono hb1.size)).size _)) (hr.carry (Nat.le_refl _) (hbb.alloc hbb.size _)) (hrb.carry (Nat.le_refl _) ((Below.refl _ _).alloc (Nat.le_refl _) _)) (by simp) (by simp) (by omega) (by omega) (by omega)).mono ?_; rintro e w2 ⟨rfl, hown2, hb2⟩))
  go_ret
  have hs1 := hb1.size
  have hs2 := hbb.size
  simp only [World.size_alloc] at hown2
  exact ⟨.slice (some ⟨wb.heap.size + 1, 0, none⟩) (n + (form s.size).length + s.size) (n + (form s.size).length + s.size), rfl, own_weaken hown2 (by omega), ((hb1.trans (hbb.mono hb1.size)).alloc (hb1.trans (hbb.mono hb1.size)).size _).trans (hb2.mono (by simp; omega))⟩

end Go.Proofs.YtiidjdedeenijaaDoor
