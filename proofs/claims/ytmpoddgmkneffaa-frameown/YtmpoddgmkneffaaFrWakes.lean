/- wakes. -/
import Derived.Test.YtmpoddgmkneffaaFrPut
import Derived.Lib.SlBytesConst
namespace Go.Proofs.Ytmpoddgmkneffaa
open Go.RowKit Go.Shelf

theorem cut_wakes : cut 10 [0, 0, 0, 2, 97, 98, 0] = ([[97, 98]], [0], false) := by
  have h := cut_frm (M := 10) (ps := [97, 98]) (b := [0]) (by decide) (by decide)
  rw [cut_short (M := 10) (l := [0]) (by decide)] at h
  exact h
theorem frm_wakes : frm [97, 98] = [0, 0, 0, 2, 97, 98] := rfl

theorem rd_seven (w : World) : Rd (w.alloc (.cells #[.int .u8 0, .int .u8 0, .int .u8 0, .int .u8 2, .int .u8 97, .int .u8 98, .int .u8 0] 5)) (some ⟨w.heap.size, 0, none⟩) 7 7 [0, 0, 0, 2, 97, 98, 0] := by
  refine ⟨rfl, Nat.le_refl _, by unfold maxLen; omega, (fun h => by cases h), (fun q hq => by simp at hq; omega), fun ad had j hj => ?_⟩
  cases had
  rw [add_flat]
  match j, hj with
  | 0, _ => simp
  | 1, _ => simp
  | 2, _ => simp
  | 3, _ => simp
  | 4, _ => simp
  | 5, _ => simp
  | 6, _ => simp
theorem rd_two (w : World) (m : Nat × Nat) : Rd (w.alloc (.cells #[.int .u8 97, .int .u8 98] 5 m)) (some ⟨w.heap.size, 0, none⟩) 2 2 [97, 98] := by
  refine ⟨rfl, Nat.le_refl _, by unfold maxLen; omega, (fun h => by cases h), (fun q hq => by simp at hq; omega), fun ad had j hj => ?_⟩
  cases had
  rw [add_flat]
  match j, hj with
  | 0, _ => unfold World.cell?; rw [World.alloc_heap_new]; rfl
  | 1, _ => unfold World.cell?; rw [World.alloc_heap_new]; rfl

theorem str_ab : strOfNums [97, 98] = ⟨#[97, 98]⟩ := by decide
theorem str_put : strOfNums [0, 0, 0, 2, 97, 98] = ⟨#[0, 0, 0, 2, 97, 98]⟩ := by decide

theorem feed_wakes (w w1 : World) (hC : RC w1 w.heap.size 10 (.slice none 0 0) false) (hb : Below w.heap.size w w1) :
    Calls Try.prog 11 #[.pointer (some ⟨w.heap.size, 0, none⟩), .slice (some ⟨w1.heap.size, 0, none⟩) 7 7] (w1.alloc (.cells #[.int .u8 0, .int .u8 0, .int .u8 0, .int .u8 2, .int .u8 97, .int .u8 98, .int .u8 0] 5)) fun e w' =>
      ∃ g c b off nj cj a' c', e = .returned (.tuple #[.slice (some ⟨g, 0, none⟩) 1 c, .int .i64 0]) ∧ w'.cell? ⟨g, 0, none⟩ = some (.slice (some ⟨b, off, none⟩) nj cj) ∧ (convert 31 9 (.slice (some ⟨b, off, none⟩) nj cj)).run Try.prog w' = .ok (.string ⟨#[97, 98]⟩) w' ∧
        RC w' w.heap.size 10 (.slice a' 1 c') false ∧ Below w.heap.size w w' := by
  have hC' : RC (w1.alloc (.cells #[.int .u8 0, .int .u8 0, .int .u8 0, .int .u8 2, .int .u8 97, .int .u8 98, .int .u8 0] 5)) w.heap.size 10 (.slice none 0 0) false := (Below.heap_alloc _ _ _ hC.lt).trans hC
  have HF := feed_any w.heap.size 10 0 (.slice none 0 0) [] (some ⟨w1.heap.size, 0, none⟩) 7 7 [0, 0, 0, 2, 97, 98, 0] _ hC' (World.ownsRow_nil _ _ _ _) (Nat.zero_le _) Bd.nil (rd_seven w1) (by decide)
  rw [List.nil_append, cut_wakes] at HF
  refine HF.mono ?_
  rintro e w' ⟨a, c, vs, v', rfl, hC2, hown, _, hrow, hP, _, hK⟩
  have hrr := rrd_of hrow hP rfl (by decide)
  obtain ⟨g, off, hg, hcl⟩ := hrr.flat (by decide)
  obtain ⟨aj, nj, cj, h1, h2⟩ := hcl 0 (by decide)
  have hg0 : off = 0 := by
    rcases hrow.2 with ⟨hv, _⟩ | ⟨g', cap, cur, hv, _⟩
    · rw [hg] at hv; cases hv
    · rw [hg] at hv; cases hv; rfl
  subst hg0
  obtain ⟨b, o2, rfl, _⟩ := h2.flat (by have := h2.len; simp at this; omega)
  have hs := h2.string
  rw [show ([[97, 98]] : List (List Int)).getD 0 [] = [97, 98] from rfl, str_ab] at hs
  obtain ⟨a', c', hv, _⟩ := Rd.ofOwn hown (fun q hq => by simp at hq; omega)
  subst hv
  refine ⟨g, c, b, o2, nj, cj, a', c', by rw [hg]; rfl, by simpa using h1, hs, hC2, ?_⟩
  exact (hb.alloc hb.size _).trans (hK.below (by have := hb.size; simp; omega) (fun k h => h.elim (fun h => by omega) (fun h => by cases h)))

set_option maxHeartbeats 1600000 in
theorem wakes_any (w : World) : Calls Try.prog 10 #[] w fun e w' => e = .returned (.bool true) ∧ Below w.heap.size w w' := by
  have kc := fun (w : World) (C : Array Value) (n c : Nat) => Lib.run_convert_bytes_const (P := Try.prog) w 31 5 C n c Try.underlying31 Try.underlying5
  go_enter Try.func10, Try.ntmps10
  go_wp2_with (first
    | (go_at_call 8; refine (new_any 10 w (by decide) (by decide)).mono ?_; rintro e w1 ⟨rfl, hC1, hb1⟩)
    | (go_at_call 11; refine (feed_wakes w w1 hC1 hb1).mono ?_; rintro e w2 ⟨g, c, b, off, nj, cj, a', c', rfl, hc2, hs2, hC2, hb2⟩)
    | (go_at_call 15; refine (held_any w.heap.size 10 a' 1 c' false w2 hC2).mono ?_; rintro e w3 ⟨rfl, rfl⟩)
    | (go_at_call 17; refine (putR none 0 0 [] _ 2 2 [97, 98] _ (rd_nil _) (rd_two _ _) (by omega) (by omega)).mono ?_; rintro e w4 ⟨a4, n4, c4, rfl, hr4, hn4, hb4, hf4⟩; clear hn4 hf4; have hs4 := hr4.string; rw [List.nil_append, frm_wakes, str_put] at hs4))
  go_ret
  exact ⟨rfl, (hb2.alloc hb2.size _).trans (hb4.mono (by have := hb2.size; simp; omega))⟩

end Go.Proofs.Ytmpoddgmkneffaa
