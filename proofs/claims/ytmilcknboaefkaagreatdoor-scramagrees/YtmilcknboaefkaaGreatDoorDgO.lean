/- slices.Grow of nil, slices.Concat of two. -/
import Derived.Test.YtmilcknboaefkaaGreatDoorDgN
import Derived.Lib.AppendZeros
set_option maxRecDepth 100000
namespace Go.Proofs.YtmilcknboaefkaaGreatDoor
open Go.RowKit

set_option maxHeartbeats 800000 in
theorem grow_any (n : Nat) (w : World) (h0 : 0 < n) (hn : n ≤ 1000000) :
    Calls Tryz.prog 101 #[.slice none 0 0, .int .i64 n] w fun e w' => ∃ c, e = .returned (.slice (some ⟨w.heap.size, 0, none⟩) 0 c) ∧ w'.ownsRow w.heap.size 5 1 (.slice (some ⟨w.heap.size, 0, none⟩) 0 c) 0 (bc []) ∧ Below w.heap.size w w' := by
  obtain ⟨i0, hi, hz0, hz1, hz2⟩ := info_parts Tryz.info5
  have hrz : ∀ ty, _ := fun ty => Lib.run_append_nil_zeros (P := Tryz.prog) w 22 3 ty 5 i0 (.int .u8 0) .i64 .i64 Tryz.underlying22 Tryz.underlying3 hi hz0 n h0 (by omega) (by omega) (by rw [hz2]; omega)
  have hGn := grownCap_ge w n 0 5
  have hGm := grownCap_le_maxLen w n 0 5 (by unfold maxLen; omega)
  have hzl : ∀ k, (Builtin.zeroCells (Value.int .u8 0).cells k).size = k := fun k => by simp [Builtin.zeroCells, Value.cells]
  obtain ⟨G, HG⟩ : ∃ G, Hid (grownCap w n 0 5 = G) := ⟨_, rfl⟩
  obtain ⟨C, HC⟩ : ∃ C, Hid (Builtin.zeroCells (Value.int .u8 0).cells n ++ Builtin.zeroCells (Value.int .u8 0).cells (G - n) = C) := ⟨_, rfl⟩
  rw [HG.out] at hGn hGm
  simp only [HG.out, HC.out] at hrz
  have hCs : C.size = G := by rw [← HC.out, Array.size_append, hzl, hzl]; omega
  have hG63 : G ≤ 9223372036854775807 := hGm
  have hp : (0 : Int) < (n : Int) := by omega
  have hnn : ¬ (n : Int) < 0 := by omega
  have HW : Hid ((w.drew.alloc (.cells C 5)).ownsRow w.heap.size 5 1 (.slice (some ⟨w.heap.size, 0, none⟩) 0 G) 0 (bc [])) :=
    ⟨rfl, .inr ⟨w.heap.size, G, C, rfl, Nat.le_refl _, World.alloc_heap_new _ _, Nat.zero_le _, hGm, by rw [hCs]; omega, by simp [bc]⟩⟩
  clear hzl
  go_enter Tryz.func101, Tryz.ntmps101
  go_wp2_with (at_builtin; refine Lib.wpList_append_run _ rfl (.tmp 20) (.tmp 21) _ _ rfl _ _ rfl rfl _ _ (hrz _) ?_)
  go_ret
  exact ⟨G, rfl, HW.out, (Below.refl _ _).drew.alloc (Nat.le_refl _) _⟩

set_option maxHeartbeats 1600000 in
theorem concat2_any (fb : Nat) (a1 : Option Addr) (n1 c1 : Nat) (xs : List Int) (a2 : Option Addr) (n2 c2 : Nat) (ys : List Int) (w : World) (h1 : Rd w a1 n1 c1 xs) (h2 : Rd w a2 n2 c2 ys)
    (hf1 : w.cell? ⟨fb, 0, none⟩ = some (.slice a1 n1 c1)) (hf2 : w.cell? ⟨fb, 1, none⟩ = some (.slice a2 n2 c2)) (h0 : 0 < n1 + n2) (hn1 : n1 ≤ 10000) (hn2 : n2 ≤ 10000) :
    Calls Tryz.prog 82 #[.slice (some ⟨fb, 0, none⟩) 2 2] w fun e w' => ∃ v, e = .returned v ∧ w'.ownsRow w.heap.size 5 1 v (n1 + n2) (bc (xs ++ ys)) ∧ Below w.heap.size w w' := by
  have hfb := World.block_lt_of_cell? w _ hf1
  go_enter Tryz.func82, Tryz.ntmps82
  go_wp2
  refine wp_loop_rounds 3 ?_
  rw [rounds_succ]
  go_wp2
  rw [rounds_succ]
  go_wp2
  rw [rounds_succ]
  have HG := grow_any (n1 + n2) w h0 (by omega)
  rw [Int.natCast_add] at HG
  go_wp2_with (go_at_call 101; refine HG.mono ?_; rintro e w1 ⟨c, rfl, ho1, hb1⟩)
  have hg1 : w1.cell? ⟨fb, 0, none⟩ = some (.slice a1 n1 c1) := (hb1.cell (p := ⟨fb, 0, none⟩) hfb).trans hf1
  have hg2 : w1.cell? ⟨fb, 1, none⟩ = some (.slice a2 n2 c2) := (hb1.cell (p := ⟨fb, 1, none⟩) hfb).trans hf2
  have r1 := h1.carry (Nat.le_refl _) hb1
  clear HG
  refine wp_loop_rounds 3 ?_
  rw [rounds_succ]
  go_wp2_with (at_builtin; refine wp_appK rfl (.tmp 31) (.tmp 32) rfl w.heap.size _ 0 [] rfl ho1 a1 n1 c1 xs rfl r1 (by omega) hb1.size ?_; intro v2 w2 ho2 hgr2 _)
  simp only [Nat.zero_add, List.nil_append] at ho2
  have hb2 : Below w.heap.size w w2 := hb1.grown hgr2 hb1.size (fun k hk => (ho1.lt k hk).1)
  have hg2' : w2.cell? ⟨fb, 1, none⟩ = some (.slice a2 n2 c2) := (hb2.cell (p := ⟨fb, 1, none⟩) hfb).trans hf2
  have r2 := h2.carry (Nat.le_refl _) hb2
  clear hgr2 hg1 hg2 r1 ho1 hb1
  rw [rounds_succ]
  go_wp2_with (at_builtin; refine wp_appK rfl (.tmp 31) (.tmp 32) rfl w.heap.size _ n1 xs rfl ho2 a2 n2 c2 ys rfl r2 (by omega) hb2.size ?_; intro v3 w3 ho3 hgr3 _)
  have hb3 : Below w.heap.size w w3 := hb2.grown hgr3 hb2.size (fun k hk => (ho2.lt k hk).1)
  clear hgr3 hg2' r2 ho2 hb2
  rw [rounds_succ]
  go_wp2
  go_ret
  exact ⟨_, rfl, ho3, hb3⟩

end Go.Proofs.YtmilcknboaefkaaGreatDoor
