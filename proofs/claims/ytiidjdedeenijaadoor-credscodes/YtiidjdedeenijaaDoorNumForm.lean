/- octet.numberForm: the form of a number, in new memory. -/
import Derived.Test.YtiidjdedeenijaaDoorBytes
namespace Go.Proofs.YtiidjdedeenijaaDoor
open Go.RowKit

set_option maxHeartbeats 800000 in
theorem numberForm_any (n : Nat) (w : World) (hn : n < 18446744073709551616) : Calls Tryd.prog 55 #[.int .u64 n] w fun e w' =>
    ∃ v, e = .returned v ∧ w'.ownsRow w.heap.size 5 1 v (form n).length (bc (form n)) ∧ Below w.heap.size w w' := by
  obtain ⟨i0, hi, hz0, hz1, hz2⟩ := info_parts Tryd.info5
  have hl10 := form_len10 n hn
  go_enter Tryd.func55, Tryd.ntmps55
  go_wp2
  go_loopw [0, 3] (fun t v wr => ∃ (m : Nat) (pre : List Int), m ≤ n ∧ t = .int .u64 m ∧ pre ++ form m = form n ∧ wr.ownsRow w.heap.size 5 1 v pre.length (bc pre) ∧ Below w.heap.size w wr) (fun t _ _ => (intOf t).toNat)
  case atStart => exact ⟨n, [], Nat.le_refl _, rfl, rfl, World.ownsRow_nil _ _ _ _, Below.refl _ _⟩
  case round =>
    obtain ⟨m, pre, hmn, rfl, hpre, hown, hbel⟩ := hrel
    have hlen : pre.length + (form m).length = (form n).length := by rw [← hpre, List.length_append]
    have hp1 := form_pos m
    have hsz := hbel.size
    have HP : Hid (pre ++ form m = form n) := hpre
    have HB : Bd pre := fun x hx => form_bd n x (by rw [← hpre]; exact List.mem_append_left _ hx)
    clear hpre
    by_cases hm : (128 : Int) ≤ (m : Int)
    · have HF : Hid (form m = ((m % 128 + 128 : Nat) : Int) :: form (m / 128)) := form_big (by omega)
      go_wp2_with (first
        | (at_builtin; refine wpList_append_own _ rfl _ _ 22 rfl w.heap.size 5 i0 (.int .u8 0) 1 1 Tryd.underlying22 hi hz0 hz1 hz2 rfl (by decide) _ _ _ rfl (hown.alloc _) ⟨wr.heap.size, 0, none⟩ 1 1 [.int .u8 ((m : Int) % 128 + 128)] rfl rfl (cell_one_new _ _ _) (by simp [Value.oneCell']) (by unfold maxLen; omega) (by omega) (by simp; omega) ?_))
      intro v' w1 hown' hgrow _
      have hb1 := below_step hbel hsz hown hgrow
      have ho1 := own_snoc hown'
      clear hown' hgrow hown hbel
      go_wp2
      go_roundw
      case rel =>
        refine ⟨m / 128, pre ++ [(m : Int) % 128 + 128], by omega, by go_num, ?_, ho1, hb1⟩
        rw [← HP.out, HF.out, List.append_assoc]
        simp
      case measure => simp [intOf]; omega
    · have HF : Hid (form m = [(m : Int)]) := form_small (by omega)
      go_wp2_with (first
        | (at_builtin; refine wpList_append_own _ rfl _ _ 22 rfl w.heap.size 5 i0 (.int .u8 0) 1 1 Tryd.underlying22 hi hz0 hz1 hz2 rfl (by decide) _ _ _ rfl (hown.alloc _) ⟨wr.heap.size, 0, none⟩ 1 1 [.int .u8 (m : Int)] rfl rfl (cell_one_new _ _ _) (by simp [Value.oneCell']) (by unfold maxLen; omega) (by omega) (by simp; omega) ?_))
      intro v' w1 hown' hgrow _
      have hb1 := below_step hbel hsz hown hgrow
      have ho1 := own_snoc hown'
      rw [show pre ++ [(m : Int)] = form n from by rw [← HP.out, HF.out]] at ho1
      clear hown' hgrow hown hbel
      go_wp2
      go_ret
      exact ⟨_, rfl, ho1, hb1⟩

end Go.Proofs.YtiidjdedeenijaaDoor
