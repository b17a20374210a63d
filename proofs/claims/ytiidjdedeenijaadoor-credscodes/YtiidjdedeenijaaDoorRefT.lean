/- The document's answer, written: PutUint, PutInt, PutFloat. -/
import Derived.Test.YtiidjdedeenijaaDoorPutI
import Derived.Test.YtiidjdedeenijaaDoorTwin
import Derived.Test.YtiidjdedeenijaaDoorTexts
namespace Go.Proofs.YtiidjdedeenijaaDoor
open Go.RowKit

theorem own_snoc' {w : World} {B N : Nat} {v : Value} {pre : List Int} {x : Int} (h : w.ownsRow B 5 1 v (N + 1) (bc pre ++ [.int .u8 x])) : w.ownsRow B 5 1 v (N + 1) (bc (pre ++ [x])) := by
  simpa [bc] using h

set_option maxHeartbeats 1600000 in
theorem refPutUint_any (a : Option Addr) (n c : Nat) (xs : List Int) (k : Nat) (w : World) (hR : Rd w a n c xs) (hn : n ≤ 100000) (hk : k < 18446744073709551616) :
    Calls Tryd.prog 35 #[.slice a n c, .int .u64 k] w fun e w' => ∃ v,
      e = .returned v ∧ w'.ownsRow w.heap.size 5 1 v (n + (form k).length) (bc (xs ++ form k)) ∧ Below w.heap.size w w' := by
  obtain ⟨i0, hi, hz0, hz1, hz2⟩ := info_parts Tryd.info5
  have hl10 := form_len10 k hk
  go_enter Tryd.func35, Tryd.ntmps35
  go_wp2_with (at_builtin; refine wp_app0 rfl _ _ rfl rfl a n c xs rfl hR (by omega) ?_; intro v0 w0 hown0 hb0)
  go_loopw [1, 5] (fun t v wr => ∃ (m : Nat) (pre : List Int), m ≤ k ∧ t = .int .u64 m ∧ pre ++ form m = form k ∧ wr.ownsRow w.heap.size 5 1 v (n + pre.length) (bc (xs ++ pre)) ∧ Below w.heap.size w wr) (fun t _ _ => (intOf t).toNat)
  case atStart => exact ⟨k, [], Nat.le_refl _, rfl, rfl, by simpa using hown0, hb0⟩
  case round =>
    obtain ⟨m, pre, hmn, rfl, hpre, hown, hbel⟩ := hrel
    have hlen : pre.length + (form m).length = (form k).length := by rw [← hpre, List.length_append]
    have hp1 := form_pos m
    have hsz := hbel.size
    have HP : Hid (pre ++ form m = form k) := hpre
    clear hpre
    by_cases hm : (128 : Int) ≤ (m : Int)
    · have HF : Hid (form m = ((m % 128 + 128 : Nat) : Int) :: form (m / 128)) := form_big (by omega)
      go_wp2_with (first
        | (at_builtin; refine wpList_append_own _ rfl _ _ 22 rfl w.heap.size 5 i0 (.int .u8 0) 1 1 Tryd.underlying22 hi hz0 hz1 hz2 rfl (by decide) _ _ _ rfl (hown.alloc _) ⟨wr.heap.size, 0, none⟩ 1 1 [.int .u8 ((m : Int) % 128 + 128)] rfl rfl (cell_one_new _ _ _) (by simp [Value.oneCell']) (by unfold maxLen; omega) (by omega) (by simp; omega) ?_))
      intro v' w1 hown' hgrow _
      have hb1 := below_step hbel hsz hown hgrow
      have ho1 := own_snoc' hown'
      clear hown' hgrow hown hbel
      go_wp2
      go_roundw
      case rel =>
        refine ⟨m / 128, pre ++ [(m : Int) % 128 + 128], by omega, by go_num, ?_, ?_, hb1⟩
        · rw [← HP.out, HF.out, List.append_assoc]
          simp
        · rw [List.length_append, ← Nat.add_assoc, ← List.append_assoc]
          exact ho1
      case measure => simp [intOf]; omega
    · have HF : Hid (form m = [(m : Int)]) := form_small (by omega)
      go_wp2_with (first
        | (at_builtin; refine wpList_append_own _ rfl _ _ 22 rfl w.heap.size 5 i0 (.int .u8 0) 1 1 Tryd.underlying22 hi hz0 hz1 hz2 rfl (by decide) _ _ _ rfl (hown.alloc _) ⟨wr.heap.size, 0, none⟩ 1 1 [.int .u8 (m : Int)] rfl rfl (cell_one_new _ _ _) (by simp [Value.oneCell']) (by unfold maxLen; omega) (by omega) (by simp; omega) ?_))
      intro v' w1 hown' hgrow _
      have hb1 := below_step hbel hsz hown hgrow
      have ho1 := own_snoc' hown'
      have e1 : n + pre.length + 1 = n + (form k).length := by rw [← HP.out, HF.out, List.length_append]; rfl
      rw [e1, List.append_assoc, show pre ++ [(m : Int)] = form k from by rw [← HP.out, HF.out]] at ho1
      clear hown' hgrow hown hbel
      go_wp2
      go_ret
      exact ⟨_, rfl, ho1, hb1⟩

end Go.Proofs.YtiidjdedeenijaaDoor

/- The document's PutText. -/
namespace Go.Proofs.YtiidjdedeenijaaDoor
open Go.RowKit

set_option maxHeartbeats 1600000 in
theorem refPutText_any (a : Option Addr) (n c : Nat) (xs : List Int) (s : ByteArray) (w : World) (hR : Rd w a n c xs) (hn : n ≤ 100000) (hs : s.size ≤ 100000) :
    Calls Tryd.prog 34 #[.slice a n c, .string s] w fun e w' => ∃ v,
      e = .returned v ∧ w'.ownsRow w.heap.size 5 1 v (n + (form s.size).length + s.size) (bc (xs ++ form s.size ++ nums s)) ∧ Below w.heap.size w w' := by
  obtain ⟨i0, hi, hz0, hz1, hz2⟩ := info_parts Tryd.info5
  have hl10 := form_len10 s.size (by omega)
  go_enter Tryd.func34, Tryd.ntmps34
  go_wp2_with (first
    | (go_at_call 35; refine (refPutUint_any a n c xs s.size _ hR (by omega) (by omega)).mono ?_; rintro e w1 ⟨v, rfl, hown, hb1⟩)
    | (at_builtin; refine Lib.wpList_append_own_string _ rfl _ _ 22 9 rfl w.heap.size 5 i0 Tryd.underlying22 Tryd.underlying9 hi hz0 hz1 hz2 _ _ _ rfl hown s rfl (by unfold maxLen; omega) (by omega) hb1.size ?_; intro v2 w2 hown2 hgrow2 _))
  go_ret
  rw [← bc_nums, ← bc_append] at hown2
  exact ⟨_, rfl, hown2, hb1.grown hgrow2 hb1.size (fun k hk => (hown.lt k hk).1)⟩

end Go.Proofs.YtiidjdedeenijaaDoor
