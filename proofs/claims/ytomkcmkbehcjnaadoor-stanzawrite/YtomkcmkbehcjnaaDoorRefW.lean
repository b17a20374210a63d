/- The document's answer, written: PutUint, PutInt, PutFloat. -/
import Derived.Test.YtomkcmkbehcjnaaDoorPutF
import Derived.Test.YtomkcmkbehcjnaaDoorPutI
import Derived.Test.YtomkcmkbehcjnaaDoorTwin
namespace Go.Proofs.YtomkcmkbehcjnaaDoor
open Go.RowKit

theorem own_snoc' {w : World} {B N : Nat} {v : Value} {pre : List Int} {x : Int} (h : w.ownsRow B 5 1 v (N + 1) (bc pre ++ [.int .u8 x])) : w.ownsRow B 5 1 v (N + 1) (bc (pre ++ [x])) := by
  simpa [bc] using h

set_option maxHeartbeats 1600000 in
theorem refPutUint_any (a : Option Addr) (n c : Nat) (xs : List Int) (k : Nat) (w : World) (hR : Rd w a n c xs) (hn : n ≤ 100000) (hk : k < 18446744073709551616) :
    Calls Tryd.prog 33 #[.slice a n c, .int .u64 k] w fun e w' => ∃ v,
      e = .returned v ∧ w'.ownsRow w.heap.size 5 1 v (n + (form k).length) (bc (xs ++ form k)) ∧ Below w.heap.size w w' := by
  obtain ⟨i0, hi, hz0, hz1, hz2⟩ := info_parts Tryd.info5
  have hl10 := form_len10 k hk
  go_enter Tryd.func33, Tryd.ntmps33
  go_wp2_with (at_builtin; refine wp_app0 rfl _ _ rfl rfl a n c xs rfl hR (by omega) ?_; intro v0 w0 hown0 hb0)
  go_loopw [1, 5] (fun t v wr => ∃ (m : Nat) (pre : List Int), m ≤ k ∧ t = .int .u64 m ∧ pre ++ form m = form k ∧ wr.ownsRow w.heap.size 5 1 v (n + pre.length) (bc (xs ++ pre)) ∧ Below w.heap.size w wr) (fun t _ _ => (intOf t).toNat)
  case atStart => exact ⟨k, [], Nat.le_refl _, rfl, rfl, by simpa using hown0, hb0⟩
  case round =>
    obtain ⟨m, pre, hmn, rfl, hpre, hown, hbel⟩ := hrel
    have hlen : pre.length + (form m).length = (form k).length := by rw [← hpre, List.length_append]
    have hp1 := form_pos m
    have hsz := hbel.size
    have HP : Hid (pre ++ form m = form k) := hpre
    clear hpre
    by_cases hm : (128 : Int) ≤ (m : Int)
    · have HF : Hid (form m = ((m % 128 + 128 : Nat) : Int) :: form (m / 128)) := form_big (by omega)
      go_wp2_with (first
        | (at_builtin; refine wpList_append_own _ rfl _ _ 28 rfl w.heap.size 5 i0 (.int .u8 0) 1 1 Tryd.underlying28 hi hz0 hz1 hz2 rfl (by decide) _ _ _ rfl (hown.alloc _) ⟨wr.heap.size, 0, none⟩ 1 1 [.int .u8 ((m : Int) % 128 + 128)] rfl rfl (cell_one_new _ _ _) (by simp [Value.oneCell']) (by unfold maxLen; omega) (by omega) (by simp; omega) ?_))
      intro v' w1 hown' hgrow _
      have hb1 := below_step hbel hsz hown hgrow
      have ho1 := own_snoc' hown'
      clear hown' hgrow hown hbel
      go_wp2
      go_roundw
      case rel =>
        refine ⟨m / 128, pre ++ [(m : Int) % 128 + 128], by omega, by go_num, ?_, ?_, hb1⟩
        · rw [← HP.out, HF.out, List.append_assoc]
          simp
        · rw [List.length_append, ← Nat.add_assoc, ← List.append_assoc]
          exact ho1
      case measure => simp [intOf]; omega
    · have HF : Hid (form m = [(m : Int)]) := form_small (by omega)
      go_wp2_with (first
        | (at_builtin; refine wpList_append_own _ rfl _ _ 28 rfl w.heap.size 5 i0 (.int .u8 0) 1 1 Tryd.underlying28 hi hz0 hz1 hz2 rfl (by decide) _ _ _ rfl (hown.alloc _) ⟨wr.heap.size, 0, none⟩ 1 1 [.int .u8 (m : Int)] rfl rfl (cell_one_new _ _ _) (by simp [Value.oneCell']) (by unfold maxLen; omega) (by omega) (by simp; omega) ?_))
      intro v' w1 hown' hgrow _
      have hb1 := below_step hbel hsz hown hgrow
      have ho1 := own_snoc' hown'
      have e1 : n + pre.length + 1 = n + (form k).length := by rw [← HP.out, HF.out, List.length_append]; rfl
      rw [e1, List.append_assoc, show pre ++ [(m : Int)] = form k from by rw [← HP.out, HF.out]] at ho1
      clear hown' hgrow hown hbel
      go_wp2
      go_ret
      exact ⟨_, rfl, ho1, hb1⟩

set_option maxHeartbeats 800000 in
theorem refPutInt_any (a : Option Addr) (n c : Nat) (xs : List Int) (k : Int) (w : World) (hR : Rd w a n c xs) (hn : n ≤ 100000) (h0 : -9223372036854775808 ≤ k) (h1 : k ≤ 9223372036854775807) :
    Calls Tryd.prog 35 #[.slice a n c, .int .i64 k] w fun e w' => ∃ v,
      e = .returned v ∧ w'.ownsRow w.heap.size 5 1 v (n + (form (foldv k)).length) (bc (xs ++ form (foldv k))) ∧ Below w.heap.size w w' := by
  have HC := refPutUint_any a n c xs (foldv k) w hR hn (fold_lt k h0 h1)
  by_cases hk : 0 ≤ k
  · have e1 : (foldv k : Int) = k * 2 := by unfold foldv; rw [if_neg (by omega)]; omega
    rw [e1] at HC
    go_enter Tryd.func35, Tryd.ntmps35
    go_wp2_with (go_at_call 33; refine HC.mono ?_; rintro e w1 ⟨v, rfl, ho, hb⟩)
    go_ret
    exact ⟨_, rfl, ho, hb⟩
  · have e1 : (foldv k : Int) = -(k + 1) * 2 + 1 := by unfold foldv; rw [if_pos (by omega)]; omega
    rw [e1] at HC
    go_enter Tryd.func35, Tryd.ntmps35
    go_wp2_with (go_at_call 33; refine HC.mono ?_; rintro e w1 ⟨v, rfl, ho, hb⟩)
    go_ret
    exact ⟨_, rfl, ho, hb⟩

set_option maxRecDepth 100000 in
set_option maxHeartbeats 1600000 in
theorem refPutFloat_any (a : Option Addr) (n c : Nat) (xs : List Int) (x : Nat) (w : World) (hR : Rd w a n c xs) (hn : n ≤ 100000) (hx : x < 18446744073709551616) :
    Calls Tryd.prog 36 #[.slice a n c, .float .f64 x] w fun e w' => ∃ v,
      e = .returned v ∧ w'.ownsRow w.heap.size 5 1 v (n + 8) (bc (xs ++ fbl (bitsv x) 8)) ∧ Below w.heap.size w w' := by
  obtain ⟨i0, hi, hz0, hz1, hz2⟩ := info_parts Tryd.info5
  have hbv : bitsv x < 18446744073709551616 := by unfold bitsv; split <;> omega
  go_enter Tryd.func36, Tryd.ntmps36
  go_wp2_with (at_builtin; refine wp_app0 rfl _ _ rfl rfl a n c xs rfl hR (by omega) ?_; intro v0 w0 hown0 hb0)
  go_loopw [5, 6] (fun v t wr => ∃ j : Nat, j ≤ 8 ∧ t = .int .i64 (7 - j) ∧ wr.ownsRow w.heap.size 5 1 v (n + j) (bc (xs ++ fbl (bitsv x) j)) ∧ Below w.heap.size w wr) (fun _ t _ => (intOf t + 1).toNat)
  case atStart => exact ⟨0, by omega, rfl, by simpa [fbl] using hown0, hb0⟩
  case round =>
    obtain ⟨j, hj, rfl, hown, hbel⟩ := hrel
    have hsz := hbel.size
    by_cases hj8 : j < 8
    · have hj7 : (0 : Int) ≤ 7 - (j : Int) := by omega
      go_wp2_with (first
        | (go_at_call 56; refine (refBits_any _ _).mono ?_; rintro e w' ⟨rfl, rfl⟩)
        | (at_builtin; refine wpList_append_own _ rfl _ _ 28 rfl w.heap.size 5 i0 (.int .u8 0) 1 1 Tryd.underlying28 hi hz0 hz1 hz2 rfl (by decide) _ _ _ rfl (hown.alloc _) ⟨w'.heap.size, 0, none⟩ 1 1 [.int .u8 ((bitsv x : Int) / 2 ^ (8 * (7 - j)) % 256)] rfl rfl (cell_one_new _ _ _) (by simp [Value.oneCell']) (by unfold maxLen; omega) (by omega) (by simp; omega) ?_))
      intro v' w1 hown' hgrow _
      have hb1 := below_step hbel hsz hown hgrow
      have ho1 := own_snoc' hown'
      clear hown' hgrow hown hbel
      go_wp2
      go_roundw
      case rel =>
        refine ⟨j + 1, by omega, by go_num, ?_, hb1⟩
        have e1 : fbl (bitsv x) (j + 1) = fbl (bitsv x) j ++ [(bitsv x : Int) / 2 ^ (8 * (7 - j)) % 256] := by rw [fbl]; simp
        rw [e1, ← List.append_assoc]
        exact ho1
      case measure => simp [intOf]; omega
    · have hj' : j = 8 := by omega
      subst hj'
      go_wp2
      go_ret
      exact ⟨_, rfl, hown, hbel⟩

end Go.Proofs.YtomkcmkbehcjnaaDoor
