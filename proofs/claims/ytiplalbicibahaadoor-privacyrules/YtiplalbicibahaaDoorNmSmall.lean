/- name's small functions: what each answers. -/
import Derived.Test.YtiplalbicibahaaDoorProg
import Derived.Test.YtiplalbicibahaaDoorNmDef
import Derived.WalkKit
import Derived.WalkLawsBesides
import Derived.WalkSpells
namespace Go.Proofs.YtiplalbicibahaaDoor.Nm
open Go.RowKit

theorem ret_bool {a b : Bool} (h : a = b) : Ending.returned (.bool a) = .returned (.bool b) := by rw [h]
theorem ret_int {k : IntKind} {a b : Int} (h : a = b) : Ending.returned (.int k a) = .returned (.int k b) := by rw [h]

theorem within_any (r a b : Int) (w : World) : Calls Tryd.prog 78 #[.int .i32 r, .int .i32 a, .int .i32 b] w fun e w' => e = .returned (.bool (decide (a ≤ r ∧ r ≤ b))) ∧ w' = w := by
  go_enter Tryd.func78, Tryd.ntmps78
  go_wp2
  all_goals go_ret
  all_goals (refine ⟨ret_bool ?_, rfl⟩; simp_all)
  all_goals omega

theorem ofLabel_any (r : Int) (w : World) : Calls Tryd.prog 80 #[.int .i32 r] w fun e w' => e = .returned (.bool (labelB r)) ∧ w' = w := by
  unfold labelB
  go_enter Tryd.func80, Tryd.ntmps80
  go_wp2_with (go_at_call 78; refine (within_any _ _ _ _).mono ?_; rintro e w1 ⟨rfl, rfl⟩)
  all_goals go_ret
  all_goals (refine ⟨ret_bool ?_, rfl⟩; simp_all)

theorem small_any (r : Int) (w : World) (h0 : 0 ≤ r) (h1 : r ≤ 1114111) : Calls Tryd.prog 79 #[.int .i32 r] w fun e w' => e = .returned (.int .i32 (small r)) ∧ w' = w := by
  unfold small
  by_cases hc : 65 ≤ r ∧ r ≤ 90
  · have hd : decide (65 ≤ r ∧ r ≤ 90) = true := decide_eq_true hc
    go_enter Tryd.func79, Tryd.ntmps79
    go_wp2_with (go_at_call 78; refine (within_any _ _ _ _).mono ?_; rintro e w1 ⟨rfl, rfl⟩)
    all_goals go_ret
    all_goals (refine ⟨ret_int ?_, rfl⟩; simp_all)
  · have hd : decide (65 ≤ r ∧ r ≤ 90) = false := decide_eq_false hc
    go_enter Tryd.func79, Tryd.ntmps79
    go_wp2_with (go_at_call 78; refine (within_any _ _ _ _).mono ?_; rintro e w1 ⟨rfl, rfl⟩)
    all_goals go_ret
    all_goals (refine ⟨ret_int ?_, rfl⟩; simp_all)

theorem folded_any (r : Int) (w : World) (h0 : 0 ≤ r) (h1 : r ≤ 1114111) : Calls Tryd.prog 71 #[.int .i32 r] w fun e w' => e = .returned (.int .i32 (foldR r)) ∧ w' = w := by
  by_cases ha : r = 215
  · subst ha
    go_enter Tryd.func71, Tryd.ntmps71
    go_wp2
    go_ret
    exact ⟨rfl, rfl⟩
  by_cases hb : r = 930
  · subst hb
    go_enter Tryd.func71, Tryd.ntmps71
    go_wp2
    go_ret
    exact ⟨rfl, rfl⟩
  by_cases hc : 192 ≤ r ∧ r ≤ 222
  · have hd : decide (192 ≤ r ∧ r ≤ 222) = true := decide_eq_true hc
    have hf : foldR r = r + 32 := by unfold foldR; rw [if_pos (by omega)]
    go_enter Tryd.func71, Tryd.ntmps71
    go_wp2_with (go_at_call 78; refine (within_any _ _ _ _).mono ?_; rintro e w1 ⟨rfl, rfl⟩)
    all_goals go_ret
    all_goals (refine ⟨ret_int ?_, rfl⟩; simp_all)
  have hd : decide (192 ≤ r ∧ r ≤ 222) = false := decide_eq_false hc
  by_cases hc2 : 913 ≤ r ∧ r ≤ 937
  · have hd2 : decide (913 ≤ r ∧ r ≤ 937) = true := decide_eq_true hc2
    have hf : foldR r = r + 32 := by unfold foldR; rw [if_pos (by omega)]
    go_enter Tryd.func71, Tryd.ntmps71
    go_wp2_with (go_at_call 78; refine (within_any _ _ _ _).mono ?_; rintro e w1 ⟨rfl, rfl⟩)
    all_goals go_ret
    all_goals (refine ⟨ret_int ?_, rfl⟩; simp_all)
  have hd2 : decide (913 ≤ r ∧ r ≤ 937) = false := decide_eq_false hc2
  by_cases hc3 : 1040 ≤ r ∧ r ≤ 1071
  · have hd3 : decide (1040 ≤ r ∧ r ≤ 1071) = true := decide_eq_true hc3
    have hf : foldR r = r + 32 := by unfold foldR; rw [if_pos (by omega)]
    go_enter Tryd.func71, Tryd.ntmps71
    go_wp2_with (go_at_call 78; refine (within_any _ _ _ _).mono ?_; rintro e w1 ⟨rfl, rfl⟩)
    all_goals go_ret
    all_goals (refine ⟨ret_int ?_, rfl⟩; simp_all)
  have hd3 : decide (1040 ≤ r ∧ r ≤ 1071) = false := decide_eq_false hc3
  have qa : (r == 215) = false := by simpa using ha
  have qb : (r == 930) = false := by simpa using hb
  have hf : foldR r = small r := by
    unfold foldR small
    by_cases hs : 65 ≤ r ∧ r ≤ 90
    · rw [if_pos hs, if_pos (.inl hs)]
    · rw [if_neg hs, if_neg (by omega)]
  go_enter Tryd.func71, Tryd.ntmps71
  go_wp2_with (first
    | (go_at_call 78; refine (within_any _ _ _ _).mono ?_; rintro e w1 ⟨rfl, rfl⟩)
    | (go_at_call 79; refine (small_any _ _ h0 h1).mono ?_; rintro e w1 ⟨rfl, rfl⟩))
  all_goals go_ret
  all_goals (refine ⟨ret_int ?_, rfl⟩; simp_all)

theorem ofLocal_any (r : Int) (w : World) : Calls Tryd.prog 72 #[.int .i32 r] w fun e w' => e = .returned (.bool (letterB r)) ∧ w' = w := by
  by_cases ha : r = 46
  · subst ha
    go_enter Tryd.func72, Tryd.ntmps72
    go_wp2
    go_ret
    exact ⟨rfl, rfl⟩
  by_cases hb : r = 45
  · subst hb
    go_enter Tryd.func72, Tryd.ntmps72
    go_wp2
    go_ret
    exact ⟨rfl, rfl⟩
  by_cases hc : r = 95
  · subst hc
    go_enter Tryd.func72, Tryd.ntmps72
    go_wp2
    go_ret
    exact ⟨rfl, rfl⟩
  by_cases hd : r = 247
  · subst hd
    go_enter Tryd.func72, Tryd.ntmps72
    go_wp2
    go_ret
    exact ⟨rfl, rfl⟩
  have qa : (r == 46) = false := by simpa using ha
  have qb : (r == 45) = false := by simpa using hb
  have qc : (r == 95) = false := by simpa using hc
  have qd : (r == 247) = false := by simpa using hd
  have hl : letterB r = (labelB r || decide (223 ≤ r ∧ r ≤ 255) || decide (945 ≤ r ∧ r ≤ 969) || decide (1072 ≤ r ∧ r ≤ 1103)) := by
    unfold letterB labelB
    rw [← Bool.decide_or, ← Bool.decide_or, ← Bool.decide_or]
    exact decide_eq_decide.2 (by omega)
  rw [hl]
  clear hl
  generalize hL : labelB r = L
  cases L with
  | true =>
    go_enter Tryd.func72, Tryd.ntmps72
    go_wp2_with (first
      | (go_at_call 80; refine (ofLabel_any _ _).mono ?_; rw [hL]; rintro e w1 ⟨rfl, rfl⟩)
      | (go_at_call 78; refine (within_any _ _ _ _).mono ?_; rintro e w1 ⟨rfl, rfl⟩))
    go_ret
    exact ⟨rfl, rfl⟩
  | false =>
    generalize hA : decide (223 ≤ r ∧ r ≤ 255) = A
    generalize hB : decide (945 ≤ r ∧ r ≤ 969) = B
    generalize hC : decide (1072 ≤ r ∧ r ≤ 1103) = C
    cases A <;> cases B <;> cases C
    all_goals
      go_enter Tryd.func72, Tryd.ntmps72
      go_wp2_with (first
        | (go_at_call 80; refine (ofLabel_any _ _).mono ?_; rw [hL]; rintro e w1 ⟨rfl, rfl⟩)
        | (go_at_call 78; refine (within_any _ _ _ _).mono ?_; (first | rw [hA] | rw [hB] | rw [hC]); rintro e w1 ⟨rfl, rfl⟩))
      go_ret
      exact ⟨rfl, rfl⟩

/-- The value with which a preparing gives up. -/
def gaveUp (n : Int) : List PanicEntry := [{ v := .iface 106 (.agg #[.int .i64 n]), recovered := false }]

theorem giveUp_any (n : Int) (w : World) : Calls Tryd.prog 73 #[.int .i64 n] w fun e w' => e = .panicked (gaveUp n) ∧ w' = w := by
  go_enter Tryd.func73, Tryd.ntmps73
  go_wp2
  exact ⟨rfl, rfl, rfl⟩
end Go.Proofs.YtiplalbicibahaaDoor.Nm
