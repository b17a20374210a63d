/- meter: the law's wakes; Same; Signbit. -/
import Derived.Test.YtmlkeobmkjdefaaMtD
namespace Go.Proofs.Ytmlkeobmkjdefaa
open Go.RowKit

theorem run_bits (x : Nat) (w : World) : (callFunc 28 #[.float .f64 x]).run Try.prog w = .ok (.value (.int .u64 x)) w := by
  rw [run_callFunc_extern Try.func28 (by kernel_rfl) (by kernel_rfl) (by kernel_rfl) (e := Extern.MathFloatBits.float64bits) (by kernel_rfl)]
  rfl

set_option maxHeartbeats 400000 in
theorem rbits_any (x : Nat) (w : World) : Calls Try.prog 23 #[.float .f64 x] w fun e w' => e = .returned (.int .u64 (if Fl.nan x then 9221120237041090560 else (x : Int))) ∧ w' = w := by
  have hb := run_bits x
  have hn := nan_neq x
  cases g : Fl.nan x with
  | true =>
    rw [g] at hn
    go_enter Try.func23, Try.ntmps23
    go_wp2
    go_ret
    exact ⟨rfl, rfl⟩
  | false =>
    rw [g] at hn
    go_enter Try.func23, Try.ntmps23
    go_wp2
    go_ret
    exact ⟨rfl, rfl⟩

set_option maxHeartbeats 400000 in
theorem same_any (x : Nat) (w : World) : Calls Try.prog 12 #[.float .f64 x, .float .f64 x] w fun e w' => e = .returned (.bool true) ∧ w' = w := by
  have hb := fun w => rbits_any x w
  generalize (if Fl.nan x then (9221120237041090560 : Int) else (x : Int)) = z at hb
  go_enter Try.func12, Try.ntmps12
  go_wp2_with (first
    | (go_at_call 23; refine (hb _).mono ?_; rintro e w1 ⟨rfl, rfl⟩))
  go_ret
  exact ⟨by simp, rfl⟩

set_option maxHeartbeats 400000 in
theorem signbit_any (x : Nat) (h : x ≤ Fl.inf) (w : World) : Calls Try.prog 19 #[.float .f64 x] w fun e w' => e = .returned (.bool false) ∧ w' = w := by
  have hb := run_bits x
  have hi : Fl.inf = 9218868437227405312 := rfl
  have hx : ¬ ((x : Int) < 0) := by omega
  have hw : wrap64 (x : Int) = (x : Int) := by unfold wrap64; omega
  go_enter Try.func19, Try.ntmps19
  go_wp2
  go_ret
  exact ⟨rfl, rfl⟩

def two : Nat := 4611686018427387904
def ten : Nat := 4621819117588971520
def one : Nat := 4607182418800017408
def three : Nat := 4613937818241073152
def six : Nat := 4618441417868443648

theorem wk1 : (newB two ten).tk 0 ten = (0, ⟨two, ten, 0, 0⟩) := by kernel_rfl
theorem wk2 : (⟨two, ten, 0, 0⟩ : Bk).tk 0 one = (19, ⟨two, ten, 0, 0⟩) := by kernel_rfl
theorem wk3 : (⟨two, ten, 0, 0⟩ : Bk).lvl three = six := by kernel_rfl
theorem wk4 : ((⟨two, ten, 0, 0⟩ : Bk).tk three six).1 = 0 := by kernel_rfl
theorem wko : (⟨two, ten, 0, 0⟩ : Bk).Ok := ⟨by kernel_rfl, by decide, by decide, Nat.zero_le _, by decide, by decide⟩

set_option maxRecDepth 100000 in
set_option maxHeartbeats 1000000 in
theorem wakes_any (w : World) : Calls Try.prog 11 #[] w fun e w' => e = .returned (.bool true) ∧ Below w.heap.size w w' := by
  have iN := fun w => new_ok two ten (by decide) (by kernel_rfl) w
  have T1 := fun p w h => take_any p (newB two ten) (newB_ok (by decide) (by decide) (by kernel_rfl)) 0 ten (by decide) (by decide) w h
  have T2 := fun p w h => take_any p ⟨two, ten, 0, 0⟩ wko 0 one (by decide) (by decide) w h
  have L3 := fun p w h => level_any p ⟨two, ten, 0, 0⟩ wko three (by decide) w h
  have T4 := fun p w h => take_any p ⟨two, ten, 0, 0⟩ wko three six (by decide) (by decide) w h
  rw [wk1] at T1
  rw [wk2] at T2
  rw [wk3] at L3
  rw [wk4] at T4
  have hq : (FloatKind.f64.format.order 4618441417868443648 4618441417868443648 == some .eq) = true := by kernel_rfl
  simp only [two, ten, one, three, six] at iN T1 T2 L3 T4
  go_enter Try.func11, Try.ntmps11
  go_upto_region 4 with (first
    | (go_at_call 9; refine (iN _).mono ?_; clear iN; rintro e w1 ⟨p, rfl, hB1, hp1, hb1⟩))
  replace T1 := T1 p
  replace T2 := T2 p
  replace L3 := L3 p
  replace T4 := T4 p
  go_wp2_with (first
    | (go_at_call 17; refine (T1 _ hB1).mono ?_; clear T1; rintro e w2 ⟨rfl, hB2, hk2⟩)
    | (go_at_call 17; refine (T2 _ hB2).mono ?_; clear T2; rintro e w3 ⟨rfl, hB3, hk3⟩)
    | (go_at_call 13; refine (L3 _ hB3).mono ?_; clear L3; rintro e w4 ⟨rfl, k, rfl⟩; have hB4 := hB3.drewN k)
    | (go_at_call 17; refine (T4 _ hB4).mono ?_; clear T4; rintro e w5 ⟨rfl, hB5, hk5⟩))
  go_ret
  refine ⟨rfl, hb1.trans (Keep.below (hk2.trans (hk3.trans (((Keep.refl _ _).drewN k).trans hk5))) hb1.size (fun k e => by subst e; exact hp1))⟩

end Go.Proofs.Ytmlkeobmkjdefaa
