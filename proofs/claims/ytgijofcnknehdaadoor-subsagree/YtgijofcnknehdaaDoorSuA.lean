/- subs' small functions: demand, checkRequest, checkHalf, the acts and what is heard. -/
import Derived.Test.YtgijofcnknehdaaDoorOwnA
import Derived.Test.YtgijofcnknehdaaDoorLate
import Derived.BigQuiet
import Derived.BigRegion
import Derived.Defers
import Derived.Recover
import Derived.Laws.Pointers
namespace Go.Proofs.YtgijofcnknehdaaDoor
open Go.RowKit

def gaveS (n : Nat) : List PanicEntry := [{ v := .iface 64 (.agg #[.int .i64 n]), recovered := false }]

theorem Tryd.cells24 : Tryd.prog.cellsOf 24 = 4 := by kernel_rfl

theorem demand_ok (w : World) : Calls Tryd.prog 20 #[.bool true] w fun e w' => e = .returned (.tuple #[]) ∧ w' = w := by
  go_enter Tryd.func20, Tryd.ntmps20
  go_wp2
  go_end0
  exact ⟨rfl, rfl⟩
theorem demand_no (w : World) : Calls Tryd.prog 20 #[.bool false] w fun e w' => e = .panicked (gaveS 1) ∧ w' = w := by
  go_enter Tryd.func20, Tryd.ntmps20
  go_wp2
  exact ⟨rfl, rfl, rfl⟩

/-- A half. -/
structure Hf where
  o : Int
  n : Int
  i : Int
  m : Int
def hfc (h : Hf) : Array Value := #[.int .i64 h.o, .int .u64 h.n, .int .i64 h.i, .int .u64 h.m]
def hfv (h : Hf) : Value := .agg (hfc h)

def in3 (s : Int) : Bool := decide (0 ≤ s) && decide (s ≤ 2)
def okR (s n : Int) : Bool := in3 s && ((s == 0) == (n == 0))
def okH (h : Hf) : Bool := okR h.o h.n && okR h.i h.m
theorem checkR_ok (s n : Int) (w : World) (h : okR s n = true) : Calls Tryd.prog 24 #[.int .i64 s, .int .u64 n] w fun e w' => e = .returned (.tuple #[]) ∧ w' = w := by
  obtain ⟨h0, h3⟩ := Bool.and_eq_true_iff.1 h
  obtain ⟨h1, h2⟩ := Bool.and_eq_true_iff.1 h0
  have h1 := of_decide_eq_true h1
  have h2 := of_decide_eq_true h2
  clear h h0
  go_enter Tryd.func24, Tryd.ntmps24
  go_wp2_with (first
    | (go_at_call 20; refine (demand_ok _).mono ?_; rintro e w1 ⟨rfl, rfl⟩))
  go_end0
  exact ⟨rfl, rfl⟩
theorem checkR_no (s n : Int) (w : World) (h : okR s n = false) : Calls Tryd.prog 24 #[.int .i64 s, .int .u64 n] w fun e w' => e = .panicked (gaveS 1) ∧ w' = w := by
  unfold okR in3 at h
  by_cases h1 : 0 ≤ s
  · by_cases h2 : s ≤ 2
    · rw [decide_eq_true h1, decide_eq_true h2] at h
      have h3 : ((s == 0) == (n == 0)) = false := h
      clear h
      go_enter Tryd.func24, Tryd.ntmps24
      go_wp2_with (first
        | (go_at_call 20; (first | refine (demand_no _).mono ?_ | refine (demand_ok _).mono ?_); rintro e w1 ⟨rfl, rfl⟩))
      exact ⟨rfl, rfl, rfl⟩
    · clear h
      go_enter Tryd.func24, Tryd.ntmps24
      go_wp2_with (first
        | (go_at_call 20; refine (demand_no _).mono ?_; rintro e w1 ⟨rfl, rfl⟩))
      exact ⟨rfl, rfl, rfl⟩
  · clear h
    go_enter Tryd.func24, Tryd.ntmps24
    go_wp2_with (first
      | (go_at_call 20; refine (demand_no _).mono ?_; rintro e w1 ⟨rfl, rfl⟩))
    exact ⟨rfl, rfl, rfl⟩

/-- It goes through, or gives up with ErrArg. -/
def Ga : Bool → Ending → Prop
  | true, e => e = .returned (.tuple #[])
  | false, e => e = .panicked (gaveS 1)
theorem checkR_at (s n : Int) (w : World) (b : Bool) (h : okR s n = b) : Calls Tryd.prog 24 #[.int .i64 s, .int .u64 n] w fun e w' => Ga b e ∧ w' = w := by
  cases b with
  | true => exact checkR_ok s n w h
  | false => exact checkR_no s n w h

theorem below1 (w : World) (a : Obj) : Below w.heap.size w (w.alloc a) := (Below.refl _ _).alloc (Nat.le_refl _) _
theorem below2 (w : World) (a b : Obj) : Below w.heap.size w ((w.alloc a).alloc b) := ((Below.refl _ _).alloc (Nat.le_refl _) _).alloc (by simp) _

theorem checkH_ok (h : Hf) (w : World) (hh : okH h = true) : Calls Tryd.prog 16 #[hfv h] w fun e w' => e = .returned (.tuple #[]) ∧ Below w.heap.size w w' := by
  obtain ⟨h1, h2⟩ := Bool.and_eq_true_iff.1 hh
  unfold hfv hfc
  have hb := below1 w (.cells #[.int .i64 h.o, .int .u64 h.n, .int .i64 h.i, .int .u64 h.m] 24)
  go_enter Tryd.func16, Tryd.ntmps16
  go_wp2_with (first
    | (go_at_call 24; refine (checkR_ok _ _ _ (by first | exact h1 | exact h2)).mono ?_; rintro e w1 ⟨rfl, rfl⟩))
  go_end0
  exact ⟨rfl, hb⟩
theorem checkH_no (h : Hf) (w : World) (hh : okH h = false) : Calls Tryd.prog 16 #[hfv h] w fun e w' => e = .panicked (gaveS 1) ∧ Below w.heap.size w w' := by
  unfold okH at hh
  unfold hfv hfc
  have hb := below1 w (.cells #[.int .i64 h.o, .int .u64 h.n, .int .i64 h.i, .int .u64 h.m] 24)
  cases h1 : okR h.o h.n with
  | true =>
    rw [h1] at hh
    have h2 : okR h.i h.m = false := hh
    clear hh
    go_enter Tryd.func16, Tryd.ntmps16
    go_wp2_with (first
      | (go_at_call 24; refine (checkR_at _ _ _ _ (by first | exact h1 | exact h2)).mono ?_; rintro e w1 ⟨hg, rfl⟩; cases hg))
    exact ⟨rfl, rfl, hb⟩
  | false =>
    clear hh
    go_enter Tryd.func16, Tryd.ntmps16
    go_wp2_with (first
      | (go_at_call 24; refine (checkR_no _ _ _ h1).mono ?_; rintro e w1 ⟨rfl, rfl⟩))
    exact ⟨rfl, rfl, hb⟩

theorem woOut_any (h : Hf) (w : World) : Calls Tryd.prog 33 #[hfv h] w fun e w' => e = .returned (hfv { h with o := 0, n := 0 }) ∧ Below w.heap.size w w' := by
  unfold hfv hfc
  go_enter Tryd.func33, Tryd.ntmps33
  go_wp2
  simp [bodyPost, results, Tryd.results33, go_sem]
  exact below2 _ _ _
theorem woIn_any (h : Hf) (w : World) : Calls Tryd.prog 34 #[hfv h] w fun e w' => e = .returned (hfv { h with i := 0, m := 0 }) ∧ Below w.heap.size w w' := by
  unfold hfv hfc
  go_enter Tryd.func34, Tryd.ntmps34
  go_wp2
  simp [bodyPost, results, Tryd.results34, go_sem]
  exact below2 _ _ _
end Go.Proofs.YtgijofcnknehdaaDoor
