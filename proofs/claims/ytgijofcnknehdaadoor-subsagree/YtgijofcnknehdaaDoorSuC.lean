/- subs: what is heard; act and hear. -/
import Derived.Test.YtgijofcnknehdaaDoorSuB
namespace Go.Proofs.YtgijofcnknehdaaDoor
open Go.RowKit Go.Joins

def hAskH (h : Hf) (x : Int) : Hf × Int := ({ h with i := 1, m := x }, 42)
def hLeaveH (h : Hf) (x : Int) : Hf × Int := if h.i = 0 then (h, 0) else if h.m = x then ({ h with i := 0, m := 0 }, 44) else (h, 0)
def hGrantH (h : Hf) (x : Int) : Hf × Int := if h.o = 1 then (if h.n = x then ({ h with o := 2 }, 43) else (h, 0)) else (h, 0)
def hDenyH (h : Hf) (x : Int) : Hf × Int := if h.o = 0 then (h, 0) else if h.n = x then ({ h with o := 0, n := 0 }, 45) else (h, 0)
def rv2 (r : Hf × Int) : Value := .tuple #[hfv r.1, .int .i64 r.2]

theorem hAsk_any (h : Hf) (x : Int) (w : World) : Calls Tryd.prog 29 #[hfv h, .int .u64 x] w fun e w' => e = .returned (rv2 (hAskH h x)) ∧ Below w.heap.size w w' := by
  unfold hAskH rv2 hfv hfc
  go_enter Tryd.func29, Tryd.ntmps29
  go_wp2
  simp [bodyPost, results, Tryd.results29, go_sem]
  exact below2 _ _ _
theorem hGrant_any (h : Hf) (x : Int) (w : World) : Calls Tryd.prog 31 #[hfv h, .int .u64 x] w fun e w' => e = .returned (rv2 (hGrantH h x)) ∧ Below w.heap.size w w' := by
  unfold hGrantH rv2 hfv hfc
  by_cases h0 : h.o = 1
  · rw [if_pos h0]
    by_cases h1 : h.n = x
    · rw [if_pos h1]
      go_enter Tryd.func31, Tryd.ntmps31
      go_wp2
      simp [bodyPost, results, Tryd.results31, go_sem]
      exact ⟨h1.symm, below2 _ _ _⟩
    · rw [if_neg h1]
      go_enter Tryd.func31, Tryd.ntmps31
      go_wp2
      simp [bodyPost, results, Tryd.results31, go_sem]
      exact ⟨h0.symm, below2 _ _ _⟩
  · rw [if_neg h0]
    go_enter Tryd.func31, Tryd.ntmps31
    go_wp2
    simp [bodyPost, results, Tryd.results31, go_sem]
    exact below2 _ _ _

set_option maxHeartbeats 800000 in
theorem hLeave_any (h : Hf) (x : Int) (w : World) : Calls Tryd.prog 30 #[hfv h, .int .u64 x] w fun e w' => e = .returned (rv2 (hLeaveH h x)) ∧ Below w.heap.size w w' := by
  unfold hLeaveH rv2
  by_cases h0 : h.i = 0
  · rw [if_pos h0]
    unfold hfv hfc
    go_enter Tryd.func30, Tryd.ntmps30
    go_wp2
    simp [bodyPost, results, Tryd.results30, go_sem]
    exact ⟨h0.symm, below2 _ _ _⟩
  · rw [if_neg h0]
    by_cases h1 : h.m = x
    · rw [if_pos h1]
      subst h1
      have hw := fun w => woIn_any h w
      have hb2 := below2 w (.cells (hfc h) 24) (.cells (hfc ⟨0, 0, 0, 0⟩) 24)
      have A2 : HfAt ((w.alloc (.cells (hfc h) 24)).alloc (.cells (hfc ⟨0, 0, 0, 0⟩) 24)) (w.heap.size + 1) ⟨0, 0, 0, 0⟩ := by have := heap_alloc_new (w.alloc (.cells (hfc h) 24)) (.cells (hfc ⟨0, 0, 0, 0⟩) 24); simpa [HfAt] using this
      unfold hfv hfc at hw ⊢
      unfold hfc at A2 hb2
      go_enter Tryd.func30, Tryd.ntmps30
      go_wp2_with (first
        | (go_at_call 34; refine (hw _).mono ?_; rintro e w5 ⟨rfl, hb5⟩; have B2 := A2.below hb5 A2.lt; have hb6 := hb2.trans (hb5.mono hb2.size))
        | (refine wp_store_half rfl (.tmp 4) (.tmp 17) rfl (w.heap.size + 1) rfl ⟨h.o, h.n, 0, 0⟩ rfl _ B2 ?_; have C2 := B2.set ⟨h.o, h.n, 0, 0⟩; have hb7 := B2.setB hb6 (by omega) ⟨h.o, h.n, 0, 0⟩; generalize w5.setRow (w.heap.size + 1) (hfc ⟨h.o, h.n, 0, 0⟩) = WX at *))
      simp [bodyPost, results, Tryd.results30, go_sem, C2.c0, C2.c1, C2.c2, C2.c3]
      exact hb7
    · rw [if_neg h1]
      have hq : (h.i == 0 || h.m != x) = true := by simp [h1]
      unfold hfv hfc
      go_enter Tryd.func30, Tryd.ntmps30
      go_wp2
      simp [bodyPost, results, Tryd.results30, go_sem]
      exact below2 _ _ _

set_option maxHeartbeats 800000 in
theorem hDeny_any (h : Hf) (x : Int) (w : World) : Calls Tryd.prog 32 #[hfv h, .int .u64 x] w fun e w' => e = .returned (rv2 (hDenyH h x)) ∧ Below w.heap.size w w' := by
  unfold hDenyH rv2
  by_cases h0 : h.o = 0
  · rw [if_pos h0]
    unfold hfv hfc
    go_enter Tryd.func32, Tryd.ntmps32
    go_wp2
    simp [bodyPost, results, Tryd.results32, go_sem]
    exact ⟨h0.symm, below2 _ _ _⟩
  · rw [if_neg h0]
    by_cases h1 : h.n = x
    · rw [if_pos h1]
      subst h1
      have hw := fun w => woOut_any h w
      have hb2 := below2 w (.cells (hfc h) 24) (.cells (hfc ⟨0, 0, 0, 0⟩) 24)
      have A2 : HfAt ((w.alloc (.cells (hfc h) 24)).alloc (.cells (hfc ⟨0, 0, 0, 0⟩) 24)) (w.heap.size + 1) ⟨0, 0, 0, 0⟩ := by have := heap_alloc_new (w.alloc (.cells (hfc h) 24)) (.cells (hfc ⟨0, 0, 0, 0⟩) 24); simpa [HfAt] using this
      unfold hfv hfc at hw ⊢
      unfold hfc at A2 hb2
      go_enter Tryd.func32, Tryd.ntmps32
      go_wp2_with (first
        | (go_at_call 33; refine (hw _).mono ?_; rintro e w5 ⟨rfl, hb5⟩; have B2 := A2.below hb5 A2.lt; have hb6 := hb2.trans (hb5.mono hb2.size))
        | (refine wp_store_half rfl (.tmp 4) (.tmp 17) rfl (w.heap.size + 1) rfl ⟨0, 0, h.i, h.m⟩ rfl _ B2 ?_; have C2 := B2.set ⟨0, 0, h.i, h.m⟩; have hb7 := B2.setB hb6 (by omega) ⟨0, 0, h.i, h.m⟩; generalize w5.setRow (w.heap.size + 1) (hfc ⟨0, 0, h.i, h.m⟩) = WX at *))
      simp [bodyPost, results, Tryd.results32, go_sem, C2.c0, C2.c1, C2.c2, C2.c3]
      exact hb7
    · rw [if_neg h1]
      have hq : (h.o == 0 || h.n != x) = true := by simp [h1]
      unfold hfv hfc
      go_enter Tryd.func32, Tryd.ntmps32
      go_wp2
      simp [bodyPost, results, Tryd.results32, go_sem]
      exact below2 _ _ _
end Go.Proofs.YtgijofcnknehdaaDoor
