/- subs: act and hear, whatever the kind. -/
import Derived.Test.YtgijofcnknehdaaDoorSuC
namespace Go.Proofs.YtgijofcnknehdaaDoor
open Go.RowKit Go.Joins

/-- What an act does; none: it gives up. -/
def actH (h : Hf) (kind x : Int) : Option (Hf × Int × Int) :=
  if kind = 11 then (if x = 0 then none else some (askH h x)) else if kind = 12 then some (grantH h) else if kind = 13 then some (leaveH h) else if kind = 14 then some (denyH h) else none
/-- What is heard; none: it gives up. -/
def hearH (h : Hf) (mail x : Int) : Option (Hf × Int) :=
  if mail = 1 then some (hAskH h x) else if mail = 2 then some (hLeaveH h x) else if mail = 3 then some (hGrantH h x) else if mail = 4 then some (hDenyH h x) else none
def got (v : Option Value) (e : Ending) : Prop := match v with
  | some v => e = .returned v
  | none => e = .panicked (gaveS 1)

set_option maxHeartbeats 1600000 in
theorem act_any (h : Hf) (kind x : Int) (w : World) : Calls Tryd.prog 18 #[hfv h, .int .i64 kind, .int .u64 x] w fun e w' => got ((actH h kind x).map rv3) e ∧ Below w.heap.size w w' := by
  by_cases k1 : kind = 11
  · subst k1
    by_cases x0 : x = 0
    · rw [show actH h 11 x = none from by unfold actH; rw [if_pos rfl, if_pos x0]]
      show Calls _ _ _ _ fun e w' => e = .panicked (gaveS 1) ∧ Below w.heap.size w w'
      unfold hfv hfc
      go_enter Tryd.func18, Tryd.ntmps18
      go_wp2_with (first
        | (go_at_call 20; refine (demand_no _).mono ?_; rintro e w1 ⟨rfl, rfl⟩)
        | fail)
      exact ⟨rfl, rfl, below2 _ _ _⟩
    · have hw := fun w => ask_any h x w
      obtain ⟨r, hr⟩ : ∃ r, r = askH h x := ⟨_, rfl⟩
      rw [← hr] at hw
      rw [show actH h 11 x = some r from by rw [hr]; unfold actH; rw [if_pos rfl, if_neg x0]]
      clear hr
      unfold rv3 hfv hfc at hw
      have hb2 := below2 w (.cells (hfc h) 24) (.cells (hfc ⟨0, 0, 0, 0⟩) 24)
      have A2 : HfAt ((w.alloc (.cells (hfc h) 24)).alloc (.cells (hfc ⟨0, 0, 0, 0⟩) 24)) (w.heap.size + 1) ⟨0, 0, 0, 0⟩ := by have := heap_alloc_new (w.alloc (.cells (hfc h) 24)) (.cells (hfc ⟨0, 0, 0, 0⟩) 24); simpa [HfAt] using this
      show Calls _ _ _ _ fun e w' => e = .returned (rv3 r) ∧ Below w.heap.size w w'
      unfold rv3 hfv hfc
      unfold hfc at A2 hb2
      have hx : (x != 0) = true := by simp [x0]
      go_enter Tryd.func18, Tryd.ntmps18
      go_wp2_with (first
        | (go_at_call 20; refine (demand_ok _).mono ?_; rintro e w1 ⟨rfl, rfl⟩)
        | (go_at_call 25; refine (hw _).mono ?_; rintro e w5 ⟨rfl, hb5⟩; have B2 := A2.below hb5 A2.lt; have hb6 := hb2.trans (hb5.mono hb2.size))
        | (refine wp_store_half rfl (.tmp 6) (.tmp 18) rfl (w.heap.size + 1) rfl r.1 rfl _ B2 ?_; have C2 := B2.set r.1; have hb7 := B2.setB hb6 (by omega) r.1; generalize w5.setRow (w.heap.size + 1) (hfc r.1) = WX at *))
      simp [bodyPost, results, Tryd.results18, go_sem, C2.c0, C2.c1, C2.c2, C2.c3]
      exact hb7
  by_cases k2 : kind = 12
  · subst k2
    have hw := fun w => grant_any h w
    obtain ⟨r, hr⟩ : ∃ r, r = grantH h := ⟨_, rfl⟩
    rw [← hr] at hw
    rw [show actH h 12 x = some r from by rw [hr]; unfold actH; rw [if_neg (by decide), if_pos rfl]]
    clear hr
    unfold rv3 hfv hfc at hw
    have hb2 := below2 w (.cells (hfc h) 24) (.cells (hfc ⟨0, 0, 0, 0⟩) 24)
    have A2 : HfAt ((w.alloc (.cells (hfc h) 24)).alloc (.cells (hfc ⟨0, 0, 0, 0⟩) 24)) (w.heap.size + 1) ⟨0, 0, 0, 0⟩ := by have := heap_alloc_new (w.alloc (.cells (hfc h) 24)) (.cells (hfc ⟨0, 0, 0, 0⟩) 24); simpa [HfAt] using this
    show Calls _ _ _ _ fun e w' => e = .returned (rv3 r) ∧ Below w.heap.size w w'
    unfold rv3 hfv hfc
    unfold hfc at A2 hb2
    go_enter Tryd.func18, Tryd.ntmps18
    go_wp2_with (first
      | (go_at_call 26; refine (hw _).mono ?_; rintro e w5 ⟨rfl, hb5⟩; have B2 := A2.below hb5 A2.lt; have hb6 := hb2.trans (hb5.mono hb2.size))
      | (refine wp_store_half rfl (.tmp 6) (.tmp 25) rfl (w.heap.size + 1) rfl r.1 rfl _ B2 ?_; have C2 := B2.set r.1; have hb7 := B2.setB hb6 (by omega) r.1; generalize w5.setRow (w.heap.size + 1) (hfc r.1) = WX at *))
    simp [bodyPost, results, Tryd.results18, go_sem, C2.c0, C2.c1, C2.c2, C2.c3]
    exact hb7
  by_cases k3 : kind = 13
  · subst k3
    have hw := fun w => leave_any h w
    obtain ⟨r, hr⟩ : ∃ r, r = leaveH h := ⟨_, rfl⟩
    rw [← hr] at hw
    rw [show actH h 13 x = some r from by rw [hr]; unfold actH; rw [if_neg (by decide), if_neg (by decide), if_pos rfl]]
    clear hr
    unfold rv3 hfv hfc at hw
    have hb2 := below2 w (.cells (hfc h) 24) (.cells (hfc ⟨0, 0, 0, 0⟩) 24)
    have A2 : HfAt ((w.alloc (.cells (hfc h) 24)).alloc (.cells (hfc ⟨0, 0, 0, 0⟩) 24)) (w.heap.size + 1) ⟨0, 0, 0, 0⟩ := by have := heap_alloc_new (w.alloc (.cells (hfc h) 24)) (.cells (hfc ⟨0, 0, 0, 0⟩) 24); simpa [HfAt] using this
    show Calls _ _ _ _ fun e w' => e = .returned (rv3 r) ∧ Below w.heap.size w w'
    unfold rv3 hfv hfc
    unfold hfc at A2 hb2
    go_enter Tryd.func18, Tryd.ntmps18
    go_wp2_with (first
      | (go_at_call 27; refine (hw _).mono ?_; rintro e w5 ⟨rfl, hb5⟩; have B2 := A2.below hb5 A2.lt; have hb6 := hb2.trans (hb5.mono hb2.size))
      | (refine wp_store_half rfl (.tmp 6) (.tmp 32) rfl (w.heap.size + 1) rfl r.1 rfl _ B2 ?_; have C2 := B2.set r.1; have hb7 := B2.setB hb6 (by omega) r.1; generalize w5.setRow (w.heap.size + 1) (hfc r.1) = WX at *))
    simp [bodyPost, results, Tryd.results18, go_sem, C2.c0, C2.c1, C2.c2, C2.c3]
    exact hb7
  by_cases k4 : kind = 14
  · subst k4
    have hw := fun w => deny_any h w
    obtain ⟨r, hr⟩ : ∃ r, r = denyH h := ⟨_, rfl⟩
    rw [← hr] at hw
    rw [show actH h 14 x = some r from by rw [hr]; unfold actH; rw [if_neg (by decide), if_neg (by decide), if_neg (by decide), if_pos rfl]]
    clear hr
    unfold rv3 hfv hfc at hw
    have hb2 := below2 w (.cells (hfc h) 24) (.cells (hfc ⟨0, 0, 0, 0⟩) 24)
    have A2 : HfAt ((w.alloc (.cells (hfc h) 24)).alloc (.cells (hfc ⟨0, 0, 0, 0⟩) 24)) (w.heap.size + 1) ⟨0, 0, 0, 0⟩ := by have := heap_alloc_new (w.alloc (.cells (hfc h) 24)) (.cells (hfc ⟨0, 0, 0, 0⟩) 24); simpa [HfAt] using this
    show Calls _ _ _ _ fun e w' => e = .returned (rv3 r) ∧ Below w.heap.size w w'
    unfold rv3 hfv hfc
    unfold hfc at A2 hb2
    go_enter Tryd.func18, Tryd.ntmps18
    go_wp2_with (first
      | (go_at_call 28; refine (hw _).mono ?_; rintro e w5 ⟨rfl, hb5⟩; have B2 := A2.below hb5 A2.lt; have hb6 := hb2.trans (hb5.mono hb2.size))
      | (refine wp_store_half rfl (.tmp 6) (.tmp 39) rfl (w.heap.size + 1) rfl r.1 rfl _ B2 ?_; have C2 := B2.set r.1; have hb7 := B2.setB hb6 (by omega) r.1; generalize w5.setRow (w.heap.size + 1) (hfc r.1) = WX at *))
    simp [bodyPost, results, Tryd.results18, go_sem, C2.c0, C2.c1, C2.c2, C2.c3]
    exact hb7
  rw [show actH h kind x = none from by unfold actH; rw [if_neg k1, if_neg k2, if_neg k3, if_neg k4]]
  show Calls _ _ _ _ fun e w' => e = .panicked (gaveS 1) ∧ Below w.heap.size w w'
  unfold hfv hfc
  go_enter Tryd.func18, Tryd.ntmps18
  go_wp2_with (first
    | fail)
  exact ⟨rfl, rfl, below2 _ _ _⟩

set_option maxHeartbeats 1600000 in
theorem hear_any (h : Hf) (mail x : Int) (w : World) : Calls Tryd.prog 21 #[hfv h, .int .i64 mail, .int .u64 x] w fun e w' => got ((hearH h mail x).map rv2) e ∧ Below w.heap.size w w' := by
  by_cases k1 : mail = 1
  · subst k1
    have hw := fun w => hAsk_any h x w
    obtain ⟨r, hr⟩ : ∃ r, r = hAskH h x := ⟨_, rfl⟩
    rw [← hr] at hw
    rw [show hearH h 1 x = some r from by rw [hr]; unfold hearH; rw [if_pos rfl]]
    clear hr
    unfold rv2 hfv hfc at hw
    have hb2 := below2 w (.cells (hfc h) 24) (.cells (hfc ⟨0, 0, 0, 0⟩) 24)
    have A2 : HfAt ((w.alloc (.cells (hfc h) 24)).alloc (.cells (hfc ⟨0, 0, 0, 0⟩) 24)) (w.heap.size + 1) ⟨0, 0, 0, 0⟩ := by have := heap_alloc_new (w.alloc (.cells (hfc h) 24)) (.cells (hfc ⟨0, 0, 0, 0⟩) 24); simpa [HfAt] using this
    show Calls _ _ _ _ fun e w' => e = .returned (rv2 r) ∧ Below w.heap.size w w'
    unfold rv2 hfv hfc
    unfold hfc at A2 hb2
    go_enter Tryd.func21, Tryd.ntmps21
    go_wp2_with (first
      | (go_at_call 29; refine (hw _).mono ?_; rintro e w5 ⟨rfl, hb5⟩; have B2 := A2.below hb5 A2.lt; have hb6 := hb2.trans (hb5.mono hb2.size))
      | (refine wp_store_half rfl (.tmp 6) (.tmp 14) rfl (w.heap.size + 1) rfl r.1 rfl _ B2 ?_; have C2 := B2.set r.1; have hb7 := B2.setB hb6 (by omega) r.1; generalize w5.setRow (w.heap.size + 1) (hfc r.1) = WX at *))
    simp [bodyPost, results, Tryd.results21, go_sem, C2.c0, C2.c1, C2.c2, C2.c3]
    exact hb7
  by_cases k2 : mail = 2
  · subst k2
    have hw := fun w => hLeave_any h x w
    obtain ⟨r, hr⟩ : ∃ r, r = hLeaveH h x := ⟨_, rfl⟩
    rw [← hr] at hw
    rw [show hearH h 2 x = some r from by rw [hr]; unfold hearH; rw [if_neg (by decide), if_pos rfl]]
    clear hr
    unfold rv2 hfv hfc at hw
    have hb2 := below2 w (.cells (hfc h) 24) (.cells (hfc ⟨0, 0, 0, 0⟩) 24)
    have A2 : HfAt ((w.alloc (.cells (hfc h) 24)).alloc (.cells (hfc ⟨0, 0, 0, 0⟩) 24)) (w.heap.size + 1) ⟨0, 0, 0, 0⟩ := by have := heap_alloc_new (w.alloc (.cells (hfc h) 24)) (.cells (hfc ⟨0, 0, 0, 0⟩) 24); simpa [HfAt] using this
    show Calls _ _ _ _ fun e w' => e = .returned (rv2 r) ∧ Below w.heap.size w w'
    unfold rv2 hfv hfc
    unfold hfc at A2 hb2
    go_enter Tryd.func21, Tryd.ntmps21
    go_wp2_with (first
      | (go_at_call 30; refine (hw _).mono ?_; rintro e w5 ⟨rfl, hb5⟩; have B2 := A2.below hb5 A2.lt; have hb6 := hb2.trans (hb5.mono hb2.size))
      | (refine wp_store_half rfl (.tmp 6) (.tmp 21) rfl (w.heap.size + 1) rfl r.1 rfl _ B2 ?_; have C2 := B2.set r.1; have hb7 := B2.setB hb6 (by omega) r.1; generalize w5.setRow (w.heap.size + 1) (hfc r.1) = WX at *))
    simp [bodyPost, results, Tryd.results21, go_sem, C2.c0, C2.c1, C2.c2, C2.c3]
    exact hb7
  by_cases k3 : mail = 3
  · subst k3
    have hw := fun w => hGrant_any h x w
    obtain ⟨r, hr⟩ : ∃ r, r = hGrantH h x := ⟨_, rfl⟩
    rw [← hr] at hw
    rw [show hearH h 3 x = some r from by rw [hr]; unfold hearH; rw [if_neg (by decide), if_neg (by decide), if_pos rfl]]
    clear hr
    unfold rv2 hfv hfc at hw
    have hb2 := below2 w (.cells (hfc h) 24) (.cells (hfc ⟨0, 0, 0, 0⟩) 24)
    have A2 : HfAt ((w.alloc (.cells (hfc h) 24)).alloc (.cells (hfc ⟨0, 0, 0, 0⟩) 24)) (w.heap.size + 1) ⟨0, 0, 0, 0⟩ := by have := heap_alloc_new (w.alloc (.cells (hfc h) 24)) (.cells (hfc ⟨0, 0, 0, 0⟩) 24); simpa [HfAt] using this
    show Calls _ _ _ _ fun e w' => e = .returned (rv2 r) ∧ Below w.heap.size w w'
    unfold rv2 hfv hfc
    unfold hfc at A2 hb2
    go_enter Tryd.func21, Tryd.ntmps21
    go_wp2_with (first
      | (go_at_call 31; refine (hw _).mono ?_; rintro e w5 ⟨rfl, hb5⟩; have B2 := A2.below hb5 A2.lt; have hb6 := hb2.trans (hb5.mono hb2.size))
      | (refine wp_store_half rfl (.tmp 6) (.tmp 28) rfl (w.heap.size + 1) rfl r.1 rfl _ B2 ?_; have C2 := B2.set r.1; have hb7 := B2.setB hb6 (by omega) r.1; generalize w5.setRow (w.heap.size + 1) (hfc r.1) = WX at *))
    simp [bodyPost, results, Tryd.results21, go_sem, C2.c0, C2.c1, C2.c2, C2.c3]
    exact hb7
  by_cases k4 : mail = 4
  · subst k4
    have hw := fun w => hDeny_any h x w
    obtain ⟨r, hr⟩ : ∃ r, r = hDenyH h x := ⟨_, rfl⟩
    rw [← hr] at hw
    rw [show hearH h 4 x = some r from by rw [hr]; unfold hearH; rw [if_neg (by decide), if_neg (by decide), if_neg (by decide), if_pos rfl]]
    clear hr
    unfold rv2 hfv hfc at hw
    have hb2 := below2 w (.cells (hfc h) 24) (.cells (hfc ⟨0, 0, 0, 0⟩) 24)
    have A2 : HfAt ((w.alloc (.cells (hfc h) 24)).alloc (.cells (hfc ⟨0, 0, 0, 0⟩) 24)) (w.heap.size + 1) ⟨0, 0, 0, 0⟩ := by have := heap_alloc_new (w.alloc (.cells (hfc h) 24)) (.cells (hfc ⟨0, 0, 0, 0⟩) 24); simpa [HfAt] using this
    show Calls _ _ _ _ fun e w' => e = .returned (rv2 r) ∧ Below w.heap.size w w'
    unfold rv2 hfv hfc
    unfold hfc at A2 hb2
    go_enter Tryd.func21, Tryd.ntmps21
    go_wp2_with (first
      | (go_at_call 32; refine (hw _).mono ?_; rintro e w5 ⟨rfl, hb5⟩; have B2 := A2.below hb5 A2.lt; have hb6 := hb2.trans (hb5.mono hb2.size))
      | (refine wp_store_half rfl (.tmp 6) (.tmp 35) rfl (w.heap.size + 1) rfl r.1 rfl _ B2 ?_; have C2 := B2.set r.1; have hb7 := B2.setB hb6 (by omega) r.1; generalize w5.setRow (w.heap.size + 1) (hfc r.1) = WX at *))
    simp [bodyPost, results, Tryd.results21, go_sem, C2.c0, C2.c1, C2.c2, C2.c3]
    exact hb7
  rw [show hearH h mail x = none from by unfold hearH; rw [if_neg k1, if_neg k2, if_neg k3, if_neg k4]]
  show Calls _ _ _ _ fun e w' => e = .panicked (gaveS 1) ∧ Below w.heap.size w w'
  unfold hfv hfc
  go_enter Tryd.func21, Tryd.ntmps21
  go_wp2_with (first
    | fail)
  exact ⟨rfl, rfl, below2 _ _ _⟩
end Go.Proofs.YtgijofcnknehdaaDoor
