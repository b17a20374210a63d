/- privacy: a rule's parts; a rule; Parse. -/
import Derived.Test.YtiplalbicibahaaDoorPvA
import Derived.Shelf.Strconv.Clone
set_option maxRecDepth 100000
namespace Go.Proofs.YtiplalbicibahaaDoor
open Go.RowKit Go.Joins Go.Shelf

theorem clone_any (s : ByteArray) (w : World) (hs : s.size ≤ 281474976710656) : Calls Tryd.prog 30 #[.string s] w fun e w' => e = .returned (.string s) ∧ Below w.heap.size w w' := by
  have c : Calls Tryd.prog 44 #[.string s] w fun e w' => e = .returned (.string s) ∧ Below w.heap.size w w' := Any.stringslite_Clone Tryd.laysM316 s w hs
  go_enter Tryd.func30, Tryd.ntmps30
  go_wp2_with (go_at_call 44; refine c.mono ?_; rintro e w1 ⟨rfl, hb⟩)
  go_ret
  exact ⟨rfl, hb⟩

theorem verdict_any (b : Nat) (s : ByteArray) (w : World) (h : RdrAt w b s) (hs : s.size ≤ 281474976710656) :
    Calls Tryd.prog 35 #[.pointer (some ⟨b, 0, none⟩)] w fun e w' => Gv (verdictR s.data.toList).2.2 (.bool (verdictR s.data.toList).1) e ∧ Keep (fun i => i = b) w w' ∧ ((verdictR s.data.toList).2.2 = 0 → RdrAt w' b (ba (verdictR s.data.toList).2.1)) := by
  have cW := word_any b s w h hs
  unfold verdictR
  generalize Nm.cutA 32 s.data.toList = A at cW ⊢
  generalize Nm.cutZ 32 s.data.toList = Z at cW ⊢
  generalize Nm.hasB 32 s.data.toList = H at cW ⊢
  clear h
  cases H with
  | false =>
    have cW' : Calls Tryd.prog 48 #[.pointer (some ⟨b, 0, none⟩)] w (fun e w' => e = .panicked (gaveP 2) ∧ Keep (fun i => i = b) w w') := cW.mono (fun e w' h => ⟨h.2.elim (fun k => by cases k.1) (fun k => k.2), h.1⟩)
    clear cW
    rw [if_neg (by decide)]
    go_enter Tryd.func35, Tryd.ntmps35
    go_wp2_with (go_at_call 48; refine cW'.mono ?_; rintro e w1 ⟨rfl, hk⟩)
    exact ⟨rfl, gv_no (by decide) rfl, hk, fun h => by cases h⟩
  | true =>
    have cW' : Calls Tryd.prog 48 #[.pointer (some ⟨b, 0, none⟩)] w (fun e w' => e = .returned (.string (ba A)) ∧ Hid (RdrAt w' b (ba Z) ∧ Keep (fun i => i = b) w w')) := cW.mono (fun e w' h => h.2.elim (fun k => ⟨k.2.1, k.2.2, h.1⟩) (fun k => by cases k.1))
    clear cW
    rw [if_pos rfl]
    have e1 : ((ba A).toList == [97, 108, 108, 111, 119]) = (A == wAllow) := ba_eq _ _
    have e2 : ((ba A).toList == [100, 101, 110, 121]) = (A == wDeny) := ba_eq _ _
    generalize (A == wAllow) = a1 at e1 ⊢
    generalize (A == wDeny) = a2 at e2 ⊢
    generalize ba A = S at e1 e2 cW'
    have cD := fun w => dem_ok 2 w
    have cN := fun w => dem_no 2 w
    cases a1 with
    | true =>
      show Calls _ _ _ _ fun e w' => Gv 0 (.bool true) e ∧ _ ∧ (0 = 0 → RdrAt w' b (ba Z))
      clear e2 cN
      go_enter Tryd.func35, Tryd.ntmps35
      go_wp2_with (first
        | (go_at_call 48; refine cW'.mono ?_; clear cW'; rintro e w1 ⟨rfl, hk⟩)
        | (go_at_call 49; refine (cD _).mono ?_; rintro e w2 ⟨rfl, hw2⟩; replace hw2 := hw2.symm; subst hw2))
      go_ret
      exact ⟨gv_ok rfl, hk.out.2, fun _ => hk.out.1⟩
    | false => cases a2 with
      | true =>
        show Calls _ _ _ _ fun e w' => Gv 0 (.bool false) e ∧ _ ∧ (0 = 0 → RdrAt w' b (ba Z))
        clear cN
        go_enter Tryd.func35, Tryd.ntmps35
        go_wp2_with (first
          | (go_at_call 48; refine cW'.mono ?_; clear cW'; rintro e w1 ⟨rfl, hk⟩)
          | (go_at_call 49; refine (cD _).mono ?_; rintro e w2 ⟨rfl, hw2⟩; replace hw2 := hw2.symm; subst hw2))
        go_ret
        exact ⟨gv_ok rfl, hk.out.2, fun _ => hk.out.1⟩
      | false =>
        show Calls _ _ _ _ fun e w' => Gv 2 (.bool false) e ∧ _ ∧ (2 = 0 → RdrAt w' b (ba []))
        clear cD
        go_enter Tryd.func35, Tryd.ntmps35
        go_wp2_with (first
          | (go_at_call 48; refine cW'.mono ?_; clear cW'; rintro e w1 ⟨rfl, hk⟩)
          | (go_at_call 49; refine (cN _).mono ?_; rintro e w2 ⟨rfl, hw2⟩; replace hw2 := hw2.symm; subst hw2))
        exact ⟨rfl, gv_no (by decide) rfl, hk.out.2, fun h => by cases h⟩

theorem ways_any (b : Nat) (s : ByteArray) (w : World) (h : RdrAt w b s) (hs : s.size ≤ 281474976710656) :
    Calls Tryd.prog 36 #[.pointer (some ⟨b, 0, none⟩)] w fun e w' => Gv (waysR s.data.toList).2.2.2 (.tuple #[.bool (waysR s.data.toList).1, .bool (waysR s.data.toList).2.1]) e ∧ Keep (fun i => i = b) w w' ∧ ((waysR s.data.toList).2.2.2 = 0 → RdrAt w' b (ba (waysR s.data.toList).2.2.1)) := by
  have cW := word_any b s w h hs
  unfold waysR
  generalize Nm.cutA 32 s.data.toList = A at cW ⊢
  generalize Nm.cutZ 32 s.data.toList = Z at cW ⊢
  generalize Nm.hasB 32 s.data.toList = H at cW ⊢
  clear h
  cases H with
  | false =>
    have cW' : Calls Tryd.prog 48 #[.pointer (some ⟨b, 0, none⟩)] w (fun e w' => e = .panicked (gaveP 2) ∧ Keep (fun i => i = b) w w') := cW.mono (fun e w' h => ⟨h.2.elim (fun k => by cases k.1) (fun k => k.2), h.1⟩)
    clear cW
    rw [if_neg (by decide)]
    go_enter Tryd.func36, Tryd.ntmps36
    go_wp2_with (go_at_call 48; refine cW'.mono ?_; rintro e w1 ⟨rfl, hk⟩)
    exact ⟨rfl, gv_no (by decide) rfl, hk, fun h => by cases h⟩
  | true =>
    have cW' : Calls Tryd.prog 48 #[.pointer (some ⟨b, 0, none⟩)] w (fun e w' => e = .returned (.string (ba A)) ∧ Hid (RdrAt w' b (ba Z) ∧ Keep (fun i => i = b) w w')) := cW.mono (fun e w' h => h.2.elim (fun k => ⟨k.2.1, k.2.2, h.1⟩) (fun k => by cases k.1))
    clear cW
    rw [if_pos rfl]
    have e1 : ((ba A).toList == [105, 110]) = (A == wIn) := ba_eq _ _
    have e2 : ((ba A).toList == [98, 111, 116, 104]) = (A == wBoth) := ba_eq _ _
    have e3 : ((ba A).toList == [111, 117, 116]) = (A == wOut) := ba_eq _ _
    generalize (A == wIn) = a1 at e1 ⊢
    generalize (A == wBoth) = a2 at e2 ⊢
    generalize (A == wOut) = a3 at e3 ⊢
    generalize ba A = S at e1 e2 e3 cW'
    have cD := fun w => dem_ok 2 w
    have cN := fun w => dem_no 2 w
    cases a1 <;> cases a2 <;> cases a3
    case false.false.false =>
      show Calls _ _ _ _ fun e w' => Gv 2 (.tuple #[.bool false, .bool false]) e ∧ _ ∧ (2 = 0 → RdrAt w' b (ba []))
      clear cD
      go_enter Tryd.func36, Tryd.ntmps36
      go_wp2_with (first
        | (go_at_call 48; refine cW'.mono ?_; clear cW'; rintro e w1 ⟨rfl, hk⟩)
        | (go_at_call 49; refine (cN _).mono ?_; rintro e w2 ⟨rfl, hw2⟩; replace hw2 := hw2.symm; subst hw2))
      exact ⟨rfl, gv_no (by decide) rfl, hk.out.2, fun h => by cases h⟩
    all_goals
      clear cN
      rw [if_pos (by rfl)]
      go_enter Tryd.func36, Tryd.ntmps36
      go_wp2_with (first
        | (go_at_call 48; refine cW'.mono ?_; clear cW'; rintro e w1 ⟨rfl, hk⟩)
        | (go_at_call 49; refine (cD _).mono ?_; rintro e w2 ⟨rfl, hw2⟩; replace hw2 := hw2.symm; subst hw2))
      go_ret2
      exact ⟨gv_ok rfl, hk.out.2, fun _ => hk.out.1⟩

/-- A user's name of a rule. -/
theorem pLocal_any (s : ByteArray) (w : World) (hs : s.size ≤ 281474976710656) (hT : Lib.Utf8Tabs 0 1 w) :
    Calls Tryd.prog 55 #[.string s] w fun e w' => Gv (Nm.localN s.data.toList).2 (.string (ba (Nm.localN s.data.toList).1)) e ∧ Below w.heap.size w w' := by
  have cL := Nm.local_any s w (by omega) hT
  unfold Nm.Told at cL
  generalize Nm.localN s.data.toList = p at cL ⊢
  obtain ⟨l, n⟩ := p
  dsimp only at cL ⊢
  show Calls _ _ _ _ fun e w' => Gv n (.string ⟨l.toArray⟩) e ∧ _
  generalize (⟨l.toArray⟩ : ByteArray) = L at cL ⊢
  clear hT
  by_cases h0 : n = 0
  · subst h0
    have cD := fun w => dem_ok 0 w
    go_enter Tryd.func55, Tryd.ntmps55
    go_wp2_with (first
      | (go_at_call 59; refine cL.mono ?_; rintro e w1 ⟨rfl, hb⟩)
      | (go_at_call 49; refine (cD _).mono ?_; rintro e w2 ⟨rfl, hw2⟩; replace hw2 := hw2.symm; subst hw2))
    go_ret
    exact ⟨gv_ok rfl, hb⟩
  · have hd : ((n : Int) == 0) = false := by simp; omega
    have cN := fun w => dem_no n w
    replace h0 : Hid (n ≠ 0) := h0
    go_enter Tryd.func55, Tryd.ntmps55
    go_wp2_with (first
      | (go_at_call 59; refine cL.mono ?_; rintro e w1 ⟨rfl, hb⟩)
      | (go_at_call 49; refine (cN _).mono ?_; rintro e w2 ⟨rfl, hw2⟩; replace hw2 := hw2.symm; subst hw2))
    exact ⟨rfl, gv_no h0.out rfl, hb⟩
end Go.Proofs.YtiplalbicibahaaDoor
