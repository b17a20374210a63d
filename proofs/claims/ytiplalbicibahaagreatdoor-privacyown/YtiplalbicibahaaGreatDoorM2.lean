/- Texts of one seat, one behind the other: PvB, PvC, PvD, PvE, PvF, PvG, PvH, PvI. -/
import Derived.Test.YtiplalbicibahaaGreatDoorM1
import Derived.Shelf.Strconv.Clone
import Derived.Maps.OwnSet
import Derived.Maps.OwnOps
import Derived.Sort.KeysCollected
/- privacy: a rule's parts; a rule; Parse. -/
set_option maxRecDepth 100000
namespace Go.Proofs.YtiplalbicibahaaGreatDoor
open Go.RowKit Go.Joins Go.Shelf

theorem clone_any (s : ByteArray) (w : World) (hs : s.size ≤ 281474976710656) : Calls Tryz.prog 31 #[.string s] w fun e w' => e = .returned (.string s) ∧ Below w.heap.size w w' := by
  have c : Calls Tryz.prog 48 #[.string s] w fun e w' => e = .returned (.string s) ∧ Below w.heap.size w w' := Any.stringslite_Clone Tryz.laysM316 s w hs
  go_enter Tryz.func31, Tryz.ntmps31
  go_wp2_with (go_at_call 48; refine c.mono ?_; rintro e w1 ⟨rfl, hb⟩)
  go_ret
  exact ⟨rfl, hb⟩

theorem verdict_any (b : Nat) (s : ByteArray) (w : World) (h : RdrAt w b s) (hs : s.size ≤ 281474976710656) :
    Calls Tryz.prog 86 #[.pointer (some ⟨b, 0, none⟩)] w fun e w' => Gv (verdictR s.data.toList).2.2 (.bool (verdictR s.data.toList).1) e ∧ Keep (fun i => i = b) w w' ∧ ((verdictR s.data.toList).2.2 = 0 → RdrAt w' b (ba (verdictR s.data.toList).2.1)) := by
  have cW := word_any b s w h hs
  unfold verdictR
  generalize Nm.cutA 32 s.data.toList = A at cW ⊢
  generalize Nm.cutZ 32 s.data.toList = Z at cW ⊢
  generalize Nm.hasB 32 s.data.toList = H at cW ⊢
  clear h
  cases H with
  | false =>
    have cW' : Calls Tryz.prog 96 #[.pointer (some ⟨b, 0, none⟩)] w (fun e w' => e = .panicked (gaveP 2) ∧ Keep (fun i => i = b) w w') := cW.mono (fun e w' h => ⟨h.2.elim (fun k => by cases k.1) (fun k => k.2), h.1⟩)
    clear cW
    rw [if_neg (by decide)]
    go_enter Tryz.func86, Tryz.ntmps86
    go_wp2_with (go_at_call 96; refine cW'.mono ?_; rintro e w1 ⟨rfl, hk⟩)
    exact ⟨rfl, gv_no (by decide) rfl, hk, fun h => by cases h⟩
  | true =>
    have cW' : Calls Tryz.prog 96 #[.pointer (some ⟨b, 0, none⟩)] w (fun e w' => e = .returned (.string (ba A)) ∧ Hid (RdrAt w' b (ba Z) ∧ Keep (fun i => i = b) w w')) := cW.mono (fun e w' h => h.2.elim (fun k => ⟨k.2.1, k.2.2, h.1⟩) (fun k => by cases k.1))
    clear cW
    rw [if_pos rfl]
    have e1 : ((ba A).toList == [97, 108, 108, 111, 119]) = (A == wAllow) := ba_eq _ _
    have e2 : ((ba A).toList == [100, 101, 110, 121]) = (A == wDeny) := ba_eq _ _
    generalize (A == wAllow) = a1 at e1 ⊢
    generalize (A == wDeny) = a2 at e2 ⊢
    generalize ba A = S at e1 e2 cW'
    have cD := fun w => dem_ok 2 w
    have cN := fun w => dem_no 2 w
    cases a1 with
    | true =>
      show Calls _ _ _ _ fun e w' => Gv 0 (.bool true) e ∧ _ ∧ (0 = 0 → RdrAt w' b (ba Z))
      clear e2 cN
      go_enter Tryz.func86, Tryz.ntmps86
      go_wp2_with (first
        | (go_at_call 96; refine cW'.mono ?_; clear cW'; rintro e w1 ⟨rfl, hk⟩)
        | (go_at_call 97; refine (cD _).mono ?_; rintro e w2 ⟨rfl, hw2⟩; replace hw2 := hw2.symm; subst hw2))
      go_ret
      exact ⟨gv_ok rfl, hk.out.2, fun _ => hk.out.1⟩
    | false => cases a2 with
      | true =>
        show Calls _ _ _ _ fun e w' => Gv 0 (.bool false) e ∧ _ ∧ (0 = 0 → RdrAt w' b (ba Z))
        clear cN
        go_enter Tryz.func86, Tryz.ntmps86
        go_wp2_with (first
          | (go_at_call 96; refine cW'.mono ?_; clear cW'; rintro e w1 ⟨rfl, hk⟩)
          | (go_at_call 97; refine (cD _).mono ?_; rintro e w2 ⟨rfl, hw2⟩; replace hw2 := hw2.symm; subst hw2))
        go_ret
        exact ⟨gv_ok rfl, hk.out.2, fun _ => hk.out.1⟩
      | false =>
        show Calls _ _ _ _ fun e w' => Gv 2 (.bool false) e ∧ _ ∧ (2 = 0 → RdrAt w' b (ba []))
        clear cD
        go_enter Tryz.func86, Tryz.ntmps86
        go_wp2_with (first
          | (go_at_call 96; refine cW'.mono ?_; clear cW'; rintro e w1 ⟨rfl, hk⟩)
          | (go_at_call 97; refine (cN _).mono ?_; rintro e w2 ⟨rfl, hw2⟩; replace hw2 := hw2.symm; subst hw2))
        exact ⟨rfl, gv_no (by decide) rfl, hk.out.2, fun h => by cases h⟩

theorem ways_any (b : Nat) (s : ByteArray) (w : World) (h : RdrAt w b s) (hs : s.size ≤ 281474976710656) :
    Calls Tryz.prog 87 #[.pointer (some ⟨b, 0, none⟩)] w fun e w' => Gv (waysR s.data.toList).2.2.2 (.tuple #[.bool (waysR s.data.toList).1, .bool (waysR s.data.toList).2.1]) e ∧ Keep (fun i => i = b) w w' ∧ ((waysR s.data.toList).2.2.2 = 0 → RdrAt w' b (ba (waysR s.data.toList).2.2.1)) := by
  have cW := word_any b s w h hs
  unfold waysR
  generalize Nm.cutA 32 s.data.toList = A at cW ⊢
  generalize Nm.cutZ 32 s.data.toList = Z at cW ⊢
  generalize Nm.hasB 32 s.data.toList = H at cW ⊢
  clear h
  cases H with
  | false =>
    have cW' : Calls Tryz.prog 96 #[.pointer (some ⟨b, 0, none⟩)] w (fun e w' => e = .panicked (gaveP 2) ∧ Keep (fun i => i = b) w w') := cW.mono (fun e w' h => ⟨h.2.elim (fun k => by cases k.1) (fun k => k.2), h.1⟩)
    clear cW
    rw [if_neg (by decide)]
    go_enter Tryz.func87, Tryz.ntmps87
    go_wp2_with (go_at_call 96; refine cW'.mono ?_; rintro e w1 ⟨rfl, hk⟩)
    exact ⟨rfl, gv_no (by decide) rfl, hk, fun h => by cases h⟩
  | true =>
    have cW' : Calls Tryz.prog 96 #[.pointer (some ⟨b, 0, none⟩)] w (fun e w' => e = .returned (.string (ba A)) ∧ Hid (RdrAt w' b (ba Z) ∧ Keep (fun i => i = b) w w')) := cW.mono (fun e w' h => h.2.elim (fun k => ⟨k.2.1, k.2.2, h.1⟩) (fun k => by cases k.1))
    clear cW
    rw [if_pos rfl]
    have e1 : ((ba A).toList == [105, 110]) = (A == wIn) := ba_eq _ _
    have e2 : ((ba A).toList == [98, 111, 116, 104]) = (A == wBoth) := ba_eq _ _
    have e3 : ((ba A).toList == [111, 117, 116]) = (A == wOut) := ba_eq _ _
    generalize (A == wIn) = a1 at e1 ⊢
    generalize (A == wBoth) = a2 at e2 ⊢
    generalize (A == wOut) = a3 at e3 ⊢
    generalize ba A = S at e1 e2 e3 cW'
    have cD := fun w => dem_ok 2 w
    have cN := fun w => dem_no 2 w
    cases a1 <;> cases a2 <;> cases a3
    case false.false.false =>
      show Calls _ _ _ _ fun e w' => Gv 2 (.tuple #[.bool false, .bool false]) e ∧ _ ∧ (2 = 0 → RdrAt w' b (ba []))
      clear cD
      go_enter Tryz.func87, Tryz.ntmps87
      go_wp2_with (first
        | (go_at_call 96; refine cW'.mono ?_; clear cW'; rintro e w1 ⟨rfl, hk⟩)
        | (go_at_call 97; refine (cN _).mono ?_; rintro e w2 ⟨rfl, hw2⟩; replace hw2 := hw2.symm; subst hw2))
      exact ⟨rfl, gv_no (by decide) rfl, hk.out.2, fun h => by cases h⟩
    all_goals
      clear cN
      rw [if_pos (by rfl)]
      go_enter Tryz.func87, Tryz.ntmps87
      go_wp2_with (first
        | (go_at_call 96; refine cW'.mono ?_; clear cW'; rintro e w1 ⟨rfl, hk⟩)
        | (go_at_call 97; refine (cD _).mono ?_; rintro e w2 ⟨rfl, hw2⟩; replace hw2 := hw2.symm; subst hw2))
      go_ret2
      exact ⟨gv_ok rfl, hk.out.2, fun _ => hk.out.1⟩

/-- A user's name of a rule. -/
theorem pLocal_any (s : ByteArray) (w : World) (hs : s.size ≤ 281474976710656) (hT : Lib.Utf8Tabs 0 1 w) :
    Calls Tryz.prog 101 #[.string s] w fun e w' => Gv (Nm.localN s.data.toList).2 (.string (ba (Nm.localN s.data.toList).1)) e ∧ Below w.heap.size w w' := by
  have cL := Nm.local_any s w (by omega) hT
  unfold Nm.Told at cL
  generalize Nm.localN s.data.toList = p at cL ⊢
  obtain ⟨l, n⟩ := p
  dsimp only at cL ⊢
  show Calls _ _ _ _ fun e w' => Gv n (.string ⟨l.toArray⟩) e ∧ _
  generalize (⟨l.toArray⟩ : ByteArray) = L at cL ⊢
  clear hT
  by_cases h0 : n = 0
  · subst h0
    have cD := fun w => dem_ok 0 w
    go_enter Tryz.func101, Tryz.ntmps101
    go_wp2_with (first
      | (go_at_call 104; refine cL.mono ?_; rintro e w1 ⟨rfl, hb⟩)
      | (go_at_call 97; refine (cD _).mono ?_; rintro e w2 ⟨rfl, hw2⟩; replace hw2 := hw2.symm; subst hw2))
    go_ret
    exact ⟨gv_ok rfl, hb⟩
  · have hd : ((n : Int) == 0) = false := by simp; omega
    have cN := fun w => dem_no n w
    replace h0 : Hid (n ≠ 0) := h0
    go_enter Tryz.func101, Tryz.ntmps101
    go_wp2_with (first
      | (go_at_call 104; refine cL.mono ?_; rintro e w1 ⟨rfl, hb⟩)
      | (go_at_call 97; refine (cN _).mono ?_; rintro e w2 ⟨rfl, hw2⟩; replace hw2 := hw2.symm; subst hw2))
    exact ⟨rfl, gv_no h0.out rfl, hb⟩
end Go.Proofs.YtiplalbicibahaaGreatDoor

/- privacy: a rule's value; whom; a rule. -/
set_option maxRecDepth 100000
namespace Go.Proofs.YtiplalbicibahaaGreatDoor
open Go.RowKit Go.Joins Go.Shelf

theorem gv_calls_ok {f : FuncId} {args : Array Value} {w : World} {n : Nat} {v : Value} {R : World → Prop} (h : Calls Tryz.prog f args w fun e w' => Gv n v e ∧ R w') (h0 : n = 0) : Calls Tryz.prog f args w fun e w' => e = .returned v ∧ R w' :=
  h.mono fun _ _ k => ⟨k.1.elim (fun q => q.2) (fun q => absurd h0 q.1), k.2⟩
theorem gv_calls_no {f : FuncId} {args : Array Value} {w : World} {n : Nat} {v : Value} {R : World → Prop} (h : Calls Tryz.prog f args w fun e w' => Gv n v e ∧ R w') (h0 : n ≠ 0) : Calls Tryz.prog f args w fun e w' => e = .panicked (gaveP n) ∧ R w' :=
  h.mono fun _ _ k => ⟨k.1.elim (fun q => absurd q.1 h0) (fun q => q.2), k.2⟩

theorem valueOf_any (k t : By) (w : World) (ht : t.length ≤ 281474976710656) (hT : Lib.Utf8Tabs 0 1 w) :
    Calls Tryz.prog 98 #[.string (ba k), .string (ba t)] w fun e w' => Gv (valueR k t).2 (.string (ba (valueR k t).1)) e ∧ Below w.heap.size w w' := by
  have hts : (ba t).size ≤ 281474976710656 := by rw [ba_size]; exact ht
  have cL := pLocal_any (ba t) w hts hT
  have cN := checkName_any (ba t) w hts hT
  have cS := isSub_any (ba t) w
  have cC := fun w => clone_any (ba t) w (by omega)
  rw [ba_list] at cL cN cS
  have e1 : ((ba k).toList == [106, 105, 100]) = (k == wJid) := ba_eq _ _
  have e2 : ((ba k).toList == [103, 114, 111, 117, 112]) = (k == wGroup) := ba_eq _ _
  have e3 : ((ba k).toList == [115, 117, 98]) = (k == wSub) := ba_eq _ _
  unfold valueR
  generalize (k == wJid) = a1 at e1 ⊢
  generalize (k == wGroup) = a2 at e2 ⊢
  generalize (k == wSub) = a3 at e3 ⊢
  generalize ba k = K at e1 e2 e3 ⊢
  clear hT ht hts
  cases a1 with
  | true =>
    rw [if_pos rfl]
    clear e2 e3 cN cS cC
    generalize Nm.localN t = p at cL ⊢
    obtain ⟨l, n⟩ := p
    dsimp only at cL ⊢
    by_cases h0 : n = 0
    · have c := gv_calls_ok cL h0
      subst h0
      clear cL
      go_enter Tryz.func98, Tryz.ntmps98
      go_wp2_with (go_at_call 101; refine c.mono ?_; rintro e w1 ⟨rfl, hb⟩)
      go_ret
      exact ⟨gv_ok rfl, hb⟩
    · have c := gv_calls_no cL h0
      clear cL
      replace h0 : Hid (n ≠ 0) := h0
      go_enter Tryz.func98, Tryz.ntmps98
      go_wp2_with (go_at_call 101; refine c.mono ?_; rintro e w1 ⟨rfl, hb⟩)
      exact ⟨rfl, gv_no h0.out rfl, hb⟩
  | false =>
    rw [if_neg (by decide)]
    clear cL
    cases a2 with
    | true =>
      rw [if_pos rfl]
      clear e3 cS
      generalize nameE t = n at cN ⊢
      by_cases h0 : n = 0
      · subst h0
        rw [if_pos rfl]
        have cD := fun w => dem_ok 0 w
        go_enter Tryz.func98, Tryz.ntmps98
        go_wp2_with (first
          | (go_at_call 40; refine cN.mono ?_; clear cN; rintro e w1 ⟨rfl, hb⟩)
          | (go_at_call 97; refine (cD _).mono ?_; rintro e w2 ⟨rfl, hw2⟩; replace hw2 := hw2.symm; subst hw2)
          | (go_at_call 31; refine (cC _).mono ?_; clear cC; rintro e w3 ⟨rfl, hb3⟩))
        go_ret
        exact ⟨gv_ok rfl, hb.trans (hb3.mono hb.size)⟩
      · rw [if_neg h0]
        have hd : ((n : Int) == 0) = false := by simp; omega
        have cD := fun w => dem_no n w
        replace h0 : Hid (n ≠ 0) := h0
        clear cC
        go_enter Tryz.func98, Tryz.ntmps98
        go_wp2_with (first
          | (go_at_call 40; refine cN.mono ?_; clear cN; rintro e w1 ⟨rfl, hb⟩)
          | (go_at_call 97; refine (cD _).mono ?_; rintro e w2 ⟨rfl, hw2⟩; replace hw2 := hw2.symm; subst hw2))
        exact ⟨rfl, gv_no h0.out rfl, hb⟩
    | false =>
      rw [if_neg (by decide)]
      clear cN
      cases a3 with
      | false =>
        have cD := fun w => dem_no 2 w
        clear cS cC
        show Calls _ _ _ _ fun e w' => Gv 2 _ e ∧ _
        go_enter Tryz.func98, Tryz.ntmps98
        go_wp2_with (first
          | (go_at_call 97; refine (cD _).mono ?_; rintro e w2 ⟨rfl, hw2⟩; replace hw2 := hw2.symm; subst hw2))
        exact ⟨rfl, gv_no (by decide) rfl, Below.refl _ _⟩
      | true =>
        generalize isSubB t = z at cS ⊢
        cases z with
        | true =>
          have cD := fun w => dem_ok 2 w
          rw [if_pos (show (true && true) = true from rfl)]
          go_enter Tryz.func98, Tryz.ntmps98
          go_wp2_with (first
            | (go_at_call 102; refine cS.mono ?_; clear cS; rintro e w1 ⟨rfl, hw1⟩; replace hw1 := hw1.symm; subst hw1)
            | (go_at_call 97; refine (cD _).mono ?_; rintro e w2 ⟨rfl, hw2⟩; replace hw2 := hw2.symm; subst hw2)
            | (go_at_call 31; refine (cC _).mono ?_; clear cC; rintro e w3 ⟨rfl, hb3⟩))
          go_ret
          exact ⟨gv_ok rfl, hb3⟩
        | false =>
          have cD := fun w => dem_no 2 w
          clear cC
          show Calls _ _ _ _ fun e w' => Gv 2 _ e ∧ _
          go_enter Tryz.func98, Tryz.ntmps98
          go_wp2_with (first
            | (go_at_call 102; refine cS.mono ?_; clear cS; rintro e w1 ⟨rfl, hw1⟩; replace hw1 := hw1.symm; subst hw1)
            | (go_at_call 97; refine (cD _).mono ?_; rintro e w2 ⟨rfl, hw2⟩; replace hw2 := hw2.symm; subst hw2))
          exact ⟨rfl, gv_no (by decide) rfl, Below.refl _ _⟩

theorem whom_any (b : Nat) (l : By) (w : World) (h : RdrAt w b (ba l)) (hs : l.length ≤ 281474976710656) (hT : Lib.Utf8Tabs 0 1 w) (hb1 : b ≠ 0) (hb2 : b ≠ 1) :
    Calls Tryz.prog 88 #[.pointer (some ⟨b, 0, none⟩)] w fun e w' => Gv (whomR l).2.2 (.tuple #[.string (ba (whomR l).1), .string (ba (whomR l).2.1)]) e ∧ Keep (fun i => i = b) w w' := by
  have cW := word_any b (ba l) w h (by rw [ba_size]; exact hs)
  rw [ba_list] at cW
  have e1 : ((ba l).toList == [97, 108, 108]) = (l == wAll) := ba_eq _ _
  have c0 := p_cell h
  have zA : (Nm.cutA 32 l).length ≤ 281474976710656 := by unfold Nm.cutA; rw [List.length_take]; omega
  have zZ : (Nm.cutZ 32 l).length ≤ 281474976710656 := by unfold Nm.cutZ; rw [List.length_drop]; omega
  have cV := fun w' (hk : Keep (fun i => i = b) w w') => valueOf_any (Nm.cutA 32 l) (Nm.cutZ 32 l) w' zZ (tabs_keep hT hk (fun e => hb1 e.symm) (fun e => hb2 e.symm))
  have cC := fun w => clone_any (ba (Nm.cutA 32 l)) w (by rw [ba_size]; omega)
  unfold whomR
  generalize Nm.hasB 32 l = H at cW ⊢
  generalize valueR (Nm.cutA 32 l) (Nm.cutZ 32 l) = p at cV ⊢
  generalize Nm.cutA 32 l = A at cW cV cC ⊢
  generalize Nm.cutZ 32 l = Z at cW cV ⊢
  generalize (l == wAll) = a1 at e1 ⊢
  generalize ba l = L at *
  clear h zA zZ hT hs hb1 hb2
  cases a1 with
  | true =>
    rw [if_pos rfl]
    have cA : ∀ w, Calls Tryz.prog 31 #[.string ⟨#[97, 108, 108]⟩] w fun e w' => e = .returned (.string (ba wAll)) ∧ Below w.heap.size w w' := fun w => clone_any ⟨#[97, 108, 108]⟩ w (by show 3 ≤ _; omega)
    clear cW cV cC
    go_enter Tryz.func88, Tryz.ntmps88
    go_wp2_with (go_at_call 31; refine (cA _).mono ?_; clear cA; rintro e w3 ⟨rfl, hb3⟩)
    go_ret2
    exact ⟨gv_ok rfl, Keep.ofBelow hb3⟩
  | false =>
    rw [if_neg (by decide)]
    cases H with
    | false =>
      rw [if_neg (by decide)]
      have cW' : Calls Tryz.prog 96 #[.pointer (some ⟨b, 0, none⟩)] w (fun e w' => e = .panicked (gaveP 2) ∧ Keep (fun i => i = b) w w') := cW.mono (fun e w' h => ⟨h.2.elim (fun k => by cases k.1) (fun k => k.2), h.1⟩)
      clear cW cV cC
      go_enter Tryz.func88, Tryz.ntmps88
      go_wp2_with (go_at_call 96; refine cW'.mono ?_; clear cW'; rintro e w1 ⟨rfl, hk⟩)
      exact ⟨rfl, gv_no (by decide) rfl, hk⟩
    | true =>
      rw [if_pos rfl]
      have cW' : Calls Tryz.prog 96 #[.pointer (some ⟨b, 0, none⟩)] w (fun e w' => e = .returned (.string (ba A)) ∧ Hid (RdrAt w' b (ba Z) ∧ Keep (fun i => i = b) w w')) := cW.mono (fun e w' h => h.2.elim (fun k => ⟨k.2.1, k.2.2, h.1⟩) (fun k => by cases k.1))
      clear cW
      obtain ⟨v, n⟩ := p
      dsimp only at cV ⊢
      have HV : Hid (∀ (w' : World), Keep (fun i => i = b) w w' → Calls Tryz.prog 98 #[.string (ba A), .string (ba Z)] w' fun e w'' => Gv n (.string (ba v)) e ∧ Below w'.heap.size w' w'') := cV
      clear cV
      by_cases h0 : n = 0
      · rw [if_pos h0]
        show Calls _ _ _ _ fun e w' => Gv 0 (.tuple #[.string (ba A), .string (ba v)]) e ∧ _
        generalize ba A = SA at *
        generalize ba Z = SZ at *
        generalize ba v = SV at *
        replace h0 : Hid (n = 0) := h0
        go_enter Tryz.func88, Tryz.ntmps88
        go_wp2_with (first
          | (go_at_call 96; refine cW'.mono ?_; clear cW'; rintro e w1 ⟨rfl, hk⟩; have c1 := p_cell hk.out.1; have cv := gv_calls_ok (HV.out w1 hk.out.2) h0.out)
          | (go_at_call 98; refine cv.mono ?_; clear cv; rintro e w2 ⟨rfl, hb2⟩)
          | (go_at_call 31; refine (cC _).mono ?_; clear cC; rintro e w3 ⟨rfl, hb3⟩))
        go_ret2
        exact ⟨gv_ok rfl, (hk.out.2.trans (Keep.ofBelow hb2)).trans (Keep.ofBelow hb3)⟩
      · rw [if_neg h0]
        show Calls _ _ _ _ fun e w' => Gv n _ e ∧ _
        generalize ba A = SA at *
        generalize ba Z = SZ at *
        replace h0 : Hid (n ≠ 0) := h0
        clear cC
        go_enter Tryz.func88, Tryz.ntmps88
        go_wp2_with (first
          | (go_at_call 96; refine cW'.mono ?_; clear cW'; rintro e w1 ⟨rfl, hk⟩; have c1 := p_cell hk.out.1; have cv := gv_calls_no (HV.out w1 hk.out.2) h0.out)
          | (go_at_call 98; refine cv.mono ?_; clear cv; rintro e w2 ⟨rfl, hb2⟩))
        exact ⟨rfl, gv_no h0.out rfl, hk.out.2.trans (Keep.ofBelow hb2)⟩

/-! ### a rule in a variable of its own -/
def RuAt (w : World) (g : Nat) (r : Rul) : Prop := w.heap[g]? = some (.cells (rc r) 72 (0, 0))
section
variable {w w' : World} {g : Nat} {r : Rul}
theorem RuAt.lt (A : RuAt w g r) : g < w.heap.size := box_lt A
theorem RuAt.carry (A : RuAt w g r) (hb : Below w.heap.size w w') : RuAt w' g r := box_below A hb
theorem RuAt.c0 (A : RuAt w g r) : w.cell? ⟨g, 0, none⟩ = some (.bool r.al) := by rw [cell_of_block A]; rfl
theorem RuAt.c1 (A : RuAt w g r) : w.cell? ⟨g, 1, none⟩ = some (.bool r.i) := by rw [cell_of_block A]; rfl
theorem RuAt.c2 (A : RuAt w g r) : w.cell? ⟨g, 2, none⟩ = some (.bool r.o) := by rw [cell_of_block A]; rfl
theorem RuAt.c3 (A : RuAt w g r) : w.cell? ⟨g, 3, none⟩ = some (.string (ba r.k)) := by rw [cell_of_block A]; rfl
theorem RuAt.c4 (A : RuAt w g r) : w.cell? ⟨g, 4, none⟩ = some (.string (ba r.v)) := by rw [cell_of_block A]; rfl
theorem RuAt.fz (A : RuAt w g r) (i : Nat) : w.frozen? ⟨g, i, none⟩ = false := unfrozen_of_block A i
theorem infoRule : (Tryz.prog.info? 72).map (·.size) = some 5 := by kernel_rfl
theorem Tryz.cells72 : Tryz.prog.cellsOf 72 = 5 := by kernel_rfl
theorem rc_one (r : Rul) : (rc r).all (·.oneCell') = true := by simp [rc, Value.oneCell']
theorem RuAt.load (A : RuAt w g r) : (loadVar 72 ⟨g, 0, none⟩).run Tryz.prog w = .ok (rv r) w := run_loadVar_row w g 72 72 _ (0, 0) _ A Tryz.underlying72 rfl (by rw [infoRule]; rfl)
theorem RuAt.set (A : RuAt w g r) (r' : Rul) : RuAt (w.setRow g (rc r')) g r' := setRow_heap w g _ _ 72 (0, 0) A
end
theorem wp_store_ru {ops : Array Oper} {rest : List Oper} {o : Oper} {a : Act} {w : World} {Q : Exit → Act → World → Prop} (hgd : o.guard = none) (x y : Operand) (ho : o.op = .store 72 x y)
    (g : Nat) (hx : a.eval x = .pointer (some ⟨g, 0, none⟩)) (r' : Rul) (hy : a.eval y = rv r') (r : Rul) (hg : RuAt w g r)
    (hk : wpList Tryz.prog ops Q rest (a.put o.dst undef) (w.setRow g (rc r'))) : wpList Tryz.prog ops Q (o :: rest) a w :=
  wpList_store_row hgd 72 x y ho g _ hx hy 72 _ hg (by rw [infoRule]; rfl) (by rfl) (rc_one r') hk
theorem exec_load_ru {o : Oper} {ρ : Operand → Value} {w : World} (x : Operand) (ho : o.op = .load 72 x) (g : Nat) (hx : ρ x = .pointer (some ⟨g, 0, none⟩)) (r : Rul) (hg : RuAt w g r) :
    (execOp ρ o).run Tryz.prog w = .ok (.value (rv r)) w := by
  unfold execOp
  simp only [ho, hx, Instr.loadAt, Instr.sureAddr, Sem.run_bind, Sem.run_pure, Result.andThen_ok, hg.load]
theorem wp_load_ru {ops : Array Oper} {rest : List Oper} {o : Oper} {a : Act} {w : World} {Q : Exit → Act → World → Prop} (hgd : o.guard = none) (x : Operand) (ho : o.op = .load 72 x) (g : Nat) (hx : a.eval x = .pointer (some ⟨g, 0, none⟩)) (r : Rul) (hg : RuAt w g r)
    (hk : wpList Tryz.prog ops Q rest (a.put o.dst (rv r)) w) : wpList Tryz.prog ops Q (o :: rest) a w := by
  refine wpList_plain hgd fun K' hK' => ?_
  unfold Oper.wp
  rw [exec_load_ru x ho g hx r hg]
  exact hK' _ _ hk
theorem res_ru {fn : Func} {p : Tmp} (h : fn.results = #[.cell p 72]) (tmps : Array Value) (w : World) (g : Nat) (r : Rul) (hp : tmps.getD p undef = .pointer (some ⟨g, 0, none⟩)) (hg : RuAt w g r) :
    (results fn tmps).run Tryz.prog w = .ok (rv r) w :=
  results_cell_row h tmps w g 72 _ (0, 0) _ hp hg Tryz.underlying72 rfl (by rw [infoRule]; rfl)

/-- While a rule is read: its variable, and what is kept. -/
structure PR (w0 : World) (b : Nat) (r : Rul) (w : World) : Prop where
  ru : RuAt w w0.heap.size r
  kp : Keep (fun i => i = b) w0 w
  lt : b < w0.heap.size
theorem PR.step {w0 w w' : World} {b : Nat} {r : Rul} (h : PR w0 b r w) (hk : Keep (fun i => i = b) w w') : PR w0 b r w' := ⟨box_keep h.ru hk (by have := h.lt; omega), h.kp.trans hk, h.lt⟩
theorem PR.set {w0 w : World} {b : Nat} {r : Rul} (h : PR w0 b r w) (i : Nat) (v : Value) (r' : Rul) (e : (rc r).setIfInBounds i v = rc r') : PR w0 b r' (w.setCell ⟨w0.heap.size, i, none⟩ v) :=
  ⟨by have := block_setCell (i := i) h.ru v; rw [e] at this; exact this, h.kp.setNew (Nat.le_refl _) v, h.lt⟩
theorem PR.rdr {w0 w : World} {b : Nat} {r : Rul} {s : ByteArray} (h : PR w0 b r w) (hr : RdrAt w b s) (i : Nat) (v : Value) : RdrAt (w.setCell ⟨w0.heap.size, i, none⟩ v) b s := box_keep hr (setK w w0.heap.size i v) (by have := h.lt; omega)
end Go.Proofs.YtiplalbicibahaaGreatDoor

/- privacy: a rule is read; Parse. -/
set_option maxRecDepth 100000
namespace Go.Proofs.YtiplalbicibahaaGreatDoor
open Go.RowKit Go.Joins Go.Shelf

theorem cutZ_le (l : By) : (Nm.cutZ 32 l).length ≤ l.length := by unfold Nm.cutZ; rw [List.length_drop]; omega
theorem cutA_le (l : By) : (Nm.cutA 32 l).length ≤ l.length := by unfold Nm.cutA; rw [List.length_take]; omega
theorem verdictR_len (l : By) : (verdictR l).2.1.length ≤ l.length := by
  have := cutZ_le l
  unfold verdictR
  split
  · split
    · exact this
    · exact Nat.zero_le _
  · exact Nat.zero_le _
theorem waysR_len (l : By) : (waysR l).2.2.1.length ≤ l.length := by
  have := cutZ_le l
  unfold waysR
  split
  · split
    · exact this
    · exact Nat.zero_le _
  · exact Nat.zero_le _

theorem rule_any (b : Nat) (l : By) (w : World) (h : RdrAt w b (ba l)) (hs : l.length ≤ 281474976710656) (hT : Lib.Utf8Tabs 0 1 w) (hb1 : b ≠ 0) (hb2 : b ≠ 1) :
    Calls Tryz.prog 71 #[.pointer (some ⟨b, 0, none⟩)] w fun e w' => Gv (parseR l).2 (rv (parseR l).1) e ∧ Keep (fun i => i = b) w w' := by
  have hl1 := verdictR_len l
  have hl2 := waysR_len (verdictR l).2.1
  have P0 : Hid (PR w b r0 (w.alloc (.cells #[.bool false, .bool false, .bool false, .string ⟨#[]⟩, .string ⟨#[]⟩] 72)) ∧ RdrAt (w.alloc (.cells #[.bool false, .bool false, .bool false, .string ⟨#[]⟩, .string ⟨#[]⟩] 72)) b (ba l)) := ⟨⟨push_at _ _ rfl, Keep.ofBelow (below1 _ _), box_lt h⟩, push_old h⟩
  have HT : Hid (Lib.Utf8Tabs 0 1 w ∧ b ≠ 0 ∧ b ≠ 1) := ⟨hT, hb1, hb2⟩
  have cV : Hid (∀ W, RdrAt W b (ba l) → Calls Tryz.prog 86 #[.pointer (some ⟨b, 0, none⟩)] W fun e w' => Gv (verdictR l).2.2 (.bool (verdictR l).1) e ∧ Keep (fun i => i = b) W w' ∧ ((verdictR l).2.2 = 0 → RdrAt w' b (ba (verdictR l).2.1))) := fun W hR => by
    have := verdict_any b (ba l) W hR (by rw [ba_size]; exact hs)
    rwa [ba_list] at this
  have cY : Hid (∀ W, RdrAt W b (ba (verdictR l).2.1) → Calls Tryz.prog 87 #[.pointer (some ⟨b, 0, none⟩)] W fun e w' => Gv (waysR (verdictR l).2.1).2.2.2 (.tuple #[.bool (waysR (verdictR l).2.1).1, .bool (waysR (verdictR l).2.1).2.1]) e ∧ Keep (fun i => i = b) W w' ∧ ((waysR (verdictR l).2.1).2.2.2 = 0 → RdrAt w' b (ba (waysR (verdictR l).2.1).2.2.1))) := fun W hR => by
    have := ways_any b (ba (verdictR l).2.1) W hR (by rw [ba_size]; omega)
    rwa [ba_list] at this
  have cH : Hid (∀ W, PR w b r0 W ∨ True → Keep (fun i => i = b) w W → RdrAt W b (ba (waysR (verdictR l).2.1).2.2.1) → Calls Tryz.prog 88 #[.pointer (some ⟨b, 0, none⟩)] W fun e w' => Gv (whomR (waysR (verdictR l).2.1).2.2.1).2.2 (.tuple #[.string (ba (whomR (waysR (verdictR l).2.1).2.2.1).1), .string (ba (whomR (waysR (verdictR l).2.1).2.2.1).2.1)]) e ∧ Keep (fun i => i = b) W w') := fun W _ hk hR =>
    whom_any b (waysR (verdictR l).2.1).2.2.1 W hR (by omega) (tabs_keep hT hk (fun e => hb1 e.symm) (fun e => hb2 e.symm)) hb1 hb2
  clear h hT hb1 hb2 hl1 hl2 hs HT
  unfold parseR
  generalize waysR (verdictR l).2.1 = y at *
  generalize verdictR l = v at *
  generalize whomR y.2.2.1 = u at *
  obtain ⟨al, l1, n1⟩ := v
  obtain ⟨i, o, l2, n2⟩ := y
  obtain ⟨k, vv, n3⟩ := u
  dsimp only at *
  by_cases h1 : n1 = 0
  · rw [if_pos h1]
    by_cases h2 : n2 = 0
    · rw [if_pos h2]
      by_cases h3 : n3 = 0
      · rw [if_pos h3]
        show Calls _ _ _ _ fun e w' => Gv 0 (rv ⟨al, i, o, k, vv⟩) e ∧ _
        replace h1 : Hid (n1 = 0) := h1
        replace h2 : Hid (n2 = 0) := h2
        replace h3 : Hid (n3 = 0) := h3
        go_enter Tryz.func71, Tryz.ntmps71
        go_upto_region 1 with fail
        generalize hW0 : w.alloc _ = W0 at P0 ⊢
        clear hW0
        have c1 := gv_calls_ok (cV.out W0 P0.out.2) h1.out
        go_upto_region 2 with (first
          | (go_at_call 86; refine c1.mono ?_; clear c1; rintro e w1 ⟨rfl, hk1, hr1⟩; have P1 : Hid (PR w b r0 w1 ∧ RdrAt w1 b (ba l1)) := ⟨P0.out.1.step hk1, hr1 h1.out⟩; clear hk1 hr1; have q0 := P1.out.1.ru.c0; have f0 := P1.out.1.ru.fz 0))
        have P2 : Hid (PR w b ⟨al, false, false, [], []⟩ (w1.setCell ⟨w.heap.size, 0, none⟩ (.bool al)) ∧ RdrAt (w1.setCell ⟨w.heap.size, 0, none⟩ (.bool al)) b (ba l1)) := ⟨P1.out.1.set 0 _ _ rfl, P1.out.1.rdr P1.out.2 0 _⟩
        clear q0 f0 P1 P0
        generalize w1.setCell _ _ = W1 at P2 ⊢
        have c1 := gv_calls_ok (cY.out W1 P2.out.2) h2.out
        go_upto_region 3 with (first
          | (go_at_call 87; refine c1.mono ?_; clear c1; rintro e w2 ⟨rfl, hk1, hr1⟩; have P3 : Hid (PR w b ⟨al, false, false, [], []⟩ w2 ∧ RdrAt w2 b (ba l2)) := ⟨P2.out.1.step hk1, hr1 h2.out⟩; clear hk1 hr1; have q1 := P3.out.1.ru.c1; have f1 := P3.out.1.ru.fz 1; have q2 := P3.out.1.ru.c2; have f2 := P3.out.1.ru.fz 2))
        have P4 : Hid (PR w b ⟨al, i, o, [], []⟩ ((w2.setCell ⟨w.heap.size, 1, none⟩ (.bool i)).setCell ⟨w.heap.size, 2, none⟩ (.bool o)) ∧ RdrAt ((w2.setCell ⟨w.heap.size, 1, none⟩ (.bool i)).setCell ⟨w.heap.size, 2, none⟩ (.bool o)) b (ba l2)) := by
          have a1 := P3.out.1.set 1 (.bool i) ⟨al, i, false, [], []⟩ rfl
          have a2 := P3.out.1.rdr P3.out.2 1 (.bool i)
          exact ⟨a1.set 2 _ _ rfl, a1.rdr a2 2 _⟩
        clear q1 f1 q2 f2 P3 P2
        generalize World.setCell (w2.setCell _ _) _ _ = W2 at P4 ⊢
        have c1 := gv_calls_ok (cH.out W2 (Or.inr trivial) P4.out.1.kp P4.out.2) h3.out
        go_upto_region 4 with (first
          | (go_at_call 88; refine c1.mono ?_; clear c1; rintro e w3 ⟨rfl, hk1⟩; have P5 : Hid (PR w b ⟨al, i, o, [], []⟩ w3) := P4.out.1.step hk1; clear hk1; have q1 := P5.out.ru.c3; have f1 := P5.out.ru.fz 3; have q2 := P5.out.ru.c4; have f2 := P5.out.ru.fz 4))
        have P6 : Hid (PR w b ⟨al, i, o, k, vv⟩ ((w3.setCell ⟨w.heap.size, 3, none⟩ (.string (ba k))).setCell ⟨w.heap.size, 4, none⟩ (.string (ba vv)))) := (P5.out.set 3 (.string (ba k)) ⟨al, i, o, k, []⟩ rfl).set 4 (.string (ba vv)) ⟨al, i, o, k, vv⟩ rfl
        clear q1 f1 q2 f2 P5 P4
        generalize World.setCell (w3.setCell _ _) _ _ = W3 at P6 ⊢
        obtain ⟨V, HV⟩ : ∃ V, Hid (rv ⟨al, i, o, k, vv⟩ = V) := ⟨_, rfl⟩
        have r5 := P6.out.ru.set ⟨al, i, o, k, vv⟩
        have k5 : Keep (fun j => j = b) w (W3.setRow w.heap.size (rc ⟨al, i, o, k, vv⟩)) := P6.out.kp.andThen (rowK W3 w.heap.size _) (fun i hi e => by omega)
        go_wp2_with (first
          | (refine wp_load_ru rfl (.tmp 2) rfl w.heap.size rfl ⟨al, i, o, k, vv⟩ P6.out.ru ?_; rw [HV.out])
          | (refine wp_store_ru rfl (.tmp 2) (.tmp 20) rfl w.heap.size rfl ⟨al, i, o, k, vv⟩ HV.out.symm _ P6.out.ru ?_))
        refine bodyPost_ret (v := V) ?_ rfl ⟨gv_ok (by rw [← HV.out]), k5⟩
        rw [← HV.out]
        exact res_ru rfl _ _ w.heap.size _ rfl r5
      · rw [if_neg h3]
        show Calls _ _ _ _ fun e w' => Gv n3 _ e ∧ _
        replace h1 : Hid (n1 = 0) := h1
        replace h2 : Hid (n2 = 0) := h2
        replace h3 : Hid (n3 ≠ 0) := h3
        go_enter Tryz.func71, Tryz.ntmps71
        go_upto_region 1 with fail
        generalize hW0 : w.alloc _ = W0 at P0 ⊢
        clear hW0
        have c1 := gv_calls_ok (cV.out W0 P0.out.2) h1.out
        go_upto_region 2 with (first
          | (go_at_call 86; refine c1.mono ?_; clear c1; rintro e w1 ⟨rfl, hk1, hr1⟩; have P1 : Hid (PR w b r0 w1 ∧ RdrAt w1 b (ba l1)) := ⟨P0.out.1.step hk1, hr1 h1.out⟩; clear hk1 hr1; have q0 := P1.out.1.ru.c0; have f0 := P1.out.1.ru.fz 0))
        have P2 : Hid (PR w b ⟨al, false, false, [], []⟩ (w1.setCell ⟨w.heap.size, 0, none⟩ (.bool al)) ∧ RdrAt (w1.setCell ⟨w.heap.size, 0, none⟩ (.bool al)) b (ba l1)) := ⟨P1.out.1.set 0 _ _ rfl, P1.out.1.rdr P1.out.2 0 _⟩
        clear q0 f0 P1 P0
        generalize w1.setCell _ _ = W1 at P2 ⊢
        have c1 := gv_calls_ok (cY.out W1 P2.out.2) h2.out
        go_upto_region 3 with (first
          | (go_at_call 87; refine c1.mono ?_; clear c1; rintro e w2 ⟨rfl, hk1, hr1⟩; have P3 : Hid (PR w b ⟨al, false, false, [], []⟩ w2 ∧ RdrAt w2 b (ba l2)) := ⟨P2.out.1.step hk1, hr1 h2.out⟩; clear hk1 hr1; have q1 := P3.out.1.ru.c1; have f1 := P3.out.1.ru.fz 1; have q2 := P3.out.1.ru.c2; have f2 := P3.out.1.ru.fz 2))
        have P4 : Hid (PR w b ⟨al, i, o, [], []⟩ ((w2.setCell ⟨w.heap.size, 1, none⟩ (.bool i)).setCell ⟨w.heap.size, 2, none⟩ (.bool o)) ∧ RdrAt ((w2.setCell ⟨w.heap.size, 1, none⟩ (.bool i)).setCell ⟨w.heap.size, 2, none⟩ (.bool o)) b (ba l2)) := by
          have a1 := P3.out.1.set 1 (.bool i) ⟨al, i, false, [], []⟩ rfl
          have a2 := P3.out.1.rdr P3.out.2 1 (.bool i)
          exact ⟨a1.set 2 _ _ rfl, a1.rdr a2 2 _⟩
        clear q1 f1 q2 f2 P3 P2
        generalize World.setCell (w2.setCell _ _) _ _ = W2 at P4 ⊢
        have c1 := gv_calls_no (cH.out W2 (Or.inr trivial) P4.out.1.kp P4.out.2) h3.out
        go_wp2_with (first
          | (go_at_call 88; refine c1.mono ?_; clear c1; rintro e w3 ⟨rfl, hk1⟩))
        exact ⟨rfl, gv_no h3.out rfl, P4.out.1.kp.trans hk1⟩
    · rw [if_neg h2]
      show Calls _ _ _ _ fun e w' => Gv n2 _ e ∧ _
      replace h1 : Hid (n1 = 0) := h1
      replace h2 : Hid (n2 ≠ 0) := h2
      go_enter Tryz.func71, Tryz.ntmps71
      go_upto_region 1 with fail
      generalize hW0 : w.alloc _ = W0 at P0 ⊢
      clear hW0
      have c1 := gv_calls_ok (cV.out W0 P0.out.2) h1.out
      go_upto_region 2 with (first
        | (go_at_call 86; refine c1.mono ?_; clear c1; rintro e w1 ⟨rfl, hk1, hr1⟩; have P1 : Hid (PR w b r0 w1 ∧ RdrAt w1 b (ba l1)) := ⟨P0.out.1.step hk1, hr1 h1.out⟩; clear hk1 hr1; have q0 := P1.out.1.ru.c0; have f0 := P1.out.1.ru.fz 0))
      have P2 : Hid (PR w b ⟨al, false, false, [], []⟩ (w1.setCell ⟨w.heap.size, 0, none⟩ (.bool al)) ∧ RdrAt (w1.setCell ⟨w.heap.size, 0, none⟩ (.bool al)) b (ba l1)) := ⟨P1.out.1.set 0 _ _ rfl, P1.out.1.rdr P1.out.2 0 _⟩
      clear q0 f0 P1 P0
      generalize w1.setCell _ _ = W1 at P2 ⊢
      have c1 := gv_calls_no (cY.out W1 P2.out.2) h2.out
      go_wp2_with (first
        | (go_at_call 87; refine c1.mono ?_; clear c1; rintro e w3 ⟨rfl, hk1, _⟩))
      exact ⟨rfl, gv_no h2.out rfl, P2.out.1.kp.trans hk1⟩
  · rw [if_neg h1]
    show Calls _ _ _ _ fun e w' => Gv n1 _ e ∧ _
    replace h1 : Hid (n1 ≠ 0) := h1
    go_enter Tryz.func71, Tryz.ntmps71
    go_upto_region 1 with fail
    generalize hW0 : w.alloc _ = W0 at P0 ⊢
    clear hW0
    have c1 := gv_calls_no (cV.out W0 P0.out.2) h1.out
    go_wp2_with (first
      | (go_at_call 86; refine c1.mono ?_; clear c1; rintro e w3 ⟨rfl, hk1, _⟩))
    exact ⟨rfl, gv_no h1.out rfl, P0.out.1.kp.trans hk1⟩
end Go.Proofs.YtiplalbicibahaaGreatDoor

/- privacy: begun, Parse. -/
set_option maxRecDepth 100000
namespace Go.Proofs.YtiplalbicibahaaGreatDoor
open Go.RowKit Go.Joins Go.Shelf

theorem parseR_no (l : By) (h : (parseR l).2 ≠ 0) : (parseR l).1 = r0 := by
  unfold parseR at h ⊢
  by_cases h1 : (verdictR l).2.2 = 0
  · rw [if_pos h1] at h ⊢
    by_cases h2 : (waysR (verdictR l).2.1).2.2.2 = 0
    · rw [if_pos h2] at h ⊢
      by_cases h3 : (whomR (waysR (verdictR l).2.1).2.2.1).2.2 = 0
      · rw [if_pos h3] at h; exact absurd rfl h
      · rw [if_neg h3]
    · rw [if_neg h2]
  · rw [if_neg h1]

theorem res_ru2 {fn : Func} {p t : Tmp} (h : fn.results = #[.cell p 72, .cell t 24]) (tmps : Array Value) (w : World) (g g2 : Nat) (r : Rul) (n : Int) (hp : tmps.getD p undef = .pointer (some ⟨g, 0, none⟩)) (ht : tmps.getD t undef = .pointer (some ⟨g2, 0, none⟩))
    (hg : RuAt w g r) (h2 : w.cell? ⟨g2, 0, none⟩ = some (.int .i64 n)) : (results fn tmps).run Tryz.prog w = .ok (.tuple #[rv r, .int .i64 n]) w := by
  have hr := hg.load
  have hr2 : (loadVar 24 ⟨g2, 0, none⟩).run Tryz.prog w = .ok (.int .i64 n) w := by simp [go_sem, h2]
  have hp' : tmps[p]?.getD undef = .pointer (some ⟨g, 0, none⟩) := by simpa using hp
  have ht' : tmps[t]?.getD undef = .pointer (some ⟨g2, 0, none⟩) := by simpa using ht
  simp [results, h, hp', ht', asAddr, hr, hr2]
theorem res_ru1 {fn : Func} {p t : Tmp} (h : fn.results = #[.cell p 72, .tmp t]) (tmps : Array Value) (w : World) (g : Nat) (r : Rul) (v : Value) (hp : tmps.getD p undef = .pointer (some ⟨g, 0, none⟩)) (ht : tmps.getD t undef = v)
    (hg : RuAt w g r) : (results fn tmps).run Tryz.prog w = .ok (.tuple #[rv r, v]) w := by
  have hr := hg.load
  have hp' : tmps[p]?.getD undef = .pointer (some ⟨g, 0, none⟩) := by simpa using hp
  have ht' : tmps[t]?.getD undef = v := by simpa using ht
  simp [results, h, hp', ht', asAddr, hr]

theorem catchP_panicking (p : Addr) (x : Int) (n : Nat) (w : World) (hc : w.cell? p = some (.int .i64 x)) (hz : w.frozen? p = false) :
    CallsD Tryz.prog 85 #[.pointer (some p)] (.panicking (gaveP n)) w fun e u' w' =>
      e = .returned (.tuple #[]) ∧ u' = .panicking [{ v := .iface 127 (.agg #[.int .i64 n]), recovered := true }] ∧ w' = w.setCell p (.int .i64 n) := by
  unfold gaveP
  refine callsD_of_wpS Tryz.func85 rfl fun c₀ cs hu => ?_
  apply wpS_seq
  apply wpS_region
  simp [wpOpsS, go_sem, recoverD, hu, Tryz.ntmps85, Exit.thenS]
  refine wpS_of_wp ?_
  rw [show #[Value.pointer (some p)] ++ ((Array.replicate 7 undef).setIfInBounds 1 (Value.iface 127 (Value.agg #[Value.int IntKind.i64 n]))).setIfInBounds 0 (Value.iface 127 (Value.agg #[Value.int IntKind.i64 n])) = #[Value.pointer (some p), Value.iface 127 (Value.agg #[Value.int IntKind.i64 n]), Value.iface 127 (Value.agg #[Value.int IntKind.i64 n]), undef, undef, undef, undef, undef] from rfl]
  have hta : (Instr.typeAssert (Value.iface 127 (Value.agg #[Value.int IntKind.i64 n])) 20 127 false).run Tryz.prog w = .ok (Value.agg #[Value.int IntKind.i64 n]) w := by
    simp [Instr.typeAssert, go_sem]
  have hfd : (Instr.field 127 (Value.agg #[Value.int IntKind.i64 n]) 0).run Tryz.prog w = .ok (Value.int IntKind.i64 n) w := by
    simp [Instr.field, go_sem, asAgg]
  go_wp2
  simp [bodyPostS, results, Tryz.results85]
theorem catchP_idle (p : Addr) (w : World) :
    CallsD Tryz.prog 85 #[.pointer (some p)] .returning w fun e u' w' => e = .returned (.tuple #[]) ∧ u' = .returning ∧ w' = w := by
  refine callsD_of_wpS Tryz.func85 rfl fun c₀ cs hu => ?_
  apply wpS_seq
  apply wpS_region
  simp [wpOpsS, go_sem, recoverD, hu, Tryz.ntmps85, Exit.thenS]
  refine wpS_of_wp ?_
  rw [show #[Value.pointer (some p)] ++ ((Array.replicate 7 undef).setIfInBounds 1 Value.nilIface).setIfInBounds 0 Value.nilIface = #[Value.pointer (some p), Value.nilIface, Value.nilIface, undef, undef, undef, undef, undef] from rfl]
  go_wp2
  cases c₀
  simp_all [bodyPostS, results, Tryz.results85]

abbrev oRul : Obj := .cells #[.bool false, .bool false, .bool false, .string ⟨#[]⟩, .string ⟨#[]⟩] 72
abbrev oErr : Obj := .cells #[.int .i64 0] 24
set_option maxHeartbeats 1600000 in
theorem begun_any (k : Nat) (x : Value) (n : Nat) (r : Rul) (hr : n ≠ 0 → r = r0) (S : Nat → Prop) (w : World) (hent : ∀ args w, (callFunc k args).run Tryz.prog w = .ok (.enter k args) w) (hS : ∀ i, w.heap.size ≤ i → ¬ S i)
    (hc : Calls Tryz.prog k #[x] ((w.alloc oRul).alloc oErr) fun e w' => Gv n (rv r) e ∧ Keep S ((w.alloc oRul).alloc oErr) w') :
    Calls Tryz.prog 70 #[.func (.func k) #[x] #[]] w fun e w' => e = .returned (.tuple #[rv r, .int .i64 n]) ∧ Keep S w w' := by
  have hmf : ∀ (fn : Fn) (first cap : Array Value) (w : World), (Instr.makeFunc fn first cap).run Tryz.prog w = .ok (.func fn first cap) w := fun _ _ _ _ => rfl
  have hz0 : RuAt ((w.alloc oRul).alloc oErr) w.heap.size r0 := push_old (push_at _ _ rfl)
  have hz1 : ((w.alloc oRul).alloc oErr).heap[w.heap.size + 1]? = some (.cells #[.int .i64 0] 24 (0, 0)) := push_at _ _ (by simp)
  have hbW : Below w.heap.size w ((w.alloc oRul).alloc oErr) := below2 _ _ _
  have hkS : ∀ w', Keep S ((w.alloc oRul).alloc oErr) w' → Keep S w w' := fun w' k => (Keep.ofBelow hbW).trans k
  have hk0 : ∀ w', Keep S ((w.alloc oRul).alloc oErr) w' → RuAt w' w.heap.size r0 := fun w' k => box_keep hz0 k (hS _ (Nat.le_refl _))
  have hk1 : ∀ w', Keep S ((w.alloc oRul).alloc oErr) w' → w'.heap[w.heap.size + 1]? = some (.cells #[.int .i64 0] 24 (0, 0)) := fun w' k => box_keep hz1 k (hS _ (by omega))
  clear hz0 hz1 hbW hS
  obtain ⟨V, HV⟩ : ∃ V, Hid (rv r = V) := ⟨_, rfl⟩
  by_cases h0 : n = 0
  · subst h0
    have hc' := hc.mono (fun e w' h => And.intro (h.1.elim (fun k => k.2) (fun k => absurd rfl k.1)) h.2 : ∀ e w', _ → (e = .returned (rv r) ∧ _))
    rw [HV.out] at hc'
    clear hc hr
    go_enter_defers Tryz.func70, Tryz.ntmps70
    go_wp2_with (first
      | (go_at_fn k; refine hc'.mono ?_; rintro e w1 ⟨rfl, hB⟩; have z0 := hk0 w1 hB; have z1 := hk1 w1 hB; have hKS := hkS w1 hB; have s1 := box_keep z1 (rowK w1 w.heap.size (rc r)) (by omega); have hcl := p_cell s1; have hfz := p_thaw s1)
      | (refine wp_store_ru rfl (.tmp 2) (.tmp 6) rfl w.heap.size rfl r HV.out.symm _ z0 ?_))
    refine leaves_cons (f := 85) (args := #[.pointer (some ⟨w.heap.size + 1, 0, none⟩)]) (by simp) (by simp [go_sem]) ?_
    refine (catchP_idle ⟨w.heap.size + 1, 0, none⟩ _).mono ?_
    rintro e u' w2 ⟨rfl, rfl, hw2⟩
    have y0 : RuAt w2 w.heap.size r := by rw [hw2]; exact box_keep (z0.set r) (setK _ (w.heap.size + 1) 0 _) (by omega)
    have y1 : w2.cell? ⟨w.heap.size + 1, 0, none⟩ = some (.int .i64 0) := by rw [hw2]; exact p_cell (block_setCell (i := 0) s1 (.int .i64 0))
    have hk2 : Keep S w w2 := by rw [hw2]; exact (hKS.andThen (rowK w1 w.heap.size (rc r)) (fun i hi e => by omega)).setNew (by show w.heap.size ≤ w.heap.size + 1; omega) _
    clear hw2 hcl hfz s1 z0 z1
    simp only [Leaves, settle]
    exact ⟨_, res_ru2 (by rfl) _ w2 _ _ _ _ (by rfl) (by rfl) y0 y1, rfl, hk2⟩
  · obtain rfl := hr h0
    have hc' := hc.mono (fun e w' h => And.intro (h.1.elim (fun k => absurd k.1 h0) (fun k => k.2)) h.2 : ∀ e w', _ → (e = .panicked (gaveP n) ∧ _))
    clear hc hr
    go_enter_defers Tryz.func70, Tryz.ntmps70
    go_wp2_with (first
      | (go_at_fn k; refine hc'.mono ?_; rintro e w1 ⟨rfl, hB⟩; have z0 := hk0 w1 hB; have z1 := hk1 w1 hB; have hKS := hkS w1 hB; have hcl := p_cell z1; have hfz := p_thaw z1))
    refine leaves_cons (f := 85) (args := #[.pointer (some ⟨w.heap.size + 1, 0, none⟩)]) (by simp) (by simp [go_sem]) ?_
    refine (catchP_panicking ⟨w.heap.size + 1, 0, none⟩ 0 n _ hcl hfz).mono ?_
    rintro e u' w2 ⟨rfl, rfl, hw2⟩
    have y0 : RuAt w2 w.heap.size r0 := by rw [hw2]; exact box_keep z0 (setK _ (w.heap.size + 1) 0 _) (by omega)
    have y1 : w2.cell? ⟨w.heap.size + 1, 0, none⟩ = some (.int .i64 n) := by rw [hw2]; exact p_cell (block_setCell (i := 0) z1 (.int .i64 n))
    have hk2 : Keep S w w2 := by rw [hw2]; exact hKS.setNew (by show w.heap.size ≤ w.heap.size + 1; omega) _
    clear hw2 hcl hfz z0 z1
    simp only [settle]
    exact ⟨_, res_ru2 (by rfl) _ w2 _ _ _ _ (by rfl) (by rfl) y0 y1, rfl, hk2⟩

theorem tab_lt {w : World} (hT : Lib.Utf8Tabs 0 1 w) : 0 < w.heap.size ∧ 1 < w.heap.size :=
  ⟨World.block_lt_of_cell? w _ (hT.1 0 (by omega)), World.block_lt_of_cell? w _ (hT.2 0 (by omega)).1⟩

/-- What Parse answers. -/
def prv (l : By) : Value := .tuple #[rv (parseR l).1, .int .i64 (parseR l).2]
set_option maxHeartbeats 1600000 in
theorem parse_any (l : By) (w : World) (hs : l.length ≤ 281474976710656) (hT : Lib.Utf8Tabs 0 1 w) :
    Calls Tryz.prog 58 #[.string (ba l)] w fun e w' => e = .returned (prv l) ∧ Below w.heap.size w w' := by
  obtain ⟨t1, t2⟩ := tab_lt hT
  have hmf : ∀ (fn : Fn) (first cap : Array Value) (w : World), (Instr.makeFunc fn first cap).run Tryz.prog w = .ok (.func fn first cap) w := fun _ _ _ _ => rfl
  have hbW := below2 w oRul (.cells #[.string (ba l)] 110)
  have hR : RdrAt ((w.alloc oRul).alloc (.cells #[.string (ba l)] 110)) (w.heap.size + 1) (ba l) := push_at _ _ (by simp)
  have hU : RuAt ((w.alloc oRul).alloc (.cells #[.string (ba l)] 110)) w.heap.size r0 := push_old (push_at _ _ rfl)
  have hT1 := tabs_bel hT hbW
  generalize hW : (w.alloc oRul).alloc (.cells #[.string (ba l)] 110) = W at hbW hR hU hT1
  have HW : Hid ((w.alloc oRul).alloc (.cells #[.string (ba l)] 110) = W) := hW
  have hlt := box_lt hR
  have cR := rule_any (w.heap.size + 1) l ((W.alloc oRul).alloc oErr) (push_old (push_old hR)) hs (tabs_bel hT1 (below2 _ _ _)) (by omega) (by omega)
  have cB := begun_any 71 (.pointer (some ⟨w.heap.size + 1, 0, none⟩)) (parseR l).2 (parseR l).1 (parseR_no l) (fun i => i = w.heap.size + 1) W (enters_of Tryz.func71 (by kernel_rfl) rfl) (fun i hi e => by omega) cR
  have HU : Hid (RuAt W w.heap.size r0 ∧ Below w.heap.size w W ∧ w.heap.size + 1 < W.heap.size) := ⟨hU, hbW, hlt⟩
  clear hW cR hR hU hT hT1 hbW hlt t1 t2
  unfold prv
  generalize parseR l = p at *
  obtain ⟨r, n⟩ := p
  dsimp only at cB ⊢
  obtain ⟨V, HV⟩ : ∃ V, Hid (rv r = V) := ⟨_, rfl⟩
  rw [HV.out] at cB ⊢
  generalize ba l = L at *
  go_enter Tryz.func58, Tryz.ntmps58
  go_upto_region 2 with fail
  rw [HW.out]
  go_wp2_with (first
    | (go_at_call 70; refine cB.mono ?_; clear cB; rintro e w1 ⟨rfl, hk⟩; have A1 := box_keep HU.out.1 hk (by omega))
    | (refine wp_store_ru rfl (.tmp 2) (.tmp 9) rfl w.heap.size rfl r HV.out.symm _ A1 ?_))
  refine bodyPost_ret (v := .tuple #[V, .int .i64 n]) ?_ rfl ⟨rfl, ?_⟩
  · rw [← HV.out]
    exact res_ru1 rfl _ _ w.heap.size _ _ rfl rfl (RuAt.set A1 r)
  · exact (HU.out.2.1.trans (hk.below HU.out.2.1.size (fun j e => by omega))).trans ((rowK w1 w.heap.size _).below (by have := hk.size; have := HU.out.2.1.size; omega) (fun j e => by omega))
end Go.Proofs.YtiplalbicibahaaGreatDoor

/- privacy: rows of texts and of rules; read. -/
set_option maxRecDepth 100000
namespace Go.Proofs.YtiplalbicibahaaGreatDoor
open Go.RowKit Go.Joins Go.Shelf

/-- 'append(v, x)' of one element, its cells in a new block. -/
theorem wp_app1 (t e : TypeId) (z : Value) (size bytes : Nat) (ht : Tryz.prog.underlying t = some (.slice e)) (hif : (Tryz.prog.info? e).map (fun i => (i.zero, i.size, i.bytes)) = some (some z, size, bytes)) (hzs : z.cells.size = size) (hsz : 0 < size) (hby : bytes ≤ 100)
    {w : World} {ops : Array Oper} {rest : List Oper} {o : Oper} {a : Act} {Q : Exit → Act → World → Prop} (hgd : o.guard = none) (s x : Operand)
    (ho : o.op = .call { callee := .builtin .append, args := #[s, x], argTypes := #[t, t] })
    (base : Nat) (v : Value) (n : Nat) (xs : List Value) (hs : a.eval s = v) (hown : w.ownsRow base e size v n xs) (cs : Array Value) (hcs : cs.size = size) (hone : ∀ u ∈ cs.toList, u.oneCell' = true)
    (hx : a.eval x = .slice (some ⟨w.heap.size, 0, none⟩) 1 1) (hn : n ≤ 1000000) (hbase : base ≤ w.heap.size)
    (h : ∀ v' w', w'.ownsRow base e size v' (n + 1) (xs ++ cs.toList) → Keep (fun k => v.ownBlock = some k) w w' → (v' ≠ .slice none 0 0) → wpList Tryz.prog ops Q rest (a.put o.dst v') w') : wpList Tryz.prog ops Q (o :: rest) a (w.alloc (.cells cs e)) := by
  obtain ⟨i0, hi, hz0, hz1, hz2⟩ := info_parts hif
  have hk0 : Keep (fun k => v.ownBlock = some k) w (w.alloc (.cells cs e)) := (Keep.refl _ _).alloc _
  have hown1 : (w.alloc (.cells cs e)).ownsRow base e size v n xs := own_keep (S := fun _ => False) hown ((Keep.refl _ _).alloc _) (fun _ _ h => h)
  refine wpList_append_own (w.alloc (.cells cs e)) hgd s x t ho base e i0 z size bytes ht hi hz0 hz1 hz2 hzs hsz v n xs hs hown1 ⟨w.heap.size, 0, none⟩ 1 1 cs.toList hx (by simp [hcs]) (fun j u hu => ?_) hone (by unfold maxLen; omega) (by
    have : (n + 1) * bytes ≤ (1000000 + 1) * 100 := Nat.mul_le_mul (by omega) hby
    omega) (by simp; omega) ?_
  · rw [add_flat, Nat.zero_add, cell_of_block (alloc_at w (.cells cs e))]
    simpa using hu
  · intro v' w' k1 k2 k3
    refine h v' w' k1 (hk0.trans (Keep.ofGrown k2)) (fun e => ?_)
    have := k3.1 e
    omega
theorem infoStr1 : (Tryz.prog.info? 9).map (fun i => (i.zero, i.size, i.bytes)) = some (some (.string ByteArray.empty), 1, 16) := by kernel_rfl
theorem infoRule5 : (Tryz.prog.info? 72).map (fun i => (i.zero, i.size, i.bytes)) = some (some (.agg #[.bool false, .bool false, .bool false, .string ByteArray.empty, .string ByteArray.empty]), 5, 40) := by kernel_rfl

/-! ### rows of texts -/
/-- What a slice of texts reads as. -/
structure TRd (w : World) (a : Option Addr) (n c : Nat) (ts : List By) : Prop where
  len : ts.length = n
  cap : n ≤ c
  most : c ≤ maxLen
  flat : 0 < n → ∃ b off, a = some ⟨b, off, none⟩ ∧ ∀ j, j < n → w.cell? ⟨b, off + j, none⟩ = some (.string (ba (ts.getD j [])))
  nil0 : a = none → c = 0
theorem TRd.below {w w' : World} {a : Option Addr} {n c : Nat} {ts : List By} (h : TRd w a n c ts) (hb : Below w.heap.size w w') : TRd w' a n c ts := by
  refine ⟨h.len, h.cap, h.most, fun h0 => ?_, h.nil0⟩
  obtain ⟨b, off, e, hc⟩ := h.flat h0
  exact ⟨b, off, e, fun j hj => (hb.cell (World.block_lt_of_cell? w _ (hc j hj))).trans (hc j hj)⟩
theorem TRd.nil (w : World) : TRd w none 0 0 [] := ⟨rfl, Nat.le_refl _, by unfold maxLen; omega, fun h => by omega, fun _ => rfl⟩
def tc (ts : List By) : List Value := ts.map fun t => .string (ba t)
theorem tc_len (ts : List By) : (tc ts).length = ts.length := by simp [tc]
theorem tc_app (ts us : List By) : tc (ts ++ us) = tc ts ++ tc us := by simp [tc]
theorem TRd.ofOwn {w : World} {base : Nat} {v : Value} {n : Nat} {ts : List By} (h : w.ownsRow base 9 1 v n (tc ts)) : ∃ a c, v = .slice a n c ∧ TRd w a n c ts := by
  have hl : ts.length = n := by have := h.1; simpa [tc_len] using this
  rcases h.2 with ⟨hv, hn⟩ | ⟨g, cap, cur, hv, hg, hh, hnc, hm, hsz, ht⟩
  · subst hv; subst hn
    exact ⟨none, 0, rfl, hl, Nat.le_refl _, by unfold maxLen; omega, fun h => by omega, fun _ => rfl⟩
  · subst hv
    refine ⟨some ⟨g, 0, none⟩, cap, rfl, hl, hnc, hm, fun h0 => ⟨g, 0, rfl, fun j hj => ?_⟩, fun e => by cases e⟩
    have hcell := h.cells (g := g) rfl j (.string (ba (ts.getD j []))) (by
      have : j < ts.length := by omega
      simp [tc, List.getD, List.getElem?_eq_getElem this])
    rw [add_flat] at hcell
    exact hcell

/-! ### rows of rules -/
def rcs (rs : List Rul) : List Value := rs.flatMap fun r => (rc r).toList
theorem rcs_len (rs : List Rul) : (rcs rs).length = rs.length * 5 := by
  induction rs with
  | nil => rfl
  | cons a q ih => show (rcs q).length + 5 = _; rw [ih, List.length_cons]; omega
theorem rcs_app (rs qs : List Rul) : rcs (rs ++ qs) = rcs rs ++ rcs qs := by unfold rcs; rw [List.flatMap_append]
theorem rcs_get : ∀ (rs : List Rul) (j : Nat) (r : Rul), rs[j]? = some r → ∀ i u, (rc r)[i]? = some u → (rcs rs)[j * 5 + i]? = some u
  | [], j, r, h, _, _, _ => by cases h
  | a :: q, 0, r, h, i, u, hu => by
    have : a = r := by simpa using h
    subst this
    show ((rc a).toList ++ rcs q)[0 * 5 + i]? = some u
    have hi : i < (rc a).toList.length := by
      have := (Array.getElem?_eq_some_iff.1 hu).1
      simpa using this
    rw [Nat.zero_mul, Nat.zero_add, List.getElem?_append_left hi, Array.getElem?_toList]
    exact hu
  | a :: q, j + 1, r, h, i, u, hu => by
    show ((rc a).toList ++ rcs q)[(j + 1) * 5 + i]? = some u
    have hl : (rc a).toList.length = 5 := rfl
    rw [List.getElem?_append_right (by omega), hl, show (j + 1) * 5 + i - 5 = j * 5 + i by omega]
    exact rcs_get q j r (by simpa using h) i u hu
/-- Where a row of rules lies: its block (none: nil), length, capacity. -/
abbrev Rw := Option Nat × Nat × Nat
def rsl (f : Rw) : Value := .slice (f.1.map fun g => ⟨g, 0, none⟩) f.2.1 f.2.2
structure RRd (w : World) (f : Rw) (rs : List Rul) : Prop where
  len : rs.length = f.2.1
  cap : f.2.1 ≤ f.2.2
  most : f.2.2 ≤ maxLen
  typ : ∀ g, f.1 = some g → ∃ cur, w.heap[g]? = some (.cells cur 72 (0, 0))
  row : 0 < f.2.1 → ∃ g, f.1 = some g ∧ ∀ j r, rs[j]? = some r → w.rangeAt g (j * 5) (rc r).toList
theorem RRd.keep {S : Nat → Prop} {w w' : World} {f : Rw} {rs : List Rul} (h : RRd w f rs) (hk : Keep S w w') (hs : ∀ g, f.1 = some g → ¬ S g) : RRd w' f rs := by
  refine ⟨h.len, h.cap, h.most, fun g hg => ?_, fun h0 => ?_⟩
  · obtain ⟨cur, hc⟩ := h.typ g hg
    exact ⟨cur, box_keep hc hk (hs g hg)⟩
  · obtain ⟨g, hg, hr⟩ := h.row h0
    exact ⟨g, hg, fun j r hj i u hu => hk.cell (p := ⟨g, j * 5 + i, none⟩) (hr j r hj i u hu) (hs g hg)⟩
theorem RRd.below {w w' : World} {f : Rw} {rs : List Rul} (h : RRd w f rs) (hb : Below w.heap.size w w') : RRd w' f rs := h.keep (S := fun _ => False) (Keep.ofBelow hb) (fun _ _ h => h)
theorem RRd.nil (w : World) : RRd w (none, 0, 0) [] := ⟨rfl, Nat.le_refl _, (Nat.zero_le _), (fun _ h => by cases h), (fun h => absurd h (Nat.lt_irrefl 0))⟩
theorem RRd.ofOwn {w : World} {base : Nat} {v : Value} {n : Nat} {rs : List Rul} (h : w.ownsRow base 72 5 v n (rcs rs)) : ∃ f : Rw, v = rsl f ∧ RRd w f rs ∧ f.2.1 = n ∧ ∀ g, f.1 = some g → base ≤ g ∧ g < w.heap.size := by
  have hl : rs.length = n := by have := h.1; rw [rcs_len] at this; omega
  rcases h.2 with ⟨hv, hn⟩ | ⟨g, cap, cur, hv, hg, hh, hnc, hm, hsz, ht⟩
  · subst hv; subst hn
    have : rs = [] := List.eq_nil_of_length_eq_zero hl
    subst this
    exact ⟨(none, 0, 0), rfl, RRd.nil w, rfl, fun g h => by cases h⟩
  · subst hv
    refine ⟨(some g, n, cap), rfl, ⟨hl, hnc, hm, fun g' e => by cases e; exact ⟨cur, hh⟩, fun _ => ⟨g, rfl, fun j r hj i u hu => ?_⟩⟩, rfl, fun g' e => by cases e; exact ⟨hg, box_lt hh⟩⟩
    have hcell := h.cells (g := g) rfl (j * 5 + i) u (rcs_get rs j r hj i u (by rw [← Array.getElem?_toList]; exact hu))
    rw [add_flat, Nat.zero_add] at hcell
    exact hcell

/-! ### read -/
def readR : List By → List Rul × Nat
  | [] => ([], 0)
  | t :: ts => if (parseR t).2 = 0 then (if (readR ts).2 = 0 then ((parseR t).1 :: (readR ts).1, 0) else ([], (readR ts).2)) else ([], (parseR t).2)
theorem readR_bad (ts : List By) : ∀ (ps : List By), (∀ p ∈ ps, (parseR p).2 = 0) → ∀ t, (parseR t).2 ≠ 0 → readR (ps ++ t :: ts) = ([], (parseR t).2)
  | [], _, t, ht => by rw [List.nil_append, readR, if_neg ht]
  | p :: ps, h, t, ht => by
    rw [List.cons_append, readR, if_pos (h p (by simp)), readR_bad ts ps (fun q hq => h q (by simp [hq])) t ht, if_neg ht]
theorem readR_all : ∀ (ps : List By), (∀ p ∈ ps, (parseR p).2 = 0) → readR ps = (ps.map fun p => (parseR p).1, 0)
  | [], _ => rfl
  | p :: ps, h => by rw [readR, if_pos (h p (by simp)), readR_all ps (fun q hq => h q (by simp [hq]))]; rfl
theorem readR_le : ∀ ts : List By, (readR ts).2 = 0 → (readR ts).1.length = ts.length
  | [], _ => rfl
  | t :: ts, h => by
    rw [readR] at h ⊢
    by_cases h1 : (parseR t).2 = 0
    · rw [if_pos h1] at h ⊢
      by_cases h2 : (readR ts).2 = 0
      · rw [if_pos h2]; simp [readR_le ts h2]
      · rw [if_neg h2] at h; exact absurd h h2
    · rw [if_neg h1] at h; exact absurd h h1

/-- What read answers. -/
def Readed (ts : List By) (w : World) (e : Ending) (w' : World) : Prop :=
  (((readR ts).2 = 0 ∧ ∃ v, e = .returned (.tuple #[v, .int .i64 0]) ∧ w'.ownsRow w.heap.size 72 5 v ts.length (rcs (readR ts).1)) ∨ ((readR ts).2 ≠ 0 ∧ e = .returned (.tuple #[.slice none 0 0, .int .i64 ((readR ts).2 : Nat)]))) ∧ Below w.heap.size w w'
theorem ownR_sl {W : World} {lo n sz : Nat} {e : TypeId} {v : Value} {xs : List Value} (h : W.ownsRow lo e sz v n xs) : ∃ a c, v = .slice a n c := by
  rcases h.2 with ⟨rfl, rfl⟩ | ⟨g, cap, cur, rfl, _⟩
  · exact ⟨none, 0, rfl⟩
  · exact ⟨_, _, rfl⟩
set_option maxHeartbeats 2000000 in
theorem read_any (a : Option Addr) (n c : Nat) (ts : List By) (w : World) (hR : TRd w a n c ts) (hn : n ≤ 100000) (hs : ∀ t ∈ ts, t.length ≤ 2000000) (hT : Lib.Utf8Tabs 0 1 w) :
    Calls Tryz.prog 41 #[.slice a n c] w (Readed ts w) := by
  have Hn : Hid (ts.length = n) := hR.len
  have HT : Hid (Lib.Utf8Tabs 0 1 w) := hT
  clear hT
  obtain ⟨N, HN⟩ : ∃ N, Hid (n = N) := ⟨_, rfl⟩
  go_enter Tryz.func41, Tryz.ntmps41
  go_upto_region 3 with fail
  go_loopw [4, 6, 7, 8, 11] (fun s4 _ _ _ s11 wr => ∃ (j : Nat) (v : Value), s4 = v ∧ s11 = .int .i64 j ∧ j ≤ n ∧ Hid (∀ p ∈ ts.take j, (parseR p).2 = 0) ∧ Hid (wr.ownsRow w.heap.size 72 5 v j (rcs ((ts.take j).map fun p => (parseR p).1))) ∧ Hid (Below w.heap.size w wr)) (fun _ _ _ _ s11 _ => n - (intOf s11).toNat)
  case atStart =>
    refine ⟨0, _, rfl, rfl, by omega, fun p hp => by simp at hp, ?_, Below.refl _ _⟩
    exact World.ownsRow_nil _ _ _ _
  case round =>
    obtain ⟨j, v, h4, rfl, hjn, HP, HR, HB⟩ := hrel
    replace h4 := h4.symm
    subst h4
    by_cases hlt : j < n
    · have hcl : (j : Int) < (n : Int) := by omega
      obtain ⟨b, off, rfl, hce⟩ := (hR.below HB.out).flat (by omega)
      have hcj := hce j hlt
      clear hce
      obtain ⟨y, hy⟩ : ∃ y, ts[j]? = some y := ⟨_, List.getElem?_eq_getElem (by rw [Hn.out]; exact hlt)⟩
      rw [show ts.getD j [] = y by rw [List.getD_eq_getElem?_getD, hy]; rfl] at hcj
      have hys := hs y (List.mem_of_getElem? hy)
      have HTk : Hid (ts.take (j + 1) = ts.take j ++ [y]) := by
        show _ = _
        rw [List.take_add_one, hy]; rfl
      have HTd : Hid (ts = ts.take j ++ y :: ts.drop (j + 1)) := by
        show _ = _
        have e := List.getElem?_eq_some_iff.1 hy
        rw [← e.2]
        exact (List.take_append_drop j ts).symm.trans (by rw [List.drop_eq_getElem_cons e.1])
      have ov := HR.out
      obtain ⟨av, cv, hv⟩ := ownR_sl ov
      subst hv
      clear hy
      have cP := parse_any y wr (by omega) (tabs_bel HT.out (HB.out.mono (by omega)))
      have HY : Hid ((parseR y).2 ≠ 0 → readR ts = ([], (parseR y).2)) := fun h => by
        have e := HTd.out
        have := readR_bad (ts.drop (j + 1)) (ts.take j) HP.out y h
        rw [← e] at this
        exact this
      unfold prv at cP
      have HM : Hid ((parseR y).2 = 0 → (∀ p ∈ ts.take (j + 1), (parseR p).2 = 0) ∧ rcs ((ts.take (j + 1)).map fun p => (parseR p).1) = rcs ((ts.take j).map fun p => (parseR p).1) ++ (rc (parseR y).1).toList) := fun h => by
        rw [HTk.out]
        refine ⟨fun p hp => ?_, ?_⟩
        · rcases List.mem_append.1 hp with q | q
          · exact HP.out p q
          · have : p = y := by simpa using q
            rw [this]; exact h
        · rw [List.map_append, rcs_app]; rfl
      generalize parseR y = p at cP HY HM
      obtain ⟨r, en⟩ := p
      obtain ⟨al, i, o, k, vv⟩ := r
      dsimp only at cP HY HM
      by_cases he : en = 0
      · have HM1 : Hid _ := HM.out he
        subst he
        obtain ⟨V, HV⟩ : ∃ V, Hid (rv ⟨al, i, o, k, vv⟩ = V) := ⟨_, rfl⟩
        rw [HV.out] at cP
        have hsz := HB.out.size
        go_upto_region 6 with (first
          | (go_at_call 58; refine cP.mono ?_; clear cP; rintro e w5 ⟨rfl, hb5⟩; have ov5 := own_keep (S := fun _ => False) ov (Keep.ofBelow hb5) (fun _ _ h => h))
          | (refine wp_store_ru rfl (.tmp 7) (.tmp 18) rfl w5.heap.size rfl ⟨al, i, o, k, vv⟩ HV.out.symm r0 (push_at _ _ rfl) ?_))
        have A6 : Hid (RuAt ((w5.alloc oRul).setRow w5.heap.size (rc ⟨al, i, o, k, vv⟩)) w5.heap.size ⟨al, i, o, k, vv⟩ ∧ Below w5.heap.size w5 ((w5.alloc oRul).setRow w5.heap.size (rc ⟨al, i, o, k, vv⟩))) :=
          ⟨RuAt.set (w := w5.alloc oRul) (r := r0) (push_at _ _ rfl) _, (below1 w5 oRul).trans ((rowK (w5.alloc oRul) w5.heap.size _).below (by simp) (fun j e => by omega))⟩
        generalize (w5.alloc _).setRow _ _ = w6 at A6 ⊢
        have ov6 := own_keep (S := fun _ => False) ov5 (Keep.ofBelow A6.out.2) (fun _ _ h => h)
        have HB6 : Hid (Below w.heap.size w w6) := (HB.out.trans (hb5.mono hsz)).trans (A6.out.2.mono (Nat.le_trans hsz hb5.size))
        clear ov ov5 HB hsz HP HR hb5 HY HTd HTk hR hcj
        generalize w5.heap.size = g at A6 ⊢
        go_wp2_with (first
          | (refine wp_load_ru rfl (.tmp 7) rfl g rfl ⟨al, i, o, k, vv⟩ A6.out.1 ?_; unfold rv rc; dsimp only)
          | (at_builtin; refine wp_app1 68 72 _ 5 40 Tryz.underlying68 infoRule5 rfl (by decide) (by decide) rfl (.tmp 23) (.tmp 25) rfl w.heap.size (.slice av j cv) j (rcs ((ts.take j).map fun p => (parseR p).1)) rfl ov6 #[.bool al, .bool i, .bool o, .string (ba k), .string (ba vv)] rfl (by simp [Value.oneCell']) rfl (by omega) HB6.out.size ?_; intro v7 w7 o7 k7 n7))
        have HB7 : Below w.heap.size w w7 := HB6.out.trans (k7.below HB6.out.size (fun g' hg => (ov6.lt g' hg).1))
        refine ⟨⟨j + 1, _, rfl, by go_num, by omega, HM1.out.1, ?_, HB7⟩, by simp [intOf]; omega⟩
        show World.ownsRow _ _ _ _ _ _ _
        rw [HM1.out.2]
        exact o7
      · have hy := HY.out he
        have hd : ((en : Int) != 0) = true := by simp; omega
        replace he : Hid (en ≠ 0) := he
        obtain ⟨V, HV⟩ : ∃ V, Hid (rv ⟨al, i, o, k, vv⟩ = V) := ⟨_, rfl⟩
        rw [HV.out] at cP
        have HE : Hid (Readed ts w (.returned (.tuple #[.slice none 0 0, .int .i64 en])) = fun w' => Below w.heap.size w w') := by
          show _ = _
          unfold Readed
          rw [hy]
          funext w'
          exact propext ⟨fun h => h.2, fun h => ⟨Or.inr ⟨he.out, rfl⟩, h⟩⟩
        have hsz := HB.out.size
        clear HY HM HTd HTk hR HP HR ov hy
        go_wp2_with (first
          | (go_at_call 58; refine cP.mono ?_; clear cP; rintro e w5 ⟨rfl, hb5⟩)
          | (refine wp_store_ru rfl (.tmp 7) (.tmp 18) rfl w5.heap.size rfl ⟨al, i, o, k, vv⟩ HV.out.symm r0 (push_at _ _ rfl) ?_))
        go_ret2
        show Readed ts w (.returned (.tuple #[.slice none 0 0, .int .i64 en])) _
        rw [HE.out]
        exact (HB.out.trans (hb5.mono hsz)).trans (((below1 w5 oRul).trans ((rowK (w5.alloc oRul) w5.heap.size _).below (by simp) (fun j e => by omega))).mono (Nat.le_trans hsz hb5.size))
    · have hcl : ¬ (j : Int) < (n : Int) := by omega
      obtain rfl : j = n := by omega
      have hall : readR ts = (ts.map fun p => (parseR p).1, 0) := by
        have := HP.out
        rw [List.take_of_length_le (by rw [Hn.out]; exact Nat.le_refl _)] at this
        exact readR_all ts this
      have hR9 := HR.out
      rw [List.take_of_length_le (by rw [Hn.out]; exact Nat.le_refl _)] at hR9
      have HF : Hid (Readed ts w (.returned (.tuple #[v, .int .i64 0])) wr) := by
        refine ⟨Or.inl ⟨by rw [hall], v, rfl, ?_⟩, HB.out⟩
        rw [hall, Hn.out]
        exact hR9
      clear hall hR9 HR HP
      go_wp2
      go_ret2
      exact HF.out
end Go.Proofs.YtiplalbicibahaaGreatDoor

/- privacy: the map of lists; Lists in memory; New, Has, holding. -/
set_option maxRecDepth 100000
namespace Go.Proofs.YtiplalbicibahaaGreatDoor
open Go.RowKit Go.Joins Go.Shelf Go.Sort

def li (i : Int) : DataW Unit := .lit (.int .i64 i)
def gd : Rw → DataW Unit
  | (none, n, c) => .agg [li (-1), li n, li c]
  | (some b, n, c) => .agg [li b, li n, li c]
theorem li_inj {x y : Int} (h : li x = li y) : x = y := by injection h with h; injection h
theorem gd_inj {g g' : Rw} (h : gd g = gd g') : g = g' := by
  obtain ⟨a, n, c⟩ := g
  obtain ⟨b, m, d⟩ := g'
  have hl : ∀ {x y : List (DataW Unit)}, DataW.agg x = DataW.agg y → x = y := fun h => by injection h
  cases a <;> cases b
  all_goals
    have h := hl h
    obtain ⟨e0, h⟩ := List.cons.inj h
    obtain ⟨e1, h⟩ := List.cons.inj h
    obtain ⟨e2, _⟩ := List.cons.inj h
    have e0 := li_inj e0
    have e1 := li_inj e1
    have e2 := li_inj e2
  · rw [Int.ofNat.inj e1, Int.ofNat.inj e2]
  · omega
  · omega
  · rw [Int.ofNat.inj e0, Int.ofNat.inj e1, Int.ofNat.inj e2]
def Rs (v : Value) : Option (DataW Unit × List MemPlace) :=
  match v with
  | .slice none n q => some (gd (none, n, q), [])
  | .slice (some ⟨b, 0, none⟩) n q => some (gd (some b, n, q), [])
  | _ => none
theorem Rs_mk (f : Rw) : Rs (rsl f) = some (gd f, []) := by
  obtain ⟨g, n, q⟩ := f
  cases g <;> rfl
theorem Rs_inv {v : Value} {f : Rw} {ps : List MemPlace} (h : Rs v = some (gd f, ps)) : v = rsl f := by
  unfold Rs at h
  split at h
  · rename_i n q
    injection h with h
    have e1 : gd (none, n, q) = gd f := congrArg Prod.fst h
    rw [← gd_inj e1]; rfl
  · rename_i b n q
    injection h with h
    have e1 : gd (some b, n, q) = gd f := congrArg Prod.fst h
    rw [← gd_inj e1]; rfl
  · cases h

theorem ba_inj {s t : ByteArray} (h : s.data.toList = t.data.toList) : s = t := by rw [← ba_back s, ← ba_back t, h]
theorem ba_injL {l m : By} (h : ba l = ba m) : l = m := by rw [← ba_list l, ← ba_list m, h]
def kl (l : By) : Lit := .string l
theorem kl_key (l : By) (hs : l.length ≤ maxLen) : keyOf Tryz.prog 9 (.string (ba l)) = some (kl l) := by
  rw [keyOf_string Tryz.underlying9]
  have : (ba l).size ≤ maxLen := by rw [ba_size]; exact hs
  simp [mapKey, Tryz.underlying9, this, kl, ba_list]
theorem kl_is (l : By) : WideAt.IsKeyLit (kl l) := trivial
theorem kl_ne {s t : By} (h : s ≠ t) : kl s ≠ kl t := fun e => h (by unfold kl at e; injection e)
theorem keyed : Maps.Keyed Tryz.prog 9 := Maps.string_keyed Tryz.underlying9
theorem zeroR (w : World) : (zeroValue 68).run Tryz.prog w = .ok (rsl (none, 0, 0)) w := by kernel_rfl

/-- Block b is a map of at most n entries that holds m. -/
def RMap (w : World) (b n : Nat) (m : By → Option Rw) : Prop :=
  ∃ D : DataW Unit, w.ownsMap Tryz.prog 9 Rs b n D ∧ ∀ s : By, (∀ z, D.atKey (kl s) z = ((m s).map gd).getD z) ∧ Maps.has D (kl s) = (m s).isSome
def putM {α : Type} (m : By → Option α) (u : By) (t : Option α) : By → Option α := fun s => if s = u then t else m s
theorem putM_same {α : Type} (m : By → Option α) (u : By) (t : Option α) : putM m u t u = t := by simp [putM]
theorem putM_other {α : Type} (m : By → Option α) {u s : By} (t : Option α) (h : s ≠ u) : putM m u t s = m s := by simp [putM, h]
theorem RMap.made (w : World) : RMap (w.alloc (.map #[] 0)) w.heap.size 0 (fun _ => none) :=
  ⟨_, World.ownsMap_made w _ _ _, fun _ => ⟨fun _ => rfl, rfl⟩⟩
theorem RMap.lt {w : World} {b n : Nat} {m : By → Option Rw} (h : RMap w b n m) : b < w.heap.size := by
  obtain ⟨D, hD, _⟩ := h; exact hD.lt
theorem RMap.keep {S : Nat → Prop} {w w' : World} {b n : Nat} {m : By → Option Rw} (h : RMap w b n m) (hk : Keep S w w') (hs : ¬ S b) : RMap w' b n m := by
  obtain ⟨D, hD, h2⟩ := h
  have hlt := hD.lt
  obtain ⟨es, clock, hb, F, h3, h4⟩ := hD
  exact ⟨D, ⟨es, clock, (hk.block b hlt hs).trans hb, F, h3, h4⟩, h2⟩
theorem RMap.notCells {w : World} {b n : Nat} {m : By → Option Rw} (h : RMap w b n m) {g : Nat} {cs : Array Value} {t : TypeId} {fr : Nat × Nat} (hc : w.heap[g]? = some (.cells cs t fr)) : g ≠ b := by
  obtain ⟨D, ⟨es, clock, hb, _⟩, h2⟩ := h
  intro e
  subst e
  rw [hb] at hc
  cases hc
theorem Keep.ofTurned {w w' : World} {b : Nat} (h : w.mapTurned w' b) : Keep (fun k => k = b) w w' := (Keep.ofGrown h.grown).mono (fun i e => by cases e; rfl)
/-- 'm[k]' at its run. -/
theorem RMap.look1 {w : World} {b n : Nat} {m : By → Option Rw} (h : RMap w b n m) (s : By) (hs : s.length ≤ maxLen) :
    (Instr.lookup 52 (.map (some b)) (.string (ba s)) false).run Tryz.prog w = .ok (rsl ((m s).getD (none, 0, 0))) w := by
  obtain ⟨D, hD, h2⟩ := h
  obtain ⟨v, ps, hrun, hv⟩ := hD.lookup keyed Tryz.underlying52 (zeroR w) (Rs_mk (none, 0, 0)) (kl_key s hs)
  rw [hrun]
  rw [(h2 s).1] at hv
  have : v = rsl ((m s).getD (none, 0, 0)) := by
    cases hm : m s with
    | none => rw [hm] at hv; exact Rs_inv hv
    | some t => rw [hm] at hv; exact Rs_inv hv
  rw [this]
/-- 'v, ok := m[k]' at its run. -/
theorem RMap.look2 {w : World} {b n : Nat} {m : By → Option Rw} (h : RMap w b n m) (s : By) (hs : s.length ≤ maxLen) :
    (Instr.lookup 52 (.map (some b)) (.string (ba s)) true).run Tryz.prog w = .ok (.tuple #[rsl ((m s).getD (none, 0, 0)), .bool (m s).isSome]) w := by
  obtain ⟨D, hD, h2⟩ := h
  obtain ⟨v, ps, hrun, hv⟩ := hD.look_ok keyed Tryz.underlying52 (zeroR w) (Rs_mk (none, 0, 0)) (kl_key s hs)
  rw [hrun, (h2 s).2]
  rw [(h2 s).1] at hv
  have : v = rsl ((m s).getD (none, 0, 0)) := by
    cases hm : m s with
    | none => rw [hm] at hv; exact Rs_inv hv
    | some t => rw [hm] at hv; exact Rs_inv hv
  rw [this]
/-- 'm[k] = v' at its run. -/
theorem RMap.store {w : World} {b n : Nat} {m : By → Option Rw} (h : RMap w b n m) (hn : n < 1000000) (s : By) (hs : s.length ≤ maxLen) (t : Rw) :
    ∃ w', (Instr.mapUpdate 52 (.map (some b)) (.string (ba s)) (rsl t)).run Tryz.prog w = .ok () w' ∧ RMap w' b (n + 1) (putM m s (some t)) ∧ Keep (fun k => k = b) w w' := by
  obtain ⟨D, hD, h2⟩ := h
  obtain ⟨w', hrun, hown, hturn⟩ := hD.store keyed Tryz.underlying52 (by unfold maxLen; omega) (kl_key s hs) (Rs_mk t)
  refine ⟨w', hrun, ⟨_, hown, fun u => ?_⟩, Keep.ofTurned hturn⟩
  by_cases hu : u = s
  · subst hu
    rw [putM_same]
    exact ⟨fun z => Maps.atKey_put_same hD.isMap (kl_is u) _ z, Maps.has_put_same hD.isMap (kl_is u) _⟩
  · rw [putM_other m _ hu]
    exact ⟨fun z => (Maps.atKey_put_other (kl_ne hu) _ z).trans ((h2 u).1 z), (Maps.has_put_other (kl_ne hu) _).trans (h2 u).2⟩
/-- 'delete(m, k)' at its run. -/
theorem RMap.drop {w : World} {b n : Nat} {m : By → Option Rw} (h : RMap w b n m) (s : By) (hs : s.length ≤ maxLen) (ty : TypeId) :
    ∃ w', (Builtin.delete_ #[52, 9] ty #[.map (some b), .string (ba s)]).run Tryz.prog w = .ok (.tuple #[]) w' ∧ RMap w' b n (putM m s none) ∧ Keep (fun k => k = b) w w' := by
  obtain ⟨D, hD, h2⟩ := h
  obtain ⟨w', hrun, hown, hturn⟩ := hD.drop keyed Tryz.underlying52 (kl_key s hs) ty
  refine ⟨w', hrun, ⟨_, hown, fun u => ?_⟩, Keep.ofTurned hturn⟩
  by_cases hu : u = s
  · subst hu
    rw [putM_same]
    exact ⟨fun z => Maps.atKey_del_same z, Maps.has_del_same⟩
  · rw [putM_other m _ hu]
    exact ⟨fun z => (Maps.atKey_del_other (kl_ne hu) z).trans ((h2 u).1 z), (Maps.has_del_other (kl_ne hu)).trans (h2 u).2⟩
/-- The keys of such a map, by a list of names. -/
theorem RMap.keys {w : World} {b n : Nat} {m : By → Option Rw} (h : RMap w b n m) (l : List By) (hl : l.Nodup) (hm : ∀ s, (m s).isSome = true ↔ s ∈ l) :
    ∃ D : DataW Unit, w.ownsMap Tryz.prog 9 Rs b n D ∧ l.Perm (strKeys D) ∧ Maps.size D = l.length := by
  obtain ⟨D, hD, h2⟩ := h
  obtain ⟨es, rfl, hp, hkl⟩ := hD.entries keyed
  have hst : ∀ p ∈ es, ∃ x, p.1 = .string x := fun p hp' => by
    obtain ⟨es', hes, hko⟩ := hD.keysOf
    cases hes
    obtain ⟨key, hkey⟩ := hko p hp'
    obtain ⟨x, _, hx, _⟩ := Maps.keyOf_str Tryz.underlying9 hkey
    exact ⟨x, hx⟩
  have hperm : l.Perm (strKeys (.map es)) := by
    refine perm_strKeys hp hst hl (fun x => ?_)
    constructor
    · intro hx
      have := (h2 x).2
      rw [(hm x).2 hx] at this
      exact this
    · intro hx
      have := (h2 x).2
      unfold kl at this
      rw [hx] at this
      exact (hm _).1 this.symm
  refine ⟨_, hD, hperm, ?_⟩
  have h3 := hperm.length_eq
  simp [strKeys] at h3
  simp [Maps.size]
  omega
theorem RMap.tight {w : World} {b n : Nat} {m : By → Option Rw} (h : RMap w b n m) (l : List By) (hl : l.Nodup) (hm : ∀ s, (m s).isSome = true ↔ s ∈ l) : RMap w b l.length m := by
  obtain ⟨D, hD, h2⟩ := h
  obtain ⟨D', hD', _, hsz⟩ := RMap.keys ⟨D, hD, h2⟩ l hl hm
  refine ⟨D, ?_, h2⟩
  obtain ⟨es, clock, hb, F, h3, h4⟩ := hD
  obtain ⟨es', clock', hb', F', h3', h4'⟩ := hD'
  rw [hb] at hb'
  cases hb'
  refine ⟨es, clock, hb, F, ?_, h4⟩
  have : D' = D := by rw [h4, h4']
  subst this
  have e1 : Maps.size D' = es.size := by rw [h4]; simp [Maps.size, length_sorted]
  omega
/-- 'len(m)' at its run, by a list of its keys. -/
theorem RMap.len {w : World} {b n : Nat} {m : By → Option Rw} (h : RMap w b n m) (l : List By) (hl : l.Nodup) (hm : ∀ s, (m s).isSome = true ↔ s ∈ l) (ty : TypeId) :
    (Builtin.len_ #[52] ty #[.map (some b)]).run Tryz.prog w = .ok (.int .i64 l.length) w := by
  obtain ⟨D, hD, _, hsz⟩ := h.keys l hl hm
  rw [hD.len Tryz.underlying52 ty, hsz]

/-! ### Lists in memory -/
/-- Lists: bounds, the default's name, names, the rules by name. -/
structure Pl where
  li : Int
  ru : Int
  us : By
  ks : List By
  m : By → Option (List Rul)
def lc (P : Pl) (mb : Nat) : Array Value := #[.int .i64 P.li, .int .i64 P.ru, .string (ba P.us), .map (some mb)]
def TieR (w : World) (F : Nat → Prop) (o : Option Rw) (x : Option (List Rul)) : Prop :=
  match o, x with
  | none, none => True
  | some f, some rs => RRd w f rs ∧ ∀ g, f.1 = some g → F g
  | _, _ => False
theorem TieR.isSome {w : World} {F : Nat → Prop} {o : Option Rw} {x : Option (List Rul)} (h : TieR w F o x) : o.isSome = x.isSome := by
  cases o <;> cases x
  · rfl
  · exact h.elim
  · exact h.elim
  · rfl
theorem TieR.keep {S : Nat → Prop} {w w' : World} {F G : Nat → Prop} {o : Option Rw} {x : Option (List Rul)} (h : TieR w F o x) (hk : Keep S w w') (hs : ∀ f g, o = some f → f.1 = some g → ¬ S g) (hG : ∀ i, F i → G i) : TieR w' G o x := by
  cases o <;> cases x
  · trivial
  · exact h.elim
  · exact h.elim
  · exact ⟨h.1.keep hk (fun g hg => hs _ g rfl hg), fun g hg => hG g (h.2 g hg)⟩
theorem TieR.get {w : World} {F : Nat → Prop} {o : Option Rw} {x : Option (List Rul)} (h : TieR w F o x) : RRd w (o.getD (none, 0, 0)) (x.getD []) := by
  cases o <;> cases x
  · exact RRd.nil w
  · exact h.elim
  · exact h.elim
  · exact h.1
/-- Lists at block q, their map at block mb. -/
structure LsM (w : World) (F : Nat → Prop) (q mb : Nat) (m : By → Option Rw) (P : Pl) : Prop where
  blk : w.heap[q]? = some (.cells (lc P mb) 54 (0, 0))
  map : RMap w mb P.ks.length m
  fq : F q
  fm : F mb
  tie : ∀ s, TieR w F (m s) (P.m s)
  lt : ∀ i, F i → i < w.heap.size
  nd : P.ks.Nodup
  mem : ∀ s, (P.m s).isSome = true ↔ s ∈ P.ks
def LsAt (w : World) (F : Nat → Prop) (q : Nat) (P : Pl) : Prop := ∃ mb m, LsM w F q mb m P
section
variable {w w' : World} {F : Nat → Prop} {q mb : Nat} {m : By → Option Rw} {P : Pl}
theorem LsM.c0 (h : LsM w F q mb m P) : w.cell? ⟨q, 0, none⟩ = some (.int .i64 P.li) := by rw [cell_of_block h.blk]; rfl
theorem LsM.c1 (h : LsM w F q mb m P) : w.cell? ⟨q, 1, none⟩ = some (.int .i64 P.ru) := by rw [cell_of_block h.blk]; rfl
theorem LsM.c2 (h : LsM w F q mb m P) : w.cell? ⟨q, 2, none⟩ = some (.string (ba P.us)) := by rw [cell_of_block h.blk]; rfl
theorem LsM.c3 (h : LsM w F q mb m P) : w.cell? ⟨q, 3, none⟩ = some (.map (some mb)) := by rw [cell_of_block h.blk]; rfl
theorem LsM.fz (h : LsM w F q mb m P) (i : Nat) : w.frozen? ⟨q, i, none⟩ = false := unfrozen_of_block h.blk i
theorem LsM.ne (h : LsM w F q mb m P) : q ≠ mb := h.map.notCells h.blk
/-- The blocks of the rules are neither Lists' own nor the map's. -/
theorem LsM.row (h : LsM w F q mb m P) {s : By} {f : Rw} {g : Nat} (hf : m s = some f) (hg : f.1 = some g) : g ≠ q ∧ g ≠ mb := by
  have ht := h.tie s
  rw [hf] at ht
  cases hx : P.m s with
  | none => rw [hx] at ht; exact ht.elim
  | some rs =>
    rw [hx] at ht
    obtain ⟨cur, hc⟩ := ht.1.typ g hg
    refine ⟨fun e => ?_, h.map.notCells hc⟩
    subst e
    rw [h.blk] at hc
    injection hc with hc
    injection hc with _ ht2 _
    exact absurd ht2 (by decide)
theorem LsM.keep {S : Nat → Prop} (h : LsM w F q mb m P) (hk : Keep S w w') (hs : ∀ i, F i → ¬ S i) : LsM w' F q mb m P := by
  refine ⟨box_keep h.blk hk (hs q h.fq), h.map.keep hk (hs mb h.fm), h.fq, h.fm, fun s => ?_, fun i hi => Nat.lt_of_lt_of_le (h.lt i hi) hk.size, h.nd, h.mem⟩
  refine (h.tie s).keep hk (fun f g hf hg => ?_) (fun _ h => h)
  have ht := h.tie s
  rw [hf] at ht
  cases hx : P.m s with
  | none => rw [hx] at ht; exact ht.elim
  | some rs => rw [hx] at ht; exact hs g (ht.2 g hg)
theorem LsM.below (h : LsM w F q mb m P) (hb : Below w.heap.size w w') : LsM w' F q mb m P := h.keep (S := fun _ => False) (Keep.ofBelow hb) (fun _ _ h => h)
theorem LsAt.keep {S : Nat → Prop} (h : LsAt w F q P) (hk : Keep S w w') (hs : ∀ i, F i → ¬ S i) : LsAt w' F q P := by
  obtain ⟨mb, m, h⟩ := h; exact ⟨mb, m, h.keep hk hs⟩
theorem LsAt.below (h : LsAt w F q P) (hb : Below w.heap.size w w') : LsAt w' F q P := h.keep (S := fun _ => False) (Keep.ofBelow hb) (fun _ _ h => h)
theorem LsAt.lt (h : LsAt w F q P) : ∀ i, F i → i < w.heap.size := by obtain ⟨mb, m, h⟩ := h; exact h.lt
end
/-- What a call leaves: Lists as they are to be; nothing else is turned. -/
def Lq (w : World) (F : Nat → Prop) (q : Nat) (P' : Pl) (w' : World) : Prop := ∃ F', LsAt w' F' q P' ∧ Keep F w w' ∧ (∀ i, F' i → F i ∨ w.heap.size ≤ i)
theorem Lq.ofBelow {w w' : World} {F : Nat → Prop} {q : Nat} {P : Pl} (h : LsAt w F q P) (hb : Below w.heap.size w w') : Lq w F q P w' := ⟨F, h.below hb, Keep.ofBelow hb, fun _ h => Or.inl h⟩

theorem has_any (s : By) (w : World) (F : Nat → Prop) (q mb : Nat) (m : By → Option Rw) (P : Pl) (h : LsM w F q mb m P) (hs : s.length ≤ 1000000) :
    Calls Tryz.prog 29 #[.pointer (some ⟨q, 0, none⟩), .string (ba s)] w fun e w' => e = .returned (.bool (P.m s).isSome) ∧ w' = w := by
  have c3 := h.c3
  have hl := h.map.look2 s (by unfold maxLen; omega)
  rw [(h.tie s).isSome] at hl
  generalize (P.m s).isSome = B at hl ⊢
  generalize rsl ((m s).getD (none, 0, 0)) = V at hl
  clear h
  go_enter Tryz.func29, Tryz.ntmps29
  go_wp2
  go_ret
  exact ⟨rfl, rfl⟩

/-- The rules that hold for a name. -/
def heldN (P : Pl) (s : By) : By := if (P.m s).isSome = true then s else P.us
def heldR (P : Pl) (s : By) : List Rul := (P.m (heldN P s)).getD []
theorem holding_any (s : By) (w : World) (F : Nat → Prop) (q mb : Nat) (m : By → Option Rw) (P : Pl) (h : LsM w F q mb m P) (hs : s.length ≤ 1000000) (hu : P.us.length ≤ 1000000) :
    Calls Tryz.prog 44 #[.pointer (some ⟨q, 0, none⟩), .string (ba s)] w fun e w' => ∃ f, e = .returned (rsl f) ∧ RRd w f (heldR P s) ∧ w' = w := by
  have c2 := h.c2
  have c3 := h.c3
  have cH := has_any s w F q mb m P h hs
  have hl := h.map.look1 (heldN P s) (by unfold maxLen heldN; split <;> omega)
  have HT : Hid (RRd w ((m (heldN P s)).getD (none, 0, 0)) (heldR P s)) := (h.tie (heldN P s)).get
  generalize (m (heldN P s)).getD (none, 0, 0) = f at hl HT
  generalize hz : rsl f = V at hl
  have HZ : Hid (rsl f = V) := hz
  clear hz h
  unfold heldN at hl
  cases hb : (P.m s).isSome with
  | true =>
    rw [hb] at hl cH
    rw [if_pos rfl] at hl
    clear hb
    go_enter Tryz.func44, Tryz.ntmps44
    go_wp2_with (go_at_call 29; refine cH.mono ?_; clear cH; rintro e w1 ⟨rfl, hw1⟩; replace hw1 := hw1.symm; subst hw1)
    go_ret
    exact ⟨f, by rw [HZ.out]; rfl, HT.out, rfl⟩
  | false =>
    rw [hb] at hl cH
    rw [if_neg (by decide)] at hl
    clear hb
    go_enter Tryz.func44, Tryz.ntmps44
    go_wp2_with (go_at_call 29; refine cH.mono ?_; clear cH; rintro e w1 ⟨rfl, hw1⟩; replace hw1 := hw1.symm; subst hw1)
    go_ret
    exact ⟨f, by rw [HZ.out]; rfl, HT.out, rfl⟩

/-! ### New -/
def bnd (n : Int) : Bool := decide (0 ≤ n) && decide (n ≤ 1000)
theorem bound_any (n : Int) (w : World) : Calls Tryz.prog 21 #[.int .i64 n] w fun e w' => e = .returned (.bool (bnd n)) ∧ w' = w := by
  unfold bnd
  by_cases h0 : 0 ≤ n
  · by_cases h1 : n ≤ 1000
    · rw [show (decide (0 ≤ n) && decide (n ≤ 1000)) = true from by simp [h0, h1]]
      have d0 : decide (0 ≤ n) = true := by simp [h0]
      have d1 : decide (n ≤ 1000) = true := by simp [h1]
      clear h0 h1
      go_enter Tryz.func21, Tryz.ntmps21
      go_wp2
      go_ret
      exact ⟨rfl, rfl⟩
    · rw [show (decide (0 ≤ n) && decide (n ≤ 1000)) = false from by simp [h1]]
      have d0 : decide (0 ≤ n) = true := by simp [h0]
      have d1 : decide (n ≤ 1000) = false := by simp; omega
      clear h0 h1
      go_enter Tryz.func21, Tryz.ntmps21
      go_wp2
      go_ret
      exact ⟨rfl, rfl⟩
  · rw [show (decide (0 ≤ n) && decide (n ≤ 1000)) = false from by simp [h0]]
    have d0 : decide (0 ≤ n) = false := by simp; omega
    clear h0
    go_enter Tryz.func21, Tryz.ntmps21
    go_wp2
    go_ret
    exact ⟨rfl, rfl⟩
def pl0 (l r : Int) : Pl := ⟨l, r, [], [], fun _ => none⟩
theorem new_bad (l r : Int) (w : World) (h : (bnd l && bnd r) = false) : Calls Tryz.prog 6 #[.int .i64 l, .int .i64 r] w fun e w' => e = .returned (.tuple #[.pointer none, .int .i64 1]) ∧ w' = w := by
  have cl := fun w => bound_any l w
  have cr := fun w => bound_any r w
  have tk : True := trivial
  generalize bnd l = bl at *
  generalize bnd r = br at *
  cases bl with
  | false =>
    clear cr
    go_enter Tryz.func6, Tryz.ntmps6
    go_wp2_with (go_at_call 21; refine (cl _).mono ?_; clear cl; rintro e w1 ⟨rfl, hw1⟩; replace hw1 := hw1.symm; subst hw1)
    go_ret2
    exact ⟨rfl, rfl⟩
  | true => cases br with
    | true => cases h
    | false =>
      clear h
      go_enter Tryz.func6, Tryz.ntmps6
      go_wp2_with (first
        | (go_at_call 21; clear tk; refine (cl _).mono ?_; rintro e w1 ⟨rfl, hw1⟩; replace hw1 := hw1.symm; subst hw1)
        | (go_at_call 21; refine (cr _).mono ?_; rintro e w1 ⟨rfl, hw1⟩; replace hw1 := hw1.symm; subst hw1))
      go_ret2
      exact ⟨rfl, rfl⟩
theorem new_ok (l r : Int) (w : World) (hl : bnd l = true) (hr : bnd r = true) : Calls Tryz.prog 6 #[.int .i64 l, .int .i64 r] w fun e w' => e = .returned (.tuple #[.pointer (some ⟨w.heap.size + 1, 0, none⟩), .int .i64 0]) ∧ LsAt w' (fun i => i = w.heap.size ∨ i = w.heap.size + 1) (w.heap.size + 1) (pl0 l r) ∧ Below w.heap.size w w' := by
  have cl := fun w => bound_any l w
  have cr := fun w => bound_any r w
  have tk : True := trivial
  rw [hl] at cl
  rw [hr] at cr
  clear hl hr
  have HL : Hid (LsAt ((w.alloc (.map #[] 0)).alloc (.cells (lc (pl0 l r) w.heap.size) 54)) (fun i => i = w.heap.size ∨ i = w.heap.size + 1) (w.heap.size + 1) (pl0 l r)) :=
    ⟨w.heap.size, fun _ => none, ⟨push_at _ _ (by simp), (RMap.made w).keep (S := fun _ => False) (Keep.ofBelow (below1 _ _)) (fun h => h), Or.inr rfl, Or.inl rfl, fun s => trivial, fun i hi => by simp; omega, List.nodup_nil, fun s => by simp [pl0]⟩⟩
  have HB : Hid (Below w.heap.size w ((w.alloc (.map #[] 0)).alloc (.cells (lc (pl0 l r) w.heap.size) 54))) := below2 _ _ _
  have hmm : (Instr.makeMap 52 none).run Tryz.prog w = .ok (.map (some w.heap.size)) (w.alloc (.map #[] 0)) := by simp [Instr.makeMap, go_sem]
  go_enter Tryz.func6, Tryz.ntmps6
  go_wp2_with (first
    | (go_at_call 21; clear tk; refine (cl _).mono ?_; rintro e w1 ⟨rfl, hw1⟩; replace hw1 := hw1.symm; subst hw1)
    | (go_at_call 21; refine (cr _).mono ?_; rintro e w1 ⟨rfl, hw1⟩; replace hw1 := hw1.symm; subst hw1))
  go_ret2
  exact ⟨rfl, HL.out, HB.out⟩
end Go.Proofs.YtiplalbicibahaaGreatDoor

/- privacy: whether a rule fits; Allows. -/
set_option maxRecDepth 100000
namespace Go.Proofs.YtiplalbicibahaaGreatDoor
open Go.RowKit Go.Joins Go.Shelf

/-! ### strings.TrimSuffix of ",ask" -/
def wAsk : By := [44, 97, 115, 107]
def endsA (l : By) : Bool := decide (4 ≤ l.length) && (l.drop (l.length - 4) == wAsk)
def trimA (l : By) : By := if endsA l = true then l.take (l.length - 4) else l
theorem slice_tail (s : ByteArray) : (s.extract (s.size - 4) s.size).toList = s.data.toList.drop (s.data.toList.length - 4) := by
  rw [Lib.toList_data, Lib.extract_eq]
  have hl : s.data.toList.length = s.size := by simp
  simp only [hl]
  rw [List.take_of_length_le (by rw [List.length_drop, hl]; omega)]
theorem slice_head (s : ByteArray) : s.extract 0 (s.size - 4) = ba (s.data.toList.take (s.data.toList.length - 4)) := by
  rw [Lib.extract_eq]
  have hl : s.data.toList.length = s.size := by simp
  simp only [hl, List.drop_zero, Nat.sub_zero]
  rfl
theorem hasSuffix_any (s : ByteArray) (w : World) (hs : s.size ≤ 9223372036854775807) :
    Calls Tryz.prog 89 #[.string s, .string ⟨#[44, 97, 115, 107]⟩] w fun e w' => e = .returned (.bool (endsA s.data.toList)) ∧ w' = w := by
  have hl : s.data.toList.length = s.size := by simp
  unfold endsA
  by_cases h : 4 ≤ s.size
  · have he : ((s.extract (s.size - 4) s.size).toList == [44, 97, 115, 107]) = (s.data.toList.drop (s.data.toList.length - 4) == wAsk) := by rw [slice_tail]; rfl
    rw [← he, hl, decide_eq_true h, Bool.true_and]
    have hd : (4 : Int) ≤ (s.size : Int) := by omega
    have hlo : ((s.size : Int) - 4 + 9223372036854775808) % 18446744073709551616 - 9223372036854775808 = ((s.size - 4 : Nat) : Int) := by omega
    clear he hl
    generalize hB : ((s.extract (s.size - 4) s.size).toList == [44, 97, 115, 107]) = B
    replace hs : Hid (s.size ≤ 9223372036854775807) := hs
    go_enter Tryz.func89, Tryz.ntmps89
    go_wp2
    go_ret
    exact ⟨rfl, rfl⟩
  · rw [hl, decide_eq_false h, Bool.false_and]
    have hd : ¬ (4 : Int) ≤ (s.size : Int) := by omega
    clear hl
    go_enter Tryz.func89, Tryz.ntmps89
    go_wp2
    go_ret
    exact ⟨rfl, rfl⟩
theorem ltrim_any (s : ByteArray) (w : World) (hs : s.size ≤ 9223372036854775807) :
    Calls Tryz.prog 72 #[.string s, .string ⟨#[44, 97, 115, 107]⟩] w fun e w' => e = .returned (.string (ba (trimA s.data.toList))) ∧ w' = w := by
  have cS := hasSuffix_any s w hs
  have hl : s.data.toList.length = s.size := by simp
  unfold trimA
  cases he : endsA s.data.toList with
  | true =>
    rw [if_pos rfl, ← slice_head]
    rw [he] at cS
    have h4 : 4 ≤ s.size := by
      unfold endsA at he
      rw [Bool.and_eq_true, decide_eq_true_eq, hl] at he
      exact he.1
    have hlo : ((s.size : Int) - 4 + 9223372036854775808) % 18446744073709551616 - 9223372036854775808 = ((s.size - 4 : Nat) : Int) := by omega
    have h0 : (0 : Int) ≤ ((s.size - 4 : Nat) : Int) := by omega
    have h1 : ((s.size - 4 : Nat) : Int) ≤ (s.size : Int) := by omega
    clear he hl h4
    replace hs : Hid (s.size ≤ 9223372036854775807) := hs
    go_enter Tryz.func72, Tryz.ntmps72
    go_wp2_with (go_at_call 89; refine cS.mono ?_; rintro e w' ⟨rfl, rfl⟩)
    go_ret
    exact ⟨rfl, rfl⟩
  | false =>
    rw [if_neg (by decide), ba_back]
    rw [he] at cS
    clear he hl
    go_enter Tryz.func72, Tryz.ntmps72
    go_wp2_with (go_at_call 89; refine cS.mono ?_; rintro e w' ⟨rfl, rfl⟩)
    go_ret
    exact ⟨rfl, rfl⟩
theorem trim_any (s : ByteArray) (w : World) (hs : s.size ≤ 9223372036854775807) :
    Calls Tryz.prog 59 #[.string s, .string ⟨#[44, 97, 115, 107]⟩] w fun e w' => e = .returned (.string (ba (trimA s.data.toList))) ∧ w' = w := by
  have cT := ltrim_any s w hs
  generalize ba (trimA s.data.toList) = T at cT ⊢
  go_enter Tryz.func59, Tryz.ntmps59
  go_wp2_with (go_at_call 72; refine cT.mono ?_; rintro e w' ⟨rfl, rfl⟩)
  go_ret
  exact ⟨rfl, rfl⟩

/-! ### slices.Contains -/
theorem index_any (a : Option Addr) (n c : Nat) (ts : List By) (v : By) (w : World) (hR : TRd w a n c ts) :
    Calls Tryz.prog 73 #[.slice a n c, .string (ba v)] w fun e w' => (∃ k : Int, e = .returned (.int .i64 k) ∧ decide (0 ≤ k) = ts.contains v) ∧ w' = w := by
  have Hn : Hid (ts.length = n) := hR.len
  have hnc := hR.cap
  have hcm := hR.most
  unfold maxLen at hcm
  have HR : Hid (TRd w a n c ts) := hR
  clear hR
  go_enter Tryz.func73, Tryz.ntmps73
  go_upto_region 2 with fail
  go_loopw [5, 8] (fun _ s8 wr => ∃ j : Nat, s8 = .int .i64 j ∧ j ≤ n ∧ Hid (∀ t ∈ ts.take j, t ≠ v) ∧ Hid (wr = w)) (fun _ s8 _ => n - (intOf s8).toNat)
  case atStart => exact ⟨0, rfl, by omega, fun t ht => by simp at ht, rfl⟩
  case round =>
    obtain ⟨j, rfl, hjn, HP, HW⟩ := hrel
    by_cases hlt : j < n
    · have hcl : (j : Int) < (n : Int) := by omega
      have HR2 : Hid (TRd wr a n c ts) := by show TRd _ _ _ _ _; rw [HW.out]; exact HR.out
      obtain ⟨b, off, rfl, hce⟩ := HR2.out.flat (by omega)
      have hcj := hce j hlt
      clear hce
      obtain ⟨y, hy⟩ : ∃ y, ts[j]? = some y := ⟨_, List.getElem?_eq_getElem (by rw [Hn.out]; exact hlt)⟩
      rw [show ts.getD j [] = y by rw [List.getD_eq_getElem?_getD, hy]; rfl] at hcj
      have HTk : Hid (ts.take (j + 1) = ts.take j ++ [y]) := by
        show _ = _
        rw [List.take_add_one, hy]; rfl
      by_cases hv : y = v
      · subst hv
        have he : ((ba y).toList == (ba y).toList) = true := by simp
        have HC : Hid (ts.contains y = true) := by
          show _ = _
          rw [List.contains_iff_mem]
          exact List.mem_of_getElem? hy
        clear hy HTk HP HR2 HR
        go_wp2
        go_ret
        exact ⟨⟨_, rfl, by rw [HC.out]; simp⟩, HW.out⟩
      · have he : ((ba v).toList == (ba y).toList) = false := by
          rw [Lib.toList_data, Lib.toList_data, ba_list, ba_list]
          exact beq_false_of_ne (fun e => hv e.symm)
        have HP2 : Hid (∀ t ∈ ts.take (j + 1), t ≠ v) := fun t ht => by
          rw [HTk.out] at ht
          rcases List.mem_append.1 ht with q | q
          · exact HP.out t q
          · have : t = y := by simpa using q
            rw [this]; exact hv
        clear hy HTk HP HR2 hv
        go_wp2
        exact ⟨⟨j + 1, by go_num, by omega, HP2.out, HW.out⟩, by simp [intOf]; omega⟩
    · have hcl : ¬ (j : Int) < (n : Int) := by omega
      obtain rfl : j = n := by omega
      have HC : Hid (¬ v ∈ ts) := by
        have h := HP.out
        rw [List.take_of_length_le (by rw [Hn.out]; exact Nat.le_refl _)] at h
        exact fun hc => h v hc rfl
      clear HP
      go_wp2
      go_ret
      exact ⟨⟨-1, rfl, by simp [HC.out]⟩, HW.out⟩
theorem contains_any (a : Option Addr) (n c : Nat) (ts : List By) (v : By) (w : World) (hR : TRd w a n c ts) :
    Calls Tryz.prog 61 #[.slice a n c, .string (ba v)] w fun e w' => e = .returned (.bool (ts.contains v)) ∧ w' = w := by
  have cI := index_any a n c ts v w hR
  clear hR
  generalize ts.contains v = B at *
  generalize ba v = V at *
  go_enter Tryz.func61, Tryz.ntmps61
  go_wp2_with (go_at_call 73; refine cI.mono ?_; clear cI; rintro e w1 ⟨⟨k, rfl, hk⟩, hw1⟩; replace hw1 := hw1.symm; subst hw1)
  go_ret
  exact ⟨rfl, rfl⟩

/-! ### fitting -/
/-- Who is asked about. -/
structure Qy where
  i : Bool
  c : By
  gs : List By
  s : By
def fitsR (q : Qy) (r : Rul) : Bool :=
  if ((q.i && !r.i) || (!q.i && !r.o)) = true then false
  else if (r.k == wJid) = true then r.v == q.c
  else if (r.k == wGroup) = true then q.gs.contains r.v
  else if (r.k == wSub) = true then r.v == trimA q.s
  else true
/-- What the closure holds. -/
structure FitAt (w : World) (g : Nat) (q : Qy) (a : Option Addr) (n c : Nat) : Prop where
  b0 : w.heap[g]? = some (.cells #[.bool q.i] 4 (0, 0))
  b1 : w.heap[g + 1]? = some (.cells #[.string (ba q.c)] 9 (0, 0))
  b2 : w.heap[g + 2]? = some (.cells #[.slice a n c] 32 (0, 0))
  b3 : w.heap[g + 3]? = some (.cells #[.string (ba (trimA q.s))] 9 (0, 0))
  gs : TRd w a n c q.gs
theorem FitAt.below {w w' : World} {g : Nat} {q : Qy} {a : Option Addr} {n c : Nat} (h : FitAt w g q a n c) (hb : Below w.heap.size w w') : FitAt w' g q a n c :=
  ⟨box_below h.b0 hb, box_below h.b1 hb, box_below h.b2 hb, box_below h.b3 hb, h.gs.below hb⟩
abbrev fitV (g : Nat) : Value := .func (.func 60) #[] #[.pointer (some ⟨g, 0, none⟩), .pointer (some ⟨g + 1, 0, none⟩), .pointer (some ⟨g + 2, 0, none⟩), .pointer (some ⟨g + 3, 0, none⟩)]
theorem fitting_any (q : Qy) (a : Option Addr) (n c : Nat) (w : World) (hR : TRd w a n c q.gs) (hs : q.s.length ≤ 9223372036854775807) :
    Calls Tryz.prog 46 #[.bool q.i, .string (ba q.c), .slice a n c, .string (ba q.s)] w fun e w' => e = .returned (fitV w.heap.size) ∧ FitAt w' w.heap.size q a n c ∧ Below w.heap.size w w' := by
  have hmf : ∀ (fn : Fn) (first cap : Array Value) (w : World), (Instr.makeFunc fn first cap).run Tryz.prog w = .ok (.func fn first cap) w := fun _ _ _ _ => rfl
  have cT := fun w => trim_any (ba q.s) w (by rw [ba_size]; exact hs)
  rw [ba_list] at cT
  have hb3 : Below w.heap.size w ((((w.alloc (.cells #[.bool q.i] 4)).alloc (.cells #[.string (ba q.c)] 9)).alloc (.cells #[.slice a n c] 32)).alloc (.cells #[.string (ba (trimA q.s))] 9)) :=
    (((below1 w _).alloc (by simp) _).alloc (by simp; omega) _).alloc (by simp; omega) _
  have HF : Hid (FitAt ((((w.alloc (.cells #[.bool q.i] 4)).alloc (.cells #[.string (ba q.c)] 9)).alloc (.cells #[.slice a n c] 32)).alloc (.cells #[.string (ba (trimA q.s))] 9)) w.heap.size q a n c ∧ Below w.heap.size w ((((w.alloc (.cells #[.bool q.i] 4)).alloc (.cells #[.string (ba q.c)] 9)).alloc (.cells #[.slice a n c] 32)).alloc (.cells #[.string (ba (trimA q.s))] 9))) :=
    ⟨⟨push_old (push_old (push_old (push_at _ _ rfl))), push_old (push_old (push_at _ _ (by simp))), push_old (push_at _ _ (by simp)), push_at _ _ (by simp), hR.below hb3⟩, hb3⟩
  clear hR hb3 hs
  obtain ⟨qi, qc, qg, qs⟩ := q
  dsimp only at *
  generalize ba (trimA qs) = T at *
  generalize ba qs = S at *
  generalize ba qc = C at *
  go_enter Tryz.func46, Tryz.ntmps46
  go_wp2_with (go_at_call 59; refine (cT _).mono ?_; clear cT; rintro e w1 ⟨rfl, hw1⟩; replace hw1 := hw1.symm; subst hw1)
  go_ret
  exact ⟨rfl, HF.out⟩

end Go.Proofs.YtiplalbicibahaaGreatDoor

/- privacy: the closure of fitting; slices.IndexFunc; Allows. -/
set_option maxRecDepth 100000
namespace Go.Proofs.YtiplalbicibahaaGreatDoor
open Go.RowKit Go.Joins Go.Shelf

set_option maxHeartbeats 1600000 in
theorem fitC_any (g : Nat) (q : Qy) (a : Option Addr) (n c : Nat) (r : Rul) (w : World) (hF : FitAt w g q a n c) :
    Calls Tryz.prog 60 #[rv r, .pointer (some ⟨g, 0, none⟩), .pointer (some ⟨g + 1, 0, none⟩), .pointer (some ⟨g + 2, 0, none⟩), .pointer (some ⟨g + 3, 0, none⟩)] w fun e w' => e = .returned (.bool (fitsR q r)) ∧ Below w.heap.size w w' := by
  obtain ⟨al, ri, ro, k, v⟩ := r
  have hF1 : FitAt (w.alloc (.cells (rc ⟨al, ri, ro, k, v⟩) 72)) g q a n c := hF.below (below1 _ _)
  have hR1 : RuAt (w.alloc (.cells (rc ⟨al, ri, ro, k, v⟩) 72)) w.heap.size ⟨al, ri, ro, k, v⟩ := push_at _ _ rfl
  have HB1 : Hid (Below w.heap.size w (w.alloc (.cells (rc ⟨al, ri, ro, k, v⟩) 72))) := below1 _ _
  have cC := contains_any a n c q.gs v (w.alloc (.cells (rc ⟨al, ri, ro, k, v⟩) 72)) hF1.gs
  have e1 : ((ba k).toList == [106, 105, 100]) = (k == wJid) := ba_eq _ _
  have e2 : ((ba k).toList == [103, 114, 111, 117, 112]) = (k == wGroup) := ba_eq _ _
  have e3 : ((ba k).toList == [115, 117, 98]) = (k == wSub) := ba_eq _ _
  have e4 : ((ba v).toList == (ba q.c).toList) = (v == q.c) := by rw [ba_eq, Lib.toList_data, ba_list]
  have e5 : ((ba v).toList == (ba (trimA q.s)).toList) = (v == trimA q.s) := by rw [ba_eq, Lib.toList_data, ba_list]
  have p0 := p_cell hF1.b0
  have p1 := p_cell hF1.b1
  have p2 := p_cell hF1.b2
  have p3 := p_cell hF1.b3
  have u1 := hR1.c1
  have u2 := hR1.c2
  have u3 := hR1.c3
  have u4 := hR1.c4
  unfold fitsR rv rc
  unfold rc at cC p0 p1 p2 p3 u1 u2 u3 u4 HB1
  dsimp only at *
  clear hF hF1 hR1
  generalize q.gs.contains v = B at cC ⊢
  generalize (k == wJid) = a1 at *
  generalize (k == wGroup) = a2 at *
  generalize (k == wSub) = a3 at *
  generalize (v == q.c) = a4 at *
  generalize (v == trimA q.s) = a5 at *
  generalize q.i = qi at *
  generalize ba k = K at *
  generalize ba v = V at *
  generalize ba q.c = C at *
  generalize ba (trimA q.s) = T at *
  obtain ⟨W, HW⟩ : ∃ W, Hid (w.alloc (.cells #[.bool al, .bool ri, .bool ro, .string K, .string V] 72) = W) := ⟨_, rfl⟩
  rw [HW.out] at cC p0 p1 p2 p3 u1 u2 u3 u4 HB1
  cases qi <;> cases ri <;> cases ro
  case false.false.false =>
    clear cC e1 e2 e3 e4 e5
    go_enter Tryz.func60, Tryz.ntmps60
    go_upto_region 1 with fail
    rw [HW.out]
    go_wp2
    go_ret
    exact ⟨rfl, HB1.out⟩
  case false.false.true =>
    cases a1
    case true =>
      clear cC e2 e3 e5
      go_enter Tryz.func60, Tryz.ntmps60
      go_upto_region 1 with fail
      rw [HW.out]
      go_wp2
      go_ret
      exact ⟨rfl, HB1.out⟩
    cases a2
    case true =>
      clear e3 e4 e5
      go_enter Tryz.func60, Tryz.ntmps60
      go_upto_region 1 with fail
      rw [HW.out]
      go_wp2_with (go_at_call 61; refine cC.mono ?_; clear cC; rintro e w1 ⟨rfl, hw1⟩; replace hw1 := hw1.symm; subst hw1)
      go_ret
      exact ⟨rfl, HB1.out⟩
    cases a3
    case true =>
      clear cC e4
      go_enter Tryz.func60, Tryz.ntmps60
      go_upto_region 1 with fail
      rw [HW.out]
      go_wp2
      go_ret
      exact ⟨rfl, HB1.out⟩
    clear cC e4 e5
    go_enter Tryz.func60, Tryz.ntmps60
    go_upto_region 1 with fail
    rw [HW.out]
    go_wp2
    go_ret
    exact ⟨rfl, HB1.out⟩
  case false.true.false =>
    clear cC e1 e2 e3 e4 e5
    go_enter Tryz.func60, Tryz.ntmps60
    go_upto_region 1 with fail
    rw [HW.out]
    go_wp2
    go_ret
    exact ⟨rfl, HB1.out⟩
  case false.true.true =>
    cases a1
    case true =>
      clear cC e2 e3 e5
      go_enter Tryz.func60, Tryz.ntmps60
      go_upto_region 1 with fail
      rw [HW.out]
      go_wp2
      go_ret
      exact ⟨rfl, HB1.out⟩
    cases a2
    case true =>
      clear e3 e4 e5
      go_enter Tryz.func60, Tryz.ntmps60
      go_upto_region 1 with fail
      rw [HW.out]
      go_wp2_with (go_at_call 61; refine cC.mono ?_; clear cC; rintro e w1 ⟨rfl, hw1⟩; replace hw1 := hw1.symm; subst hw1)
      go_ret
      exact ⟨rfl, HB1.out⟩
    cases a3
    case true =>
      clear cC e4
      go_enter Tryz.func60, Tryz.ntmps60
      go_upto_region 1 with fail
      rw [HW.out]
      go_wp2
      go_ret
      exact ⟨rfl, HB1.out⟩
    clear cC e4 e5
    go_enter Tryz.func60, Tryz.ntmps60
    go_upto_region 1 with fail
    rw [HW.out]
    go_wp2
    go_ret
    exact ⟨rfl, HB1.out⟩
  case true.false.false =>
    clear cC e1 e2 e3 e4 e5
    go_enter Tryz.func60, Tryz.ntmps60
    go_upto_region 1 with fail
    rw [HW.out]
    go_wp2
    go_ret
    exact ⟨rfl, HB1.out⟩
  case true.false.true =>
    clear cC e1 e2 e3 e4 e5
    go_enter Tryz.func60, Tryz.ntmps60
    go_upto_region 1 with fail
    rw [HW.out]
    go_wp2
    go_ret
    exact ⟨rfl, HB1.out⟩
  case true.true.false =>
    cases a1
    case true =>
      clear cC e2 e3 e5
      go_enter Tryz.func60, Tryz.ntmps60
      go_upto_region 1 with fail
      rw [HW.out]
      go_wp2
      go_ret
      exact ⟨rfl, HB1.out⟩
    cases a2
    case true =>
      clear e3 e4 e5
      go_enter Tryz.func60, Tryz.ntmps60
      go_upto_region 1 with fail
      rw [HW.out]
      go_wp2_with (go_at_call 61; refine cC.mono ?_; clear cC; rintro e w1 ⟨rfl, hw1⟩; replace hw1 := hw1.symm; subst hw1)
      go_ret
      exact ⟨rfl, HB1.out⟩
    cases a3
    case true =>
      clear cC e4
      go_enter Tryz.func60, Tryz.ntmps60
      go_upto_region 1 with fail
      rw [HW.out]
      go_wp2
      go_ret
      exact ⟨rfl, HB1.out⟩
    clear cC e4 e5
    go_enter Tryz.func60, Tryz.ntmps60
    go_upto_region 1 with fail
    rw [HW.out]
    go_wp2
    go_ret
    exact ⟨rfl, HB1.out⟩
  case true.true.true =>
    cases a1
    case true =>
      clear cC e2 e3 e5
      go_enter Tryz.func60, Tryz.ntmps60
      go_upto_region 1 with fail
      rw [HW.out]
      go_wp2
      go_ret
      exact ⟨rfl, HB1.out⟩
    cases a2
    case true =>
      clear e3 e4 e5
      go_enter Tryz.func60, Tryz.ntmps60
      go_upto_region 1 with fail
      rw [HW.out]
      go_wp2_with (go_at_call 61; refine cC.mono ?_; clear cC; rintro e w1 ⟨rfl, hw1⟩; replace hw1 := hw1.symm; subst hw1)
      go_ret
      exact ⟨rfl, HB1.out⟩
    cases a3
    case true =>
      clear cC e4
      go_enter Tryz.func60, Tryz.ntmps60
      go_upto_region 1 with fail
      rw [HW.out]
      go_wp2
      go_ret
      exact ⟨rfl, HB1.out⟩
    clear cC e4 e5
    go_enter Tryz.func60, Tryz.ntmps60
    go_upto_region 1 with fail
    rw [HW.out]
    go_wp2
    go_ret
    exact ⟨rfl, HB1.out⟩

theorem ent_fitC (args : Array Value) (w : World) : (callFunc 60 args).run Tryz.prog w = .ok (.enter 60 args) w := enters_of Tryz.func60 (by kernel_rfl) rfl args w

/-! ### slices.IndexFunc -/
theorem find_pre (f : Rul → Bool) : ∀ (ps : List Rul) (r : Rul) (qs : List Rul), (∀ p ∈ ps, f p = false) → f r = true → (ps ++ r :: qs).find? f = some r
  | [], r, qs, _, h => by simp [h]
  | p :: ps, r, qs, hp, h => by
    rw [List.cons_append, List.find?_cons, hp p (by simp)]
    exact find_pre f ps r qs (fun x hx => hp x (by simp [hx])) h
def IxR (q : Qy) (rs : List Rul) (k : Int) : Prop := (k = -1 ∧ rs.find? (fitsR q) = none) ∨ ∃ (j : Nat) (r : Rul), k = (j : Int) ∧ rs[j]? = some r ∧ rs.find? (fitsR q) = some r
set_option maxHeartbeats 1600000 in
theorem indexFunc_any (f : Rw) (rs : List Rul) (g : Nat) (q : Qy) (a : Option Addr) (n c : Nat) (w : World) (hR : RRd w f rs) (hF : FitAt w g q a n c) (hl : rs.length ≤ 100000) :
    Calls Tryz.prog 45 #[rsl f, fitV g] w fun e w' => (∃ k : Int, e = .returned (.int .i64 k) ∧ IxR q rs k) ∧ Below w.heap.size w w' := by
  obtain ⟨fa, fn, fc⟩ := f
  have Hn : Hid (rs.length = fn) := hR.len
  have hnc : fn ≤ fc := hR.cap
  have hcm : fc ≤ maxLen := hR.most
  have hln : fn ≤ 100000 := by rw [← Hn.out]; exact hl
  unfold maxLen at hcm
  have HR : Hid (RRd w (fa, fn, fc) rs) := hR
  have HF : Hid (FitAt w g q a n c) := hF
  clear hR hF hl
  show Calls Tryz.prog _ #[.slice (fa.map fun g => ⟨g, 0, none⟩) fn fc, _] _ _
  obtain ⟨A, HA⟩ : ∃ A : Option Addr, Hid ((fa.map fun g => (⟨g, 0, none⟩ : Addr)) = A) := ⟨_, rfl⟩
  rw [HA.out]
  go_enter Tryz.func45, Tryz.ntmps45
  go_upto_region 2 with fail
  go_loopw [5, 8] (fun _ s8 wr => ∃ j : Nat, s8 = .int .i64 j ∧ j ≤ fn ∧ Hid (∀ t ∈ rs.take j, fitsR q t = false) ∧ Hid (Below w.heap.size w wr)) (fun _ s8 _ => fn - (intOf s8).toNat)
  case atStart => exact ⟨0, rfl, by omega, fun t ht => by simp at ht, Below.refl _ _⟩
  case round =>
    obtain ⟨j, rfl, hjn, HP, HB⟩ := hrel
    by_cases hlt : j < fn
    · have hcl : (j : Int) < (fn : Int) := by omega
      obtain ⟨gb, hgb, hrow⟩ := (HR.out.below HB.out).row (by show 0 < fn; omega)
      obtain ⟨y, hy⟩ : ∃ y, rs[j]? = some y := ⟨_, List.getElem?_eq_getElem (by rw [Hn.out]; exact hlt)⟩
      have hmid := hrow j y hy
      replace hgb : fa = some gb := hgb
      have hA := HA.out
      rw [hgb] at hA
      replace hA : A = some ⟨gb, 0, none⟩ := hA.symm
      subst hA
      have hF1 := HF.out.below HB.out
      have cF := fitC_any g q a n c y wr hF1
      have HTk : Hid (rs.take (j + 1) = rs.take j ++ [y]) := by
        show _ = _
        rw [List.take_add_one, hy]; rfl
      have HFd : Hid (fitsR q y = true → rs.find? (fitsR q) = some y) := fun h => by
        have e := List.getElem?_eq_some_iff.1 hy
        have : rs = rs.take j ++ y :: rs.drop (j + 1) := by
          rw [← e.2]
          exact (List.take_append_drop j rs).symm.trans (by rw [List.drop_eq_getElem_cons e.1])
        rw [this]
        exact find_pre _ _ _ _ HP.out h
      have hy' : Hid (rs[j]? = some y) := hy
      have eK := ent_fitC
      have HM : Hid (wr.rangeAt gb (j * 5) (rc y).toList) := hmid
      clear hrow hF1 hmid hy
      cases hv : fitsR q y with
      | true =>
        rw [hv] at cF
        have HFd2 := HFd.out hv
        clear HFd hv HTk
        replace HFd2 : Hid (rs.find? (fitsR q) = some y) := HFd2
        go_wp2_with (first
          | (refine wpList_load_mid rfl 72 (.tmp 14) rfl gb (j * 5) rfl (rc y).toList _ HM.out Tryz.underlying72 rfl (by rw [infoRule]; rfl) ?_)
          | (go_at_fn 60; refine cF.mono ?_; clear cF; rintro e w5 ⟨rfl, hb5⟩))
        go_ret
        exact ⟨⟨_, rfl, Or.inr ⟨j, y, rfl, hy'.out, HFd2.out⟩⟩, HB.out.trans (hb5.mono HB.out.size)⟩
      | false =>
        rw [hv] at cF
        have HP2 : Hid (∀ t ∈ rs.take (j + 1), fitsR q t = false) := fun t ht => by
          rw [HTk.out] at ht
          rcases List.mem_append.1 ht with z | z
          · exact HP.out t z
          · have : t = y := by simpa using z
            rw [this]; exact hv
        clear HFd hv HTk HP
        go_wp2_with (first
          | (refine wpList_load_mid rfl 72 (.tmp 14) rfl gb (j * 5) rfl (rc y).toList _ HM.out Tryz.underlying72 rfl (by rw [infoRule]; rfl) ?_)
          | (go_at_fn 60; refine cF.mono ?_; clear cF; rintro e w5 ⟨rfl, hb5⟩))
        exact ⟨⟨j + 1, by go_num, by omega, HP2.out, HB.out.trans (hb5.mono HB.out.size)⟩, by simp [intOf]; omega⟩
    · have hcl : ¬ (j : Int) < (fn : Int) := by omega
      obtain rfl : j = fn := by omega
      have HC : Hid (IxR q rs (-1)) := by
        have h := HP.out
        rw [List.take_of_length_le (by rw [Hn.out]; exact Nat.le_refl _)] at h
        exact Or.inl ⟨rfl, List.find?_eq_none.2 (fun x hx => by rw [h x hx]; decide)⟩
      clear HP
      go_wp2
      go_ret
      exact ⟨⟨-1, rfl, HC.out⟩, HB.out⟩

/-! ### Allows -/
def allowsR (q : Qy) (rs : List Rul) : Bool := match rs.find? (fitsR q) with | none => true | some r => r.al
theorem allowsR_none {q : Qy} {rs : List Rul} (h : rs.find? (fitsR q) = none) : allowsR q rs = true := by unfold allowsR; rw [h]
theorem allowsR_some {q : Qy} {rs : List Rul} {r : Rul} (h : rs.find? (fitsR q) = some r) : allowsR q rs = r.al := by unfold allowsR; rw [h]
set_option maxHeartbeats 1600000 in
theorem allowsM_any (s : By) (y : Qy) (a : Option Addr) (n c : Nat) (w : World) (F : Nat → Prop) (q mb : Nat) (m : By → Option Rw) (P : Pl) (h : LsM w F q mb m P) (hs : s.length ≤ 1000000) (hu : P.us.length ≤ 1000000) (hR : TRd w a n c y.gs) (hsb : y.s.length ≤ 9223372036854775807) (hl : (heldR P s).length ≤ 100000) :
    Calls Tryz.prog 22 #[.pointer (some ⟨q, 0, none⟩), .string (ba s), .bool y.i, .string (ba y.c), .slice a n c, .string (ba y.s)] w fun e w' => e = .returned (.bool (allowsR y (heldR P s))) ∧ Below w.heap.size w w' := by
  have cH := holding_any s w F q mb m P h hs hu
  have cF := fitting_any y a n c w hR hsb
  clear h hs hu hR hsb
  generalize heldR P s = rs at *
  cases hf : rs.find? (fitsR y) with
  | none =>
    rw [allowsR_none hf]
    replace hf : Hid (rs.find? (fitsR y) = none) := hf
    replace hl : Hid (rs.length ≤ 100000) := hl
    go_enter Tryz.func22, Tryz.ntmps22
    go_wp2_with (first
      | (go_at_call 44; refine cH.mono ?_; clear cH; rintro e w1 ⟨f, rfl, hr, hw1⟩; replace hw1 := hw1.symm; subst hw1; have HRr : Hid (RRd w f rs) := hr; clear hr)
      | (go_at_call 46; refine cF.mono ?_; clear cF; rintro e w2 ⟨rfl, hF2, hb2⟩; have cI := indexFunc_any f rs w.heap.size y a n c w2 (HRr.out.below hb2) hF2 hl.out; clear hF2)
      | (go_at_call 45; refine cI.mono ?_; clear cI; rintro e w3 ⟨⟨k, rfl, hk⟩, hb3⟩; obtain rfl : k = -1 := hk.elim (fun z => z.1) (fun ⟨j, r, _, _, z⟩ => absurd (hf.out.symm.trans z) (by simp)); clear hk))
    go_ret
    exact ⟨rfl, hb2.trans (hb3.mono hb2.size)⟩
  | some r =>
    rw [allowsR_some hf]
    replace hf : Hid (rs.find? (fitsR y) = some r) := hf
    replace hl : Hid (rs.length ≤ 100000) := hl
    go_enter Tryz.func22, Tryz.ntmps22
    go_upto_region 3 with (first
      | (go_at_call 44; refine cH.mono ?_; clear cH; rintro e w1 ⟨f, rfl, hr, hw1⟩; replace hw1 := hw1.symm; subst hw1; have HRr : Hid (RRd w f rs) := hr; clear hr)
      | (go_at_call 46; refine cF.mono ?_; clear cF; rintro e w2 ⟨rfl, hF2, hb2⟩; have cI := indexFunc_any f rs w.heap.size y a n c w2 (HRr.out.below hb2) hF2 hl.out; clear hF2)
      | (go_at_call 45; refine cI.mono ?_; clear cI; rintro e w3 ⟨⟨k, rfl, hk⟩, hb3⟩))
    obtain ⟨j, rfl, hj⟩ : ∃ j : Nat, k = (j : Int) ∧ rs[j]? = some r := by
      rcases hk with z | ⟨j, r', e, z1, z2⟩
      · exact absurd (hf.out.symm.trans z.2) (by simp)
      · have : r' = r := Option.some.inj (z2.symm.trans hf.out)
        exact ⟨j, e, by rw [z1, this]⟩
    have HR3 := (HRr.out.below hb2).below hb3
    obtain ⟨fa, fn, fc⟩ := f
    have hnc : fn ≤ fc := HR3.cap
    have hcm : fc ≤ maxLen := HR3.most
    unfold maxLen at hcm
    have hjl : j < fn := by
      have e : rs.length = fn := HR3.len
      rw [← e]; exact (List.getElem?_eq_some_iff.1 hj).1
    obtain ⟨gb, hgb, hrow⟩ := HR3.row (by show 0 < fn; omega)
    replace hgb : fa = some gb := hgb
    subst hgb
    have c0 : w3.cell? ⟨gb, j * 5, none⟩ = some (.bool r.al) := hrow j r hj 0 (.bool r.al) rfl
    have hcl : ¬ (j : Int) < 0 := by omega
    have hc2 : (j : Int) < (fn : Int) := by omega
    have HB : Hid (Below w.heap.size w w3) := hb2.trans (hb3.mono hb2.size)
    clear hrow HR3 hj hk HRr hb2 hb3
    unfold rsl
    dsimp only [Option.map]
    go_wp2
    go_ret
    exact ⟨rfl, HB.out⟩
theorem allows_any (s : By) (y : Qy) (a : Option Addr) (n c : Nat) (w : World) (F : Nat → Prop) (q : Nat) (P : Pl) (h : LsAt w F q P) (hs : s.length ≤ 1000000) (hu : P.us.length ≤ 1000000) (hR : TRd w a n c y.gs) (hsb : y.s.length ≤ 9223372036854775807) (hl : (heldR P s).length ≤ 100000) :
    Calls Tryz.prog 22 #[.pointer (some ⟨q, 0, none⟩), .string (ba s), .bool y.i, .string (ba y.c), .slice a n c, .string (ba y.s)] w fun e w' => e = .returned (.bool (allowsR y (heldR P s))) ∧ Below w.heap.size w w' := by
  obtain ⟨mb, m, h⟩ := h
  exact allowsM_any s y a n c w F q mb m P h hs hu hR hsb hl
end Go.Proofs.YtiplalbicibahaaGreatDoor
