/- privacy: a rule is read; Parse. -/
import Derived.Test.YtiplalbicibahaaDoorPvC
set_option maxRecDepth 100000
namespace Go.Proofs.YtiplalbicibahaaDoor
open Go.RowKit Go.Joins Go.Shelf

theorem cutZ_le (l : By) : (Nm.cutZ 32 l).length ≤ l.length := by unfold Nm.cutZ; rw [List.length_drop]; omega
theorem cutA_le (l : By) : (Nm.cutA 32 l).length ≤ l.length := by unfold Nm.cutA; rw [List.length_take]; omega
theorem verdictR_len (l : By) : (verdictR l).2.1.length ≤ l.length := by
  have := cutZ_le l
  unfold verdictR
  split
  · split
    · exact this
    · exact Nat.zero_le _
  · exact Nat.zero_le _
theorem waysR_len (l : By) : (waysR l).2.2.1.length ≤ l.length := by
  have := cutZ_le l
  unfold waysR
  split
  · split
    · exact this
    · exact Nat.zero_le _
  · exact Nat.zero_le _

theorem rule_any (b : Nat) (l : By) (w : World) (h : RdrAt w b (ba l)) (hs : l.length ≤ 281474976710656) (hT : Lib.Utf8Tabs 0 1 w) (hb1 : b ≠ 0) (hb2 : b ≠ 1) :
    Calls Tryd.prog 18 #[.pointer (some ⟨b, 0, none⟩)] w fun e w' => Gv (parseR l).2 (rv (parseR l).1) e ∧ Keep (fun i => i = b) w w' := by
  have hl1 := verdictR_len l
  have hl2 := waysR_len (verdictR l).2.1
  have P0 : Hid (PR w b r0 (w.alloc (.cells #[.bool false, .bool false, .bool false, .string ⟨#[]⟩, .string ⟨#[]⟩] 23)) ∧ RdrAt (w.alloc (.cells #[.bool false, .bool false, .bool false, .string ⟨#[]⟩, .string ⟨#[]⟩] 23)) b (ba l)) := ⟨⟨push_at _ _ rfl, Keep.ofBelow (below1 _ _), box_lt h⟩, push_old h⟩
  have HT : Hid (Lib.Utf8Tabs 0 1 w ∧ b ≠ 0 ∧ b ≠ 1) := ⟨hT, hb1, hb2⟩
  have cV : Hid (∀ W, RdrAt W b (ba l) → Calls Tryd.prog 35 #[.pointer (some ⟨b, 0, none⟩)] W fun e w' => Gv (verdictR l).2.2 (.bool (verdictR l).1) e ∧ Keep (fun i => i = b) W w' ∧ ((verdictR l).2.2 = 0 → RdrAt w' b (ba (verdictR l).2.1))) := fun W hR => by
    have := verdict_any b (ba l) W hR (by rw [ba_size]; exact hs)
    rwa [ba_list] at this
  have cY : Hid (∀ W, RdrAt W b (ba (verdictR l).2.1) → Calls Tryd.prog 36 #[.pointer (some ⟨b, 0, none⟩)] W fun e w' => Gv (waysR (verdictR l).2.1).2.2.2 (.tuple #[.bool (waysR (verdictR l).2.1).1, .bool (waysR (verdictR l).2.1).2.1]) e ∧ Keep (fun i => i = b) W w' ∧ ((waysR (verdictR l).2.1).2.2.2 = 0 → RdrAt w' b (ba (waysR (verdictR l).2.1).2.2.1))) := fun W hR => by
    have := ways_any b (ba (verdictR l).2.1) W hR (by rw [ba_size]; omega)
    rwa [ba_list] at this
  have cH : Hid (∀ W, PR w b r0 W ∨ True → Keep (fun i => i = b) w W → RdrAt W b (ba (waysR (verdictR l).2.1).2.2.1) → Calls Tryd.prog 37 #[.pointer (some ⟨b, 0, none⟩)] W fun e w' => Gv (whomR (waysR (verdictR l).2.1).2.2.1).2.2 (.tuple #[.string (ba (whomR (waysR (verdictR l).2.1).2.2.1).1), .string (ba (whomR (waysR (verdictR l).2.1).2.2.1).2.1)]) e ∧ Keep (fun i => i = b) W w') := fun W _ hk hR =>
    whom_any b (waysR (verdictR l).2.1).2.2.1 W hR (by omega) (tabs_keep hT hk (fun e => hb1 e.symm) (fun e => hb2 e.symm)) hb1 hb2
  clear h hT hb1 hb2 hl1 hl2 hs HT
  unfold parseR
  generalize waysR (verdictR l).2.1 = y at *
  generalize verdictR l = v at *
  generalize whomR y.2.2.1 = u at *
  obtain ⟨al, l1, n1⟩ := v
  obtain ⟨i, o, l2, n2⟩ := y
  obtain ⟨k, vv, n3⟩ := u
  dsimp only at *
  by_cases h1 : n1 = 0
  · rw [if_pos h1]
    by_cases h2 : n2 = 0
    · rw [if_pos h2]
      by_cases h3 : n3 = 0
      · rw [if_pos h3]
        show Calls _ _ _ _ fun e w' => Gv 0 (rv ⟨al, i, o, k, vv⟩) e ∧ _
        replace h1 : Hid (n1 = 0) := h1
        replace h2 : Hid (n2 = 0) := h2
        replace h3 : Hid (n3 = 0) := h3
        go_enter Tryd.func18, Tryd.ntmps18
        go_upto_region 1 with fail
        generalize hW0 : w.alloc _ = W0 at P0 ⊢
        clear hW0
        have c1 := gv_calls_ok (cV.out W0 P0.out.2) h1.out
        go_upto_region 2 with (first
          | (go_at_call 35; refine c1.mono ?_; clear c1; rintro e w1 ⟨rfl, hk1, hr1⟩; have P1 : Hid (PR w b r0 w1 ∧ RdrAt w1 b (ba l1)) := ⟨P0.out.1.step hk1, hr1 h1.out⟩; clear hk1 hr1; have q0 := P1.out.1.ru.c0; have f0 := P1.out.1.ru.fz 0))
        have P2 : Hid (PR w b ⟨al, false, false, [], []⟩ (w1.setCell ⟨w.heap.size, 0, none⟩ (.bool al)) ∧ RdrAt (w1.setCell ⟨w.heap.size, 0, none⟩ (.bool al)) b (ba l1)) := ⟨P1.out.1.set 0 _ _ rfl, P1.out.1.rdr P1.out.2 0 _⟩
        clear q0 f0 P1 P0
        generalize w1.setCell _ _ = W1 at P2 ⊢
        have c1 := gv_calls_ok (cY.out W1 P2.out.2) h2.out
        go_upto_region 3 with (first
          | (go_at_call 36; refine c1.mono ?_; clear c1; rintro e w2 ⟨rfl, hk1, hr1⟩; have P3 : Hid (PR w b ⟨al, false, false, [], []⟩ w2 ∧ RdrAt w2 b (ba l2)) := ⟨P2.out.1.step hk1, hr1 h2.out⟩; clear hk1 hr1; have q1 := P3.out.1.ru.c1; have f1 := P3.out.1.ru.fz 1; have q2 := P3.out.1.ru.c2; have f2 := P3.out.1.ru.fz 2))
        have P4 : Hid (PR w b ⟨al, i, o, [], []⟩ ((w2.setCell ⟨w.heap.size, 1, none⟩ (.bool i)).setCell ⟨w.heap.size, 2, none⟩ (.bool o)) ∧ RdrAt ((w2.setCell ⟨w.heap.size, 1, none⟩ (.bool i)).setCell ⟨w.heap.size, 2, none⟩ (.bool o)) b (ba l2)) := by
          have a1 := P3.out.1.set 1 (.bool i) ⟨al, i, false, [], []⟩ rfl
          have a2 := P3.out.1.rdr P3.out.2 1 (.bool i)
          exact ⟨a1.set 2 _ _ rfl, a1.rdr a2 2 _⟩
        clear q1 f1 q2 f2 P3 P2
        generalize World.setCell (w2.setCell _ _) _ _ = W2 at P4 ⊢
        have c1 := gv_calls_ok (cH.out W2 (Or.inr trivial) P4.out.1.kp P4.out.2) h3.out
        go_upto_region 4 with (first
          | (go_at_call 37; refine c1.mono ?_; clear c1; rintro e w3 ⟨rfl, hk1⟩; have P5 : Hid (PR w b ⟨al, i, o, [], []⟩ w3) := P4.out.1.step hk1; clear hk1; have q1 := P5.out.ru.c3; have f1 := P5.out.ru.fz 3; have q2 := P5.out.ru.c4; have f2 := P5.out.ru.fz 4))
        have P6 : Hid (PR w b ⟨al, i, o, k, vv⟩ ((w3.setCell ⟨w.heap.size, 3, none⟩ (.string (ba k))).setCell ⟨w.heap.size, 4, none⟩ (.string (ba vv)))) := (P5.out.set 3 (.string (ba k)) ⟨al, i, o, k, []⟩ rfl).set 4 (.string (ba vv)) ⟨al, i, o, k, vv⟩ rfl
        clear q1 f1 q2 f2 P5 P4
        generalize World.setCell (w3.setCell _ _) _ _ = W3 at P6 ⊢
        obtain ⟨V, HV⟩ : ∃ V, Hid (rv ⟨al, i, o, k, vv⟩ = V) := ⟨_, rfl⟩
        have r5 := P6.out.ru.set ⟨al, i, o, k, vv⟩
        have k5 : Keep (fun j => j = b) w (W3.setRow w.heap.size (rc ⟨al, i, o, k, vv⟩)) := P6.out.kp.andThen (rowK W3 w.heap.size _) (fun i hi e => by omega)
        go_wp2_with (first
          | (refine wp_load_ru rfl (.tmp 2) rfl w.heap.size rfl ⟨al, i, o, k, vv⟩ P6.out.ru ?_; rw [HV.out])
          | (refine wp_store_ru rfl (.tmp 2) (.tmp 20) rfl w.heap.size rfl ⟨al, i, o, k, vv⟩ HV.out.symm _ P6.out.ru ?_))
        refine bodyPost_ret (v := V) ?_ rfl ⟨gv_ok (by rw [← HV.out]), k5⟩
        rw [← HV.out]
        exact res_ru rfl _ _ w.heap.size _ rfl r5
      · rw [if_neg h3]
        show Calls _ _ _ _ fun e w' => Gv n3 _ e ∧ _
        replace h1 : Hid (n1 = 0) := h1
        replace h2 : Hid (n2 = 0) := h2
        replace h3 : Hid (n3 ≠ 0) := h3
        go_enter Tryd.func18, Tryd.ntmps18
        go_upto_region 1 with fail
        generalize hW0 : w.alloc _ = W0 at P0 ⊢
        clear hW0
        have c1 := gv_calls_ok (cV.out W0 P0.out.2) h1.out
        go_upto_region 2 with (first
          | (go_at_call 35; refine c1.mono ?_; clear c1; rintro e w1 ⟨rfl, hk1, hr1⟩; have P1 : Hid (PR w b r0 w1 ∧ RdrAt w1 b (ba l1)) := ⟨P0.out.1.step hk1, hr1 h1.out⟩; clear hk1 hr1; have q0 := P1.out.1.ru.c0; have f0 := P1.out.1.ru.fz 0))
        have P2 : Hid (PR w b ⟨al, false, false, [], []⟩ (w1.setCell ⟨w.heap.size, 0, none⟩ (.bool al)) ∧ RdrAt (w1.setCell ⟨w.heap.size, 0, none⟩ (.bool al)) b (ba l1)) := ⟨P1.out.1.set 0 _ _ rfl, P1.out.1.rdr P1.out.2 0 _⟩
        clear q0 f0 P1 P0
        generalize w1.setCell _ _ = W1 at P2 ⊢
        have c1 := gv_calls_ok (cY.out W1 P2.out.2) h2.out
        go_upto_region 3 with (first
          | (go_at_call 36; refine c1.mono ?_; clear c1; rintro e w2 ⟨rfl, hk1, hr1⟩; have P3 : Hid (PR w b ⟨al, false, false, [], []⟩ w2 ∧ RdrAt w2 b (ba l2)) := ⟨P2.out.1.step hk1, hr1 h2.out⟩; clear hk1 hr1; have q1 := P3.out.1.ru.c1; have f1 := P3.out.1.ru.fz 1; have q2 := P3.out.1.ru.c2; have f2 := P3.out.1.ru.fz 2))
        have P4 : Hid (PR w b ⟨al, i, o, [], []⟩ ((w2.setCell ⟨w.heap.size, 1, none⟩ (.bool i)).setCell ⟨w.heap.size, 2, none⟩ (.bool o)) ∧ RdrAt ((w2.setCell ⟨w.heap.size, 1, none⟩ (.bool i)).setCell ⟨w.heap.size, 2, none⟩ (.bool o)) b (ba l2)) := by
          have a1 := P3.out.1.set 1 (.bool i) ⟨al, i, false, [], []⟩ rfl
          have a2 := P3.out.1.rdr P3.out.2 1 (.bool i)
          exact ⟨a1.set 2 _ _ rfl, a1.rdr a2 2 _⟩
        clear q1 f1 q2 f2 P3 P2
        generalize World.setCell (w2.setCell _ _) _ _ = W2 at P4 ⊢
        have c1 := gv_calls_no (cH.out W2 (Or.inr trivial) P4.out.1.kp P4.out.2) h3.out
        go_wp2_with (first
          | (go_at_call 37; refine c1.mono ?_; clear c1; rintro e w3 ⟨rfl, hk1⟩))
        exact ⟨rfl, gv_no h3.out rfl, P4.out.1.kp.trans hk1⟩
    · rw [if_neg h2]
      show Calls _ _ _ _ fun e w' => Gv n2 _ e ∧ _
      replace h1 : Hid (n1 = 0) := h1
      replace h2 : Hid (n2 ≠ 0) := h2
      go_enter Tryd.func18, Tryd.ntmps18
      go_upto_region 1 with fail
      generalize hW0 : w.alloc _ = W0 at P0 ⊢
      clear hW0
      have c1 := gv_calls_ok (cV.out W0 P0.out.2) h1.out
      go_upto_region 2 with (first
        | (go_at_call 35; refine c1.mono ?_; clear c1; rintro e w1 ⟨rfl, hk1, hr1⟩; have P1 : Hid (PR w b r0 w1 ∧ RdrAt w1 b (ba l1)) := ⟨P0.out.1.step hk1, hr1 h1.out⟩; clear hk1 hr1; have q0 := P1.out.1.ru.c0; have f0 := P1.out.1.ru.fz 0))
      have P2 : Hid (PR w b ⟨al, false, false, [], []⟩ (w1.setCell ⟨w.heap.size, 0, none⟩ (.bool al)) ∧ RdrAt (w1.setCell ⟨w.heap.size, 0, none⟩ (.bool al)) b (ba l1)) := ⟨P1.out.1.set 0 _ _ rfl, P1.out.1.rdr P1.out.2 0 _⟩
      clear q0 f0 P1 P0
      generalize w1.setCell _ _ = W1 at P2 ⊢
      have c1 := gv_calls_no (cY.out W1 P2.out.2) h2.out
      go_wp2_with (first
        | (go_at_call 36; refine c1.mono ?_; clear c1; rintro e w3 ⟨rfl, hk1, _⟩))
      exact ⟨rfl, gv_no h2.out rfl, P2.out.1.kp.trans hk1⟩
  · rw [if_neg h1]
    show Calls _ _ _ _ fun e w' => Gv n1 _ e ∧ _
    replace h1 : Hid (n1 ≠ 0) := h1
    go_enter Tryd.func18, Tryd.ntmps18
    go_upto_region 1 with fail
    generalize hW0 : w.alloc _ = W0 at P0 ⊢
    clear hW0
    have c1 := gv_calls_no (cV.out W0 P0.out.2) h1.out
    go_wp2_with (first
      | (go_at_call 35; refine c1.mono ?_; clear c1; rintro e w3 ⟨rfl, hk1, _⟩))
    exact ⟨rfl, gv_no h1.out rfl, P0.out.1.kp.trans hk1⟩
end Go.Proofs.YtiplalbicibahaaDoor
