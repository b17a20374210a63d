/- The disk's Remove. -/
import Derived.Test.YtikkieaokfailaaGreatDoorDkW
namespace Go.Proofs.YtikkieaokfailaaGreatDoor
open Go.RowKit Go.Joins

theorem remove_bad (bd bn d : Nat) (s : Nm) (en : Nat) (W : World) (hd : W.heap[bd]? = some (.cells #[.pointer (some ⟨d, 0, none⟩)] 36 (0, 0))) (hn : W.heap[bn]? = some (.cells #[.string s] 9 (0, 0)))
    (hF : Calls Tryz.prog 89 #[.pointer (some ⟨d, 0, none⟩), .string s] W fun e w' => e = .panicked (gaveUp en) ∧ Below W.heap.size W w') :
    Calls Tryz.prog 167 #[.pointer (some ⟨bd, 0, none⟩), .pointer (some ⟨bn, 0, none⟩)] W fun e w' => e = .panicked (gaveUp en) ∧ Below W.heap.size W w' := by
  have q := box_cell hn
  have q1 := box_cell hd
  clear hn hd
  go_enter Tryz.func167, Tryz.ntmps167
  go_wp2_with (first
    | (go_at_call 89; refine hF.mono ?_; rintro e w1 ⟨rfl, hb1⟩))
  exact ⟨rfl, rfl, hb1⟩

set_option maxRecDepth 100000 in
set_option maxHeartbeats 4000000 in
theorem remove_go (bd bn d : Nat) (F : Nat → Prop) (k : Dk) (on : k.off = false) (s : Nm) (hs : isNm s = true) (f : Fle) (hlk : look k.fs s = some f) (hst : k.steps < 1000000) (W : World) (hDk : DiskAt W F d k)
    (hn : W.heap[bn]? = some (.cells #[.string s] 9 (0, 0))) (hd : W.heap[bd]? = some (.cells #[.pointer (some ⟨d, 0, none⟩)] 36 (0, 0))) (hFn : ¬ F bn) (hFd : ¬ F bd) :
    Calls Tryz.prog 167 #[.pointer (some ⟨bd, 0, none⟩), .pointer (some ⟨bn, 0, none⟩)] W fun e w' =>
      (((passK k).1 ≠ 0 ∧ e = .panicked (gaveUp (passK k).1) ∧ Dp W F d (passK k).2 w') ∨ ((passK k).1 = 0 ∧ e = .returned (.tuple #[]) ∧ Dp W F d { (passK k).2 with fs := dropL (passK k).2.fs s } w')) := by
  have hmax : s.size ≤ maxLen := by have := isNm_size hs; unfold maxLen; omega
  have q := box_cell hn
  have q1 := box_cell hd
  have hgood := hDk.good
  have hroom := hgood.room
  have hused := hgood.used
  have hlenO := lenO_used k.fs s
  obtain ⟨⟨bm, m, hD, hbm, ht, ha⟩, fd, lt, _⟩ := hDk
  have htie := ht s
  rw [hlk] at htie
  obtain ⟨⟨a, ln, cp, sf⟩, hm, h1, h2, hown, hFr⟩ := htie.some'
  dsimp only at h1 h2
  subst h1
  rw [hlk] at hlenO
  have hfl2 : f.b.length ≤ used k.fs := hlenO
  have hfind := find_ok d bm _ _ m s hs a _ cp _ hm W hD
  have hP := fun w' hDR => pass_R w' d bm k.fs.length k m hDR hgood on hst
  have hpfs := pass_fs k
  have hpg := good_pass hgood
  obtain ⟨P, HPe⟩ : ∃ P, Hid (passK k = P) := ⟨_, rfl⟩
  rw [HPe.out] at hP hpfs hpg ⊢
  obtain ⟨en, k2⟩ := P
  dsimp only at hP hpfs hpg ⊢
  obtain ⟨A, hA⟩ : ∃ A : Option Addr, (a.map fun g => (⟨g, 0, none⟩ : Addr)) = A := ⟨_, rfl⟩
  rw [hA] at hfind
  have HLN : Hid (ln = f.b.length) := h2
  clear HPe h2
  go_enter Tryz.func167, Tryz.ntmps167
  go_upto_region 1 with (first
    | (go_at_call 89; refine hfind.mono ?_; rintro e Z ⟨rfl, hbe⟩))
  have hDZ := hD.below hbe
  have htZ : ∀ t, Tie Z F (m t) (look k.fs t) := fun t => (ht t).keep (S := fun _ => False) (Keep.ofBelow hbe) (fun _ _ _ _ h => h) (fun _ h => h)
  have ltZ : ∀ i, F i → i < Z.heap.size := fun i hi => Nat.lt_of_lt_of_le (lt i hi) hbe.size
  have hdZ := box_below hd hbe
  have hnZ := box_below hn hbe
  have p1 := box_cell hdZ
  rcases gv_split (hP Z hDZ) with ⟨h0, hc'⟩ | ⟨h0, hc'⟩
  · go_upto_region 2 with (first
      | (go_at_call 53; refine hc'.mono ?_; rintro e w3 ⟨rfl, hD3, hk3⟩))
    obtain ⟨x1, x2, x3⟩ := DiskAt.cells hbm htZ ha fd ltZ hDZ.blk hk3 hD3 hpfs hpg
    have hd3 := box_cell (box_keep hdZ x3 hFd)
    have hn3 := box_cell (box_keep hnZ x3 hFn)
    have hoL : ((m s).getD fv0).2.1 = ln := by rw [hm]; rfl
    have hPt := drop_any d bm k.fs.length (rawK k2) m s hmax w3 hD3 (by simp [rawK]) (by simp [rawK, hpfs]; omega) (by rw [hoL, HLN.out]; omega)
    rw [hoL] at hPt
    clear hoL hc' hP
    go_wp2_with (first
      | (go_at_call 147; refine hPt.mono ?_; rintro e w7 ⟨rfl, hD7, hk7⟩))
    go_end0
    refine Or.inr ⟨h0, rfl, ?_⟩
    have hup := used_drop k.fs hgood.rise s
    rw [hlk] at hup
    have hle : lenO (some f) = f.b.length := rfl
    rw [hle] at hup
    have hraw : rawK { k2 with fs := dropL k2.fs s } = { rawK k2 with used := (rawK k2).used - (ln : Int) } := by
      unfold rawK
      congr 1
      show ((used (dropL k2.fs s) : Nat) : Int) = ((used k2.fs : Nat) : Int) - (ln : Int)
      rw [hpfs]
      have := HLN.out
      omega
    rw [← hraw] at hD7
    have hbl3 : FMap w3 bm k2.fs.length m := by rw [hpfs]; exact hD3.map
    obtain ⟨y1, _, _, y4⟩ := DiskAt.dropped (k := k2) (k1 := { k2 with fs := dropL k2.fs s }) (s := s) hbm x2 ha fd x1.lt hD3.blk hbl3 hk7 hD7 rfl (good_drop hpg s)
    exact Dp.from hbe (Dp.next x3 (fun i hi => Or.inl hi) ⟨F, y1, y4, fun _ h => Or.inl h⟩)
  · clear hP
    go_wp2_with (first
      | (go_at_call 53; refine hc'.mono ?_; rintro e w3 ⟨rfl, hD3, hk3⟩))
    obtain ⟨x1, _, x3⟩ := DiskAt.cells hbm htZ ha fd ltZ hDZ.blk hk3 hD3 hpfs hpg
    exact ⟨rfl, Or.inl ⟨h0, rfl, Dp.from hbe ⟨F, x1, x3, fun _ h => Or.inl h⟩⟩⟩

set_option maxHeartbeats 1000000 in
theorem remove_any (d : Nat) (F : Nat → Prop) (k : Dk) (s : Nm) (hst : k.steps < 1000000) (w : World) (hDk : DiskAt w F d k) :
    Calls Tryz.prog 153 #[.pointer (some ⟨d, 0, none⟩), .string s] w fun e w' => e = .returned (.int .i64 (removeK k s).1) ∧ Dp w F d (removeK k s).2 w' := by
  have hmf : ∀ (fn : Fn) (first cap : Array Value) (w : World), (Instr.makeFunc fn first cap).run Tryz.prog w = .ok (.func fn first cap) w := fun _ _ _ _ => rfl
  obtain ⟨W, hW⟩ : ∃ W, (w.alloc (.cells #[.pointer (some ⟨d, 0, none⟩)] 36)).alloc (.cells #[.string s] 9) = W := ⟨_, rfl⟩
  have hB : Below w.heap.size w W := by rw [← hW]; exact ((Below.refl _ _).alloc (Nat.le_refl _) _).alloc (by simp) _
  have b0 : W.heap[w.heap.size]? = some (.cells #[.pointer (some ⟨d, 0, none⟩)] 36 (0, 0)) := by rw [← hW]; exact alloc2_at w _ _
  have b1 : W.heap[w.heap.size + 1]? = some (.cells #[.string s] 9 (0, 0)) := by rw [← hW]; exact (by simpa using alloc_at (w.alloc (.cells #[.pointer (some ⟨d, 0, none⟩)] 36)) (.cells #[.string s] 9))
  have hDW := hDk.below hB
  have hlt := hDk.lt
  have hA : Calls Tryz.prog 48 #[.pointer (some ⟨d, 0, none⟩), .func (.func 167) #[] #[.pointer (some ⟨w.heap.size, 0, none⟩), .pointer (some ⟨w.heap.size + 1, 0, none⟩)]] W fun e w' => e = .returned (.int .i64 (removeK k s).1) ∧ Dp W F d (removeK k s).2 w' := by
    cases on : k.off with
    | true =>
      have e : removeK k s = (13, k) := by unfold removeK stepK; rw [on]; rfl
      rw [e]
      exact attempt_off d _ _ F k W hDW on
    | false =>
      refine attempt_D d _ _ F k _ _ W (enters_of Tryz.func167 (by kernel_rfl) rfl) hDW on (fun hD1 hb1 => ?_)
      have g0 := box_below b0 hb1
      have g1 := box_below b1 hb1
      generalize W.alloc (.cells #[.int .i64 0] 37) = V at *
      unfold removeK
      rcases stepK_cases k on s (fun _ => 0) (fun k _ => { k with fs := dropL k.fs s }) with ⟨en, hen, hne, e⟩ | ⟨f, hs, hlk, e⟩
      · rw [e]
        refine (remove_bad _ _ d s en _ g0 g1 (find_bad d F k s _ hD1 en hen)).mono ?_
        rintro e w' ⟨rfl, hbe⟩
        exact ⟨gv_no hne rfl, Dp.ofBelow hD1 hbe⟩
      · rw [e, if_neg (by simp)]
        refine (remove_go _ _ d F k on s hs f hlk hst _ hD1 g1 g0 (fun h => by have := hlt _ h; omega) (fun h => by have := hlt _ h; omega)).mono ?_
        rintro e w' (⟨h0, rfl, hDp⟩ | ⟨h0, rfl, hDp⟩)
        · rw [if_pos h0]
          exact ⟨gv_no h0 rfl, hDp⟩
        · rw [if_neg (by simp [h0])]
          exact ⟨Or.inl ⟨rfl, rfl⟩, hDp⟩
  have c0 := box_cell b0
  clear hDW
  obtain ⟨P, hP⟩ : ∃ P, removeK k s = P := ⟨_, rfl⟩
  rw [hP] at hA ⊢
  clear hP
  go_enter Tryz.func153, Tryz.ntmps153
  go_upto_region 1 with fail
  clear hW
  go_wp2_with (first
    | (go_at_call 48; refine hA.mono ?_; rintro e w1 ⟨rfl, hDp⟩))
  go_ret
  exact ⟨rfl, Dp.from hB hDp⟩

end Go.Proofs.YtikkieaokfailaaGreatDoor
