/- The disk's Sync, Remove. -/
import Derived.Test.YtikkieaokfailaaGreatDoorDkC
namespace Go.Proofs.YtikkieaokfailaaGreatDoor
open Go.RowKit Go.Joins

/-- What find answers, where there is nothing to be found. -/
theorem find_bad (d : Nat) (F : Nat → Prop) (k : Dk) (s : Nm) (W : World) (hDk : DiskAt W F d k) (en : Nat) (h : (isNm s = false ∧ en = 4) ∨ (isNm s = true ∧ look k.fs s = none ∧ en = 7)) :
    Calls Tryz.prog 89 #[.pointer (some ⟨d, 0, none⟩), .string s] W fun e w' => e = .panicked (gaveUp en) ∧ Below W.heap.size W w' := by
  rcases h with ⟨h1, rfl⟩ | ⟨h1, h2, rfl⟩
  · exact find_name d s h1 W
  · obtain ⟨⟨bm, m, hD, hbm, ht, ha⟩, fd, lt, _⟩ := hDk
    have := ht s
    rw [h2] at this
    exact find_none d bm _ _ m s h1 this.none' W hD

theorem stepK_cases (k : Dk) (on : k.off = false) (s : Nm) (err : Fle → Nat) (go : Dk → Fle → Dk) :
    (∃ en, ((isNm s = false ∧ en = 4) ∨ (isNm s = true ∧ look k.fs s = none ∧ en = 7)) ∧ en ≠ 0 ∧ stepK k s err go = (en, k)) ∨
    (∃ f, isNm s = true ∧ look k.fs s = some f ∧ stepK k s err go = if err f ≠ 0 then (err f, k) else if (passK k).1 ≠ 0 then passK k else (0, go (passK k).2 f)) := by
  unfold stepK
  rw [if_neg (by rw [on]; decide)]
  by_cases h1 : isNm s = false
  · exact Or.inl ⟨4, Or.inl ⟨h1, rfl⟩, by decide, by rw [if_pos h1]⟩
  · have h1' : isNm s = true := by simpa using h1
    rw [if_neg h1]
    cases h2 : look k.fs s with
    | none => exact Or.inl ⟨7, Or.inr ⟨h1', rfl, rfl⟩, by decide, rfl⟩
    | some f => exact Or.inr ⟨f, h1', rfl, rfl⟩

theorem sync_bad (bd bn d : Nat) (s : Nm) (en : Nat) (W : World) (hd : W.heap[bd]? = some (.cells #[.pointer (some ⟨d, 0, none⟩)] 36 (0, 0))) (hn : W.heap[bn]? = some (.cells #[.string s] 9 (0, 0)))
    (hF : Calls Tryz.prog 89 #[.pointer (some ⟨d, 0, none⟩), .string s] W fun e w' => e = .panicked (gaveUp en) ∧ Below W.heap.size W w') :
    Calls Tryz.prog 160 #[.pointer (some ⟨bd, 0, none⟩), .pointer (some ⟨bn, 0, none⟩)] W fun e w' => e = .panicked (gaveUp en) ∧ Below W.heap.size W w' := by
  have q := box_cell hn
  have q1 := box_cell hd
  clear hn hd
  go_enter Tryz.func160, Tryz.ntmps160
  go_wp2_with (first
    | (go_at_call 89; refine hF.mono ?_; rintro e w1 ⟨rfl, hb1⟩))
  exact ⟨rfl, rfl, hb1⟩

theorem gv_split {P : Program} {f : Nat} {args : Array Value} {w : World} {en : Nat} {R : World → Prop} (h : Calls P f args w fun e w' => Gv en e ∧ R w') :
    (en = 0 ∧ Calls P f args w fun e w' => e = .returned (.tuple #[]) ∧ R w') ∨ (en ≠ 0 ∧ Calls P f args w fun e w' => e = .panicked (gaveUp en) ∧ R w') := by
  by_cases h0 : en = 0
  · exact Or.inl ⟨h0, h.mono (fun e w' h => ⟨h.1.elim (fun k => k.2) (fun k => absurd h0 k.1), h.2⟩)⟩
  · exact Or.inr ⟨h0, h.mono (fun e w' h => ⟨h.1.elim (fun k => absurd k.1 h0) (fun k => k.2), h.2⟩)⟩

set_option maxRecDepth 100000 in
set_option maxHeartbeats 4000000 in
theorem sync_go (bd bn d : Nat) (F : Nat → Prop) (k : Dk) (on : k.off = false) (s : Nm) (hs : isNm s = true) (f : Fle) (hlk : look k.fs s = some f) (hst : k.steps < 1000000) (hfl : k.fs.length < 1000000) (W : World) (hDk : DiskAt W F d k)
    (hn : W.heap[bn]? = some (.cells #[.string s] 9 (0, 0))) (hd : W.heap[bd]? = some (.cells #[.pointer (some ⟨d, 0, none⟩)] 36 (0, 0))) (hFn : ¬ F bn) (hFd : ¬ F bd) :
    Calls Tryz.prog 160 #[.pointer (some ⟨bd, 0, none⟩), .pointer (some ⟨bn, 0, none⟩)] W fun e w' =>
      (((passK k).1 ≠ 0 ∧ e = .panicked (gaveUp (passK k).1) ∧ Dp W F d (passK k).2 w') ∨ ((passK k).1 = 0 ∧ e = .returned (.tuple #[]) ∧ Dp W F d { (passK k).2 with fs := putL (passK k).2.fs s ⟨f.b, f.b.length⟩ } w')) := by
  have hsz64 := isNm_size hs
  have q := box_cell hn
  have q1 := box_cell hd
  have hgood := hDk.good
  have hroom := hgood.room
  have hused := hgood.used
  have hlenO := lenO_used k.fs s
  obtain ⟨_, hsf1, hbd⟩ := look_good hgood hlk
  obtain ⟨⟨bm, m, hD, hbm, ht, ha⟩, fd, lt, _⟩ := hDk
  have htie := ht s
  rw [hlk] at htie
  obtain ⟨⟨a, ln, cp, sf⟩, hm, h1, h2, hown, hFr⟩ := htie.some'
  dsimp only at h1 h2
  subst h1
  subst h2
  rw [hlk] at hlenO
  have hfl2 : f.b.length ≤ used k.fs := hlenO
  have hfind := find_ok d bm _ _ m s hs a _ cp _ hm W hD
  have hP := fun w' hDR => pass_R w' d bm k.fs.length k m hDR hgood on hst
  have hpfs := pass_fs k
  have hpg := good_pass hgood
  obtain ⟨P, HPe⟩ : ∃ P, Hid (passK k = P) := ⟨_, rfl⟩
  rw [HPe.out] at hP hpfs hpg ⊢
  obtain ⟨en, k2⟩ := P
  dsimp only at hP hpfs hpg ⊢
  obtain ⟨A, hA⟩ : ∃ A : Option Addr, (a.map fun g => (⟨g, 0, none⟩ : Addr)) = A := ⟨_, rfl⟩
  obtain ⟨ln, hln⟩ : ∃ ln, f.b.length = ln := ⟨_, rfl⟩
  have HLN : Hid (f.b.length = ln) := hln
  rw [hln] at hfind hown hsf1 hfl2 hm
  rw [hA] at hfind
  clear hln HPe
  have hlen1 := fun w => len_slice A ln cp 29 3 w Tryz.underlying29
  go_enter Tryz.func160, Tryz.ntmps160
  go_upto_region 1 with (first
    | (go_at_call 89; refine hfind.mono ?_; rintro e w1 ⟨rfl, hb1⟩))
  have hbe : Below W.heap.size W (w1.alloc (.cells #[.slice A ln cp, .int .i64 (f.safe : Int)] 106)) := hb1.alloc hb1.size _
  have hfil := alloc_at w1 (.cells #[.slice A ln cp, .int .i64 (f.safe : Int)] 106)
  have hws := hb1.size
  obtain ⟨bf, hbf⟩ : ∃ bf, w1.heap.size = bf := ⟨_, rfl⟩
  rw [hbf] at hfil hws ⊢
  clear hbf hb1 hfind
  generalize w1.alloc (.cells #[.slice A ln cp, .int .i64 (f.safe : Int)] 106) = Z at *
  have hDZ := hD.below hbe
  have htZ : ∀ t, Tie Z F (m t) (look k.fs t) := fun t => (ht t).keep (S := fun _ => False) (Keep.ofBelow hbe) (fun _ _ _ _ h => h) (fun _ h => h)
  have ltZ : ∀ i, F i → i < Z.heap.size := fun i hi => Nat.lt_of_lt_of_le (lt i hi) hbe.size
  have hdZ := box_below hd hbe
  have hnZ := box_below hn hbe
  have p1 := box_cell hdZ
  have hdl := hD.lt
  rcases gv_split (hP Z hDZ) with ⟨h0, hc'⟩ | ⟨h0, hc'⟩
  · go_upto_region 2 with (first
      | (go_at_call 53; refine hc'.mono ?_; rintro e w3 ⟨rfl, hD3, hk3⟩))
    obtain ⟨x1, x2, x3⟩ := DiskAt.cells hbm htZ ha fd ltZ hDZ.blk hk3 hD3 hpfs hpg
    have hd3 := box_cell (box_keep hdZ x3 hFd)
    have hn3 := box_cell (box_keep hnZ x3 hFn)
    have hfil3 := box_keep hfil hk3 (show ¬ bf = d by omega)
    have f0 := cell_of_block hfil3 0
    simp at f0
    have hoL : ((m s).getD fv0).2.1 = ln := by rw [hm]; rfl
    have hPt := put_any d bm k.fs.length (rawK k2) m s (by omega) hfl a ln cp ln w3 hD3 (by simp [rawK]) (by simp [rawK, hpfs]; omega) (by omega) (by rw [hoL]; omega)
    rw [hoL, hA] at hPt
    clear hoL hc' hP hfil3 hlenO
    go_wp2_with (first
      | (go_at_call 52; refine hPt.mono ?_; rintro e w7 ⟨rfl, hD7, hk7⟩))
    go_end0
    refine Or.inr ⟨h0, rfl, ?_⟩
    rw [hpfs, HLN.out]
    have hup := used_put k.fs hgood.rise s ⟨f.b, ln⟩
    rw [hlk] at hup
    have hup2 : used (putL k.fs s ⟨f.b, ln⟩) = used k.fs := by
      have : lenO (some f) = f.b.length := rfl
      rw [this] at hup
      exact Nat.add_right_cancel hup
    have hraw : rawK { k2 with fs := putL k.fs s ⟨f.b, ln⟩ } = { rawK k2 with used := (rawK k2).used + ((ln : Int) - (ln : Int)) } := by
      unfold rawK
      dsimp only
      rw [hup2, hpfs]
      simp
    rw [← hraw] at hD7
    have hkg : ({ k2 with fs := putL k2.fs s ⟨f.b, ln⟩ } : Dk).Good := good_put hpg hs (by rw [← HLN.out]; exact Nat.le_refl _) hbd (by rw [hpfs, hup2, ← hpfs]; exact hpg.used)
    rw [hpfs] at hkg
    refine Dp.from hbe (Dp.next x3 (fun i hi => Or.inl hi) ?_)
    have hbl3 : FMap w3 bm k2.fs.length m := by rw [hpfs]; exact hD3.map
    have own3 : w3.ownsRow 0 5 1 (slv (a, ln, cp, (ln : Int))) ln (bc f.b) := by
      have := (x2 s)
      rw [hpfs, hlk, hm] at this
      have h := this.2.2.1
      rw [HLN.out] at h
      exact h
    have hrow := fun g (hg : (a, ln, cp, (f.safe : Int)).1 = some g) => row_own x2 ha (s := s) hm hg
    refine DiskAt.put (k := k2) (S := fun _ => False) (c := (a, ln, cp, (ln : Int))) (f := ⟨f.b, ln⟩) hbm x2 ha fd x1.lt hD3.blk hbl3 (Keep.refl _ _) (fun i hi => hi.elim) hk7 hD7 (by rw [hpfs]) (by rw [hpfs]; exact hgood.rise) hkg rfl (by rw [HLN.out]) ?_ (fun g hg => ?_)
    · show w7.ownsRow 0 5 1 (slv (a, ln, cp, (ln : Int))) f.b.length (bc f.b)
      rw [HLN.out]
      refine own_keep own3 hk7 (fun g hg e => ?_)
      rw [slv_own] at hg
      have h3 := x2 s
      rw [hm] at h3
      obtain ⟨cur, h4⟩ := h3.blk hg
      rcases e with rfl | rfl
      · rw [hD3.blk] at h4; cases h4
      · exact hD3.map.notCells h4 rfl
    · exact ⟨Or.inl (hrow g hg).1, (hrow g hg).2⟩
  · clear hP
    go_wp2_with (first
      | (go_at_call 53; refine hc'.mono ?_; rintro e w3 ⟨rfl, hD3, hk3⟩))
    obtain ⟨x1, _, x3⟩ := DiskAt.cells hbm htZ ha fd ltZ hDZ.blk hk3 hD3 hpfs hpg
    exact ⟨rfl, Or.inl ⟨h0, rfl, Dp.from hbe ⟨F, x1, x3, fun _ h => Or.inl h⟩⟩⟩

set_option maxHeartbeats 1000000 in
theorem sync_any (d : Nat) (F : Nat → Prop) (k : Dk) (s : Nm) (hst : k.steps < 1000000) (hfl : k.fs.length < 1000000) (w : World) (hDk : DiskAt w F d k) :
    Calls Tryz.prog 142 #[.pointer (some ⟨d, 0, none⟩), .string s] w fun e w' => e = .returned (.int .i64 (syncK k s).1) ∧ Dp w F d (syncK k s).2 w' := by
  have hmf : ∀ (fn : Fn) (first cap : Array Value) (w : World), (Instr.makeFunc fn first cap).run Tryz.prog w = .ok (.func fn first cap) w := fun _ _ _ _ => rfl
  obtain ⟨W, hW⟩ : ∃ W, (w.alloc (.cells #[.pointer (some ⟨d, 0, none⟩)] 36)).alloc (.cells #[.string s] 9) = W := ⟨_, rfl⟩
  have hB : Below w.heap.size w W := by rw [← hW]; exact ((Below.refl _ _).alloc (Nat.le_refl _) _).alloc (by simp) _
  have b0 : W.heap[w.heap.size]? = some (.cells #[.pointer (some ⟨d, 0, none⟩)] 36 (0, 0)) := by rw [← hW]; exact alloc2_at w _ _
  have b1 : W.heap[w.heap.size + 1]? = some (.cells #[.string s] 9 (0, 0)) := by rw [← hW]; exact (by simpa using alloc_at (w.alloc (.cells #[.pointer (some ⟨d, 0, none⟩)] 36)) (.cells #[.string s] 9))
  have hDW := hDk.below hB
  have hlt := hDk.lt
  have hA : Calls Tryz.prog 48 #[.pointer (some ⟨d, 0, none⟩), .func (.func 160) #[] #[.pointer (some ⟨w.heap.size, 0, none⟩), .pointer (some ⟨w.heap.size + 1, 0, none⟩)]] W fun e w' => e = .returned (.int .i64 (syncK k s).1) ∧ Dp W F d (syncK k s).2 w' := by
    cases on : k.off with
    | true =>
      have e : syncK k s = (13, k) := by unfold syncK stepK; rw [on]; rfl
      rw [e]
      exact attempt_off d _ _ F k W hDW on
    | false =>
      refine attempt_D d _ _ F k _ _ W (enters_of Tryz.func160 (by kernel_rfl) rfl) hDW on (fun hD1 hb1 => ?_)
      have g0 := box_below b0 hb1
      have g1 := box_below b1 hb1
      generalize W.alloc (.cells #[.int .i64 0] 37) = V at *
      unfold syncK
      rcases stepK_cases k on s (fun _ => 0) (fun k f => { k with fs := putL k.fs s ⟨f.b, f.b.length⟩ }) with ⟨en, hen, hne, e⟩ | ⟨f, hs, hlk, e⟩
      · rw [e]
        refine (sync_bad _ _ d s en _ g0 g1 (find_bad d F k s _ hD1 en hen)).mono ?_
        rintro e w' ⟨rfl, hbe⟩
        exact ⟨gv_no hne rfl, Dp.ofBelow hD1 hbe⟩
      · rw [e, if_neg (by simp)]
        refine (sync_go _ _ d F k on s hs f hlk hst hfl _ hD1 g1 g0 (fun h => by have := hlt _ h; omega) (fun h => by have := hlt _ h; omega)).mono ?_
        rintro e w' (⟨h0, rfl, hDp⟩ | ⟨h0, rfl, hDp⟩)
        · rw [if_pos h0]
          exact ⟨gv_no h0 rfl, hDp⟩
        · rw [if_neg (by simp [h0])]
          exact ⟨Or.inl ⟨rfl, rfl⟩, hDp⟩
  have c0 := box_cell b0
  clear hDW
  obtain ⟨P, hP⟩ : ∃ P, syncK k s = P := ⟨_, rfl⟩
  rw [hP] at hA ⊢
  clear hP
  go_enter Tryz.func142, Tryz.ntmps142
  go_upto_region 1 with fail
  clear hW
  go_wp2_with (first
    | (go_at_call 48; refine hA.mono ?_; rintro e w1 ⟨rfl, hDp⟩))
  go_ret
  exact ⟨rfl, Dp.from hB hDp⟩

end Go.Proofs.YtikkieaokfailaaGreatDoor
