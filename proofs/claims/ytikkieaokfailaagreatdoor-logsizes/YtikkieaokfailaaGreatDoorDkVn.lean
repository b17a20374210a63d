/- The disk's Rename. -/
import Derived.Test.YtikkieaokfailaaGreatDoorDkVr
namespace Go.Proofs.YtikkieaokfailaaGreatDoor
open Go.RowKit Go.Joins

theorem ren_name (bd bn bt : Nat) (t : Nm) (hs : isNm t = false) (W : World) (hn : W.heap[bt]? = some (.cells #[.string t] 9 (0, 0))) :
    Calls Tryz.prog 146 #[.pointer (some ⟨bt, 0, none⟩), .pointer (some ⟨bd, 0, none⟩), .pointer (some ⟨bn, 0, none⟩)] W fun e w' => e = .panicked (gaveUp 4) ∧ Below W.heap.size W w' := by
  have hN := fun w => isName_any t w
  rw [hs] at hN
  have q := box_cell hn
  clear hn
  go_enter Tryz.func146, Tryz.ntmps146
  go_wp2_with (first
    | (go_at_call 51; refine (hN _).mono ?_; rintro e w1 ⟨rfl, hb1⟩)
    | (go_at_call 50; refine (ask_no 4 _).mono ?_; rintro e w2 ⟨rfl, rfl⟩))
  exact ⟨rfl, rfl, hb1⟩

theorem ren_bad (bd bn bt d : Nat) (s t : Nm) (ht : isNm t = true) (en : Nat) (W : World) (hd : W.heap[bd]? = some (.cells #[.pointer (some ⟨d, 0, none⟩)] 36 (0, 0))) (hn : W.heap[bn]? = some (.cells #[.string s] 9 (0, 0))) (htb : W.heap[bt]? = some (.cells #[.string t] 9 (0, 0)))
    (hF : ∀ V, Below W.heap.size W V → Calls Tryz.prog 89 #[.pointer (some ⟨d, 0, none⟩), .string s] V fun e w' => e = .panicked (gaveUp en) ∧ Below V.heap.size V w') :
    Calls Tryz.prog 146 #[.pointer (some ⟨bt, 0, none⟩), .pointer (some ⟨bd, 0, none⟩), .pointer (some ⟨bn, 0, none⟩)] W fun e w' => e = .panicked (gaveUp en) ∧ Below W.heap.size W w' := by
  have hN := fun w => isName_any t w
  rw [ht] at hN
  have q := box_cell htb
  go_enter Tryz.func146, Tryz.ntmps146
  go_upto_region 1 with (first
    | (go_at_call 51; refine (hN _).mono ?_; rintro e w1 ⟨rfl, hb1⟩)
    | (go_at_call 50; refine (ask_ok 4 _).mono ?_; rintro e w2 ⟨rfl, hw2⟩; replace hw2 := hw2.symm; subst hw2))
  have q1 := box_cell (box_below hd hb1)
  have q2 := box_cell (box_below hn hb1)
  have hF1 := hF _ hb1
  clear hF hd hn htb
  go_wp2_with (first
    | (go_at_call 89; refine hF1.mono ?_; rintro e w3 ⟨rfl, hb3⟩))
  exact ⟨rfl, rfl, hb1.trans (hb3.mono hb1.size)⟩

set_option maxRecDepth 100000 in
set_option maxHeartbeats 4000000 in
theorem ren_go (bd bn bt d : Nat) (F : Nat → Prop) (k : Dk) (on : k.off = false) (s t : Nm) (hs : isNm s = true) (htn : isNm t = true) (f : Fle) (hlk : look k.fs s = some f) (hst : k.steps < 1000000) (hfl : k.fs.length < 1000000) (W : World) (hDk : DiskAt W F d k)
    (hn : W.heap[bn]? = some (.cells #[.string s] 9 (0, 0))) (htb : W.heap[bt]? = some (.cells #[.string t] 9 (0, 0))) (hd : W.heap[bd]? = some (.cells #[.pointer (some ⟨d, 0, none⟩)] 36 (0, 0))) (hFn : ¬ F bn) (hFt : ¬ F bt) (hFd : ¬ F bd) :
    Calls Tryz.prog 146 #[.pointer (some ⟨bt, 0, none⟩), .pointer (some ⟨bd, 0, none⟩), .pointer (some ⟨bn, 0, none⟩)] W fun e w' =>
      (((passK k).1 ≠ 0 ∧ e = .panicked (gaveUp (passK k).1) ∧ Dp W F d (passK k).2 w') ∨ ((passK k).1 = 0 ∧ e = .returned (.tuple #[]) ∧ Dp W F d { (passK k).2 with fs := putL (dropL (passK k).2.fs s) t f } w')) := by
  have hsz64 := isNm_size hs
  have htz64 := isNm_size htn
  have hmax : s.size ≤ maxLen := by unfold maxLen; omega
  have hN := fun w => isName_any t w
  rw [htn] at hN
  have q := box_cell htb
  have hgood := hDk.good
  have hroom := hgood.room
  have hused := hgood.used
  have hlenO := lenO_used k.fs s
  obtain ⟨_, hsf1, hbd⟩ := look_good hgood hlk
  obtain ⟨⟨bm, m, hD, hbm, ht, ha⟩, fd, lt, _⟩ := hDk
  have htie := ht s
  rw [hlk] at htie
  obtain ⟨⟨a, ln, cp, sf⟩, hm, h1, h2, hown, hFr⟩ := htie.some'
  dsimp only at h1 h2
  subst h1
  subst h2
  rw [hlk] at hlenO
  have hfl2 : f.b.length ≤ used k.fs := hlenO
  have hfind := fun V (hV : DR V d bm k.fs.length (rawK k) m) => find_ok d bm _ _ m s hs a _ cp _ hm V hV
  have hP := fun w' hDR => pass_R w' d bm k.fs.length k m hDR hgood on hst
  have hpfs := pass_fs k
  have hpg := good_pass hgood
  obtain ⟨P, HPe⟩ : ∃ P, Hid (passK k = P) := ⟨_, rfl⟩
  rw [HPe.out] at hP hpfs hpg ⊢
  obtain ⟨en, k2⟩ := P
  dsimp only at hP hpfs hpg ⊢
  obtain ⟨A, hA⟩ : ∃ A : Option Addr, (a.map fun g => (⟨g, 0, none⟩ : Addr)) = A := ⟨_, rfl⟩
  obtain ⟨ln, hln⟩ : ∃ ln, f.b.length = ln := ⟨_, rfl⟩
  have HLN : Hid (f.b.length = ln) := hln
  rw [hln] at hfind hown hsf1 hfl2 hm
  rw [hA] at hfind
  clear hln HPe
  go_enter Tryz.func146, Tryz.ntmps146
  go_upto_region 1 with (first
    | (go_at_call 51; refine (hN _).mono ?_; rintro e w0 ⟨rfl, hb0⟩)
    | (go_at_call 50; refine (ask_ok 4 _).mono ?_; rintro e w2 ⟨rfl, hw2⟩; replace hw2 := hw2.symm; subst hw2))
  have p0 := box_cell (box_below hd hb0)
  have p2 := box_cell (box_below hn hb0)
  have hf0 := hfind _ (hD.below hb0)
  clear hfind
  go_upto_region 2 with (first
    | (go_at_call 89; refine hf0.mono ?_; rintro e w1 ⟨rfl, hb1⟩))
  have hb01 : Below W.heap.size W w1 := hb0.trans (hb1.mono hb0.size)
  have hbe : Below W.heap.size W (w1.alloc (.cells #[.slice A ln cp, .int .i64 (f.safe : Int)] 106)) := hb01.alloc hb01.size _
  have hfil := alloc_at w1 (.cells #[.slice A ln cp, .int .i64 (f.safe : Int)] 106)
  have hws := hb01.size
  obtain ⟨bf, hbf⟩ : ∃ bf, w1.heap.size = bf := ⟨_, rfl⟩
  rw [hbf] at hfil hws ⊢
  clear hbf hb1 hb01 hf0 hb0 p0 p2
  generalize w1.alloc (.cells #[.slice A ln cp, .int .i64 (f.safe : Int)] 106) = Z at *
  have hDZ := hD.below hbe
  have htZ : ∀ t, Tie Z F (m t) (look k.fs t) := fun t => (ht t).keep (S := fun _ => False) (Keep.ofBelow hbe) (fun _ _ _ _ h => h) (fun _ h => h)
  have ltZ : ∀ i, F i → i < Z.heap.size := fun i hi => Nat.lt_of_lt_of_le (lt i hi) hbe.size
  have hdZ := box_below hd hbe
  have hnZ := box_below hn hbe
  have htbZ := box_below htb hbe
  have p1 := box_cell hdZ
  have hdl := hD.lt
  have hbl := hD.map.lt
  rcases gv_split (hP Z hDZ) with ⟨h0, hc'⟩ | ⟨h0, hc'⟩
  · go_upto_region 3 with (first
      | (go_at_call 53; refine hc'.mono ?_; rintro e w3 ⟨rfl, hD3, hk3⟩))
    obtain ⟨x1, x2, x3⟩ := DiskAt.cells hbm htZ ha fd ltZ hDZ.blk hk3 hD3 hpfs hpg
    have hd3 := box_keep hdZ x3 hFd
    have hn3 := box_keep hnZ x3 hFn
    have ht3 := box_keep htbZ x3 hFt
    have hfil3 := box_keep hfil hk3 (show ¬ bf = d by omega)
    have cd3 := box_cell hd3
    have cn3 := box_cell hn3
    have hoL : ((m s).getD fv0).2.1 = ln := by rw [hm]; rfl
    have hDr := drop_any d bm k.fs.length (rawK k2) m s hmax w3 hD3 (by simp [rawK]) (by simp [rawK, hpfs]; omega) (by rw [hoL]; omega)
    rw [hoL] at hDr
    have hbl3 : FMap w3 bm k2.fs.length m := by rw [hpfs]; exact hD3.map
    have own3 : w3.ownsRow 0 5 1 (slv (a, ln, cp, (f.safe : Int))) ln (bc f.b) := by
      have := (x2 s)
      rw [hpfs, hlk, hm] at this
      have h := this.2.2.1
      rw [HLN.out] at h
      exact h
    have hrow := fun g (hg : (a, ln, cp, (f.safe : Int)).1 = some g) => row_own x2 ha (s := s) hm hg
    have hblk3 : ∀ g, a = some g → ∃ cur, w3.heap[g]? = some (.cells cur 5 (0, 0)) := fun g hg => by
      have h3 := x2 s
      rw [hm] at h3
      exact h3.blk hg
    clear hoL hc' hP
    go_upto_region 4 with (first
      | (go_at_call 147; refine hDr.mono ?_; rintro e w7 ⟨rfl, hD7, hk7⟩))
    have hup := used_drop k.fs hgood.rise s
    rw [hlk] at hup
    have hle : lenO (some f) = ln := HLN.out
    rw [hle] at hup
    have hraw : rawK { k2 with fs := dropL k2.fs s } = { rawK k2 with used := (rawK k2).used - (ln : Int) } := by
      unfold rawK
      congr 1
      show ((used (dropL k2.fs s) : Nat) : Int) = ((used k2.fs : Nat) : Int) - (ln : Int)
      rw [hpfs]
      omega
    rw [← hraw] at hD7
    have hkg7 := good_drop hpg s
    obtain ⟨y1, y2, y3, y4⟩ := DiskAt.dropped (k := k2) (k1 := { k2 with fs := dropL k2.fs s }) (s := s) hbm x2 ha fd x1.lt hD3.blk hbl3 hk7 hD7 rfl hkg7
    have hroom2 := hkg7.room
    have hused2 := hkg7.used
    obtain ⟨k3, hk3e⟩ : ∃ k3 : Dk, ({ k2 with fs := dropL k2.fs s } : Dk) = k3 := ⟨_, rfl⟩
    have H3 : Hid (({ k2 with fs := dropL k2.fs s } : Dk) = k3) := hk3e
    have hfs3 : k3.fs = dropL k2.fs s := by rw [← hk3e]
    have hmk : ∀ l, ({ k2 with fs := l } : Dk) = { k3 with fs := l } := fun l => by rw [← hk3e]
    rw [hk3e] at hD7 y1 y2 hkg7 hroom2 hused2
    have hlen2 : k3.fs.length ≤ k.fs.length := by rw [hfs3, hpfs]; exact len_drop _ _
    have hmt := hD7.map.tight (k3.fs.map Prod.fst) (rise_nodup hkg7.rise) (fun u => by rw [(y2 u).isSome, look_isSome])
    rw [List.length_map] at hmt
    have hD7' : DR w7 d bm k3.fs.length (rawK k3) (mputF m s none) := ⟨hD7.blk, hmt⟩
    have ld7 := box_cell (box_keep hd3 y4 hFd)
    have lt7 := box_cell (box_keep ht3 y4 hFt)
    have hfil7 := box_keep hfil3 hk7 (show ¬ (bf = d ∨ bf = bm) by omega)
    have f1 : w7.cell? ⟨bf, 0, none⟩ = some (.slice A ln cp) := (by simp [World.cell?, hfil7])
    have f2 : w7.cell? ⟨bf, 1, none⟩ = some (.int .i64 (f.safe : Int)) := (by simp [World.cell?, hfil7])
    have hlT := (y2 t).len
    have hlT2 := lenO_used k3.fs t
    have hPt := put_any d bm k3.fs.length (rawK k3) (mputF m s none) t (by omega) (by omega) a ln cp (f.safe : Int) w7 hD7' (by simp [rawK]) (by simp [rawK]; omega) (by omega) (by rw [hlT]; omega)
    rw [hlT, hA] at hPt
    clear hup hraw hlenO hmk hDr hk3e hfs3 hlT hfil7 hle
    go_wp2_with (first
      | (go_at_call 52; refine hPt.mono ?_; rintro e w8 ⟨rfl, hD8, hk8⟩))
    go_end0
    refine Or.inr ⟨h0, rfl, ?_⟩
    have hfs3 : k3.fs = dropL k2.fs s := by rw [← H3.out]
    have hmk : ({ k2 with fs := putL (dropL k2.fs s) t f } : Dk) = { k3 with fs := putL k3.fs t f } := by rw [← H3.out]
    rw [hmk]
    have hup := used_put k3.fs hkg7.rise t f
    rw [HLN.out] at hup
    have hraw : rawK { k3 with fs := putL k3.fs t f } = { rawK k3 with used := (rawK k3).used + ((ln : Int) - (lenO (look k3.fs t) : Int)) } := by
      unfold rawK
      congr 1
      show ((used (putL k3.fs t f) : Nat) : Int) = ((used k3.fs : Nat) : Int) + ((ln : Int) - (lenO (look k3.fs t) : Int))
      omega
    rw [← hraw] at hD8
    have hdu := used_drop k.fs hgood.rise s
    rw [hlk] at hdu
    have hle : lenO (some f) = ln := HLN.out
    rw [hle, ← hpfs, ← hfs3] at hdu
    have hrm : k3.room = k2.room := by rw [← H3.out]
    have hpu := hpg.used
    have hkg : ({ k3 with fs := putL k3.fs t f } : Dk).Good := good_put hkg7 htn (by rw [HLN.out]; exact hsf1) hbd (by omega)
    refine Dp.from hbe (Dp.next x3 (fun i hi => Or.inl hi) (Dp.next y4 (fun i hi => Or.inl hi) ?_))
    have own7 : w7.ownsRow 0 5 1 (slv (a, ln, cp, (f.safe : Int))) ln (bc f.b) := own_keep own3 hk7 (fun g hg e => by
      rw [slv_own] at hg
      obtain ⟨cur, h4⟩ := hblk3 g hg
      rcases e with rfl | rfl
      · rw [hD3.blk] at h4; cases h4
      · exact hD3.map.notCells h4 rfl)
    refine DiskAt.put (k := k3) (S := fun _ => False) (c := (a, ln, cp, (f.safe : Int))) (f := f) hbm y2 y3 fd y1.lt hD7.blk hmt (Keep.refl _ _) (fun i hi => hi.elim) hk8 hD8 rfl hkg7.rise hkg rfl HLN.out.symm ?_ (fun g hg => ?_)
    · show w8.ownsRow 0 5 1 (slv (a, ln, cp, (f.safe : Int))) f.b.length (bc f.b)
      rw [HLN.out]
      refine own_keep own7 hk8 (fun g hg e => ?_)
      rw [slv_own] at hg
      obtain ⟨cur, h4⟩ := hblk3 g hg
      rcases e with rfl | rfl
      · rw [hD3.blk] at h4; cases h4
      · exact hD3.map.notCells h4 rfl
    · refine ⟨Or.inl (hrow g hg).1, fun u e hu he => ?_⟩
      by_cases hus : u = s
      · rw [hus, mputF_same] at he; cases he
      · rw [mputF_other _ _ hus] at he
        exact (hrow g hg).2 u e hus he
  · clear hP
    go_wp2_with (first
      | (go_at_call 53; refine hc'.mono ?_; rintro e w3 ⟨rfl, hD3, hk3⟩))
    obtain ⟨x1, _, x3⟩ := DiskAt.cells hbm htZ ha fd ltZ hDZ.blk hk3 hD3 hpfs hpg
    exact ⟨rfl, Or.inl ⟨h0, rfl, Dp.from hbe ⟨F, x1, x3, fun _ h => Or.inl h⟩⟩⟩

set_option maxHeartbeats 1000000 in
theorem rename_any (d : Nat) (F : Nat → Prop) (k : Dk) (s t : Nm) (hst : k.steps < 1000000) (hfl : k.fs.length < 1000000) (w : World) (hDk : DiskAt w F d k) :
    Calls Tryz.prog 119 #[.pointer (some ⟨d, 0, none⟩), .string s, .string t] w fun e w' => e = .returned (.int .i64 (renameK k s t).1) ∧ Dp w F d (renameK k s t).2 w' := by
  have hmf : ∀ (fn : Fn) (first cap : Array Value) (w : World), (Instr.makeFunc fn first cap).run Tryz.prog w = .ok (.func fn first cap) w := fun _ _ _ _ => rfl
  obtain ⟨W, hW⟩ : ∃ W, ((w.alloc (.cells #[.pointer (some ⟨d, 0, none⟩)] 36)).alloc (.cells #[.string s] 9)).alloc (.cells #[.string t] 9) = W := ⟨_, rfl⟩
  have hB : Below w.heap.size w W := by rw [← hW]; exact (((Below.refl _ _).alloc (Nat.le_refl _) _).alloc (by simp) _).alloc (by simp; omega) _
  have b0 : W.heap[w.heap.size]? = some (.cells #[.pointer (some ⟨d, 0, none⟩)] 36 (0, 0)) := by rw [← hW]; exact alloc3_at w _ _ _
  have b1 : W.heap[w.heap.size + 1]? = some (.cells #[.string s] 9 (0, 0)) := by rw [← hW]; exact (by simpa using alloc2_at (w.alloc (.cells #[.pointer (some ⟨d, 0, none⟩)] 36)) (.cells #[.string s] 9) (.cells #[.string t] 9))
  have b2 : W.heap[w.heap.size + 1 + 1]? = some (.cells #[.string t] 9 (0, 0)) := by rw [← hW]; exact (by simpa using alloc_at ((w.alloc (.cells #[.pointer (some ⟨d, 0, none⟩)] 36)).alloc (.cells #[.string s] 9)) (.cells #[.string t] 9))
  have hDW := hDk.below hB
  have hlt := hDk.lt
  have hA : Calls Tryz.prog 48 #[.pointer (some ⟨d, 0, none⟩), .func (.func 146) #[] #[.pointer (some ⟨w.heap.size + 1 + 1, 0, none⟩), .pointer (some ⟨w.heap.size, 0, none⟩), .pointer (some ⟨w.heap.size + 1, 0, none⟩)]] W fun e w' => e = .returned (.int .i64 (renameK k s t).1) ∧ Dp W F d (renameK k s t).2 w' := by
    cases on : k.off with
    | true =>
      have e : renameK k s t = (13, k) := by unfold renameK; rw [on]; rfl
      rw [e]
      exact attempt_off d _ _ F k W hDW on
    | false =>
      refine attempt_D d _ _ F k _ _ W (enters_of Tryz.func146 (by kernel_rfl) rfl) hDW on (fun hD1 hb1 => ?_)
      have g0 := box_below b0 hb1
      have g1 := box_below b1 hb1
      have g2 := box_below b2 hb1
      generalize W.alloc (.cells #[.int .i64 0] 37) = V at *
      unfold renameK
      rw [if_neg (by rw [on]; decide)]
      by_cases h1 : isNm t = false
      · rw [if_pos h1]
        refine (ren_name _ _ _ t h1 _ g2).mono ?_
        rintro e w' ⟨rfl, hbe⟩
        exact ⟨gv_no (by simp) rfl, Dp.ofBelow hD1 hbe⟩
      · have h1' : isNm t = true := by simpa using h1
        rw [if_neg h1]
        rcases stepK_cases k on s (fun _ => 0) (fun k f => { k with fs := putL (dropL k.fs s) t f }) with ⟨en, hen, hne, e⟩ | ⟨f, hs, hlk, e⟩
        · rw [e]
          refine (ren_bad _ _ _ d s t h1' en _ g0 g1 g2 (fun V' hV => find_bad d F k s _ (hD1.below hV) en hen)).mono ?_
          rintro e w' ⟨rfl, hbe⟩
          exact ⟨gv_no hne rfl, Dp.ofBelow hD1 hbe⟩
        · rw [e, if_neg (by simp)]
          refine (ren_go _ _ _ d F k on s t hs h1' f hlk hst hfl _ hD1 g1 g2 g0 (fun h => by have := hlt _ h; omega) (fun h => by have := hlt _ h; omega) (fun h => by have := hlt _ h; omega)).mono ?_
          rintro e w' (⟨h0, rfl, hDp⟩ | ⟨h0, rfl, hDp⟩)
          · rw [if_pos h0]
            exact ⟨gv_no h0 rfl, hDp⟩
          · rw [if_neg (by simp [h0])]
            exact ⟨Or.inl ⟨rfl, rfl⟩, hDp⟩
  have c0 := box_cell b0
  clear hDW
  obtain ⟨P, hP⟩ : ∃ P, renameK k s t = P := ⟨_, rfl⟩
  rw [hP] at hA ⊢
  clear hP
  go_enter Tryz.func119, Tryz.ntmps119
  go_upto_region 1 with fail
  clear hW
  go_wp2_with (first
    | (go_at_call 48; refine hA.mono ?_; rintro e w1 ⟨rfl, hDp⟩))
  go_ret
  exact ⟨rfl, Dp.from hB hDp⟩

end Go.Proofs.YtikkieaokfailaaGreatDoor
