/- The disk's Cut. -/
import Derived.Test.YtikkieaokfailaaGreatDoorDkVr
namespace Go.Proofs.YtikkieaokfailaaGreatDoor
open Go.RowKit Go.Joins

theorem cut_bad (bd bn bz d : Nat) (s : Nm) (en : Nat) (W : World) (hd : W.heap[bd]? = some (.cells #[.pointer (some ⟨d, 0, none⟩)] 36 (0, 0))) (hn : W.heap[bn]? = some (.cells #[.string s] 9 (0, 0)))
    (hF : Calls Tryz.prog 89 #[.pointer (some ⟨d, 0, none⟩), .string s] W fun e w' => e = .panicked (gaveUp en) ∧ Below W.heap.size W w') :
    Calls Tryz.prog 168 #[.pointer (some ⟨bd, 0, none⟩), .pointer (some ⟨bn, 0, none⟩), .pointer (some ⟨bz, 0, none⟩)] W fun e w' => e = .panicked (gaveUp en) ∧ Below W.heap.size W w' := by
  have q := box_cell hn
  have q1 := box_cell hd
  clear hn hd
  go_enter Tryz.func168, Tryz.ntmps168
  go_wp2_with (first
    | (go_at_call 89; refine hF.mono ?_; rintro e w1 ⟨rfl, hb1⟩))
  exact ⟨rfl, rfl, hb1⟩

set_option maxRecDepth 100000 in
set_option maxHeartbeats 4000000 in
theorem cut_arg (bd bn bz d : Nat) (F : Nat → Prop) (k : Dk) (s : Nm) (hs : isNm s = true) (f : Fle) (hlk : look k.fs s = some f) (z : Int) (hz : ¬ (0 ≤ z ∧ z ≤ (f.b.length : Int))) (W : World) (hDk : DiskAt W F d k)
    (hn : W.heap[bn]? = some (.cells #[.string s] 9 (0, 0))) (hd : W.heap[bd]? = some (.cells #[.pointer (some ⟨d, 0, none⟩)] 36 (0, 0))) (hzb : W.heap[bz]? = some (.cells #[.int .i64 z] 3 (0, 0))) :
    Calls Tryz.prog 168 #[.pointer (some ⟨bd, 0, none⟩), .pointer (some ⟨bn, 0, none⟩), .pointer (some ⟨bz, 0, none⟩)] W fun e w' => e = .panicked (gaveUp 1) ∧ Below W.heap.size W w' := by
  have q := box_cell hn
  have q1 := box_cell hd
  obtain ⟨⟨bm, m, hD, hbm, ht, ha⟩, fd, lt, _⟩ := hDk
  have htie := ht s
  rw [hlk] at htie
  obtain ⟨⟨a, ln, cp, sf⟩, hm, h1, h2, hown, hFr⟩ := htie.some'
  dsimp only at h1 h2
  subst h1
  rw [← h2] at hz
  have hfind := find_ok d bm _ _ m s hs a _ cp _ hm W hD
  obtain ⟨A, hA⟩ : ∃ A : Option Addr, (a.map fun g => (⟨g, 0, none⟩ : Addr)) = A := ⟨_, rfl⟩
  rw [hA] at hfind
  have hlen1 := fun w => len_slice A ln cp 29 3 w Tryz.underlying29
  clear h2 hlk htie hown hA
  go_enter Tryz.func168, Tryz.ntmps168
  go_upto_region 1 with (first
    | (go_at_call 89; refine hfind.mono ?_; rintro e w1 ⟨rfl, hb1⟩))
  have hbe : Below W.heap.size W (w1.alloc (.cells #[.slice A ln cp, .int .i64 (f.safe : Int)] 106)) := hb1.alloc hb1.size _
  have hfil := alloc_at w1 (.cells #[.slice A ln cp, .int .i64 (f.safe : Int)] 106)
  obtain ⟨bf, hbf⟩ : ∃ bf, w1.heap.size = bf := ⟨_, rfl⟩
  rw [hbf] at hfil ⊢
  clear hbf hb1 hfind
  generalize w1.alloc (.cells #[.slice A ln cp, .int .i64 (f.safe : Int)] 106) = Z at *
  have f0 := cell_of_block hfil 0
  simp at f0
  have hz0 := box_cell (box_below hzb hbe)
  by_cases h0 : 0 ≤ z
  · have h1 : ¬ z ≤ (ln : Int) := fun h => hz ⟨h0, h⟩
    clear hz
    go_wp2_with (first
      | (go_at_call 50; refine (ask_no 1 _).mono ?_; rintro e w2 ⟨rfl, rfl⟩))
    exact ⟨rfl, rfl, hbe⟩
  · clear hz
    go_wp2_with (first
      | (go_at_call 50; refine (ask_no 1 _).mono ?_; rintro e w2 ⟨rfl, rfl⟩))
    exact ⟨rfl, rfl, hbe⟩

set_option maxRecDepth 100000 in
set_option maxHeartbeats 4000000 in
theorem cut_go (bd bn bz d : Nat) (F : Nat → Prop) (k : Dk) (on : k.off = false) (s : Nm) (hs : isNm s = true) (f : Fle) (hlk : look k.fs s = some f) (z : Nat) (hz : z ≤ f.b.length) (hst : k.steps < 1000000) (hfl : k.fs.length < 1000000) (W : World) (hDk : DiskAt W F d k)
    (hn : W.heap[bn]? = some (.cells #[.string s] 9 (0, 0))) (hd : W.heap[bd]? = some (.cells #[.pointer (some ⟨d, 0, none⟩)] 36 (0, 0))) (hzb : W.heap[bz]? = some (.cells #[.int .i64 (z : Int)] 3 (0, 0))) (hFn : ¬ F bn) (hFd : ¬ F bd) (hFz : ¬ F bz) :
    Calls Tryz.prog 168 #[.pointer (some ⟨bd, 0, none⟩), .pointer (some ⟨bn, 0, none⟩), .pointer (some ⟨bz, 0, none⟩)] W fun e w' =>
      (((passK k).1 ≠ 0 ∧ e = .panicked (gaveUp (passK k).1) ∧ Dp W F d (passK k).2 w') ∨ ((passK k).1 = 0 ∧ e = .returned (.tuple #[]) ∧ Dp W F d { (passK k).2 with fs := putL (passK k).2.fs s (cutF f z) } w')) := by
  have hsz64 := isNm_size hs
  have q := box_cell hn
  have q1 := box_cell hd
  have hgood := hDk.good
  have hroom := hgood.room
  have hused := hgood.used
  have hlenO := lenO_used k.fs s
  obtain ⟨_, hsf1, hbd⟩ := look_good hgood hlk
  obtain ⟨⟨bm, m, hD, hbm, ht, ha⟩, fd, lt, _⟩ := hDk
  have htie := ht s
  rw [hlk] at htie
  obtain ⟨⟨a, ln, cp, sf⟩, hm, h1, h2, hown, hFr⟩ := htie.some'
  dsimp only at h1 h2
  subst h1
  subst h2
  rw [hlk] at hlenO
  have hfl2 : f.b.length ≤ used k.fs := hlenO
  have hfind := find_ok d bm _ _ m s hs a _ cp _ hm W hD
  have hP := fun w' hDR => pass_R w' d bm k.fs.length k m hDR hgood on hst
  have hpfs := pass_fs k
  have hpg := good_pass hgood
  obtain ⟨P, HPe⟩ : ∃ P, Hid (passK k = P) := ⟨_, rfl⟩
  rw [HPe.out] at hP hpfs hpg ⊢
  obtain ⟨en, k2⟩ := P
  dsimp only at hP hpfs hpg ⊢
  obtain ⟨A, hA⟩ : ∃ A : Option Addr, (a.map fun g => (⟨g, 0, none⟩ : Addr)) = A := ⟨_, rfl⟩
  have hslv : slv (a, f.b.length, cp, (f.safe : Int)) = .slice A f.b.length cp := by unfold slv; rw [hA]
  rw [hslv] at hown
  obtain ⟨ln, hln⟩ : ∃ ln, f.b.length = ln := ⟨_, rfl⟩
  have HLN : Hid (f.b.length = ln) := hln
  rw [hln] at hfind hown hsf1 hfl2 hm hz
  have hRw : Rd W A ln cp f.b := Rd.ofRow hown hbd
  rw [hA] at hfind
  clear hln HPe hslv
  have hlen1 := fun w => len_slice A ln cp 29 3 w Tryz.underlying29
  have hz0 : (0 : Int) ≤ (z : Int) := by omega
  have hz1 : (z : Int) ≤ (ln : Int) := by omega
  go_enter Tryz.func168, Tryz.ntmps168
  go_upto_region 1 with (first
    | (go_at_call 89; refine hfind.mono ?_; rintro e w1 ⟨rfl, hb1⟩))
  have hbe : Below W.heap.size W (w1.alloc (.cells #[.slice A ln cp, .int .i64 (f.safe : Int)] 106)) := hb1.alloc hb1.size _
  have hfil := alloc_at w1 (.cells #[.slice A ln cp, .int .i64 (f.safe : Int)] 106)
  have hws := hb1.size
  obtain ⟨bf, hbf⟩ : ∃ bf, w1.heap.size = bf := ⟨_, rfl⟩
  rw [hbf] at hfil hws ⊢
  clear hbf hb1 hfind
  generalize w1.alloc (.cells #[.slice A ln cp, .int .i64 (f.safe : Int)] 106) = Z at *
  have hDZ := hD.below hbe
  have htZ : ∀ t, Tie Z F (m t) (look k.fs t) := fun t => (ht t).keep (S := fun _ => False) (Keep.ofBelow hbe) (fun _ _ _ _ h => h) (fun _ h => h)
  have ltZ : ∀ i, F i → i < Z.heap.size := fun i hi => Nat.lt_of_lt_of_le (lt i hi) hbe.size
  have hdZ := box_below hd hbe
  have hnZ := box_below hn hbe
  have hzZ := box_below hzb hbe
  have p1 := box_cell hdZ
  have pz := box_cell hzZ
  have f0 := cell_of_block hfil 0
  simp at f0
  have hdl := hD.lt
  have hbl := hD.map.lt
  rcases gv_split (hP Z hDZ) with ⟨h0, hc'⟩ | ⟨h0, hc'⟩
  · go_upto_region 3 with (first
      | (go_at_call 50; refine (ask_ok 1 _).mono ?_; rintro e w2 ⟨rfl, hw2⟩; replace hw2 := hw2.symm; subst hw2)
      | (go_at_call 53; refine hc'.mono ?_; rintro e w3 ⟨rfl, hD3, hk3⟩))
    obtain ⟨x1, x2, x3⟩ := DiskAt.cells hbm htZ ha fd ltZ hDZ.blk hk3 hD3 hpfs hpg
    have hd3 := box_keep hdZ x3 hFd
    have hn3 := box_keep hnZ x3 hFn
    have hz3 := box_keep hzZ x3 hFz
    have hfil3 := box_keep hfil hk3 (show ¬ bf = d by omega)
    have hR3 : Rd w3 A ln cp f.b := by
      have h := (x2 s)
      rw [hpfs, hlk, hm] at h
      have ho := h.2.2.1
      rw [HLN.out] at ho
      have e : slv (a, ln, cp, (f.safe : Int)) = .slice A ln cp := by unfold slv; rw [hA]
      rw [e] at ho
      exact Rd.ofRow ho hbd
    refine wp_region_lx (fun w' => w'.heap[bd]? = some (.cells #[.pointer (some ⟨d, 0, none⟩)] 36 (0, 0)) ∧ w'.heap[bn]? = some (.cells #[.string s] 9 (0, 0)) ∧ w'.heap[bz]? = some (.cells #[.int .i64 (z : Int)] 3 (0, 0)) ∧ w'.heap[bf]? = some (.cells #[.slice A ln cp, .int .i64 (f.safe : Int)] 106 (0, 0))) [] 6 (by kernel_rfl) (by kernel_rfl) ?_
    have HS : w3.drew.heap[bd]? = some (.cells #[.pointer (some ⟨d, 0, none⟩)] 36 (0, 0)) ∧ w3.drew.heap[bn]? = some (.cells #[.string s] 9 (0, 0)) ∧ w3.drew.heap[bz]? = some (.cells #[.int .i64 (z : Int)] 3 (0, 0)) ∧ w3.drew.heap[bf]? = some (.cells #[.slice A ln cp, .int .i64 (f.safe : Int)] 106 (0, 0)) := ⟨hd3, hn3, hz3, hfil3⟩
    have hbX : Below w3.heap.size w3 w3.drew := (Below.refl _ _).drew
    have hRX := hR3.carry (Nat.le_refl _) hbX
    have hDX := hD3.below hbX
    clear hd3 hn3 hz3 hfil3 hR3
    generalize w3.drew = X at *
    refine lx_rd 0 (.pointer (some ⟨d, 0, none⟩)) (by kernel_rfl) (fun _ _ d _ _ h => by cases d <;> exact h) (by kernel_rfl) HS rfl rfl rfl (fun w' hS => ?ha0) ?_
    case ha0 => have q := box_cell hS.1; first | (go_simp; rfl) | go_simp
    simp only [List.setIfInBounds_toArray, List.set_cons_zero, List.set_cons_succ]
    refine lx_rd 1 (.string s) (by kernel_rfl) (fun _ _ d _ _ h => by cases d <;> exact h) (by kernel_rfl) HS rfl rfl rfl (fun w' hS => ?ha1) ?_
    case ha1 => have q := box_cell hS.2.1; first | (go_simp; rfl) | go_simp
    simp only [List.setIfInBounds_toArray, List.set_cons_zero, List.set_cons_succ]
    refine lx_rd 2 (.agg #[.slice A ln cp, .int .i64 (f.safe : Int)]) (by kernel_rfl) (fun _ _ d _ _ h => by cases d <;> exact h) (by kernel_rfl) HS rfl rfl rfl (fun w' hS => ?ha2) ?_
    case ha2 => have q1 : w'.cell? ⟨bf, 0, none⟩ = some (.slice A ln cp) := (by simp [World.cell?, hS.2.2.2]); have q2 : w'.cell? ⟨bf, 1, none⟩ = some (.int .i64 (f.safe : Int)) := (by simp [World.cell?, hS.2.2.2]); first | (go_simp; rfl) | go_simp
    simp only [List.setIfInBounds_toArray, List.set_cons_zero, List.set_cons_succ]
    refine lx_rd 3 (.int .i64 (z : Int)) (by kernel_rfl) (fun _ _ d _ _ h => by cases d <;> exact h) (by kernel_rfl) HS rfl rfl rfl (fun w' hS => ?ha3) ?_
    case ha3 => have q := box_cell hS.2.2.1; first | (go_simp; rfl) | go_simp
    simp only [List.setIfInBounds_toArray, List.set_cons_zero, List.set_cons_succ]
    refine lx_one 4 (by kernel_rfl) (stepT_call 70 ?a4 rfl rfl rfl ?r4 ?_)
    case r4 => first | (go_simp; rfl) | go_simp
    refine (fcut_any A ln cp f.b f.safe z X hRX hz (by omega)).mono ?_
    rintro e w5 ⟨a5, cp5, rfl, hown5, hb5⟩
    have HS5 : w5.heap[bd]? = some (.cells #[.pointer (some ⟨d, 0, none⟩)] 36 (0, 0)) ∧ w5.heap[bn]? = some (.cells #[.string s] 9 (0, 0)) ∧ w5.heap[bz]? = some (.cells #[.int .i64 (z : Int)] 3 (0, 0)) ∧ w5.heap[bf]? = some (.cells #[.slice A ln cp, .int .i64 (f.safe : Int)] 106 (0, 0)) := ⟨box_below HS.1 hb5, box_below HS.2.1 hb5, box_below HS.2.2.1 hb5, box_below HS.2.2.2 hb5⟩
    refine ⟨_, rfl, fun _ => HS5, ?_⟩
    simp only [List.setIfInBounds_toArray, List.set_cons_zero, List.set_cons_succ]
    have hoL : ((m s).getD fv0).2.1 = ln := by rw [hm]; rfl
    have hD5 := hDX.below hb5
    have hPt := put_any d bm k.fs.length (rawK k2) m s (by omega) hfl a5 z cp5 ((min f.safe z : Nat) : Int) w5 hD5 (by simp [rawK]) (by simp [rawK, hpfs]; omega) (by omega) (by rw [hoL]; omega)
    rw [hoL] at hPt
    refine lx_one 5 (by kernel_rfl) (stepT_call 52 ?a5 rfl rfl rfl ?r5 ?_)
    case r5 => first | (go_simp; rfl) | go_simp
    refine hPt.mono ?_
    rintro e w7 ⟨rfl, hD7, hk7⟩
    have hnotd : ¬ (bd = d ∨ bd = bm) := fun h => hFd (by rcases h with rfl | rfl; exact fd; exact hbm)
    have hnotn : ¬ (bn = d ∨ bn = bm) := fun h => hFn (by rcases h with rfl | rfl; exact fd; exact hbm)
    have hnotz : ¬ (bz = d ∨ bz = bm) := fun h => hFz (by rcases h with rfl | rfl; exact fd; exact hbm)
    refine ⟨_, rfl, fun _ => ⟨box_keep HS5.1 hk7 hnotd, box_keep HS5.2.1 hk7 hnotn, box_keep HS5.2.2.1 hk7 hnotz, box_keep HS5.2.2.2 hk7 (by omega)⟩, ?_⟩
    simp only [List.setIfInBounds_toArray, List.set_cons_zero, List.set_cons_succ]
    refine lx_nil (by kernel_rfl) ?_
    go_wp2
    go_end0
    refine Or.inr ⟨h0, rfl, ?_⟩
    have hcl : (cutF f z).b.length = z := by show (f.b.take z).length = z; rw [List.length_take, HLN.out]; omega
    have hup := used_put k.fs hgood.rise s (cutF f z)
    rw [hlk, hcl] at hup
    have hle : lenO (some f) = ln := HLN.out
    rw [hle] at hup
    have hraw : rawK { k2 with fs := putL k2.fs s (cutF f z) } = { rawK k2 with used := (rawK k2).used + ((z : Int) - (ln : Int)) } := by
      unfold rawK
      congr 1
      show ((used (putL k2.fs s (cutF f z)) : Nat) : Int) = ((used k2.fs : Nat) : Int) + ((z : Int) - (ln : Int))
      rw [hpfs]
      omega
    rw [← hraw] at hD7
    have hkg : ({ k2 with fs := putL k2.fs s (cutF f z) } : Dk).Good := good_put hpg hs (by rw [hcl]; exact Nat.min_le_right _ _) (hbd.take z) (by rw [hpfs]; have h := hpg.used; rw [hpfs] at h; omega)
    refine Dp.from hbe (Dp.next x3 (fun i hi => Or.inl hi) ?_)
    have hbl3 : FMap w3 bm k2.fs.length m := by rw [hpfs]; exact hD3.map
    have hb35 : Below w3.heap.size w3 w5 := hbX.trans (hb5.mono hbX.size)
    refine DiskAt.put (k := k2) (S := fun _ => False) (c := (a5, z, cp5, ((min f.safe z : Nat) : Int))) (f := cutF f z) hbm x2 ha fd x1.lt hD3.blk hbl3 (Keep.ofBelow hb35) (fun i hi => hi.elim) hk7 hD7 rfl (by rw [hpfs]; exact hgood.rise) hkg rfl hcl.symm ?_ (fun g hg => ?_)
    · show w7.ownsRow 0 5 1 (slv (a5, z, cp5, ((min f.safe z : Nat) : Int))) (cutF f z).b.length (bc (f.b.take z))
      rw [hcl]
      refine own_weak (own_keep hown5 hk7 (fun g hg e => ?_)) (Nat.zero_le _)
      have h1 := (hown5.lt g hg).1
      have h2 := hDX.lt
      have h3 := hDX.map.lt
      omega
    · have hg' : a5 = some g := hg
      have h1 := hown5.lt g (by rw [hg']; rfl)
      have hgn : w3.heap.size ≤ g := by have := hbX.size; omega
      exact ⟨Or.inr ⟨hgn, by have := hk7.size; omega⟩, fun t e _ he => row_new x2 x1.lt hgn t e he⟩
  · clear hP
    go_wp2_with (first
      | (go_at_call 50; refine (ask_ok 1 _).mono ?_; rintro e w2 ⟨rfl, hw2⟩; replace hw2 := hw2.symm; subst hw2)
      | (go_at_call 53; refine hc'.mono ?_; rintro e w3 ⟨rfl, hD3, hk3⟩))
    obtain ⟨x1, _, x3⟩ := DiskAt.cells hbm htZ ha fd ltZ hDZ.blk hk3 hD3 hpfs hpg
    exact ⟨rfl, Or.inl ⟨h0, rfl, Dp.from hbe ⟨F, x1, x3, fun _ h => Or.inl h⟩⟩⟩

end Go.Proofs.YtikkieaokfailaaGreatDoor
