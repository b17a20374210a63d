/- The disk's Restart. -/
import Derived.Test.YtikkieaokfailaaGreatDoorDkW
namespace Go.Proofs.YtikkieaokfailaaGreatDoor
open Go.RowKit Go.Joins

theorem put_mid {dn post : Fls} {n : Nm} {f g : Fle} (hr : Rise (dn ++ (n, f) :: post)) : putL (dn ++ (n, f) :: post) n g = dn ++ (n, g) :: post := by
  induction dn with
  | nil =>
    show putL ((n, f) :: post) n g = _
    unfold putL
    rw [if_neg (ltN_irrefl n), if_pos rfl]
    rfl
  | cons q r ih =>
    obtain ⟨a, x⟩ := q
    show putL ((a, x) :: (r ++ (n, f) :: post)) n g = (a, x) :: (r ++ (n, g) :: post)
    have h1 : ltN a n := hr.1 (n, f) (List.mem_append_right _ (List.mem_cons_self ..))
    unfold putL
    rw [if_neg (fun h => ltN_irrefl _ (ltN_trans h h1)), if_neg (fun e => by subst e; exact ltN_irrefl _ h1), ih hr.2]
theorem look_mid {dn post : Fls} {n : Nm} {f : Fle} (hr : Rise (dn ++ (n, f) :: post)) : look (dn ++ (n, f) :: post) n = some f := look_of_mem hr (List.mem_append_right _ (List.mem_cons_self ..))

/-- A row of ints in block b, from some place on. -/
def IRd (w : World) (b : Nat) (v : Value) (zs : List Int) : Prop :=
  ∃ (a : Option Addr) (c : Nat), v = .slice a zs.length c ∧ zs.length ≤ c ∧ c ≤ 9223372036854775807 ∧ (zs ≠ [] → ∃ off, a = some ⟨b, off, none⟩ ∧ ∀ j, j < zs.length → w.cell? ⟨b, off + j, none⟩ = some (.int .i64 (zs.getD j 0)))
theorem IRd.keep {S : Nat → Prop} {w w' : World} {b : Nat} {v : Value} {zs : List Int} (h : IRd w b v zs) (hk : Keep S w w') (hs : zs ≠ [] → ¬ S b) : IRd w' b v zs := by
  obtain ⟨a, c, h1, h2, h3, h4⟩ := h
  refine ⟨a, c, h1, h2, h3, fun hz => ?_⟩
  obtain ⟨off, e, hc⟩ := h4 hz
  exact ⟨off, e, fun j hj => hk.cell (hc j hj) (hs hz)⟩

theorem rest_nil (f : Fle) (hf : f.safe ≤ f.b.length) : restF f 0 = ⟨f.b.take (f.safe + 0), f.safe + 0⟩ ∧ f.safe + 0 ≤ f.b.length := by
  refine ⟨?_, hf⟩
  unfold restF
  have : (max (0 : Int) 0 % (((f.b.length - f.safe : Nat) : Int) + 1)).toNat = 0 := by
    rw [Int.max_self, Int.zero_emod]; rfl
  rw [this]

theorem restL_len (l : Fls) (keep : List Int) : (restL l keep).length = l.length := by
  induction l generalizing keep with
  | nil => rfl
  | cons q r ih =>
    obtain ⟨n, f⟩ := q
    unfold restL
    split <;> simp [ih]

theorem used_app (a b : Fls) : used (a ++ b) = used a + used b := by
  induction a with
  | nil => simp [used]
  | cons q r ih =>
    obtain ⟨n, f⟩ := q
    show f.b.length + used (r ++ b) = f.b.length + used r + used b
    rw [ih]; omega

theorem max_int (x y : Int) (ty : TypeId) (w : World) : (Builtin.max_ #[3, 3] ty #[.int .i64 x, .int .i64 y]).run Tryz.prog w = .ok (.int .i64 (max x y)) w := by
  rw [run_max_int2]
  congr 2
  split <;> omega

set_option maxRecDepth 100000 in
set_option maxHeartbeats 3000000 in
theorem restart_any (d : Nat) (F : Nat → Prop) (k : Dk) (bk : Nat) (v : Value) (keep : List Int) (hfl : k.fs.length < 1000000) (w : World) (hDk : DiskAt w F d k) (hI : IRd w bk v keep) (hbk : keep ≠ [] → ¬ F bk) :
    Calls Tryz.prog 24 #[.pointer (some ⟨d, 0, none⟩), v] w fun e w' => e = .returned (.tuple #[]) ∧ Dp w F d (restK k keep) w' := by
  have hrise : Calls Tryz.prog 69 #[.pointer (some ⟨d, 0, none⟩)] w fun e w' => ∃ v, e = .returned v ∧ w'.ownsRow w.heap.size 9 1 v k.fs.length (nv (k.fs.map Prod.fst)) ∧ Below w.heap.size w w' := by
    obtain ⟨⟨bm, m, hD, hbm, ht, ha⟩, fd, lt, hg⟩ := hDk
    exact rising_any d bm _ _ m k.fs hg.rise (fun s => (ht s).isSome) (by omega) w hD
  have hlt := hDk.lt
  have hbkl : keep ≠ [] → bk < w.heap.size := fun h => by
    obtain ⟨a, c, _, _, _, h4⟩ := hI
    obtain ⟨off, _, hc⟩ := h4 h
    exact World.block_lt_of_cell? w _ (hc 0 (List.length_pos_iff.2 h))
  obtain ⟨N, HN⟩ : ∃ N, Hid (k.fs.length = N) := ⟨_, rfl⟩
  obtain ⟨R, HRe⟩ : ∃ R, Hid (restL k.fs keep = R) := ⟨_, rfl⟩
  have hN9 : N < 1000000 := by rw [← HN.out]; exact hfl
  have hRK : restK k keep = { k with fs := R, off := false, fu := none } := by unfold restK; rw [HRe.out]
  rw [hRK]
  rw [HN.out] at hrise
  have hroom := hDk.good.room
  go_enter Tryz.func24, Tryz.ntmps24
  go_wp2_with (first
    | (go_at_call 69; refine hrise.mono ?_; rintro e w1 ⟨vn, rfl, hrow, hb1⟩; obtain ⟨an, cn, rfl, hobn⟩ := own_formS hrow))
  have hD1 := hDk.below hb1
  have hI1 : IRd w1 bk v keep := hI.keep (S := fun _ => False) (Keep.ofBelow hb1) (fun _ h => h)
  clear hrise hDk hI hRK
  obtain ⟨An, hAn⟩ : ∃ A : Option Addr, (an.map fun g => (⟨g, 0, none⟩ : Addr)) = A := ⟨_, rfl⟩
  rw [hAn]
  go_loopw [1, 5, 6, 7, 8, 12] (fun s1 _ _ _ _ s12 wr => ∃ (i : Nat) (dn rest : Fls) (kp : List Int), s12 = .int .i64 i ∧ dn.length = i ∧ IRd wr bk s1 kp ∧ Hid (kp ≠ [] → keep ≠ []) ∧ Hid (dn ++ restL rest kp = R) ∧ Hid ((dn ++ rest).map Prod.fst = k.fs.map Prod.fst) ∧ Dp w1 F d { k with fs := dn ++ rest } wr) (fun _ _ _ _ _ s12 _ => N - (intOf s12).toNat)
  case atStart => exact ⟨0, [], k.fs, keep, rfl, rfl, hI1, fun h => h, HRe.out, rfl, Dp.refl hD1⟩
  case round =>
    obtain ⟨i, dn, rest, kp, rfl, hdn, HI, HKp, HR, HNm, HDp⟩ := hrel
    obtain ⟨Fi, hDi, hki, hFi⟩ := HDp
    have hlenN : dn.length + rest.length = N := by
      have h := congrArg List.length HNm.out
      simp only [List.length_map, List.length_append] at h
      rw [h]; exact HN.out
    cases rest with
    | nil =>
      simp only [List.length_nil] at hlenN
      obtain rfl : i = N := by omega
      have hcl : ¬ (i : Int) < (i : Int) := by omega
      have hRR : dn = R := by have h := HR.out; simpa [restL] using h
      rw [List.append_nil] at hDi
      obtain ⟨⟨bm, m, hD, hbm, ht, ha⟩, fd, lt, hg⟩ := hDi
      have p4 := hD.c4
      have z4 := hD.fz 4
      have hE1 := hD.set 4 (.bool false) { rawK { k with fs := dn } with down := false } rfl
      have p5 := hE1.c5
      have z5 := hE1.fz 5
      have hE2 := hE1.set 5 (.bool false) { rawK { k with fs := dn } with down := false, fused := false } rfl
      have p6 := hE2.c6
      have z6 := hE2.fz 6
      have hE3 := hE2.set 6 (.int .i64 0) { rawK { k with fs := dn } with down := false, fused := false, left := 0 } rfl
      have hkE := ((hD.setK 4 (.bool false)).trans (hE1.setK 5 (.bool false))).trans (hE2.setK 6 (.int .i64 0))
      clear HI HNm hI1 hD1
      go_wp2
      go_end0
      obtain ⟨x1, _, x3⟩ := DiskAt.cells (k := { k with fs := dn }) (k1 := { k with fs := dn, off := false, fu := none }) hbm ht ha fd lt hD.blk hkE hE3 rfl ⟨hg.room, hg.rise, hg.used, hg.each, fun j e => by cases e⟩
      refine ⟨rfl, ?_⟩
      rw [← hRR]
      exact Dp.from hb1 (Dp.next hki hFi ⟨Fi, x1, x3, fun _ h => Or.inl h⟩)
    | cons q post =>
      obtain ⟨n, f⟩ := q
      simp only [List.length_cons] at hlenN
      have hcl : (i : Int) < (N : Int) := by omega
      have hfl' : (dn ++ (n, f) :: post).length < 1000000 := by simp; omega
      obtain ⟨⟨bm, m, hD, hbm, ht, ha⟩, fd, lt, hg⟩ := hDi
      have p1 := hD.c1
      have hlkm := look_mid (f := f) hg.rise
      obtain ⟨hnm, hsf, hbd⟩ := look_good hg hlkm
      have hmax : n.size ≤ maxLen := by have := isNm_size hnm; unfold maxLen; omega
      have hn64 := isNm_size hnm
      have hfu : f.b.length ≤ 16777216 := by
        have h1 := lenO_used (dn ++ (n, f) :: post) n
        rw [hlkm] at h1
        have h2 := hg.used
        have h3 := hg.room
        have h4 : lenO (some f) = f.b.length := rfl
        rw [h4] at h1
        simp only at h2 h3
        omega
      have huse : used (dn ++ (n, f) :: post) ≤ 16777216 := Nat.le_trans hg.used hg.room
      have htie := ht n
      simp only at htie
      rw [hlkm] at htie
      obtain ⟨⟨a, ln, cp, sf⟩, hm0, h1, h2, hown, hFr⟩ := htie.some'
      dsimp only at h1 h2
      subst h1
      obtain ⟨A, hA⟩ : ∃ A : Option Addr, (a.map fun g => (⟨g, 0, none⟩ : Addr)) = A := ⟨_, rfl⟩
      have hslv : slv (a, ln, cp, (f.safe : Int)) = .slice A ln cp := by unfold slv; rw [hA]
      have hfo : fv ((m n).getD fv0) = .agg #[.slice A ln cp, .int .i64 (f.safe : Int)] := by rw [hm0]; show fv (a, ln, cp, (f.safe : Int)) = _; unfold fv; rw [hslv]
      rw [hslv] at hown
      have HLN : Hid (f.b.length = ln) := h2.symm
      rw [← h2] at hown hsf hfu
      have hRr : Rd wr A ln cp f.b := Rd.ofRow hown hbd
      have hm : Hid (m n = some (a, ln, cp, (f.safe : Int))) := hm0
      clear htie hm0 h2 hslv hown hA hlkm
      obtain ⟨gn, hgn, hnc⟩ : ∃ gn, an = some gn ∧ wr.cell? ⟨gn, i, none⟩ = some (.string n) := by
        cases an with
        | none =>
          rcases hrow.2 with ⟨_, h0⟩ | ⟨g, cap, cur, h1, _⟩
          · omega
          · cases h1
        | some gn =>
          refine ⟨gn, rfl, ?_⟩
          have hix : (nv (k.fs.map Prod.fst))[i]? = some (.string n) := by
            unfold nv
            rw [← HNm.out, List.getElem?_map, List.map_append, List.getElem?_append_right (by simp; omega)]
            simp [hdn]
          have hc := hrow.cells (g := gn) rfl i _ hix
          rw [add_flat, Nat.zero_add] at hc
          have hb := (hrow.lt gn rfl).1
          exact hki.cell hc (fun h => by have := hlt _ h; simp only at this; omega)
      have e1 : An = some ⟨gn, 0, none⟩ := by rw [← hAn, hgn]; rfl
      subst e1
      by_cases hq : f.b.length = f.safe
      · have hls : (ln : Int) - (f.safe : Int) = 0 := by have := HLN.out; omega
        have hwl : IntKind.i64.wrap ((ln : Int) - (f.safe : Int)) = 0 := by rw [hls]; rfl
        have hlnE : ln = f.safe := by rw [← HLN.out]; exact hq
        have hlen1 := fun w => len_slice A ln cp 29 3 w Tryz.underlying29
        have HIi := HI
        clear hI1 hD1 HI
        subst hlnE
        go_wp2_with (first
          | (at_lookup; refine wp_look1 rfl _ _ rfl bm _ m rfl hD.map n hmax rfl _ _ hfo ?_))
        have hbe : Below wr.heap.size wr (wr.alloc (.cells #[.slice A f.safe cp, .int .i64 (f.safe : Int)] 106)) := (Below.refl _ _).alloc (Nat.le_refl _) _
        refine ⟨⟨i + 1, dn ++ [(n, f)], post, kp, by go_num, by simp [hdn], HIi.keep (S := fun _ => False) (Keep.ofBelow hbe) (fun _ h => h), HKp.out, ?_, ?_, ?_⟩, ?_⟩
        · show (dn ++ [(n, f)]) ++ restL post kp = _
          rw [← HR.out, List.append_assoc]
          conv => rhs; unfold restL
          rw [if_pos hq]
          rfl
        · show List.map Prod.fst _ = _
          rw [← HNm.out]; simp
        · rw [List.append_assoc]
          refine Dp.next hki hFi (Dp.ofBelow ?_ hbe)
          exact ⟨⟨bm, m, hD, hbm, ht, ha⟩, fd, lt, hg⟩
        · simp [intOf]; omega
      · have hne : ¬ f.b.length = f.safe := hq
        have hls : f.safe < ln := by rw [HLN.out] at hq; omega
        have hwl : IntKind.i64.wrap ((ln : Int) - (f.safe : Int)) = (ln : Int) - (f.safe : Int) := by rw [IntKind.wrap_i64]; omega
        have hz0 : ((ln : Int) - (f.safe : Int) == 0) = false := by simp; omega
        have hlen1 := fun w => len_slice A ln cp 29 3 w Tryz.underlying29
        clear hI1 hD1 hq
        cases kp with
        | nil =>
          obtain ⟨ka, kc, rfl, HI2, HI3, _⟩ := HI
          go_upto_region 10 with (first
            | (at_lookup; refine wp_look1 rfl _ _ rfl bm _ m rfl hD.map n hmax rfl _ _ hfo ?_))
          have hbe : Below wr.heap.size wr (wr.alloc (.cells #[.slice A ln cp, .int .i64 (f.safe : Int)] 106)) := (Below.refl _ _).alloc (Nat.le_refl _) _
          have hfil := alloc_at wr (.cells #[.slice A ln cp, .int .i64 (f.safe : Int)] 106)
          obtain ⟨bf, hbf⟩ : ∃ bf, wr.heap.size = bf := ⟨_, rfl⟩
          rw [hbf] at hfil ⊢
          generalize wr.alloc (.cells #[.slice A ln cp, .int .i64 (f.safe : Int)] 106) = Z at *
          have f0 := cell_of_block hfil 0
          have f1 := cell_of_block hfil 1
          simp at f0 f1
          have hRZ : Rd Z A ln cp f.b := hRr.carry (Nat.le_refl _) hbe
          have hcut := fcut_any A ln cp f.b f.safe (f.safe + 0) Z hRZ (by omega) (by omega)
          have hmn : min f.safe (f.safe + 0) = f.safe := by omega
          rw [hmn] at hcut
          clear hmn
          obtain ⟨lk, HLK⟩ : ∃ lk, Hid (f.safe + 0 = lk) := ⟨_, rfl⟩
          have hwr : (f.safe : Int) + 0 = (lk : Int) := by have := HLK.out; omega
          rw [HLK.out] at hcut
          have hlkl : lk ≤ ln := by have := HLK.out; omega
          clear hfo hRZ
          go_upto_region 11 with (first
            | (go_at_call 70; refine hcut.mono ?_; rintro e w3 ⟨a5, cp5, rfl, hown5, hb3⟩; have hfil3 := box_below hfil hb3; have e0 := cell_of_block hfil3 0; have z0 := unfrozen_of_block hfil3 0; have rb1 := block_setCell (i := 0) hfil3 (.slice (a5.map fun g => ⟨g, 0, none⟩) lk cp5); have e1 := cell_of_block rb1 1; have z1 := unfrozen_of_block rb1 1; have rb2 := block_setCell (i := 1) rb1 (.int .i64 (f.safe : Int)); simp at e0 e1))
          have hob5 : (Value.slice (a5.map fun g => (⟨g, 0, none⟩ : Addr)) lk cp5).ownBlock = a5 := slv_own (a5, lk, cp5, 0)
          have hbe3 : Below wr.heap.size wr w3 := hbe.trans (hb3.mono hbe.size)
          have hk4 : Keep (fun i => i = bf) w3 ((w3.setCell ⟨bf, 0, none⟩ (.slice (a5.map fun g => ⟨g, 0, none⟩) lk cp5)).setCell ⟨bf, 1, none⟩ (.int .i64 (f.safe : Int))) := ((Keep.refl (fun i => i = bf) w3).setCell (p := ⟨bf, 0, none⟩) rfl _).setCell (p := ⟨bf, 1, none⟩) rfl _
          have hZs : bf < Z.heap.size := (Array.getElem?_eq_some_iff.1 hfil).1
          have hown6 := own_keep hown5 hk4 (fun g hg e => by have := (hown5.lt g hg).1; omega)
          have hbe4 : Below wr.heap.size wr ((w3.setCell ⟨bf, 0, none⟩ (.slice (a5.map fun g => ⟨g, 0, none⟩) lk cp5)).setCell ⟨bf, 1, none⟩ (.int .i64 (f.safe : Int))) := (hbe3.setCell (p := ⟨bf, 0, none⟩) (show wr.heap.size ≤ bf by omega) _).setCell (p := ⟨bf, 1, none⟩) (show wr.heap.size ≤ bf by omega) _
          have hd0 := cell_of_block rb2 0
          have hd1 := cell_of_block rb2 1
          simp at hd0 hd1
          clear hown5 hfil3 e0 e1 z0 z1 rb1 rb2 f0 f1 hcut hb3
          generalize (w3.setCell ⟨bf, 0, none⟩ (.slice (a5.map fun g => ⟨g, 0, none⟩) lk cp5)).setCell ⟨bf, 1, none⟩ (.int .i64 (f.safe : Int)) = V at *
          have hDV := hD.below hbe4
          have hoL : ((m n).getD fv0).2.1 = ln := by rw [hm.out]; rfl
          have hPt := put_any d bm _ _ m n (by omega) hfl' a5 lk cp5 lk V hDV (by simp [rawK]) (by simp [rawK]; omega) (by omega) (by rw [hoL]; omega)
          rw [hoL] at hPt
          obtain ⟨A5, hA5⟩ : ∃ A : Option Addr, (a5.map fun g => (⟨g, 0, none⟩ : Addr)) = A := ⟨_, rfl⟩
          rw [hA5] at hPt hd0
          have hlen5 := fun w => len_slice A5 lk cp5 29 3 w Tryz.underlying29
          clear hoL hwr
          go_wp2_with (first
            | (go_at_call 52; refine hPt.mono ?_; rintro e w7 ⟨rfl, hD7, hk7⟩))
          have hff : restF f (0) = ⟨f.b.take lk, lk⟩ := by rw [(rest_nil f (by rw [HLN.out]; exact hsf)).1, HLK.out]
          have hrst : restL ((n, f) :: post) ([]) = (n, ⟨f.b.take lk, lk⟩) :: restL post [] := by
            conv => lhs; unfold restL
            rw [if_neg hne, ← hff]
            rfl
          have hpm := put_mid (g := ⟨f.b.take lk, lk⟩) hg.rise
          have hlkn : (f.b.take lk).length = lk := by rw [List.length_take, HLN.out]; omega
          have hraw : rawK { k with fs := dn ++ (n, ⟨f.b.take lk, lk⟩) :: post } = { rawK { k with fs := dn ++ (n, f) :: post } with used := (rawK { k with fs := dn ++ (n, f) :: post }).used + ((lk : Int) - (ln : Int)) } := by
            unfold rawK
            congr 1
            show ((used (dn ++ (n, (⟨f.b.take lk, lk⟩ : Fle)) :: post) : Nat) : Int) = ((used (dn ++ (n, f) :: post) : Nat) : Int) + ((lk : Int) - (ln : Int))
            rw [used_app, used_app]
            show ((used dn + ((f.b.take lk).length + used post) : Nat) : Int) = ((used dn + (f.b.length + used post) : Nat) : Int) + ((lk : Int) - (ln : Int))
            rw [hlkn, HLN.out]
            omega
          rw [← hraw] at hD7
          have hg1 : ({ k with fs := dn ++ (n, ⟨f.b.take lk, lk⟩) :: post } : Dk).Good := by
            have h := good_put (f := ⟨f.b.take lk, lk⟩) hg hnm (by rw [hlkn]; exact Nat.le_refl _) (hbd.take lk) (by
              show used (putL (dn ++ (n, f) :: post) n ⟨f.b.take lk, lk⟩) ≤ k.room
              rw [hpm, used_app]
              have h2 := hg.used
              simp only [used_app] at h2
              have h3 : used ((n, f) :: post) = f.b.length + used post := rfl
              have h4 : used ((n, (⟨f.b.take lk, lk⟩ : Fle)) :: post) = (f.b.take lk).length + used post := rfl
              rw [h4, hlkn]
              rw [h3, HLN.out] at h2
              omega)
            have e : putL ({ k with fs := dn ++ (n, f) :: post } : Dk).fs n ⟨f.b.take lk, lk⟩ = dn ++ (n, ⟨f.b.take lk, lk⟩) :: post := hpm
            rw [e] at h
            exact h
          have hDp : Dp wr Fi d { k with fs := dn ++ (n, ⟨f.b.take lk, lk⟩) :: post } w7 := by
            refine DiskAt.put (k := { k with fs := dn ++ (n, f) :: post }) (S := fun _ => False) (c := (a5, lk, cp5, (lk : Int))) (f := ⟨f.b.take lk, lk⟩) hbm ht ha fd lt hD.blk hD.map (Keep.ofBelow hbe4) (fun i hi => hi.elim) hk7 hD7 hpm.symm hg.rise hg1 rfl hlkn.symm ?_ (fun g hg => ?_)
            · show w7.ownsRow 0 5 1 (slv (a5, lk, cp5, (lk : Int))) (f.b.take lk).length (bc (f.b.take lk))
              rw [hlkn]
              refine own_weak (own_keep hown6 hk7 (fun g hg e => ?_)) (Nat.zero_le _)
              have h1 := (hown6.lt g hg).1
              have h2 := hD.lt
              have h3 := hD.map.lt
              omega
            · have hg' : a5 = some g := hg
              have h1 := hown6.lt g (by rw [hob5]; exact hg')
              have hgn : wr.heap.size ≤ g := by have := hbe.size; omega
              exact ⟨Or.inr ⟨hgn, by have := hk7.size; omega⟩, fun t e _ he => row_new (k := { k with fs := dn ++ (n, f) :: post }) ht lt hgn t e he⟩
          obtain ⟨F7, hDk7, hk8, hF8⟩ := hDp
          have HI7 : True := trivial
          refine ⟨⟨i + 1, dn ++ [(n, ⟨f.b.take lk, lk⟩)], post, [], by go_num, by simp [hdn], ?_, ?_, ?_, ?_, ?_⟩, ?_⟩
          · exact ⟨_, _, rfl, HI2, HI3, fun h => absurd rfl h⟩
          · exact fun h => absurd rfl h
          · show (dn ++ [(n, (⟨f.b.take lk, lk⟩ : Fle))]) ++ restL post [] = _
            rw [← HR.out, hrst, List.append_assoc]
            rfl
          · show List.map Prod.fst _ = _
            rw [← HNm.out]; simp
          · rw [List.append_assoc]
            exact Dp.next hki hFi ⟨F7, hDk7, hk8, hF8⟩
          · simp [intOf]; omega
        | cons z zs =>
          obtain ⟨ka, kc, rfl, HI2, HI3, HI4⟩ := HI
          obtain ⟨off, rfl, hkc⟩ := HI4 (by simp)
          have hz := hkc 0 (by simp)
          simp only [Nat.add_zero, List.getD_cons_zero] at hz
          simp only [List.length_cons] at HI2
          obtain ⟨kq, hrf, hkq⟩ : ∃ kq : Nat, restF f z = ⟨f.b.take (f.safe + kq), f.safe + kq⟩ ∧ kq = ((max z 0) % (((f.b.length - f.safe : Nat) : Int) + 1)).toNat := ⟨_, rfl, rfl⟩
          have hkq2 : (max z 0) % (((ln : Int) - (f.safe : Int)) + 1) = (kq : Int) ∧ f.safe + kq ≤ ln := by
            rw [HLN.out] at hkq
            have e1 : ((ln - f.safe : Nat) : Int) = (ln : Int) - (f.safe : Int) := by omega
            rw [e1] at hkq
            have h1 := Int.emod_nonneg (max z 0) (show ((ln : Int) - (f.safe : Int)) + 1 ≠ 0 by omega)
            have h2 := Int.emod_lt_of_pos (max z 0) (show 0 < ((ln : Int) - (f.safe : Int)) + 1 by omega)
            omega
          obtain ⟨hkq3, hkq4⟩ := hkq2
          have HRF : Hid (restF f z = ⟨f.b.take (f.safe + kq), f.safe + kq⟩) := hrf
          clear hkq hrf
          have hzs : zs.length + 1 ≤ kc := HI2
          have hmx := fun (w : World) (ty : TypeId) => max_int z 0 ty w
          have hz' := fun (o : Obj) => ((Keep.refl (fun _ => False) wr).alloc o).cell hz (fun h => h)
          have hwl2 : IntKind.i64.wrap ((ln : Int) - (f.safe : Int) + 1) = (ln : Int) - (f.safe : Int) + 1 := by rw [IntKind.wrap_i64]; omega
          by_cases hkc1 : kc = 1
          · have hzs0 : zs.length = 0 := by omega
            have hzn : zs = [] := List.eq_nil_of_length_eq_zero hzs0
            subst hzn
            subst hkc1
            have hIB : IRd wr bk (.slice (some ⟨bk, off, none⟩) 0 0) [] := ⟨_, _, rfl, Nat.le_refl _, by omega, fun h => absurd rfl h⟩
            go_upto_region 10 with (first
              | (at_lookup; refine wp_look1 rfl _ _ rfl bm _ m rfl hD.map n hmax rfl _ _ hfo ?_))
            rw [hkq3]
            clear hkq3 hmx hwl2
            have hbe : Below wr.heap.size wr (wr.alloc (.cells #[.slice A ln cp, .int .i64 (f.safe : Int)] 106)) := (Below.refl _ _).alloc (Nat.le_refl _) _
            have hfil := alloc_at wr (.cells #[.slice A ln cp, .int .i64 (f.safe : Int)] 106)
            obtain ⟨bf, hbf⟩ : ∃ bf, wr.heap.size = bf := ⟨_, rfl⟩
            rw [hbf] at hfil ⊢
            generalize wr.alloc (.cells #[.slice A ln cp, .int .i64 (f.safe : Int)] 106) = Z at *
            have f0 := cell_of_block hfil 0
            have f1 := cell_of_block hfil 1
            simp at f0 f1
            have hRZ : Rd Z A ln cp f.b := hRr.carry (Nat.le_refl _) hbe
            have hcut := fcut_any A ln cp f.b f.safe (f.safe + kq) Z hRZ (by omega) (by omega)
            have hmn : min f.safe (f.safe + kq) = f.safe := by omega
            rw [hmn] at hcut
            clear hmn
            obtain ⟨lk, HLK⟩ : ∃ lk, Hid (f.safe + kq = lk) := ⟨_, rfl⟩
            have hwr : (f.safe : Int) + (kq : Int) = (lk : Int) := by have := HLK.out; omega
            rw [HLK.out] at hcut
            have hlkl : lk ≤ ln := by have := HLK.out; omega
            clear hfo hRZ
            go_upto_region 11 with (first
              | (go_at_call 70; refine hcut.mono ?_; rintro e w3 ⟨a5, cp5, rfl, hown5, hb3⟩; have hfil3 := box_below hfil hb3; have e0 := cell_of_block hfil3 0; have z0 := unfrozen_of_block hfil3 0; have rb1 := block_setCell (i := 0) hfil3 (.slice (a5.map fun g => ⟨g, 0, none⟩) lk cp5); have e1 := cell_of_block rb1 1; have z1 := unfrozen_of_block rb1 1; have rb2 := block_setCell (i := 1) rb1 (.int .i64 (f.safe : Int)); simp at e0 e1))
            have hob5 : (Value.slice (a5.map fun g => (⟨g, 0, none⟩ : Addr)) lk cp5).ownBlock = a5 := slv_own (a5, lk, cp5, 0)
            have hbe3 : Below wr.heap.size wr w3 := hbe.trans (hb3.mono hbe.size)
            have hk4 : Keep (fun i => i = bf) w3 ((w3.setCell ⟨bf, 0, none⟩ (.slice (a5.map fun g => ⟨g, 0, none⟩) lk cp5)).setCell ⟨bf, 1, none⟩ (.int .i64 (f.safe : Int))) := ((Keep.refl (fun i => i = bf) w3).setCell (p := ⟨bf, 0, none⟩) rfl _).setCell (p := ⟨bf, 1, none⟩) rfl _
            have hZs : bf < Z.heap.size := (Array.getElem?_eq_some_iff.1 hfil).1
            have hown6 := own_keep hown5 hk4 (fun g hg e => by have := (hown5.lt g hg).1; omega)
            have hbe4 : Below wr.heap.size wr ((w3.setCell ⟨bf, 0, none⟩ (.slice (a5.map fun g => ⟨g, 0, none⟩) lk cp5)).setCell ⟨bf, 1, none⟩ (.int .i64 (f.safe : Int))) := (hbe3.setCell (p := ⟨bf, 0, none⟩) (show wr.heap.size ≤ bf by omega) _).setCell (p := ⟨bf, 1, none⟩) (show wr.heap.size ≤ bf by omega) _
            have hd0 := cell_of_block rb2 0
            have hd1 := cell_of_block rb2 1
            simp at hd0 hd1
            clear hown5 hfil3 e0 e1 z0 z1 rb1 rb2 f0 f1 hcut hb3
            generalize (w3.setCell ⟨bf, 0, none⟩ (.slice (a5.map fun g => ⟨g, 0, none⟩) lk cp5)).setCell ⟨bf, 1, none⟩ (.int .i64 (f.safe : Int)) = V at *
            have hDV := hD.below hbe4
            have hoL : ((m n).getD fv0).2.1 = ln := by rw [hm.out]; rfl
            have hPt := put_any d bm _ _ m n (by omega) hfl' a5 lk cp5 lk V hDV (by simp [rawK]) (by simp [rawK]; omega) (by omega) (by rw [hoL]; omega)
            rw [hoL] at hPt
            obtain ⟨A5, hA5⟩ : ∃ A : Option Addr, (a5.map fun g => (⟨g, 0, none⟩ : Addr)) = A := ⟨_, rfl⟩
            rw [hA5] at hPt hd0
            have hlen5 := fun w => len_slice A5 lk cp5 29 3 w Tryz.underlying29
            clear hoL hwr
            go_wp2_with (first
              | (go_at_call 52; refine hPt.mono ?_; rintro e w7 ⟨rfl, hD7, hk7⟩))
            have hff : restF f (z) = ⟨f.b.take lk, lk⟩ := by rw [HRF.out, HLK.out]
            have hrst : restL ((n, f) :: post) (z :: ([] : List Int)) = (n, ⟨f.b.take lk, lk⟩) :: restL post ([] : List Int) := by
              conv => lhs; unfold restL
              rw [if_neg hne, ← hff]
              rfl
            have hpm := put_mid (g := ⟨f.b.take lk, lk⟩) hg.rise
            have hlkn : (f.b.take lk).length = lk := by rw [List.length_take, HLN.out]; omega
            have hraw : rawK { k with fs := dn ++ (n, ⟨f.b.take lk, lk⟩) :: post } = { rawK { k with fs := dn ++ (n, f) :: post } with used := (rawK { k with fs := dn ++ (n, f) :: post }).used + ((lk : Int) - (ln : Int)) } := by
              unfold rawK
              congr 1
              show ((used (dn ++ (n, (⟨f.b.take lk, lk⟩ : Fle)) :: post) : Nat) : Int) = ((used (dn ++ (n, f) :: post) : Nat) : Int) + ((lk : Int) - (ln : Int))
              rw [used_app, used_app]
              show ((used dn + ((f.b.take lk).length + used post) : Nat) : Int) = ((used dn + (f.b.length + used post) : Nat) : Int) + ((lk : Int) - (ln : Int))
              rw [hlkn, HLN.out]
              omega
            rw [← hraw] at hD7
            have hg1 : ({ k with fs := dn ++ (n, ⟨f.b.take lk, lk⟩) :: post } : Dk).Good := by
              have h := good_put (f := ⟨f.b.take lk, lk⟩) hg hnm (by rw [hlkn]; exact Nat.le_refl _) (hbd.take lk) (by
                show used (putL (dn ++ (n, f) :: post) n ⟨f.b.take lk, lk⟩) ≤ k.room
                rw [hpm, used_app]
                have h2 := hg.used
                simp only [used_app] at h2
                have h3 : used ((n, f) :: post) = f.b.length + used post := rfl
                have h4 : used ((n, (⟨f.b.take lk, lk⟩ : Fle)) :: post) = (f.b.take lk).length + used post := rfl
                rw [h4, hlkn]
                rw [h3, HLN.out] at h2
                omega)
              have e : putL ({ k with fs := dn ++ (n, f) :: post } : Dk).fs n ⟨f.b.take lk, lk⟩ = dn ++ (n, ⟨f.b.take lk, lk⟩) :: post := hpm
              rw [e] at h
              exact h
            have hDp : Dp wr Fi d { k with fs := dn ++ (n, ⟨f.b.take lk, lk⟩) :: post } w7 := by
              refine DiskAt.put (k := { k with fs := dn ++ (n, f) :: post }) (S := fun _ => False) (c := (a5, lk, cp5, (lk : Int))) (f := ⟨f.b.take lk, lk⟩) hbm ht ha fd lt hD.blk hD.map (Keep.ofBelow hbe4) (fun i hi => hi.elim) hk7 hD7 hpm.symm hg.rise hg1 rfl hlkn.symm ?_ (fun g hg => ?_)
              · show w7.ownsRow 0 5 1 (slv (a5, lk, cp5, (lk : Int))) (f.b.take lk).length (bc (f.b.take lk))
                rw [hlkn]
                refine own_weak (own_keep hown6 hk7 (fun g hg e => ?_)) (Nat.zero_le _)
                have h1 := (hown6.lt g hg).1
                have h2 := hD.lt
                have h3 := hD.map.lt
                omega
              · have hg' : a5 = some g := hg
                have h1 := hown6.lt g (by rw [hob5]; exact hg')
                have hgn : wr.heap.size ≤ g := by have := hbe.size; omega
                exact ⟨Or.inr ⟨hgn, by have := hk7.size; omega⟩, fun t e _ he => row_new (k := { k with fs := dn ++ (n, f) :: post }) ht lt hgn t e he⟩
            obtain ⟨F7, hDk7, hk8, hF8⟩ := hDp
            have HI7 : ([] : List Int) ≠ [] → ¬ Fi bk := fun hz h => by
              rcases hFi bk h with h | h
              · exact hbk (HKp.out (by simp)) h
              · have := hbkl (HKp.out (by simp)); have := hb1.size; omega
            refine ⟨⟨i + 1, dn ++ [(n, ⟨f.b.take lk, lk⟩)], post, ([] : List Int), by go_num, by simp [hdn], ?_, ?_, ?_, ?_, ?_⟩, ?_⟩
            · exact hIB.keep hk8 HI7
            · exact fun h => HKp.out (by simp)
            · show (dn ++ [(n, (⟨f.b.take lk, lk⟩ : Fle))]) ++ restL post ([] : List Int) = _
              rw [← HR.out, hrst, List.append_assoc]
              rfl
            · show List.map Prod.fst _ = _
              rw [← HNm.out]; simp
            · rw [List.append_assoc]
              exact Dp.next hki hFi ⟨F7, hDk7, hk8, hF8⟩
            · simp [intOf]; omega
          · have hIC : IRd wr bk (.slice (some ⟨bk, off + 1, none⟩) zs.length (kc - 1)) zs := ⟨_, _, rfl, by omega, by omega, fun _ => ⟨off + 1, rfl, fun j hj => by
              have := hkc (j + 1) (by simp; omega)
              rw [List.getD_cons_succ] at this
              rw [← this]
              congr 2
              omega⟩⟩
            have hkc2 : (1 : Int) ≤ (kc : Int) := by omega
            have hkc3 : ¬ kc = 1 := hkc1
            go_upto_region 10 with (first
              | (at_lookup; refine wp_look1 rfl _ _ rfl bm _ m rfl hD.map n hmax rfl _ _ hfo ?_))
            rw [hkq3]
            clear hkq3 hmx hwl2
            have hbe : Below wr.heap.size wr (wr.alloc (.cells #[.slice A ln cp, .int .i64 (f.safe : Int)] 106)) := (Below.refl _ _).alloc (Nat.le_refl _) _
            have hfil := alloc_at wr (.cells #[.slice A ln cp, .int .i64 (f.safe : Int)] 106)
            obtain ⟨bf, hbf⟩ : ∃ bf, wr.heap.size = bf := ⟨_, rfl⟩
            rw [hbf] at hfil ⊢
            generalize wr.alloc (.cells #[.slice A ln cp, .int .i64 (f.safe : Int)] 106) = Z at *
            have f0 := cell_of_block hfil 0
            have f1 := cell_of_block hfil 1
            simp at f0 f1
            have hRZ : Rd Z A ln cp f.b := hRr.carry (Nat.le_refl _) hbe
            have hcut := fcut_any A ln cp f.b f.safe (f.safe + kq) Z hRZ (by omega) (by omega)
            have hmn : min f.safe (f.safe + kq) = f.safe := by omega
            rw [hmn] at hcut
            clear hmn
            obtain ⟨lk, HLK⟩ : ∃ lk, Hid (f.safe + kq = lk) := ⟨_, rfl⟩
            have hwr : (f.safe : Int) + (kq : Int) = (lk : Int) := by have := HLK.out; omega
            rw [HLK.out] at hcut
            have hlkl : lk ≤ ln := by have := HLK.out; omega
            clear hfo hRZ
            go_upto_region 11 with (first
              | (go_at_call 70; refine hcut.mono ?_; rintro e w3 ⟨a5, cp5, rfl, hown5, hb3⟩; have hfil3 := box_below hfil hb3; have e0 := cell_of_block hfil3 0; have z0 := unfrozen_of_block hfil3 0; have rb1 := block_setCell (i := 0) hfil3 (.slice (a5.map fun g => ⟨g, 0, none⟩) lk cp5); have e1 := cell_of_block rb1 1; have z1 := unfrozen_of_block rb1 1; have rb2 := block_setCell (i := 1) rb1 (.int .i64 (f.safe : Int)); simp at e0 e1))
            have hob5 : (Value.slice (a5.map fun g => (⟨g, 0, none⟩ : Addr)) lk cp5).ownBlock = a5 := slv_own (a5, lk, cp5, 0)
            have hbe3 : Below wr.heap.size wr w3 := hbe.trans (hb3.mono hbe.size)
            have hk4 : Keep (fun i => i = bf) w3 ((w3.setCell ⟨bf, 0, none⟩ (.slice (a5.map fun g => ⟨g, 0, none⟩) lk cp5)).setCell ⟨bf, 1, none⟩ (.int .i64 (f.safe : Int))) := ((Keep.refl (fun i => i = bf) w3).setCell (p := ⟨bf, 0, none⟩) rfl _).setCell (p := ⟨bf, 1, none⟩) rfl _
            have hZs : bf < Z.heap.size := (Array.getElem?_eq_some_iff.1 hfil).1
            have hown6 := own_keep hown5 hk4 (fun g hg e => by have := (hown5.lt g hg).1; omega)
            have hbe4 : Below wr.heap.size wr ((w3.setCell ⟨bf, 0, none⟩ (.slice (a5.map fun g => ⟨g, 0, none⟩) lk cp5)).setCell ⟨bf, 1, none⟩ (.int .i64 (f.safe : Int))) := (hbe3.setCell (p := ⟨bf, 0, none⟩) (show wr.heap.size ≤ bf by omega) _).setCell (p := ⟨bf, 1, none⟩) (show wr.heap.size ≤ bf by omega) _
            have hd0 := cell_of_block rb2 0
            have hd1 := cell_of_block rb2 1
            simp at hd0 hd1
            clear hown5 hfil3 e0 e1 z0 z1 rb1 rb2 f0 f1 hcut hb3
            generalize (w3.setCell ⟨bf, 0, none⟩ (.slice (a5.map fun g => ⟨g, 0, none⟩) lk cp5)).setCell ⟨bf, 1, none⟩ (.int .i64 (f.safe : Int)) = V at *
            have hDV := hD.below hbe4
            have hoL : ((m n).getD fv0).2.1 = ln := by rw [hm.out]; rfl
            have hPt := put_any d bm _ _ m n (by omega) hfl' a5 lk cp5 lk V hDV (by simp [rawK]) (by simp [rawK]; omega) (by omega) (by rw [hoL]; omega)
            rw [hoL] at hPt
            obtain ⟨A5, hA5⟩ : ∃ A : Option Addr, (a5.map fun g => (⟨g, 0, none⟩ : Addr)) = A := ⟨_, rfl⟩
            rw [hA5] at hPt hd0
            have hlen5 := fun w => len_slice A5 lk cp5 29 3 w Tryz.underlying29
            clear hoL hwr
            go_wp2_with (first
              | (go_at_call 52; refine hPt.mono ?_; rintro e w7 ⟨rfl, hD7, hk7⟩))
            have hff : restF f (z) = ⟨f.b.take lk, lk⟩ := by rw [HRF.out, HLK.out]
            have hrst : restL ((n, f) :: post) (z :: zs) = (n, ⟨f.b.take lk, lk⟩) :: restL post zs := by
              conv => lhs; unfold restL
              rw [if_neg hne, ← hff]
              rfl
            have hpm := put_mid (g := ⟨f.b.take lk, lk⟩) hg.rise
            have hlkn : (f.b.take lk).length = lk := by rw [List.length_take, HLN.out]; omega
            have hraw : rawK { k with fs := dn ++ (n, ⟨f.b.take lk, lk⟩) :: post } = { rawK { k with fs := dn ++ (n, f) :: post } with used := (rawK { k with fs := dn ++ (n, f) :: post }).used + ((lk : Int) - (ln : Int)) } := by
              unfold rawK
              congr 1
              show ((used (dn ++ (n, (⟨f.b.take lk, lk⟩ : Fle)) :: post) : Nat) : Int) = ((used (dn ++ (n, f) :: post) : Nat) : Int) + ((lk : Int) - (ln : Int))
              rw [used_app, used_app]
              show ((used dn + ((f.b.take lk).length + used post) : Nat) : Int) = ((used dn + (f.b.length + used post) : Nat) : Int) + ((lk : Int) - (ln : Int))
              rw [hlkn, HLN.out]
              omega
            rw [← hraw] at hD7
            have hg1 : ({ k with fs := dn ++ (n, ⟨f.b.take lk, lk⟩) :: post } : Dk).Good := by
              have h := good_put (f := ⟨f.b.take lk, lk⟩) hg hnm (by rw [hlkn]; exact Nat.le_refl _) (hbd.take lk) (by
                show used (putL (dn ++ (n, f) :: post) n ⟨f.b.take lk, lk⟩) ≤ k.room
                rw [hpm, used_app]
                have h2 := hg.used
                simp only [used_app] at h2
                have h3 : used ((n, f) :: post) = f.b.length + used post := rfl
                have h4 : used ((n, (⟨f.b.take lk, lk⟩ : Fle)) :: post) = (f.b.take lk).length + used post := rfl
                rw [h4, hlkn]
                rw [h3, HLN.out] at h2
                omega)
              have e : putL ({ k with fs := dn ++ (n, f) :: post } : Dk).fs n ⟨f.b.take lk, lk⟩ = dn ++ (n, ⟨f.b.take lk, lk⟩) :: post := hpm
              rw [e] at h
              exact h
            have hDp : Dp wr Fi d { k with fs := dn ++ (n, ⟨f.b.take lk, lk⟩) :: post } w7 := by
              refine DiskAt.put (k := { k with fs := dn ++ (n, f) :: post }) (S := fun _ => False) (c := (a5, lk, cp5, (lk : Int))) (f := ⟨f.b.take lk, lk⟩) hbm ht ha fd lt hD.blk hD.map (Keep.ofBelow hbe4) (fun i hi => hi.elim) hk7 hD7 hpm.symm hg.rise hg1 rfl hlkn.symm ?_ (fun g hg => ?_)
              · show w7.ownsRow 0 5 1 (slv (a5, lk, cp5, (lk : Int))) (f.b.take lk).length (bc (f.b.take lk))
                rw [hlkn]
                refine own_weak (own_keep hown6 hk7 (fun g hg e => ?_)) (Nat.zero_le _)
                have h1 := (hown6.lt g hg).1
                have h2 := hD.lt
                have h3 := hD.map.lt
                omega
              · have hg' : a5 = some g := hg
                have h1 := hown6.lt g (by rw [hob5]; exact hg')
                have hgn : wr.heap.size ≤ g := by have := hbe.size; omega
                exact ⟨Or.inr ⟨hgn, by have := hk7.size; omega⟩, fun t e _ he => row_new (k := { k with fs := dn ++ (n, f) :: post }) ht lt hgn t e he⟩
            obtain ⟨F7, hDk7, hk8, hF8⟩ := hDp
            have HI7 : zs ≠ [] → ¬ Fi bk := fun hz h => by
              rcases hFi bk h with h | h
              · exact hbk (HKp.out (by simp)) h
              · have := hbkl (HKp.out (by simp)); have := hb1.size; omega
            refine ⟨⟨i + 1, dn ++ [(n, ⟨f.b.take lk, lk⟩)], post, zs, by go_num, by simp [hdn], ?_, ?_, ?_, ?_, ?_⟩, ?_⟩
            · exact hIC.keep hk8 HI7
            · exact fun h => HKp.out (by simp)
            · show (dn ++ [(n, (⟨f.b.take lk, lk⟩ : Fle))]) ++ restL post zs = _
              rw [← HR.out, hrst, List.append_assoc]
              rfl
            · show List.map Prod.fst _ = _
              rw [← HNm.out]; simp
            · rw [List.append_assoc]
              exact Dp.next hki hFi ⟨F7, hDk7, hk8, hF8⟩
            · simp [intOf]; omega

end Go.Proofs.YtikkieaokfailaaGreatDoor
