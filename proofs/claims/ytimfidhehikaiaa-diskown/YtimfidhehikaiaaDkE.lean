/- DiskOwn: the law's walk. -/
import Derived.Test.YtimfidhehikaiaaDkB
import Derived.Test.YtimfidhehikaiaaOwnLQ
namespace Go.Proofs.Ytimfidhehikaiaa
open Go.RowKit Go.Joins

/-- The disk of the law: power, and no fuse. -/
structure OSt (k : Dk) (i : Nat) : Prop where
  xroom : k.room = 5000
  xoff : k.off = false
  xfu : k.fu = none
  xsteps : k.steps ≤ i
  xlen : k.fs.length ≤ i
theorem OSt.app {k : Dk} {i : Nat} (h : OSt k i) (s : Nm) (ys : List Int) : OSt (appK k s ys).2 (i + 1) := by
  have h1 := h.xsteps
  have h2 := h.xlen
  unfold appK
  rw [h.xoff, if_neg (by decide)]
  split
  · exact ⟨h.xroom, h.xoff, h.xfu, Nat.le_succ_of_le h1, Nat.le_succ_of_le h2⟩
  · split
    · exact ⟨h.xroom, h.xoff, h.xfu, Nat.le_succ_of_le h1, Nat.le_succ_of_le h2⟩
    · unfold passK
      dsimp only
      rw [h.xfu]
      have := len_put k.fs s ⟨((look k.fs s).map Fle.b).getD [] ++ ys, ((look k.fs s).map Fle.safe).getD 0⟩
      exact ⟨h.xroom, rfl, by first | rfl | exact h.xfu, by show k.steps + 1 ≤ i + 1; omega, by show (putL _ _ _).length ≤ i + 1; omega⟩
theorem OSt.mono {k : Dk} {i : Nat} (h : OSt k i) : OSt k (i + 1) := ⟨h.xroom, h.xoff, h.xfu, Nat.le_succ_of_le h.xsteps, Nat.le_succ_of_le h.xlen⟩

/-- Everything that the law holds. -/
structure All (W wr : World) (F G Fp : Nat → Prop) (d rd pn pk m : Nat) (k : Dk) : Prop where
  D : DiskAt wr F d k
  R : RefAt wr G rd k
  L : LBq Fp pn pk m wr
  fg : ∀ i, F i → ¬ G i
  fp : ∀ i, F i → ¬ Fp i
  gp : ∀ i, G i → ¬ Fp i
  fw : ∀ i, F i → W.heap.size ≤ i
  gw : ∀ i, G i → W.heap.size ≤ i
  pw : ∀ i, Fp i → W.heap.size ≤ i
  pl : ∀ i, Fp i → i < wr.heap.size
  B : Below W.heap.size W wr
theorem All.below {W wr w' : World} {F G Fp : Nat → Prop} {d rd pn pk m : Nat} {k : Dk} (h : All W wr F G Fp d rd pn pk m k) (hb : Below wr.heap.size wr w') : All W w' F G Fp d rd pn pk m k :=
  ⟨h.D.below hb, h.R.below hb, h.L.ext hb, h.fg, h.fp, h.gp, h.fw, h.gw, h.pw, fun i hi => Nat.lt_of_lt_of_le (h.pl i hi) hb.size, h.B.trans (hb.mono h.B.size)⟩
/-- Behind a call of the disk. -/
theorem All.disk {W wr w' : World} {F F' G Fp : Nat → Prop} {d rd pn pk m : Nat} {k k' : Dk} (h : All W wr F G Fp d rd pn pk m k) (hD : DiskAt w' F' d k') (hk : Keep F wr w') (hF : ∀ i, F' i → F i ∨ wr.heap.size ≤ i) :
    DiskAt w' F' d k' ∧ RefAt w' G rd k ∧ LBq Fp pn pk m w' ∧ (∀ i, F' i → ¬ G i) ∧ (∀ i, F' i → ¬ Fp i) ∧ (∀ i, F' i → W.heap.size ≤ i) ∧ Below W.heap.size W w' := by
  refine ⟨hD, h.R.keep hk (fun i hi hf => h.fg i hf hi), h.L.keep hk (fun i hi hf => h.fp i hf hi), fun i hi hg => ?_, fun i hi hp => ?_, fun i hi => ?_, h.B.trans (hk.low h.B.size h.fw)⟩
  · rcases hF i hi with h1 | h1
    · exact h.fg i h1 hg
    · have := h.R.lt i hg; omega
  · rcases hF i hi with h1 | h1
    · exact h.fp i h1 hp
    · have := h.pl i hp; omega
  · rcases hF i hi with h1 | h1
    · exact h.fw i h1
    · have := h.B.size; omega

/-- Behind a call of the document's disk. -/
theorem All.doc {W wr w' : World} {F G G' Fp : Nat → Prop} {d rd pn pk m : Nat} {kd k' : Dk} (hD : DiskAt wr F d kd) (hL : LBq Fp pn pk m wr) (fg : ∀ i, F i → ¬ G i) (fp : ∀ i, F i → ¬ Fp i) (gp : ∀ i, G i → ¬ Fp i) (fw : ∀ i, F i → W.heap.size ≤ i) (gw : ∀ i, G i → W.heap.size ≤ i) (pw : ∀ i, Fp i → W.heap.size ≤ i) (pl : ∀ i, Fp i → i < wr.heap.size) (B : Below W.heap.size W wr)
    (hR : RefAt w' G' rd k') (hk : Keep G wr w') (hG : ∀ i, G' i → G i ∨ wr.heap.size ≤ i) (e : kd = k') : All W w' F G' Fp d rd pn pk m k' := by
  subst e
  refine ⟨hD.keep hk (fun i hi hg => fg i hi hg), hR, hL.keep hk (fun i hi hg => gp i hg hi), fun i hi hg => ?_, fp, fun i hi hp => ?_, fw, fun i hi => ?_, pw, fun i hi => Nat.lt_of_lt_of_le (pl i hi) hk.size, B.trans (hk.low B.size gw)⟩
  · rcases hG i hg with h2 | h2
    · exact fg i hi h2
    · have := hD.lt i hi; omega
  · rcases hG i hi with h2 | h2
    · exact gp i h2 hp
    · have := pl i hp; omega
  · rcases hG i hi with h2 | h2
    · exact gw i h2
    · have := B.size; omega
/-- Behind a call of the loan or the book. -/
theorem All.book {W wr w' : World} {F G Fp Fq : Nat → Prop} {d rd pn pk m m' : Nat} {k : Dk} (h : All W wr F G Fp d rd pn pk m k) (hL : LBq Fq pn pk m' w') (hk : Keep Fp wr w') (hq : ∀ i, Fq i → Fp i ∨ (wr.heap.size ≤ i ∧ i < w'.heap.size) ∨ (i < wr.heap.size ∧ ¬ F i ∧ ¬ G i ∧ W.heap.size ≤ i)) : All W w' F G Fq d rd pn pk m' k := by
  refine ⟨h.D.keep hk (fun i hi hp => h.fp i hi hp), h.R.keep hk (fun i hi hp => h.gp i hi hp), hL, h.fg, fun i hi hp => ?_, fun i hi hp => ?_, h.fw, h.gw, fun i hi => ?_, fun i hi => ?_, h.B.trans (hk.low h.B.size h.pw)⟩
  · rcases hq i hp with h1 | h1 | h1
    · exact h.fp i hi h1
    · have := h.D.lt i hi; omega
    · exact h1.2.1 hi
  · rcases hq i hp with h1 | h1 | h1
    · exact h.gp i hi h1
    · have := h.R.lt i hi; omega
    · exact h1.2.2.1 hi
  · rcases hq i hi with h1 | h1 | h1
    · exact h.pw i h1
    · have := h.B.size; omega
    · exact h1.2.2.2
  · rcases hq i hi with h1 | h1 | h1
    · exact Nat.lt_of_lt_of_le (h.pl i h1) hk.size
    · exact h1.2
    · exact Nat.lt_of_lt_of_le h1.1 hk.size

theorem LBq.more {Fp : Nat → Prop} {pn pk m : Nat} {W : World} (h : LBq Fp pn pk m W) : LBq Fp pn pk (m + 1) W := by
  obtain ⟨lv, mv, ls, ms, xs, fv, wv, fs, ws, ys, N, h1, h2, h3, h4, h5, h6, h7⟩ := h
  exact ⟨lv, mv, ls, ms, xs, fv, wv, fs, ws, ys, N, h1, h2, h3, h4, h5, Nat.le_succ_of_le h6, h7⟩
theorem All.mono1 {W wr : World} {F G Fp : Nat → Prop} {d rd pn pk m : Nat} {k : Dk} (h : All W wr F G Fp d rd pn pk m k) : All W wr F G Fp d rd pn pk (m + 1) k :=
  ⟨h.D, h.R, h.L.more, h.fg, h.fp, h.gp, h.fw, h.gw, h.pw, h.pl, h.B⟩

set_option maxRecDepth 100000 in
set_option maxHeartbeats 8000000 in
theorem diskOwn_any (a : Option Addr) (n c : Nat) (W : World) (hR : ORd W a n c) :
    Calls Try.prog 5 #[.slice a n c] W fun e w' => e = .returned (.bool true) ∧ Below W.heap.size W w' := by
  have hcap := hR.cap
  have hmost := hR.most
  have hN := new_ok 5000 (by omega) W
  go_enter Try.func5, Try.ntmps5
  go_upto_region 2 with (first
    | (go_at_call 7; refine hN.mono ?_; rintro e w1 ⟨d, rfl, ⟨F, hD1, hF⟩, hB1⟩))
  have hN2 := refNew_ok 5000 (by omega) w1
  go_upto_region 3 with (first
    | (go_at_call 8; refine hN2.mono ?_; rintro e w2 ⟨rd, rfl, ⟨G, hR2, hG⟩, hB2⟩))
  have hD2 := hD1.below hB2
  have hB2' := hB1.trans (hB2.mono hB1.size)
  have hfg : ∀ i, F i → ¬ G i := fun i h1 h2 => by have := hG i h2; have := hD1.lt i h1; omega
  have hG' : ∀ i, G i → W.heap.size ≤ i := fun i h => by have := hG i h; have := hB1.size; omega
  go_upto_region 5 with (first
    | (go_at_call 9; refine (wakes_any _).mono ?_; rintro e w3 ⟨rfl, hb3⟩))
  have hD3 := hD2.below hb3
  have hR3 := hR2.below hb3
  have hB3 := hB2'.trans (hb3.mono hB2'.size)
  clear hN hN2 hD1 hD2 hR2 hb3 hB2 hB1 hB2' hG
  have hst := LBq.start w3
  have hbS : Below w3.heap.size w3 ((w3.alloc (.cells #[.slice none 0 0, .slice none 0 0] 54)).alloc (.cells #[.slice none 0 0, .slice none 0 0, .slice none 0 0, .slice none 0 0, .int .i64 0] 57)) := ((Below.refl _ _).alloc (Nat.le_refl _) _).alloc (by simp) _
  have hszS : ((w3.alloc (.cells #[.slice none 0 0, .slice none 0 0] 54)).alloc (.cells #[.slice none 0 0, .slice none 0 0, .slice none 0 0, .slice none 0 0, .int .i64 0] 57)).heap.size = w3.heap.size + 2 := by simp
  go_wp2_with fail
  generalize (w3.alloc (.cells #[.slice none 0 0, .slice none 0 0] 54)).alloc (.cells #[.slice none 0 0, .slice none 0 0, .slice none 0 0, .slice none 0 0, .int .i64 0] 57) = w4 at *
  have hAll : All W w4 F G (fun j => j = w3.heap.size ∨ j = w3.heap.size + 1) d rd w3.heap.size (w3.heap.size + 1) 0 (newK 5000) :=
    ⟨hD3.below hbS, hR3.below hbS, hst, hfg, fun i h1 h2 => by have := hD3.lt i h1; omega, fun i h1 h2 => by have := hR3.lt i h1; omega, hF, hG', fun i h => by have := hB3.size; omega, fun i h => by rw [hszS]; omega, hB3.trans (hbS.mono hB3.size)⟩
  have hO0 : OSt (newK 5000) 0 := ⟨rfl, rfl, rfl, Nat.le_refl _, Nat.le_refl _⟩
  clear hst hbS hszS hD3 hR3 hfg hF hG'
  obtain ⟨pn, hpn⟩ : ∃ pn, w3.heap.size = pn := ⟨_, rfl⟩
  rw [hpn] at hAll ⊢
  have hAll0 : ∃ Fp0 : Nat → Prop, All W w4 F G Fp0 d rd pn (pn + 1) 0 (newK 5000) := ⟨_, hAll⟩
  clear hAll hB3 hpn
  obtain ⟨Fp0, hAll⟩ := hAll0
  go_loopw [9, 10, 11] (fun s9 _ _ wr => ∃ (i : Nat) (k : Dk) (F G Fp : Nat → Prop), s9 = .int .i64 i ∧ i ≤ n ∧ i ≤ 60 ∧ Hid (OSt k i) ∧ Hid (All W wr F G Fp d rd pn (pn + 1) i k)) (fun s9 _ _ _ => 60 - (intOf s9).toNat)
  case atStart => exact ⟨0, newK 5000, F, G, Fp0, rfl, by omega, by omega, hO0, hAll⟩
  case round =>
    clear hO0 hAll
    obtain ⟨i, k, F, G, Fp, rfl, hin, hi60, HO, HA⟩ := hrel
    by_cases hlt : i < n ∧ i < 60
    · obtain ⟨hlt, hl60⟩ := hlt
      have hcl : (i : Int) < (n : Int) := by omega
      have hcl60 : (i : Int) < 60 := by omega
      have hi0 : (0 : Int) ≤ (i : Int) := by omega
      obtain ⟨b, off, rfl, hce⟩ := hR.flat (by omega)
      obtain ⟨On, Do, A, B, ar, nr, cr, xs, Nn, ak, nk, ck, zs, hop⟩ := hce i hlt
      clear hce
      have hat : ∀ w', Below W.heap.size W w' → OpAt w' b (off + i * 7) On Do A B ar nr cr xs Nn ak nk ck zs := fun w' hb => hop.below hb
      clear hop
      obtain ⟨Y, HY⟩ : ∃ Y, Hid (xs.take 100 = Y) := ⟨_, rfl⟩
      have h0 := hat wr HA.out.B
      have q1 := h0.c1
      have q2 := h0.c2
      have hAs := h0.hA
      by_cases hdo : Do = 1
      · subst hdo
        have hfw := fun w hR => fewO ar nr cr xs w hR
        rw [HY.out] at hfw
        have hOk := HO.out.app A Y
        obtain ⟨P, HP⟩ : ∃ P, Hid (appK k A Y = P) := ⟨_, rfl⟩
        rw [HP.out] at hOk
        obtain ⟨en, k2⟩ := P
        dsimp only at hOk
        have hstp := HO.out.xsteps
        have hlen := HO.out.xlen
        have hAp := fun F w a n c hD hn hR => append_any d F k A a n c Y (by omega) (by omega) hn w hD hR
        rw [HP.out] at hAp
        have hRa := fun G w a n c hR hY hg => refAppend_any rd G k A hAs a n c Y (by omega) (by omega) w hR hY hg
        rw [HP.out] at hRa
        clear h0
        go_upto_region 11 with fail
        refine wp_region_lx (fun w' => Below W.heap.size W w') [] 15 (by kernel_rfl) (by kernel_rfl) ?_
        have HAX := HA.out.below ((Below.refl wr.heap.size wr).drew)
        clear HA q1 q2
        generalize wr.drew = X at *
        have HSX := HAX.B
        refine lx_rd 0 ?va0 (by kernel_rfl) (fun _ _ d _ _ h => by cases d <;> exact h) (by kernel_rfl) HSX rfl rfl rfl (fun w' hS => ?ha0) ?_
        case ha0 => first | (go_simp; rfl) | go_simp
        simp only [List.setIfInBounds_toArray, List.set_cons_zero, List.set_cons_succ]
        refine lx_rd 1 ?va1 (by kernel_rfl) (fun _ _ d _ _ h => by cases d <;> exact h) (by kernel_rfl) HSX rfl rfl rfl (fun w' hS => ?ha1) ?_
        case ha1 => first | (go_simp; rfl) | go_simp
        simp only [List.setIfInBounds_toArray, List.set_cons_zero, List.set_cons_succ]
        refine lx_rd 2 ?va2 (by kernel_rfl) (fun _ _ d _ _ h => by cases d <;> exact h) (by kernel_rfl) HSX rfl rfl rfl (fun w' hS => ?ha2) ?_
        case ha2 => first | (go_simp; rfl) | go_simp
        simp only [List.setIfInBounds_toArray, List.set_cons_zero, List.set_cons_succ]
        refine lx_rd 3 (.pointer (some ⟨b, off + i * 7, none⟩)) (by kernel_rfl) (fun _ _ d _ _ h => by cases d <;> exact h) (by kernel_rfl) HSX rfl rfl rfl (fun w' hS => ?ha3) ?_
        case ha3 => first | (go_simp; rfl) | go_simp
        simp only [List.setIfInBounds_toArray, List.set_cons_zero, List.set_cons_succ]
        refine lx_rd 4 (.pointer (some ⟨b, off + i * 7 + 2, none⟩)) (by kernel_rfl) (fun _ _ d _ _ h => by cases d <;> exact h) (by kernel_rfl) HSX rfl rfl rfl (fun w' hS => ?ha4) ?_
        case ha4 => first | (go_simp; rfl) | go_simp
        simp only [List.setIfInBounds_toArray, List.set_cons_zero, List.set_cons_succ]
        refine lx_rd 5 (.string A) (by kernel_rfl) (fun _ _ d _ _ h => by cases d <;> exact h) (by kernel_rfl) HSX rfl rfl rfl (fun w' hS => ?ha5) ?_
        case ha5 => have q := (hat _ hS).c2; first | (go_simp; rfl) | go_simp
        simp only [List.setIfInBounds_toArray, List.set_cons_zero, List.set_cons_succ]
        refine lx_rd 6 ?va6 (by kernel_rfl) (fun _ _ d _ _ h => by cases d <;> exact h) (by kernel_rfl) HSX rfl rfl rfl (fun w' hS => ?ha6) ?_
        case ha6 => first | (go_simp; rfl) | go_simp
        simp only [List.setIfInBounds_toArray, List.set_cons_zero, List.set_cons_succ]
        refine lx_rd 7 ?va7 (by kernel_rfl) (fun _ _ d _ _ h => by cases d <;> exact h) (by kernel_rfl) HSX rfl rfl rfl (fun w' hS => ?ha7) ?_
        case ha7 => first | (go_simp; rfl) | go_simp
        simp only [List.setIfInBounds_toArray, List.set_cons_zero, List.set_cons_succ]
        refine lx_rd 8 ?va8 (by kernel_rfl) (fun _ _ d _ _ h => by cases d <;> exact h) (by kernel_rfl) HSX rfl rfl rfl (fun w' hS => ?ha8) ?_
        case ha8 => first | (go_simp; rfl) | go_simp
        simp only [List.setIfInBounds_toArray, List.set_cons_zero, List.set_cons_succ]
        refine lx_rd 9 (.pointer (some ⟨b, off + i * 7, none⟩)) (by kernel_rfl) (fun _ _ d _ _ h => by cases d <;> exact h) (by kernel_rfl) HSX rfl rfl rfl (fun w' hS => ?ha9) ?_
        case ha9 => first | (go_simp; rfl) | go_simp
        simp only [List.setIfInBounds_toArray, List.set_cons_zero, List.set_cons_succ]
        refine lx_rd 10 (.pointer (some ⟨b, off + i * 7 + 4, none⟩)) (by kernel_rfl) (fun _ _ d _ _ h => by cases d <;> exact h) (by kernel_rfl) HSX rfl rfl rfl (fun w' hS => ?ha10) ?_
        case ha10 => first | (go_simp; rfl) | go_simp
        simp only [List.setIfInBounds_toArray, List.set_cons_zero, List.set_cons_succ]
        refine lx_rd 11 (.slice ar nr cr) (by kernel_rfl) (fun _ _ d _ _ h => by cases d <;> exact h) (by kernel_rfl) HSX rfl rfl rfl (fun w' hS => ?ha11) ?_
        case ha11 => have q := (hat _ hS).c4; first | (go_simp; rfl) | go_simp
        simp only [List.setIfInBounds_toArray, List.set_cons_zero, List.set_cons_succ]
        refine lx_one 12 (by kernel_rfl) (stepT_call 12 ?a12 rfl rfl rfl ?r12 ?_)
        case r12 => first | (go_simp; rfl) | go_simp
        refine (hfw X (hat X HSX).hR).mono ?_
        rintro e w5 ⟨a5, n5, c5, rfl, hn5, o5, r5, hb5⟩
        have HA5 := HAX.below hb5
        refine ⟨_, rfl, fun _ => HA5.B, ?_⟩
        simp only [List.setIfInBounds_toArray, List.set_cons_zero, List.set_cons_succ]
        refine lx_one 13 (by kernel_rfl) (stepT_call 19 ?a13 rfl rfl rfl ?r13 ?_)
        case r13 => first | (go_simp; rfl) | go_simp
        refine (lendQ HA5.L (by omega) a5 n5 c5 Y r5 (by omega)).mono ?_
        rintro e w6 ⟨g6, cap6, rfl, r6, L6, hk6⟩
        obtain ⟨Fq, hFq⟩ : ∃ Fq : Nat → Prop, Fq = (fun j => Fp j ∨ (w5.heap.size ≤ j ∧ j < w6.heap.size)) := ⟨_, rfl⟩
        rw [← hFq] at L6
        have hFq' : ∀ j, Fq j → Fp j ∨ (w5.heap.size ≤ j ∧ j < w6.heap.size) := fun j hj => by rw [hFq] at hj; exact hj
        clear hFq
        have HA6 : All W w6 F G Fq d rd pn (pn + 1) (i + 1) k := HA5.book L6 hk6 (fun j hj => (hFq' j hj).elim Or.inl (fun h => Or.inr (Or.inl h)))
        refine ⟨_, rfl, fun _ => HA6.B, ?_⟩
        simp only [List.setIfInBounds_toArray, List.set_cons_zero, List.set_cons_succ]
        refine lx_one 14 (by kernel_rfl) (stepT_call 13 ?a14 rfl rfl rfl ?r14 ?_)
        case r14 => first | (go_simp; rfl) | go_simp
        refine (hAp F w6 _ _ _ HA6.D (by omega) r6).mono ?_
        rintro e w7 ⟨rfl, F7, hD7, hk7, hF7⟩
        obtain ⟨x1, x2, x3, x4, x5, x6, x7⟩ := HA6.disk hD7 hk7 hF7
        have pl7' : ∀ j, Fq j → j < w7.heap.size := fun j hj => Nat.lt_of_lt_of_le (HA6.pl j hj) hk7.size
        have gp7 := HA6.gp
        have gw7 := HA6.gw
        have pw7 := HA6.pw
        refine ⟨_, rfl, fun _ => x7, ?_⟩
        simp only [List.setIfInBounds_toArray, List.set_cons_zero, List.set_cons_succ]
        refine lx_nil (by kernel_rfl) ?_
        clear HAX HA5 HA6 L6 hk6 hk7 hF7 hD7 r5 r6 o5 hb5 hn5 hAp hFq' HSX
        go_upto_region 12 with fail
        refine wp_region_lx (fun w' => Below W.heap.size W w') [] 13 (by kernel_rfl) (by kernel_rfl) ?_
        have hbD : Below w7.heap.size w7 w7.drew := (Below.refl _ _).drew
        have y1 := x1.below hbD
        have y2 := x2.below hbD
        have y3 := x3.ext hbD
        have y7 : Below W.heap.size W w7.drew := x7.drew
        have pl8 : ∀ j, Fq j → j < w7.drew.heap.size := pl7'
        clear x1 x2 x3 x7 hbD pl7'
        generalize w7.drew = X2 at *
        refine lx_rd 0 ?vc0 (by kernel_rfl) (fun _ _ d _ _ h => by cases d <;> exact h) (by kernel_rfl) y7 rfl rfl rfl (fun w' hS => ?hc0) ?_
        case hc0 => first | (go_simp; rfl) | go_simp
        simp only [List.setIfInBounds_toArray, List.set_cons_zero, List.set_cons_succ]
        refine lx_rd 1 ?vc1 (by kernel_rfl) (fun _ _ d _ _ h => by cases d <;> exact h) (by kernel_rfl) y7 rfl rfl rfl (fun w' hS => ?hc1) ?_
        case hc1 => first | (go_simp; rfl) | go_simp
        simp only [List.setIfInBounds_toArray, List.set_cons_zero, List.set_cons_succ]
        refine lx_rd 2 ?vc2 (by kernel_rfl) (fun _ _ d _ _ h => by cases d <;> exact h) (by kernel_rfl) y7 rfl rfl rfl (fun w' hS => ?hc2) ?_
        case hc2 => first | (go_simp; rfl) | go_simp
        simp only [List.setIfInBounds_toArray, List.set_cons_zero, List.set_cons_succ]
        refine lx_rd 3 (.pointer (some ⟨b, off + i * 7, none⟩)) (by kernel_rfl) (fun _ _ d _ _ h => by cases d <;> exact h) (by kernel_rfl) y7 rfl rfl rfl (fun w' hS => ?hc3) ?_
        case hc3 => first | (go_simp; rfl) | go_simp
        simp only [List.setIfInBounds_toArray, List.set_cons_zero, List.set_cons_succ]
        refine lx_rd 4 (.pointer (some ⟨b, off + i * 7 + 2, none⟩)) (by kernel_rfl) (fun _ _ d _ _ h => by cases d <;> exact h) (by kernel_rfl) y7 rfl rfl rfl (fun w' hS => ?hc4) ?_
        case hc4 => first | (go_simp; rfl) | go_simp
        simp only [List.setIfInBounds_toArray, List.set_cons_zero, List.set_cons_succ]
        refine lx_rd 5 (.string A) (by kernel_rfl) (fun _ _ d _ _ h => by cases d <;> exact h) (by kernel_rfl) y7 rfl rfl rfl (fun w' hS => ?hc5) ?_
        case hc5 => have q := (hat _ hS).c2; first | (go_simp; rfl) | go_simp
        simp only [List.setIfInBounds_toArray, List.set_cons_zero, List.set_cons_succ]
        refine lx_rd 6 ?vc6 (by kernel_rfl) (fun _ _ d _ _ h => by cases d <;> exact h) (by kernel_rfl) y7 rfl rfl rfl (fun w' hS => ?hc6) ?_
        case hc6 => first | (go_simp; rfl) | go_simp
        simp only [List.setIfInBounds_toArray, List.set_cons_zero, List.set_cons_succ]
        refine lx_rd 7 ?vc7 (by kernel_rfl) (fun _ _ d _ _ h => by cases d <;> exact h) (by kernel_rfl) y7 rfl rfl rfl (fun w' hS => ?hc7) ?_
        case hc7 => first | (go_simp; rfl) | go_simp
        simp only [List.setIfInBounds_toArray, List.set_cons_zero, List.set_cons_succ]
        refine lx_rd 8 (.pointer (some ⟨b, off + i * 7, none⟩)) (by kernel_rfl) (fun _ _ d _ _ h => by cases d <;> exact h) (by kernel_rfl) y7 rfl rfl rfl (fun w' hS => ?hc8) ?_
        case hc8 => first | (go_simp; rfl) | go_simp
        simp only [List.setIfInBounds_toArray, List.set_cons_zero, List.set_cons_succ]
        refine lx_rd 9 (.pointer (some ⟨b, off + i * 7 + 4, none⟩)) (by kernel_rfl) (fun _ _ d _ _ h => by cases d <;> exact h) (by kernel_rfl) y7 rfl rfl rfl (fun w' hS => ?hc9) ?_
        case hc9 => first | (go_simp; rfl) | go_simp
        simp only [List.setIfInBounds_toArray, List.set_cons_zero, List.set_cons_succ]
        refine lx_rd 10 (.slice ar nr cr) (by kernel_rfl) (fun _ _ d _ _ h => by cases d <;> exact h) (by kernel_rfl) y7 rfl rfl rfl (fun w' hS => ?hc10) ?_
        case hc10 => have q := (hat _ hS).c4; first | (go_simp; rfl) | go_simp
        simp only [List.setIfInBounds_toArray, List.set_cons_zero, List.set_cons_succ]
        refine lx_one 11 (by kernel_rfl) (stepT_call 12 ?a11 rfl rfl rfl ?r11 ?_)
        case r11 => first | (go_simp; rfl) | go_simp
        refine (hfw X2 (hat X2 y7).hR).mono ?_
        rintro e w8 ⟨a8, n8, c8, rfl, hn8, o8, r8, hb8⟩
        have z7 := y7.trans (hb8.mono y7.size)
        refine ⟨_, rfl, fun _ => z7, ?_⟩
        simp only [List.setIfInBounds_toArray, List.set_cons_zero, List.set_cons_succ]
        refine lx_one 12 (by kernel_rfl) (stepT_call 20 ?a12b rfl rfl rfl ?r12b ?_)
        case r12b => first | (go_simp; rfl) | go_simp
        have hnG : ∀ ad, a8 = some ad → ¬ G ad.block := fun ad had hg => by
          have h1 := y2.lt _ hg
          obtain ⟨ap, cp, e8, hob8⟩ := own_form o8
          have h2 := (o8.lt ad.block (by rw [had]; cases ap with | none => (rw [had] at e8; cases e8) | some g => (rw [had] at e8; cases e8; rfl))).1
          omega
        refine (hRa G w8 _ _ _ (y2.below hb8) r8 hnG).mono ?_
        rintro e w9 ⟨rfl, G9, hR9, hk9, hG9⟩
        have HA9 : All W w9 F7 G9 Fq d rd pn (pn + 1) (i + 1) k2 := All.doc (y1.below hb8) (y3.ext hb8) x4 x5 gp7 x6 gw7 pw7 (fun j hj => Nat.lt_of_lt_of_le (pl8 j hj) hb8.size) z7 hR9 hk9 hG9 rfl
        refine ⟨_, rfl, fun _ => HA9.B, ?_⟩
        simp only [List.setIfInBounds_toArray, List.set_cons_zero, List.set_cons_succ]
        refine lx_nil (by kernel_rfl) ?_
        clear y1 y2 y3 y7 z7 hR9 hk9 hG9 r8 o8 hb8 hn8 hRa x4 x5 x6 gp7 gw7 pw7 pl8 hfw
        have hqa := (hat _ (HA9).B).c2
        have hRda := read_any d F7 k2 A w9 (HA9).D
        obtain ⟨Pa, HPa⟩ : ∃ P, Hid (readK k2 A = P) := ⟨_, rfl⟩
        rw [HPa.out] at hRda
        have hrla : Pa.2.length ≤ 5000 ∧ Bd Pa.2 := by
          rw [← HPa.out]
          rcases readK_first k2 A with ⟨f, _, _, hl, e⟩ | ⟨_, e⟩
          · rw [e]
            exact ⟨Nat.le_trans (used_mem (look_mem hl)) (by have h1 := (HA9).D.good.used; have h2 := (hOk).xroom; omega), (look_good (HA9).D.good hl).2.2⟩
          · rw [e]
            exact ⟨Nat.zero_le _, Bd.nil⟩
        go_upto_region 14 with (first
          | (go_at_call 18; refine hRda.mono ?_; rintro e w10 ⟨v10, rfl, o10, hb10⟩; obtain ⟨a10, c10, rfl, _⟩ := Rd.ofRowE o10))
        have HA10 := (HA9).below hb10
        have hnF : ∀ g, (Value.slice a10 Pa.2.length c10).ownBlock = some g → ¬ Fq g := fun g hg hp => by have h1 := (o10.lt g hg).1; have h2 := (HA9).pl g hp; omega
        have hTk := takeQ HA10.L (.slice a10 Pa.2.length c10) Pa.2 ⟨own_weak o10 (Nat.zero_le _), hrla.2⟩ hnF (by have := hrla.1; omega)
        go_wp2_with (first
          | (go_at_call 21; refine hTk.mono ?_; rintro e w11 ⟨r11, rfl, L11, hk11⟩))
        have HA11 := HA10.book L11 hk11 (fun j hj => by
          rcases hj with h | h | h
          · exact Or.inl h
          · refine Or.inr (Or.inr ⟨(o10.lt j h).2, fun hf => ?_, fun hg => ?_, ?_⟩)
            · have h1 := (o10.lt j h).1; have h2 := (HA9).D.lt j hf; omega
            · have h1 := (o10.lt j h).1; have h2 := (HA9).R.lt j hg; omega
            · have h1 := (o10.lt j h).1; have h2 := (HA9).B.size; omega
          · exact Or.inr (Or.inl h))
        exact ⟨⟨i + 1, k2, F7, G9, _, by go_num, by omega, by omega, hOk, HA11⟩, by simp [intOf]; omega⟩
      · have hne : (Do == 1) = false := by simpa using hdo
        clear h0
        have hqb := (hat _ (HA.out).B).c2
        have hRdb := read_any d F k A wr (HA.out).D
        obtain ⟨Pb, HPb⟩ : ∃ P, Hid (readK k A = P) := ⟨_, rfl⟩
        rw [HPb.out] at hRdb
        have hrlb : Pb.2.length ≤ 5000 ∧ Bd Pb.2 := by
          rw [← HPb.out]
          rcases readK_first k A with ⟨f, _, _, hl, e⟩ | ⟨_, e⟩
          · rw [e]
            exact ⟨Nat.le_trans (used_mem (look_mem hl)) (by have h1 := (HA.out).D.good.used; have h2 := (HO.out.mono).xroom; omega), (look_good (HA.out).D.good hl).2.2⟩
          · rw [e]
            exact ⟨Nat.zero_le _, Bd.nil⟩
        go_upto_region 14 with (first
          | (go_at_call 18; refine hRdb.mono ?_; rintro e w10 ⟨v10, rfl, o10, hb10⟩; obtain ⟨a10, c10, rfl, _⟩ := Rd.ofRowE o10))
        have HA10 := (HA.out).below hb10
        have hnF : ∀ g, (Value.slice a10 Pb.2.length c10).ownBlock = some g → ¬ Fp g := fun g hg hp => by have h1 := (o10.lt g hg).1; have h2 := (HA.out).pl g hp; omega
        have hTk := takeQ HA10.L (.slice a10 Pb.2.length c10) Pb.2 ⟨own_weak o10 (Nat.zero_le _), hrlb.2⟩ hnF (by have := hrlb.1; omega)
        go_wp2_with (first
          | (go_at_call 21; refine hTk.mono ?_; rintro e w11 ⟨r11, rfl, L11, hk11⟩))
        have HA11 := HA10.book L11 hk11 (fun j hj => by
          rcases hj with h | h | h
          · exact Or.inl h
          · refine Or.inr (Or.inr ⟨(o10.lt j h).2, fun hf => ?_, fun hg => ?_, ?_⟩)
            · have h1 := (o10.lt j h).1; have h2 := (HA.out).D.lt j hf; omega
            · have h1 := (o10.lt j h).1; have h2 := (HA.out).R.lt j hg; omega
            · have h1 := (o10.lt j h).1; have h2 := (HA.out).B.size; omega
          · exact Or.inr (Or.inl h))
        exact ⟨⟨i + 1, k, F, G, _, by go_num, by omega, by omega, HO.out.mono, HA11.mono1⟩, by simp [intOf]; omega⟩
    · by_cases hin2 : i < n
      · have hcl : (i : Int) < (n : Int) := by omega
        obtain rfl : i = 60 := by omega
        have hcl60 : ¬ ((60 : Nat) : Int) < 60 := by omega
        clear hlt
        have hBk := backQ HA.out.L (by omega)
        have hlen := HO.out.xlen
        go_upto_region 17 with (first
          | (go_at_call 22; refine hBk.mono ?_; rintro e w12 ⟨rfl, hk12, fv, wv, fs, ws, ys, Nb, hBook, hBF⟩)
          | (go_at_call 23; refine (bookClose_any (pn + 1) Nb fv wv fs ws ys w12 hBook).mono ?_; rintro e w13 ⟨rfl, hk13⟩))
        have hk13' : Keep Fp w12 w13 := hk13.mono hBF
        have hkk := hk12.trans hk13'
        have D13 := HA.out.D.keep hkk (fun i hi h => HA.out.fp i hi h)
        have R13 := HA.out.R.keep hkk (fun i hi h => HA.out.gp i hi h)
        have B13 : Below W.heap.size W w13 := HA.out.B.trans (hkk.low HA.out.B.size HA.out.pw)
        have fg13 := HA.out.fg
        have fw13 := HA.out.fw
        have gw13 := HA.out.gw
        have hoff := HO.out.xoff
        clear hBk hk12 hBook hBF hk13 hk13' hkk HA
        have hLs := list_any d F k (by omega) w13 D13
        have hRls := fun w hR => refList_any rd G k (by omega) w hR
        have hlk : listK k = (0, k.fs.map Prod.fst) := by unfold listK; rw [hoff]; rfl
        rw [hlk] at hLs hRls
        dsimp only at hLs hRls
        obtain ⟨ns, Hns⟩ : ∃ ns, Hid (k.fs.map Prod.fst = ns) := ⟨_, rfl⟩
        rw [Hns.out] at hLs hRls
        obtain ⟨N, HN⟩ : ∃ N, Hid (ns.length = N) := ⟨_, rfl⟩
        rw [HN.out] at hLs hRls
        have hgd := D13.good
        have hNk : N ≤ 60 := by rw [← HN.out, ← Hns.out, List.length_map]; omega
        clear hlk
        go_wp2_with (first
          | (go_at_call 24; refine hLs.mono ?_; rintro e w14 ⟨v14, rfl, o14, hb14⟩; obtain ⟨a14, c14, rfl, hn14⟩ := own_formN o14))
        have D14 := D13.below hb14
        have R14 := R13.below hb14
        have B14 := B13.trans (hb14.mono B13.size)
        have hlow : ∀ g, (Value.slice a14 N c14).ownBlock = some g → ¬ F g ∧ ¬ G g ∧ W.heap.size ≤ g := fun g hg => by
          have h1 := (o14.lt g hg).1
          refine ⟨fun h => ?_, fun h => ?_, ?_⟩
          · have := D13.lt g h; omega
          · have := R13.lt g h; omega
          · have := B13.size; omega
        have o14' : w14.ownsRow W.heap.size 9 1 (.slice a14 N c14) N (List.replicate 0 (.string ⟨#[]⟩) ++ (nv ns).drop 0) := own_weak o14 B13.size
        clear o14 hb14 D13 R13 B13
        go_loopw [14, 15, 16, 17, 18] (fun s14 _ _ _ _ wr => ∃ j : Nat, s14 = .int .i64 j ∧ j ≤ N ∧ Hid (DiskAt wr F d k) ∧ Hid (RefAt wr G rd k) ∧ Hid (Below W.heap.size W wr) ∧ Hid (wr.ownsRow W.heap.size 9 1 (.slice a14 N c14) N (List.replicate j (.string ⟨#[]⟩) ++ (nv ns).drop j))) (fun s14 _ _ _ _ _ => N - (intOf s14).toNat)
        case atStart => exact ⟨0, rfl, by omega, D14, R14, B14, o14'⟩
        case round =>
          clear D14 R14 B14 o14'
          obtain ⟨j, rfl, hjN, HD, HRf, HBl, HOw⟩ := hrel
          by_cases hjlt : j < N
          · have hcj : (j : Int) < (N : Int) := by omega
            have hj0 : (0 : Int) ≤ (j : Int) := by omega
            obtain ⟨x, hx⟩ : ∃ x, ns[j]? = some x := ⟨_, List.getElem?_eq_getElem (by rw [HN.out]; exact hjlt)⟩
            have hnvl : (nv ns).length = N := by unfold nv; rw [List.length_map, HN.out]
            have hnvj : (nv ns)[j]? = some (.string x) := by unfold nv; rw [List.getElem?_map, hx]; rfl
            have hcl2 : (List.replicate j (Value.string ⟨#[]⟩) ++ (nv ns).drop j)[j]? = some (.string x) := by
              rw [List.getElem?_append_right (by simp), List.length_replicate, Nat.sub_self, List.getElem?_drop, Nat.add_zero]
              exact hnvj
            obtain ⟨g, cg⟩ : ∃ g, a14 = some ⟨g, 0, none⟩ := by
              rcases HOw.out.2 with ⟨_, h0⟩ | ⟨g, cap, cur, h1, _⟩
              · omega
              · cases h1; exact ⟨g, rfl⟩
            subst cg
            have hc := HOw.out.cells (g := g) rfl j _ hcl2
            rw [add_flat, Nat.zero_add] at hc
            have hx64 : x.size ≤ 9223372036854775807 := by
              have hm : x ∈ k.fs.map Prod.fst := by rw [Hns.out]; exact List.mem_of_getElem? hx
              obtain ⟨y, hy, e⟩ := List.mem_map.1 hm
              have := isNm_size (hgd.each y hy).1
              rw [e] at this
              omega
            obtain ⟨P, HP⟩ : ∃ P, Hid (readK k x = P) := ⟨_, rfl⟩
            have hRd := fun w hD => read_any d F k x w hD
            have hRr := fun w hR => refRead_any rd G k x hx64 w hR
            rw [HP.out] at hRd hRr
            have hPb : Bd P.2 := by
              rw [← HP.out]
              rcases readK_first k x with ⟨f, _, _, hl, e⟩ | ⟨_, e⟩
              · rw [e]; exact (look_good hgd hl).2.2
              · rw [e]; exact Bd.nil
            obtain ⟨SS, HSS⟩ : ∃ SS, Hid (strOfNums P.2 = SS) := ⟨_, rfl⟩
            have hsl := hlow g rfl
            have hset : Hid ((List.replicate j (Value.string ⟨#[]⟩) ++ (nv ns).drop j).set j (.string ⟨#[]⟩) = List.replicate (j + 1) (.string ⟨#[]⟩) ++ (nv ns).drop (j + 1)) := by
              show _ = _
              rw [List.set_append_right _ _ (by simp), List.length_replicate, Nat.sub_self, List.drop_eq_getElem_cons (by rw [hnvl]; exact hjlt), List.set_cons_zero, List.replicate_succ']
              simp
            clear hcl2 hnvj hx
            go_upto_region 22 with (first
              | (go_at_call 18; refine (hRd _ HD.out).mono ?_; rintro e w15 ⟨v15, rfl, o15, hb15⟩; obtain ⟨a15, c15, rfl, r15⟩ := Rd.ofOwn o15 hPb))
            have hc15 := (hb15.cell (p := ⟨g, j, none⟩) (World.block_lt_of_cell? wr _ hc)).trans hc
            go_upto_region 23 with (first
              | (go_at_call 25; refine (hRr _ (HRf.out.below hb15)).mono ?_; rintro e w16 ⟨v16, rfl, o16, hb16⟩; obtain ⟨a16, c16, rfl, r16⟩ := Rd.ofOwn o16 hPb))
            have hbb := hb15.trans (hb16.mono hb15.size)
            have s15 := (r15.carry (Nat.le_refl _) hb16).string
            have s16 := r16.string
            rw [HSS.out] at s15 s16
            have o17 := own_keep (S := fun _ => False) HOw.out (Keep.ofBelow hbb) (fun _ _ h => h)
            have D17 := HD.out.below hbb
            have R17 := HRf.out.below hbb
            have B17 := HBl.out.trans (hbb.mono HBl.out.size)
            obtain ⟨cur17, hcur17⟩ := own_blk o17 (g := g) rfl
            have c17 := (hbb.cell (p := ⟨g, j, none⟩) (World.block_lt_of_cell? wr _ hc)).trans hc
            have z17 := Go.Joins.unfrozen_of_block hcur17 j
            have o18 := own_set (i := j) o17 (.string ⟨#[]⟩)
            rw [hset.out] at o18
            clear HD HRf HBl HOw hb15 hb16 hbb r15 r16 o15 o16 hc hc15 hRd hRr o17 hcur17
            go_wp2
            have hkS : Keep (fun q => q = g) w16 (w16.setCell ⟨g, j, none⟩ (.string ⟨#[]⟩)) := (Keep.refl (fun q => q = g) w16).setCell (p := ⟨g, j, none⟩) rfl _
            exact ⟨⟨j + 1, by go_num, by omega, D17.keep hkS (fun q hq e => hsl.1 (by rw [← e]; exact hq)), R17.keep hkS (fun q hq e => hsl.2.1 (by rw [← e]; exact hq)), B17.trans (hkS.low B17.size (fun q e => by rw [e]; exact hsl.2.2)), o18⟩, by simp [intOf]; omega⟩
          · obtain rfl : j = N := by omega
            have hcj : ¬ (j : Int) < (j : Int) := by omega
            have hLs2 := list_any d F k (by omega) wr HD.out
            have hlk : listK k = (0, k.fs.map Prod.fst) := by unfold listK; rw [hoff]; rfl
            rw [hlk] at hLs2
            dsimp only at hLs2
            rw [Hns.out, HN.out] at hLs2
            clear hlk hLs
            go_upto_region 27 with (first
              | (go_at_call 24; refine hLs2.mono ?_; rintro e w20 ⟨v20, rfl, o20, hb20⟩; obtain ⟨a20, c20, rfl, _⟩ := own_formN o20))
            have hRl2 := hRls w20 (HRf.out.below hb20)
            go_upto_region 28 with (first
              | (go_at_call 11; refine hRl2.mono ?_; rintro e w21 ⟨v21, rfl, o21, hb21⟩; obtain ⟨a21, c21, rfl, _⟩ := own_formN o21))
            have o22 := own_keep (S := fun _ => False) o20 (Keep.ofBelow hb21) (fun _ _ h => h)
            have hSm := same_any (.slice a20 j c20) (.slice a21 j c21) ns w21 _ _ (by rw [HN.out]; exact o22) (by rw [HN.out]; exact o21)
            go_wp2_with (first
              | (go_at_call 26; refine hSm.mono ?_; rintro e w22 ⟨rfl, hb22⟩))
            go_ret
            have B20 := HBl.out.trans (hb20.mono HBl.out.size)
            have B21 := B20.trans (hb21.mono B20.size)
            exact ⟨rfl, B21.trans (hb22.mono B21.size)⟩
      · have hcl : ¬ (i : Int) < (n : Int) := by omega
        clear hlt
        have hBk := backQ HA.out.L (by omega)
        have hlen := HO.out.xlen
        go_upto_region 17 with (first
          | (go_at_call 22; refine hBk.mono ?_; rintro e w12 ⟨rfl, hk12, fv, wv, fs, ws, ys, Nb, hBook, hBF⟩)
          | (go_at_call 23; refine (bookClose_any (pn + 1) Nb fv wv fs ws ys w12 hBook).mono ?_; rintro e w13 ⟨rfl, hk13⟩))
        have hk13' : Keep Fp w12 w13 := hk13.mono hBF
        have hkk := hk12.trans hk13'
        have D13 := HA.out.D.keep hkk (fun i hi h => HA.out.fp i hi h)
        have R13 := HA.out.R.keep hkk (fun i hi h => HA.out.gp i hi h)
        have B13 : Below W.heap.size W w13 := HA.out.B.trans (hkk.low HA.out.B.size HA.out.pw)
        have fg13 := HA.out.fg
        have fw13 := HA.out.fw
        have gw13 := HA.out.gw
        have hoff := HO.out.xoff
        clear hBk hk12 hBook hBF hk13 hk13' hkk HA
        have hLs := list_any d F k (by omega) w13 D13
        have hRls := fun w hR => refList_any rd G k (by omega) w hR
        have hlk : listK k = (0, k.fs.map Prod.fst) := by unfold listK; rw [hoff]; rfl
        rw [hlk] at hLs hRls
        dsimp only at hLs hRls
        obtain ⟨ns, Hns⟩ : ∃ ns, Hid (k.fs.map Prod.fst = ns) := ⟨_, rfl⟩
        rw [Hns.out] at hLs hRls
        obtain ⟨N, HN⟩ : ∃ N, Hid (ns.length = N) := ⟨_, rfl⟩
        rw [HN.out] at hLs hRls
        have hgd := D13.good
        have hNk : N ≤ 60 := by rw [← HN.out, ← Hns.out, List.length_map]; omega
        clear hlk
        go_wp2_with (first
          | (go_at_call 24; refine hLs.mono ?_; rintro e w14 ⟨v14, rfl, o14, hb14⟩; obtain ⟨a14, c14, rfl, hn14⟩ := own_formN o14))
        have D14 := D13.below hb14
        have R14 := R13.below hb14
        have B14 := B13.trans (hb14.mono B13.size)
        have hlow : ∀ g, (Value.slice a14 N c14).ownBlock = some g → ¬ F g ∧ ¬ G g ∧ W.heap.size ≤ g := fun g hg => by
          have h1 := (o14.lt g hg).1
          refine ⟨fun h => ?_, fun h => ?_, ?_⟩
          · have := D13.lt g h; omega
          · have := R13.lt g h; omega
          · have := B13.size; omega
        have o14' : w14.ownsRow W.heap.size 9 1 (.slice a14 N c14) N (List.replicate 0 (.string ⟨#[]⟩) ++ (nv ns).drop 0) := own_weak o14 B13.size
        clear o14 hb14 D13 R13 B13
        go_loopw [14, 15, 16, 17, 18] (fun s14 _ _ _ _ wr => ∃ j : Nat, s14 = .int .i64 j ∧ j ≤ N ∧ Hid (DiskAt wr F d k) ∧ Hid (RefAt wr G rd k) ∧ Hid (Below W.heap.size W wr) ∧ Hid (wr.ownsRow W.heap.size 9 1 (.slice a14 N c14) N (List.replicate j (.string ⟨#[]⟩) ++ (nv ns).drop j))) (fun s14 _ _ _ _ _ => N - (intOf s14).toNat)
        case atStart => exact ⟨0, rfl, by omega, D14, R14, B14, o14'⟩
        case round =>
          clear D14 R14 B14 o14'
          obtain ⟨j, rfl, hjN, HD, HRf, HBl, HOw⟩ := hrel
          by_cases hjlt : j < N
          · have hcj : (j : Int) < (N : Int) := by omega
            have hj0 : (0 : Int) ≤ (j : Int) := by omega
            obtain ⟨x, hx⟩ : ∃ x, ns[j]? = some x := ⟨_, List.getElem?_eq_getElem (by rw [HN.out]; exact hjlt)⟩
            have hnvl : (nv ns).length = N := by unfold nv; rw [List.length_map, HN.out]
            have hnvj : (nv ns)[j]? = some (.string x) := by unfold nv; rw [List.getElem?_map, hx]; rfl
            have hcl2 : (List.replicate j (Value.string ⟨#[]⟩) ++ (nv ns).drop j)[j]? = some (.string x) := by
              rw [List.getElem?_append_right (by simp), List.length_replicate, Nat.sub_self, List.getElem?_drop, Nat.add_zero]
              exact hnvj
            obtain ⟨g, cg⟩ : ∃ g, a14 = some ⟨g, 0, none⟩ := by
              rcases HOw.out.2 with ⟨_, h0⟩ | ⟨g, cap, cur, h1, _⟩
              · omega
              · cases h1; exact ⟨g, rfl⟩
            subst cg
            have hc := HOw.out.cells (g := g) rfl j _ hcl2
            rw [add_flat, Nat.zero_add] at hc
            have hx64 : x.size ≤ 9223372036854775807 := by
              have hm : x ∈ k.fs.map Prod.fst := by rw [Hns.out]; exact List.mem_of_getElem? hx
              obtain ⟨y, hy, e⟩ := List.mem_map.1 hm
              have := isNm_size (hgd.each y hy).1
              rw [e] at this
              omega
            obtain ⟨P, HP⟩ : ∃ P, Hid (readK k x = P) := ⟨_, rfl⟩
            have hRd := fun w hD => read_any d F k x w hD
            have hRr := fun w hR => refRead_any rd G k x hx64 w hR
            rw [HP.out] at hRd hRr
            have hPb : Bd P.2 := by
              rw [← HP.out]
              rcases readK_first k x with ⟨f, _, _, hl, e⟩ | ⟨_, e⟩
              · rw [e]; exact (look_good hgd hl).2.2
              · rw [e]; exact Bd.nil
            obtain ⟨SS, HSS⟩ : ∃ SS, Hid (strOfNums P.2 = SS) := ⟨_, rfl⟩
            have hsl := hlow g rfl
            have hset : Hid ((List.replicate j (Value.string ⟨#[]⟩) ++ (nv ns).drop j).set j (.string ⟨#[]⟩) = List.replicate (j + 1) (.string ⟨#[]⟩) ++ (nv ns).drop (j + 1)) := by
              show _ = _
              rw [List.set_append_right _ _ (by simp), List.length_replicate, Nat.sub_self, List.drop_eq_getElem_cons (by rw [hnvl]; exact hjlt), List.set_cons_zero, List.replicate_succ']
              simp
            clear hcl2 hnvj hx
            go_upto_region 22 with (first
              | (go_at_call 18; refine (hRd _ HD.out).mono ?_; rintro e w15 ⟨v15, rfl, o15, hb15⟩; obtain ⟨a15, c15, rfl, r15⟩ := Rd.ofOwn o15 hPb))
            have hc15 := (hb15.cell (p := ⟨g, j, none⟩) (World.block_lt_of_cell? wr _ hc)).trans hc
            go_upto_region 23 with (first
              | (go_at_call 25; refine (hRr _ (HRf.out.below hb15)).mono ?_; rintro e w16 ⟨v16, rfl, o16, hb16⟩; obtain ⟨a16, c16, rfl, r16⟩ := Rd.ofOwn o16 hPb))
            have hbb := hb15.trans (hb16.mono hb15.size)
            have s15 := (r15.carry (Nat.le_refl _) hb16).string
            have s16 := r16.string
            rw [HSS.out] at s15 s16
            have o17 := own_keep (S := fun _ => False) HOw.out (Keep.ofBelow hbb) (fun _ _ h => h)
            have D17 := HD.out.below hbb
            have R17 := HRf.out.below hbb
            have B17 := HBl.out.trans (hbb.mono HBl.out.size)
            obtain ⟨cur17, hcur17⟩ := own_blk o17 (g := g) rfl
            have c17 := (hbb.cell (p := ⟨g, j, none⟩) (World.block_lt_of_cell? wr _ hc)).trans hc
            have z17 := Go.Joins.unfrozen_of_block hcur17 j
            have o18 := own_set (i := j) o17 (.string ⟨#[]⟩)
            rw [hset.out] at o18
            clear HD HRf HBl HOw hb15 hb16 hbb r15 r16 o15 o16 hc hc15 hRd hRr o17 hcur17
            go_wp2
            have hkS : Keep (fun q => q = g) w16 (w16.setCell ⟨g, j, none⟩ (.string ⟨#[]⟩)) := (Keep.refl (fun q => q = g) w16).setCell (p := ⟨g, j, none⟩) rfl _
            exact ⟨⟨j + 1, by go_num, by omega, D17.keep hkS (fun q hq e => hsl.1 (by rw [← e]; exact hq)), R17.keep hkS (fun q hq e => hsl.2.1 (by rw [← e]; exact hq)), B17.trans (hkS.low B17.size (fun q e => by rw [e]; exact hsl.2.2)), o18⟩, by simp [intOf]; omega⟩
          · obtain rfl : j = N := by omega
            have hcj : ¬ (j : Int) < (j : Int) := by omega
            have hLs2 := list_any d F k (by omega) wr HD.out
            have hlk : listK k = (0, k.fs.map Prod.fst) := by unfold listK; rw [hoff]; rfl
            rw [hlk] at hLs2
            dsimp only at hLs2
            rw [Hns.out, HN.out] at hLs2
            clear hlk hLs
            go_upto_region 27 with (first
              | (go_at_call 24; refine hLs2.mono ?_; rintro e w20 ⟨v20, rfl, o20, hb20⟩; obtain ⟨a20, c20, rfl, _⟩ := own_formN o20))
            have hRl2 := hRls w20 (HRf.out.below hb20)
            go_upto_region 28 with (first
              | (go_at_call 11; refine hRl2.mono ?_; rintro e w21 ⟨v21, rfl, o21, hb21⟩; obtain ⟨a21, c21, rfl, _⟩ := own_formN o21))
            have o22 := own_keep (S := fun _ => False) o20 (Keep.ofBelow hb21) (fun _ _ h => h)
            have hSm := same_any (.slice a20 j c20) (.slice a21 j c21) ns w21 _ _ (by rw [HN.out]; exact o22) (by rw [HN.out]; exact o21)
            go_wp2_with (first
              | (go_at_call 26; refine hSm.mono ?_; rintro e w22 ⟨rfl, hb22⟩))
            go_ret
            have B20 := HBl.out.trans (hb20.mono HBl.out.size)
            have B21 := B20.trans (hb21.mono B20.size)
            exact ⟨rfl, B21.trans (hb22.mono B21.size)⟩

end Go.Proofs.Ytimfidhehikaiaa
