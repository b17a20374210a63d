/- seglog's lay: a record's form behind the last segment, or in the next one. -/
import Derived.Test.YtikkieaokfailaaGreatDoorLgD
namespace Go.Proofs.YtikkieaokfailaaGreatDoor
open Go.RowKit Go.Joins

def putS (i sz : Nat) (c : Ch) (b : List Int) (dn : Bool) (k : Dk) : Nat × Ch × Bool × Dk :=
  ((stp dn k (appK k (segN c.g i) b)).1, (if (stp dn k (appK k (segN c.g i) b)).1 = 0 then ⟨c.g, i, sz + b.length, true⟩ else c), (stp dn k (appK k (segN c.g i) b)).2)
def layL (most : Nat) (c : Ch) (b : List Int) (dn : Bool) (k : Dk) : Nat × Ch × Bool × Dk :=
  if 0 < c.size ∧ most < c.size + b.length then
    (if (settleL c dn k).1 ≠ 0 then settleL c dn k else putS (max c.cnt 1 + 1) 0 (settleL c dn k).2.1 b (settleL c dn k).2.2.1 (settleL c dn k).2.2.2)
  else putS (max c.cnt 1) c.size c b dn k

theorem putS_eq {i sz : Nat} {c : Ch} {b : List Int} {dn dn' : Bool} {k k' : Dk} {en : Nat} (h : stp dn k (appK k (segN c.g i) b) = (en, dn', k')) : putS i sz c b dn k = (en, (if en = 0 then ⟨c.g, i, sz + b.length, true⟩ else c), dn', k') := by unfold putS; rw [h]
theorem stp_gr (dn : Bool) (k : Dk) (r : Nat × Dk) (h : r.2.steps ≤ k.steps + 1) : (stp dn k r).2.2.steps ≤ k.steps + 1 := by
  unfold stp
  cases dn
  · exact h
  · exact Nat.le_succ _
theorem stp_fl (dn : Bool) (k : Dk) (r : Nat × Dk) (h : r.2.fs.length ≤ k.fs.length + 1) : (stp dn k r).2.2.fs.length ≤ k.fs.length + 1 := by
  unfold stp
  cases dn
  · exact h
  · exact Nat.le_succ _
theorem sync_gr (k : Dk) (s : Nm) : (syncK k s).2.steps ≤ k.steps + 1 ∧ (syncK k s).2.fs.length ≤ k.fs.length + 1 := by
  unfold syncK stepK
  have h1 := pass_steps k
  have h2 := pass_fs k
  split
  · exact ⟨Nat.le_succ _, Nat.le_succ _⟩
  · split
    · exact ⟨Nat.le_succ _, Nat.le_succ _⟩
    · split
      · exact ⟨Nat.le_succ _, Nat.le_succ _⟩
      · split
        · exact ⟨Nat.le_succ _, Nat.le_succ _⟩
        · split
          · exact ⟨h1, by rw [h2]; exact Nat.le_succ _⟩
          · refine ⟨h1, ?_⟩
            show (putL _ _ _).length ≤ _
            rw [← h2]
            exact len_put _ _ _
theorem settle_gr (c : Ch) (dn : Bool) (k : Dk) : (settleL c dn k).2.2.2.steps ≤ k.steps + 1 ∧ (settleL c dn k).2.2.2.fs.length ≤ k.fs.length + 1 ∧ (settleL c dn k).2.1.g = c.g ∧ (settleL c dn k).2.1.cnt = c.cnt := by
  unfold settleL
  split
  · refine ⟨stp_gr _ _ _ (sync_gr _ _).1, stp_fl _ _ _ (sync_gr _ _).2, ?_, ?_⟩
    · dsimp only; split <;> rfl
    · dsimp only; split <;> rfl
  · exact ⟨Nat.le_succ _, Nat.le_succ _, rfl, rfl⟩

theorem Pf.next3 {w w' : World} {F F' : Nat → Prop} {lb b : Nat} (h : Pf w F lb) (hb : 0 < b) (hk : Keep (fun i => F i ∨ i = lb ∨ i = b) w w') (hF : ∀ i, F' i → F i ∨ w.heap.size ≤ i) : Pf w' F' lb := by
  refine ⟨h.pw.keep hk (fun hs => ?_), fun i hi => ?_, h.ll⟩
  · rcases hs with hs | hs | hs
    · have := h.fl _ hs; omega
    · have := h.ll; omega
    · omega
  · rcases hF i hi with h1 | h1
    · exact h.fl i h1
    · have := h.pw.at; omega

set_option maxHeartbeats 4000000 in
set_option maxRecDepth 100000 in
theorem lay_any (w : World) (F : Nat → Prop) (lb d most : Nat) (v : Value) (dn : Bool) (k : Dk) (b off : Nat) (c0 c : Ch) (h : LC w F lb d most v dn k b off c0 c) (hP : Pf w F lb) (hPb : 0 < b) (hg : c.g < 18446744073709551616) (hi : c.cnt ≤ 1000000000000) (hz : c.size ≤ 1000000000000) (hmo : most ≤ 1000000000000) (hst : k.steps < 999999) (hfl : k.fs.length < 999999)
    (a : Option Addr) (n cc : Nat) (xs : List Int) (hR : Rd w a n cc xs) (hn : n ≤ 1048576) :
    Calls Tryz.prog 65 #[.pointer (some ⟨lb, 0, none⟩), .pointer (some ⟨b, off, none⟩), .slice a n cc] w fun e w' => Gs (layL most c (formL xs) dn k).1 e ∧ Lcp w F lb d most v (layL most c (formL xs) dn k).2.2.1 (layL most c (formL xs) dn k).2.2.2 b off c0 (layL most c (formL xs) dn k).2.1 w' := by
  have hfo := form_any a n cc xs w hR hn
  have hlen := formL_len xs
  rw [hR.len] at hlen
  have HYb : Hid (Bd (formL xs)) := by
    show Bd (formL xs)
    unfold formL
    exact ((bigL_bd _ _).append (bigL_bd _ _)).append hR.bytes
  obtain ⟨Y, HY⟩ : ∃ Y, Hid (formL xs = Y) := ⟨_, rfl⟩
  rw [HY.out] at hfo hlen HYb ⊢
  obtain ⟨M, HM⟩ : ∃ M, Hid (8 + n = M) := ⟨_, rfl⟩
  rw [HM.out] at hfo hlen
  obtain ⟨R, HR⟩ : ∃ R, Hid (layL most c Y dn k = R) := ⟨_, rfl⟩
  rw [HR.out]
  obtain ⟨eR, cR, dnR, kR⟩ := R
  dsimp only
  have hM9 : M ≤ 1048584 := by have := HM.out; omega
  obtain ⟨I, HI⟩ : ∃ I, Hid (max c.cnt 1 = I) := ⟨_, rfl⟩
  have hIe : max (c.cnt : Int) 1 = (I : Int) := by rw [← HI.out]; omega
  have hI9 : I ≤ 1000000000001 := by have := HI.out; omega
  have hmx := fun (w : World) (ty : TypeId) => max_int (c.cnt : Int) 1 ty w
  rw [hIe] at hmx
  go_enter Tryz.func65, Tryz.ntmps65
  go_upto_region 1 with (first
    | (go_at_call 101; refine hfo.mono ?_; rintro e w5 ⟨v5, rfl, o5, hb5⟩))
  obtain ⟨a5, c5, rfl, r5⟩ := Rd.ofOwn o5 HYb.out
  have hl5 : ∀ ad, a5 = some ad → w.heap.size ≤ ad.block := fun ad had => by
    obtain ⟨ap, cp, e8, hob8⟩ := own_form o5
    exact (o5.lt ad.block (by rw [had]; cases ap with | none => (rw [had] at e8; cases e8) | some g => (rw [had] at e8; cases e8; rfl))).1
  have h5 := h.below hb5
  have hP5 := hP.below hb5
  refine wp_region_lx (fun w' => w' = w5.drew) [] 11 (by kernel_rfl) (by kernel_rfl) ?_
  have hbd : Below w5.heap.size w5 w5.drew := (Below.refl _ _).drew
  have r6 := r5.carry (Nat.le_refl _) hbd
  have h6 := h5.below hbd
  have hP6 := hP5.below hbd
  have hb6 : Below w.heap.size w w5.drew := hb5.drew
  clear h5 hP5 r5 o5 hb5 hbd
  generalize w5.drew = X at *
  have p1 : X.cell? ⟨b, off + 1, none⟩ = some (.int .i64 (c.cnt : Int)) := h6.cell 1 (by omega)
  have p2 : X.cell? ⟨b, off + 2, none⟩ = some (.int .i64 (c.size : Int)) := h6.cell 2 (by omega)
  have p9 := h6.L.c1
  have HSx : X = X := rfl
  refine lx_rd 0 ?va0 (by kernel_rfl) (fun _ _ d _ _ h => by cases d <;> exact h) (by kernel_rfl) HSx rfl rfl rfl (fun w' hS => ?ha0) ?_
  case ha0 => first | (go_simp; rfl) | go_simp
  simp only [List.setIfInBounds_toArray, List.set_cons_zero, List.set_cons_succ]
  refine lx_rd 1 (.pointer (some ⟨b, off, none⟩)) (by kernel_rfl) (fun _ _ d _ _ h => by cases d <;> exact h) (by kernel_rfl) HSx rfl rfl rfl (fun w' hS => ?ha1) ?_
  case ha1 => first | (go_simp; rfl) | go_simp
  simp only [List.setIfInBounds_toArray, List.set_cons_zero, List.set_cons_succ]
  refine lx_rd 2 (.pointer (some ⟨b, off + 1, none⟩)) (by kernel_rfl) (fun _ _ d _ _ h => by cases d <;> exact h) (by kernel_rfl) HSx rfl rfl rfl (fun w' hS => ?ha2) ?_
  case ha2 => first | (go_simp; rfl) | go_simp
  simp only [List.setIfInBounds_toArray, List.set_cons_zero, List.set_cons_succ]
  refine lx_rd 3 (.int .i64 (c.cnt : Int)) (by kernel_rfl) (fun _ _ d _ _ h => by cases d <;> exact h) (by kernel_rfl) HSx rfl rfl rfl (fun w' hS => ?ha3) ?_
  case ha3 => subst hS; first | (go_simp; rfl) | go_simp
  simp only [List.setIfInBounds_toArray, List.set_cons_zero, List.set_cons_succ]
  refine lx_rd 4 (.int .i64 (I : Int)) (by kernel_rfl) (fun _ _ d _ _ h => by cases d <;> exact h) (by kernel_rfl) HSx rfl rfl rfl (fun w' hS => ?ha4) ?_
  case ha4 => first | (go_simp; rfl) | go_simp
  simp only [List.setIfInBounds_toArray, List.set_cons_zero, List.set_cons_succ]
  refine lx_rd 5 ?va5 (by kernel_rfl) (fun _ _ d _ _ h => by cases d <;> exact h) (by kernel_rfl) HSx rfl rfl rfl (fun w' hS => ?ha5) ?_
  case ha5 => first | (go_simp; rfl) | go_simp
  simp only [List.setIfInBounds_toArray, List.set_cons_zero, List.set_cons_succ]
  refine lx_rd 6 (.pointer (some ⟨b, off, none⟩)) (by kernel_rfl) (fun _ _ d _ _ h => by cases d <;> exact h) (by kernel_rfl) HSx rfl rfl rfl (fun w' hS => ?ha6) ?_
  case ha6 => first | (go_simp; rfl) | go_simp
  simp only [List.setIfInBounds_toArray, List.set_cons_zero, List.set_cons_succ]
  refine lx_rd 7 (.pointer (some ⟨b, off + 2, none⟩)) (by kernel_rfl) (fun _ _ d _ _ h => by cases d <;> exact h) (by kernel_rfl) HSx rfl rfl rfl (fun w' hS => ?ha7) ?_
  case ha7 => first | (go_simp; rfl) | go_simp
  simp only [List.setIfInBounds_toArray, List.set_cons_zero, List.set_cons_succ]
  refine lx_rd 8 (.int .i64 (c.size : Int)) (by kernel_rfl) (fun _ _ d _ _ h => by cases d <;> exact h) (by kernel_rfl) HSx rfl rfl rfl (fun w' hS => ?ha8) ?_
  case ha8 => subst hS; first | (go_simp; rfl) | go_simp
  simp only [List.setIfInBounds_toArray, List.set_cons_zero, List.set_cons_succ]
  refine lx_rd 9 ?va9 (by kernel_rfl) (fun _ _ d _ _ h => by cases d <;> exact h) (by kernel_rfl) HSx rfl rfl rfl (fun w' hS => ?ha9) ?_
  case ha9 => first | (go_simp; rfl) | go_simp
  simp only [List.setIfInBounds_toArray, List.set_cons_zero, List.set_cons_succ]
  refine lx_rd 10 ?va10 (by kernel_rfl) (fun _ _ d _ _ h => by cases d <;> exact h) (by kernel_rfl) HSx rfl rfl rfl (fun w' hS => ?ha10) ?_
  case ha10 => first | (go_simp; rfl) | go_simp
  simp only [List.setIfInBounds_toArray, List.set_cons_zero, List.set_cons_succ]
  refine lx_nil (by kernel_rfl) ?_
  have kp6 : Keep (fun i => F i ∨ i = lb ∨ i = b) w X := Keep.ofBelow hb6
  clear hmx HSx
  by_cases hfull : 0 < c.size ∧ most < c.size + M
  · have hEq0 : layL most c Y dn k = if (settleL c dn k).1 ≠ 0 then settleL c dn k else putS (I + 1) 0 (settleL c dn k).2.1 Y (settleL c dn k).2.2.1 (settleL c dn k).2.2.2 := by
      unfold layL
      rw [if_pos (by rw [hlen]; exact hfull), HI.out]
    have hse := settle_any X F lb d most v dn k b off c0 c h6 hP6 hg (by omega) (by omega) (by omega)
    obtain ⟨gr1, gr2, gr3, gr4⟩ := settle_gr c dn k
    obtain ⟨Q, HQ⟩ : ∃ Q, Hid (settleL c dn k = Q) := ⟨_, rfl⟩
    rw [HQ.out] at hse gr1 gr2 gr3 gr4 hEq0
    obtain ⟨eq, c1, dn1, k1⟩ := Q
    dsimp only at hse gr1 gr2 gr3 gr4 hEq0
    have hz1 : (0 : Int) < (c.size : Int) := by omega
    have hz2 : (most : Int) < (c.size : Int) + (M : Int) := by omega
    clear hfull
    by_cases hq0 : eq = 0
    · subst hq0
      rw [if_neg (by simp)] at hEq0
      have hEq : Hid (layL most c Y dn k = putS (I + 1) 0 c1 Y dn1 k1) := hEq0
      clear hEq0
      go_upto_region 5 with (first
        | (go_at_call 68; refine (hse.mono (fun e w' h => And.intro (h.1.elim (fun k => k.2) (fun k => absurd rfl k.1)) h.2 : ∀ e w', _ → (e = .returned (.tuple #[]) ∧ _))).mono ?_; rintro e w4 ⟨rfl, F4, hL4, hk4, hF4⟩))
      have kp4 : Keep (fun i => F i ∨ i = lb ∨ i = b) w w4 := kp6.trans hk4
      have hF40 : ∀ i, F4 i → F i ∨ w.heap.size ≤ i := fun i hi => (hF4 i hi).imp id (fun h => Nat.le_trans hb6.size h)
      have hP4 : Pf w4 F4 lb := hP6.next3 hPb hk4 hF4
      have r4 : Rd w4 a5 M c5 Y := r6.keep hk4 (fun ad had hs => by
        have h1 := hl5 ad had
        rcases hs with hs | hs | hs
        · have := h.L.D.lt _ hs; omega
        · have := h.L.lt; omega
        · have := h.ltb; omega)
      have hI1 : ((I + 1 : Nat) : Int) = (I : Int) + 1 := by omega
      clear hse hk4 hF4 h6 hP6 r6 p1 p2 p9 hz1 hz2
      have hsgu := segment_any b off c1.g (I + 1) (by rw [gr3]; exact hg) (by omega) w4 hP4.pw (hL4.cell 0 (by omega))
      obtain ⟨s, Hs⟩ : ∃ s, Hid (segN c1.g (I + 1) = s) := ⟨_, rfl⟩
      rw [Hs.out] at hsgu
      rw [hI1] at hsgu
      have hwru := fun w' (hb : Below w4.heap.size w4 w') => swrite_any lb d most F4 v _ dn1 k1 s a5 M c5 Y (by omega) (by omega) (by omega) w' (hL4.L.below hb) (r4.carry (Nat.le_refl _) hb)
      obtain ⟨P, HP⟩ : ∃ P, Hid (stp dn1 k1 (appK k1 s Y) = P) := ⟨_, rfl⟩
      simp only [HP.out] at hwru
      obtain ⟨en, dn', k'⟩ := P
      dsimp only at hwru
      have hpp : stp dn1 k1 (appK k1 (segN c1.g (I + 1)) Y) = (en, dn', k') := by rw [Hs.out]; exact HP.out
      have hpe : Hid (layL most c Y dn k = (en, (if en = 0 then ⟨c1.g, (I + 1), 0 + M, true⟩ else c1), dn', k')) := by
        show _ = _
        rw [hEq.out, putS_eq hpp, hlen]
      clear hpp
      have hfinu : ∀ w1 w2, Below w4.heap.size w4 w1 → Lp w1 F4 lb d most v (if b = lb then c1 else c0) dn' k' w2 → Lcp w F lb d most v dn' k' b off c0 c1 w2 := fun w1 w2 hb hp => Lcp.next kp4 hF40 (((hL4.below hb).step hp).from hb)
      by_cases h0 : en = 0
      · subst h0
        have hres := HR.out.symm.trans hpe.out
        rw [if_pos rfl] at hres
        simp only [Prod.mk.injEq] at hres
        obtain ⟨e1, e2, e3, e4⟩ := hres
        subst eR cR dnR kR
        clear hpe HR
        go_wp2_with (first
          | (go_at_call 103; refine hsgu.mono ?_; rintro e w7 ⟨rfl, hb7⟩)
          | (go_at_call 102; refine ((hwru w7 hb7).mono (fun e w' h => And.intro (h.1.elim (fun k => k.2) (fun k => absurd rfl k.1)) h.2 : ∀ e w', _ → (e = .returned (.tuple #[]) ∧ _))).mono ?_; rintro e w8 ⟨rfl, hp⟩; obtain ⟨F8, hL8, hk8, hF8⟩ := hfinu w7 w8 hb7 hp; have p1 : w8.cell? ⟨b, off + 1, none⟩ = some (.int .i64 (c1.cnt : Int)) := hL8.cell 1 (by omega); have z1 := hL8.fz (off + 1); have hL9 := hL8.set 1 (.int .i64 ((I : Int) + 1)) (c' := ⟨c1.g, (I + 1), c1.size, c1.loose⟩) rfl rfl; have p2 : (w8.setCell ⟨b, off + 1, none⟩ (.int .i64 ((I : Int) + 1))).cell? ⟨b, off + 2, none⟩ = some (.int .i64 (c1.size : Int)) := hL9.cell 2 (by omega); have z2 := hL9.fz (off + 2); have hL10 := hL9.set 2 (.int .i64 ((M : Int))) (c' := ⟨c1.g, (I + 1), 0 + M, c1.loose⟩) (by rw [Nat.zero_add]; rfl) (by rw [Nat.zero_add]; rfl); have p3 : ((w8.setCell ⟨b, off + 1, none⟩ (.int .i64 ((I : Int) + 1))).setCell ⟨b, off + 2, none⟩ (.int .i64 ((M : Int)))).cell? ⟨b, off + 3, none⟩ = some (.bool c1.loose) := hL10.cell 3 (by omega); have z3 := hL10.fz (off + 3)))
        go_end0
        refine ⟨Or.inl ⟨rfl, rfl⟩, F8, hL10.set 3 _ rfl rfl, ?_, hF8⟩
        exact ((hk8.setCell (p := ⟨b, off + 1, none⟩) (Or.inr (Or.inr rfl)) _).setCell (p := ⟨b, off + 2, none⟩) (Or.inr (Or.inr rfl)) _).setCell (p := ⟨b, off + 3, none⟩) (Or.inr (Or.inr rfl)) _
      · have hres := HR.out.symm.trans hpe.out
        rw [if_neg h0] at hres
        simp only [Prod.mk.injEq] at hres
        obtain ⟨e1, e2, e3, e4⟩ := hres
        subst eR cR dnR kR
        clear hpe HR
        go_wp2_with (first
          | (go_at_call 103; refine hsgu.mono ?_; rintro e w7 ⟨rfl, hb7⟩)
          | (go_at_call 102; refine ((hwru w7 hb7).mono (fun e w' h => And.intro (h.1.elim (fun k => absurd k.1 h0) (fun k => k.2)) h.2 : ∀ e w', _ → (e = .panicked (gaveS en) ∧ _))).mono ?_; rintro e w8 ⟨rfl, hp⟩))
        exact ⟨rfl, gs_no h0 rfl, hfinu w7 w8 hb7 hp⟩
    · rw [if_pos hq0] at hEq0
      have hres := HR.out.symm.trans hEq0
      simp only [Prod.mk.injEq] at hres
      obtain ⟨e1, e2, e3, e4⟩ := hres
      subst eR cR dnR kR
      clear hEq0 HR
      go_wp2_with (first
        | (go_at_call 68; refine (hse.mono (fun e w' h => And.intro (h.1.elim (fun k => absurd k.1 hq0) (fun k => k.2)) h.2 : ∀ e w', _ → (e = .panicked (gaveS eq) ∧ _))).mono ?_; rintro e w4 ⟨rfl, hp4⟩))
      exact ⟨rfl, gs_no hq0 rfl, Lcp.next kp6 (fun i hi => Or.inl hi) hp4⟩
  · have hEq : Hid (layL most c Y dn k = putS I c.size c Y dn k) := by
      show _ = _
      unfold layL
      rw [if_neg (by rw [hlen]; exact hfull), HI.out]
    have hF60 : ∀ i, F i → F i ∨ w.heap.size ≤ i := fun i hi => Or.inl hi
    by_cases hz0 : 0 < c.size
    · have hz1 : (0 : Int) < (c.size : Int) := by omega
      have hz2 : ¬ (most : Int) < (c.size : Int) + (M : Int) := by omega
      clear hfull p1 p2
      go_upto_region 5 with fail
      have hsgv := segment_any b off c.g I hg (by omega) X hP6.pw (h6.cell 0 (by omega))
      obtain ⟨s, Hs⟩ : ∃ s, Hid (segN c.g I = s) := ⟨_, rfl⟩
      rw [Hs.out] at hsgv
      have hwrv := fun w' (hb : Below X.heap.size X w') => swrite_any lb d most F v _ dn k s a5 M c5 Y (by omega) (by omega) (by omega) w' (h6.L.below hb) (r6.carry (Nat.le_refl _) hb)
      obtain ⟨P, HP⟩ : ∃ P, Hid (stp dn k (appK k s Y) = P) := ⟨_, rfl⟩
      simp only [HP.out] at hwrv
      obtain ⟨en, dn', k'⟩ := P
      dsimp only at hwrv
      have hpp : stp dn k (appK k (segN c.g I) Y) = (en, dn', k') := by rw [Hs.out]; exact HP.out
      have hpe : Hid (layL most c Y dn k = (en, (if en = 0 then ⟨c.g, I, c.size + M, true⟩ else c), dn', k')) := by
        show _ = _
        rw [hEq.out, putS_eq hpp, hlen]
      clear hpp
      have hfinv : ∀ w1 w2, Below X.heap.size X w1 → Lp w1 F lb d most v (if b = lb then c else c0) dn' k' w2 → Lcp w F lb d most v dn' k' b off c0 c w2 := fun w1 w2 hb hp => Lcp.next kp6 hF60 (((h6.below hb).step hp).from hb)
      by_cases h0 : en = 0
      · subst h0
        have hres := HR.out.symm.trans hpe.out
        rw [if_pos rfl] at hres
        simp only [Prod.mk.injEq] at hres
        obtain ⟨e1, e2, e3, e4⟩ := hres
        subst eR cR dnR kR
        clear hpe HR
        go_wp2_with (first
          | (go_at_call 103; refine hsgv.mono ?_; rintro e w7 ⟨rfl, hb7⟩)
          | (go_at_call 102; refine ((hwrv w7 hb7).mono (fun e w' h => And.intro (h.1.elim (fun k => k.2) (fun k => absurd rfl k.1)) h.2 : ∀ e w', _ → (e = .returned (.tuple #[]) ∧ _))).mono ?_; rintro e w8 ⟨rfl, hp⟩; obtain ⟨F8, hL8, hk8, hF8⟩ := hfinv w7 w8 hb7 hp; have p1 : w8.cell? ⟨b, off + 1, none⟩ = some (.int .i64 (c.cnt : Int)) := hL8.cell 1 (by omega); have z1 := hL8.fz (off + 1); have hL9 := hL8.set 1 (.int .i64 ((I : Int))) (c' := ⟨c.g, I, c.size, c.loose⟩) rfl rfl; have p2 : (w8.setCell ⟨b, off + 1, none⟩ (.int .i64 ((I : Int)))).cell? ⟨b, off + 2, none⟩ = some (.int .i64 (c.size : Int)) := hL9.cell 2 (by omega); have z2 := hL9.fz (off + 2); have hL10 := hL9.set 2 (.int .i64 ((c.size : Int) + (M : Int))) (c' := ⟨c.g, I, c.size + M, c.loose⟩) (by rw [← Int.natCast_add]; rfl) (by rw [← Int.natCast_add]; rfl); have p3 : ((w8.setCell ⟨b, off + 1, none⟩ (.int .i64 ((I : Int)))).setCell ⟨b, off + 2, none⟩ (.int .i64 ((c.size : Int) + (M : Int)))).cell? ⟨b, off + 3, none⟩ = some (.bool c.loose) := hL10.cell 3 (by omega); have z3 := hL10.fz (off + 3)))
        go_end0
        refine ⟨Or.inl ⟨rfl, rfl⟩, F8, hL10.set 3 _ rfl rfl, ?_, hF8⟩
        exact ((hk8.setCell (p := ⟨b, off + 1, none⟩) (Or.inr (Or.inr rfl)) _).setCell (p := ⟨b, off + 2, none⟩) (Or.inr (Or.inr rfl)) _).setCell (p := ⟨b, off + 3, none⟩) (Or.inr (Or.inr rfl)) _
      · have hres := HR.out.symm.trans hpe.out
        rw [if_neg h0] at hres
        simp only [Prod.mk.injEq] at hres
        obtain ⟨e1, e2, e3, e4⟩ := hres
        subst eR cR dnR kR
        clear hpe HR
        go_wp2_with (first
          | (go_at_call 103; refine hsgv.mono ?_; rintro e w7 ⟨rfl, hb7⟩)
          | (go_at_call 102; refine ((hwrv w7 hb7).mono (fun e w' h => And.intro (h.1.elim (fun k => absurd k.1 h0) (fun k => k.2)) h.2 : ∀ e w', _ → (e = .panicked (gaveS en) ∧ _))).mono ?_; rintro e w8 ⟨rfl, hp⟩))
        exact ⟨rfl, gs_no h0 rfl, hfinv w7 w8 hb7 hp⟩
    · have hz1 : ¬ (0 : Int) < (c.size : Int) := by omega
      clear hfull p1 p2 p9
      go_upto_region 5 with fail
      have hsgx := segment_any b off c.g I hg (by omega) X hP6.pw (h6.cell 0 (by omega))
      obtain ⟨s, Hs⟩ : ∃ s, Hid (segN c.g I = s) := ⟨_, rfl⟩
      rw [Hs.out] at hsgx
      have hwrx := fun w' (hb : Below X.heap.size X w') => swrite_any lb d most F v _ dn k s a5 M c5 Y (by omega) (by omega) (by omega) w' (h6.L.below hb) (r6.carry (Nat.le_refl _) hb)
      obtain ⟨P, HP⟩ : ∃ P, Hid (stp dn k (appK k s Y) = P) := ⟨_, rfl⟩
      simp only [HP.out] at hwrx
      obtain ⟨en, dn', k'⟩ := P
      dsimp only at hwrx
      have hpp : stp dn k (appK k (segN c.g I) Y) = (en, dn', k') := by rw [Hs.out]; exact HP.out
      have hpe : Hid (layL most c Y dn k = (en, (if en = 0 then ⟨c.g, I, c.size + M, true⟩ else c), dn', k')) := by
        show _ = _
        rw [hEq.out, putS_eq hpp, hlen]
      clear hpp
      have hfinx : ∀ w1 w2, Below X.heap.size X w1 → Lp w1 F lb d most v (if b = lb then c else c0) dn' k' w2 → Lcp w F lb d most v dn' k' b off c0 c w2 := fun w1 w2 hb hp => Lcp.next kp6 hF60 (((h6.below hb).step hp).from hb)
      by_cases h0 : en = 0
      · subst h0
        have hres := HR.out.symm.trans hpe.out
        rw [if_pos rfl] at hres
        simp only [Prod.mk.injEq] at hres
        obtain ⟨e1, e2, e3, e4⟩ := hres
        subst eR cR dnR kR
        clear hpe HR
        go_wp2_with (first
          | (go_at_call 103; refine hsgx.mono ?_; rintro e w7 ⟨rfl, hb7⟩)
          | (go_at_call 102; refine ((hwrx w7 hb7).mono (fun e w' h => And.intro (h.1.elim (fun k => k.2) (fun k => absurd rfl k.1)) h.2 : ∀ e w', _ → (e = .returned (.tuple #[]) ∧ _))).mono ?_; rintro e w8 ⟨rfl, hp⟩; obtain ⟨F8, hL8, hk8, hF8⟩ := hfinx w7 w8 hb7 hp; have p1 : w8.cell? ⟨b, off + 1, none⟩ = some (.int .i64 (c.cnt : Int)) := hL8.cell 1 (by omega); have z1 := hL8.fz (off + 1); have hL9 := hL8.set 1 (.int .i64 ((I : Int))) (c' := ⟨c.g, I, c.size, c.loose⟩) rfl rfl; have p2 : (w8.setCell ⟨b, off + 1, none⟩ (.int .i64 ((I : Int)))).cell? ⟨b, off + 2, none⟩ = some (.int .i64 (c.size : Int)) := hL9.cell 2 (by omega); have z2 := hL9.fz (off + 2); have hL10 := hL9.set 2 (.int .i64 ((c.size : Int) + (M : Int))) (c' := ⟨c.g, I, c.size + M, c.loose⟩) (by rw [← Int.natCast_add]; rfl) (by rw [← Int.natCast_add]; rfl); have p3 : ((w8.setCell ⟨b, off + 1, none⟩ (.int .i64 ((I : Int)))).setCell ⟨b, off + 2, none⟩ (.int .i64 ((c.size : Int) + (M : Int)))).cell? ⟨b, off + 3, none⟩ = some (.bool c.loose) := hL10.cell 3 (by omega); have z3 := hL10.fz (off + 3)))
        go_end0
        refine ⟨Or.inl ⟨rfl, rfl⟩, F8, hL10.set 3 _ rfl rfl, ?_, hF8⟩
        exact ((hk8.setCell (p := ⟨b, off + 1, none⟩) (Or.inr (Or.inr rfl)) _).setCell (p := ⟨b, off + 2, none⟩) (Or.inr (Or.inr rfl)) _).setCell (p := ⟨b, off + 3, none⟩) (Or.inr (Or.inr rfl)) _
      · have hres := HR.out.symm.trans hpe.out
        rw [if_neg h0] at hres
        simp only [Prod.mk.injEq] at hres
        obtain ⟨e1, e2, e3, e4⟩ := hres
        subst eR cR dnR kR
        clear hpe HR
        go_wp2_with (first
          | (go_at_call 103; refine hsgx.mono ?_; rintro e w7 ⟨rfl, hb7⟩)
          | (go_at_call 102; refine ((hwrx w7 hb7).mono (fun e w' h => And.intro (h.1.elim (fun k => absurd k.1 h0) (fun k => k.2)) h.2 : ∀ e w', _ → (e = .panicked (gaveS en) ∧ _))).mono ?_; rintro e w8 ⟨rfl, hp⟩))
        exact ⟨rfl, gs_no h0 rfl, hfinx w7 w8 hb7 hp⟩

end Go.Proofs.YtikkieaokfailaaGreatDoor
