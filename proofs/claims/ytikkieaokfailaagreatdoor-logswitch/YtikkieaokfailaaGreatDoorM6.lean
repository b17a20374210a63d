/- Texts of one seat, one behind the other: LgE, LgF, LgG, LgH, DkX, DkY. -/
import Derived.Test.YtikkieaokfailaaGreatDoorM5
import Derived.Test.YtikkieaokfailaaGreatDoorM3
import Derived.WalkKit
import Derived.ProofKit
import Derived.OpenShut
import Derived.ShutString
import Derived.ChangeOld
import Derived.ChangeMaps5
import Derived.Deep.Matrix
import Derived.Deep.DeepHandedRow
/- seglog's lay: a record's form behind the last segment, or in the next one. -/
namespace Go.Proofs.YtikkieaokfailaaGreatDoor
open Go.RowKit Go.Joins

def putS (i sz : Nat) (c : Ch) (b : List Int) (dn : Bool) (k : Dk) : Nat × Ch × Bool × Dk :=
  ((stp dn k (appK k (segN c.g i) b)).1, (if (stp dn k (appK k (segN c.g i) b)).1 = 0 then ⟨c.g, i, sz + b.length, true⟩ else c), (stp dn k (appK k (segN c.g i) b)).2)
def layL (most : Nat) (c : Ch) (b : List Int) (dn : Bool) (k : Dk) : Nat × Ch × Bool × Dk :=
  if 0 < c.size ∧ most < c.size + b.length then
    (if (settleL c dn k).1 ≠ 0 then settleL c dn k else putS (max c.cnt 1 + 1) 0 (settleL c dn k).2.1 b (settleL c dn k).2.2.1 (settleL c dn k).2.2.2)
  else putS (max c.cnt 1) c.size c b dn k

theorem putS_eq {i sz : Nat} {c : Ch} {b : List Int} {dn dn' : Bool} {k k' : Dk} {en : Nat} (h : stp dn k (appK k (segN c.g i) b) = (en, dn', k')) : putS i sz c b dn k = (en, (if en = 0 then ⟨c.g, i, sz + b.length, true⟩ else c), dn', k') := by unfold putS; rw [h]
theorem stp_gr (dn : Bool) (k : Dk) (r : Nat × Dk) (h : r.2.steps ≤ k.steps + 1) : (stp dn k r).2.2.steps ≤ k.steps + 1 := by
  unfold stp
  cases dn
  · exact h
  · exact Nat.le_succ _
theorem stp_fl (dn : Bool) (k : Dk) (r : Nat × Dk) (h : r.2.fs.length ≤ k.fs.length + 1) : (stp dn k r).2.2.fs.length ≤ k.fs.length + 1 := by
  unfold stp
  cases dn
  · exact h
  · exact Nat.le_succ _
theorem sync_gr (k : Dk) (s : Nm) : (syncK k s).2.steps ≤ k.steps + 1 ∧ (syncK k s).2.fs.length ≤ k.fs.length + 1 := by
  unfold syncK stepK
  have h1 := pass_steps k
  have h2 := pass_fs k
  split
  · exact ⟨Nat.le_succ _, Nat.le_succ _⟩
  · split
    · exact ⟨Nat.le_succ _, Nat.le_succ _⟩
    · split
      · exact ⟨Nat.le_succ _, Nat.le_succ _⟩
      · split
        · exact ⟨Nat.le_succ _, Nat.le_succ _⟩
        · split
          · exact ⟨h1, by rw [h2]; exact Nat.le_succ _⟩
          · refine ⟨h1, ?_⟩
            show (putL _ _ _).length ≤ _
            rw [← h2]
            exact len_put _ _ _
theorem settle_gr (c : Ch) (dn : Bool) (k : Dk) : (settleL c dn k).2.2.2.steps ≤ k.steps + 1 ∧ (settleL c dn k).2.2.2.fs.length ≤ k.fs.length + 1 ∧ (settleL c dn k).2.1.g = c.g ∧ (settleL c dn k).2.1.cnt = c.cnt := by
  unfold settleL
  split
  · refine ⟨stp_gr _ _ _ (sync_gr _ _).1, stp_fl _ _ _ (sync_gr _ _).2, ?_, ?_⟩
    · dsimp only; split <;> rfl
    · dsimp only; split <;> rfl
  · exact ⟨Nat.le_succ _, Nat.le_succ _, rfl, rfl⟩

theorem Pf.next3 {w w' : World} {F F' : Nat → Prop} {lb b : Nat} (h : Pf w F lb) (hb : 0 < b) (hk : Keep (fun i => F i ∨ i = lb ∨ i = b) w w') (hF : ∀ i, F' i → F i ∨ w.heap.size ≤ i) : Pf w' F' lb := by
  refine ⟨h.pw.keep hk (fun hs => ?_), fun i hi => ?_, h.ll⟩
  · rcases hs with hs | hs | hs
    · have := h.fl _ hs; omega
    · have := h.ll; omega
    · omega
  · rcases hF i hi with h1 | h1
    · exact h.fl i h1
    · have := h.pw.at; omega

set_option maxHeartbeats 4000000 in
set_option maxRecDepth 100000 in
theorem lay_any (w : World) (F : Nat → Prop) (lb d most : Nat) (v : Value) (dn : Bool) (k : Dk) (b off : Nat) (c0 c : Ch) (h : LC w F lb d most v dn k b off c0 c) (hP : Pf w F lb) (hPb : 0 < b) (hg : c.g < 18446744073709551616) (hi : c.cnt ≤ 1000000000000) (hz : c.size ≤ 1000000000000) (hmo : most ≤ 1000000000000) (hst : k.steps < 999999) (hfl : k.fs.length < 999999)
    (a : Option Addr) (n cc : Nat) (xs : List Int) (hR : Rd w a n cc xs) (hn : n ≤ 1048576) :
    Calls Tryz.prog 65 #[.pointer (some ⟨lb, 0, none⟩), .pointer (some ⟨b, off, none⟩), .slice a n cc] w fun e w' => Gs (layL most c (formL xs) dn k).1 e ∧ Lcp w F lb d most v (layL most c (formL xs) dn k).2.2.1 (layL most c (formL xs) dn k).2.2.2 b off c0 (layL most c (formL xs) dn k).2.1 w' := by
  have hfo := form_any a n cc xs w hR hn
  have hlen := formL_len xs
  rw [hR.len] at hlen
  have HYb : Hid (Bd (formL xs)) := by
    show Bd (formL xs)
    unfold formL
    exact ((bigL_bd _ _).append (bigL_bd _ _)).append hR.bytes
  obtain ⟨Y, HY⟩ : ∃ Y, Hid (formL xs = Y) := ⟨_, rfl⟩
  rw [HY.out] at hfo hlen HYb ⊢
  obtain ⟨M, HM⟩ : ∃ M, Hid (8 + n = M) := ⟨_, rfl⟩
  rw [HM.out] at hfo hlen
  obtain ⟨R, HR⟩ : ∃ R, Hid (layL most c Y dn k = R) := ⟨_, rfl⟩
  rw [HR.out]
  obtain ⟨eR, cR, dnR, kR⟩ := R
  dsimp only
  have hM9 : M ≤ 1048584 := by have := HM.out; omega
  obtain ⟨I, HI⟩ : ∃ I, Hid (max c.cnt 1 = I) := ⟨_, rfl⟩
  have hIe : max (c.cnt : Int) 1 = (I : Int) := by rw [← HI.out]; omega
  have hI9 : I ≤ 1000000000001 := by have := HI.out; omega
  have hmx := fun (w : World) (ty : TypeId) => max_int (c.cnt : Int) 1 ty w
  rw [hIe] at hmx
  go_enter Tryz.func65, Tryz.ntmps65
  go_upto_region 1 with (first
    | (go_at_call 101; refine hfo.mono ?_; rintro e w5 ⟨v5, rfl, o5, hb5⟩))
  obtain ⟨a5, c5, rfl, r5⟩ := Rd.ofOwn o5 HYb.out
  have hl5 : ∀ ad, a5 = some ad → w.heap.size ≤ ad.block := fun ad had => by
    obtain ⟨ap, cp, e8, hob8⟩ := own_form o5
    exact (o5.lt ad.block (by rw [had]; cases ap with | none => (rw [had] at e8; cases e8) | some g => (rw [had] at e8; cases e8; rfl))).1
  have h5 := h.below hb5
  have hP5 := hP.below hb5
  refine wp_region_lx (fun w' => w' = w5.drew) [] 11 (by kernel_rfl) (by kernel_rfl) ?_
  have hbd : Below w5.heap.size w5 w5.drew := (Below.refl _ _).drew
  have r6 := r5.carry (Nat.le_refl _) hbd
  have h6 := h5.below hbd
  have hP6 := hP5.below hbd
  have hb6 : Below w.heap.size w w5.drew := hb5.drew
  clear h5 hP5 r5 o5 hb5 hbd
  generalize w5.drew = X at *
  have p1 : X.cell? ⟨b, off + 1, none⟩ = some (.int .i64 (c.cnt : Int)) := h6.cell 1 (by omega)
  have p2 : X.cell? ⟨b, off + 2, none⟩ = some (.int .i64 (c.size : Int)) := h6.cell 2 (by omega)
  have p9 := h6.L.c1
  have HSx : X = X := rfl
  refine lx_rd 0 ?va0 (by kernel_rfl) (fun _ _ d _ _ h => by cases d <;> exact h) (by kernel_rfl) HSx rfl rfl rfl (fun w' hS => ?ha0) ?_
  case ha0 => first | (go_simp; rfl) | go_simp
  simp only [List.setIfInBounds_toArray, List.set_cons_zero, List.set_cons_succ]
  refine lx_rd 1 (.pointer (some ⟨b, off, none⟩)) (by kernel_rfl) (fun _ _ d _ _ h => by cases d <;> exact h) (by kernel_rfl) HSx rfl rfl rfl (fun w' hS => ?ha1) ?_
  case ha1 => first | (go_simp; rfl) | go_simp
  simp only [List.setIfInBounds_toArray, List.set_cons_zero, List.set_cons_succ]
  refine lx_rd 2 (.pointer (some ⟨b, off + 1, none⟩)) (by kernel_rfl) (fun _ _ d _ _ h => by cases d <;> exact h) (by kernel_rfl) HSx rfl rfl rfl (fun w' hS => ?ha2) ?_
  case ha2 => first | (go_simp; rfl) | go_simp
  simp only [List.setIfInBounds_toArray, List.set_cons_zero, List.set_cons_succ]
  refine lx_rd 3 (.int .i64 (c.cnt : Int)) (by kernel_rfl) (fun _ _ d _ _ h => by cases d <;> exact h) (by kernel_rfl) HSx rfl rfl rfl (fun w' hS => ?ha3) ?_
  case ha3 => subst hS; first | (go_simp; rfl) | go_simp
  simp only [List.setIfInBounds_toArray, List.set_cons_zero, List.set_cons_succ]
  refine lx_rd 4 (.int .i64 (I : Int)) (by kernel_rfl) (fun _ _ d _ _ h => by cases d <;> exact h) (by kernel_rfl) HSx rfl rfl rfl (fun w' hS => ?ha4) ?_
  case ha4 => first | (go_simp; rfl) | go_simp
  simp only [List.setIfInBounds_toArray, List.set_cons_zero, List.set_cons_succ]
  refine lx_rd 5 ?va5 (by kernel_rfl) (fun _ _ d _ _ h => by cases d <;> exact h) (by kernel_rfl) HSx rfl rfl rfl (fun w' hS => ?ha5) ?_
  case ha5 => first | (go_simp; rfl) | go_simp
  simp only [List.setIfInBounds_toArray, List.set_cons_zero, List.set_cons_succ]
  refine lx_rd 6 (.pointer (some ⟨b, off, none⟩)) (by kernel_rfl) (fun _ _ d _ _ h => by cases d <;> exact h) (by kernel_rfl) HSx rfl rfl rfl (fun w' hS => ?ha6) ?_
  case ha6 => first | (go_simp; rfl) | go_simp
  simp only [List.setIfInBounds_toArray, List.set_cons_zero, List.set_cons_succ]
  refine lx_rd 7 (.pointer (some ⟨b, off + 2, none⟩)) (by kernel_rfl) (fun _ _ d _ _ h => by cases d <;> exact h) (by kernel_rfl) HSx rfl rfl rfl (fun w' hS => ?ha7) ?_
  case ha7 => first | (go_simp; rfl) | go_simp
  simp only [List.setIfInBounds_toArray, List.set_cons_zero, List.set_cons_succ]
  refine lx_rd 8 (.int .i64 (c.size : Int)) (by kernel_rfl) (fun _ _ d _ _ h => by cases d <;> exact h) (by kernel_rfl) HSx rfl rfl rfl (fun w' hS => ?ha8) ?_
  case ha8 => subst hS; first | (go_simp; rfl) | go_simp
  simp only [List.setIfInBounds_toArray, List.set_cons_zero, List.set_cons_succ]
  refine lx_rd 9 ?va9 (by kernel_rfl) (fun _ _ d _ _ h => by cases d <;> exact h) (by kernel_rfl) HSx rfl rfl rfl (fun w' hS => ?ha9) ?_
  case ha9 => first | (go_simp; rfl) | go_simp
  simp only [List.setIfInBounds_toArray, List.set_cons_zero, List.set_cons_succ]
  refine lx_rd 10 ?va10 (by kernel_rfl) (fun _ _ d _ _ h => by cases d <;> exact h) (by kernel_rfl) HSx rfl rfl rfl (fun w' hS => ?ha10) ?_
  case ha10 => first | (go_simp; rfl) | go_simp
  simp only [List.setIfInBounds_toArray, List.set_cons_zero, List.set_cons_succ]
  refine lx_nil (by kernel_rfl) ?_
  have kp6 : Keep (fun i => F i ∨ i = lb ∨ i = b) w X := Keep.ofBelow hb6
  clear hmx HSx
  by_cases hfull : 0 < c.size ∧ most < c.size + M
  · have hEq0 : layL most c Y dn k = if (settleL c dn k).1 ≠ 0 then settleL c dn k else putS (I + 1) 0 (settleL c dn k).2.1 Y (settleL c dn k).2.2.1 (settleL c dn k).2.2.2 := by
      unfold layL
      rw [if_pos (by rw [hlen]; exact hfull), HI.out]
    have hse := settle_any X F lb d most v dn k b off c0 c h6 hP6 hg (by omega) (by omega) (by omega)
    obtain ⟨gr1, gr2, gr3, gr4⟩ := settle_gr c dn k
    obtain ⟨Q, HQ⟩ : ∃ Q, Hid (settleL c dn k = Q) := ⟨_, rfl⟩
    rw [HQ.out] at hse gr1 gr2 gr3 gr4 hEq0
    obtain ⟨eq, c1, dn1, k1⟩ := Q
    dsimp only at hse gr1 gr2 gr3 gr4 hEq0
    have hz1 : (0 : Int) < (c.size : Int) := by omega
    have hz2 : (most : Int) < (c.size : Int) + (M : Int) := by omega
    clear hfull
    by_cases hq0 : eq = 0
    · subst hq0
      rw [if_neg (by simp)] at hEq0
      have hEq : Hid (layL most c Y dn k = putS (I + 1) 0 c1 Y dn1 k1) := hEq0
      clear hEq0
      go_upto_region 5 with (first
        | (go_at_call 68; refine (hse.mono (fun e w' h => And.intro (h.1.elim (fun k => k.2) (fun k => absurd rfl k.1)) h.2 : ∀ e w', _ → (e = .returned (.tuple #[]) ∧ _))).mono ?_; rintro e w4 ⟨rfl, F4, hL4, hk4, hF4⟩))
      have kp4 : Keep (fun i => F i ∨ i = lb ∨ i = b) w w4 := kp6.trans hk4
      have hF40 : ∀ i, F4 i → F i ∨ w.heap.size ≤ i := fun i hi => (hF4 i hi).imp id (fun h => Nat.le_trans hb6.size h)
      have hP4 : Pf w4 F4 lb := hP6.next3 hPb hk4 hF4
      have r4 : Rd w4 a5 M c5 Y := r6.keep hk4 (fun ad had hs => by
        have h1 := hl5 ad had
        rcases hs with hs | hs | hs
        · have := h.L.D.lt _ hs; omega
        · have := h.L.lt; omega
        · have := h.ltb; omega)
      have hI1 : ((I + 1 : Nat) : Int) = (I : Int) + 1 := by omega
      clear hse hk4 hF4 h6 hP6 r6 p1 p2 p9 hz1 hz2
      have hsgu := segment_any b off c1.g (I + 1) (by rw [gr3]; exact hg) (by omega) w4 hP4.pw (hL4.cell 0 (by omega))
      obtain ⟨s, Hs⟩ : ∃ s, Hid (segN c1.g (I + 1) = s) := ⟨_, rfl⟩
      rw [Hs.out] at hsgu
      rw [hI1] at hsgu
      have hwru := fun w' (hb : Below w4.heap.size w4 w') => swrite_any lb d most F4 v _ dn1 k1 s a5 M c5 Y (by omega) (by omega) (by omega) w' (hL4.L.below hb) (r4.carry (Nat.le_refl _) hb)
      obtain ⟨P, HP⟩ : ∃ P, Hid (stp dn1 k1 (appK k1 s Y) = P) := ⟨_, rfl⟩
      simp only [HP.out] at hwru
      obtain ⟨en, dn', k'⟩ := P
      dsimp only at hwru
      have hpp : stp dn1 k1 (appK k1 (segN c1.g (I + 1)) Y) = (en, dn', k') := by rw [Hs.out]; exact HP.out
      have hpe : Hid (layL most c Y dn k = (en, (if en = 0 then ⟨c1.g, (I + 1), 0 + M, true⟩ else c1), dn', k')) := by
        show _ = _
        rw [hEq.out, putS_eq hpp, hlen]
      clear hpp
      have hfinu : ∀ w1 w2, Below w4.heap.size w4 w1 → Lp w1 F4 lb d most v (if b = lb then c1 else c0) dn' k' w2 → Lcp w F lb d most v dn' k' b off c0 c1 w2 := fun w1 w2 hb hp => Lcp.next kp4 hF40 (((hL4.below hb).step hp).from hb)
      by_cases h0 : en = 0
      · subst h0
        have hres := HR.out.symm.trans hpe.out
        rw [if_pos rfl] at hres
        simp only [Prod.mk.injEq] at hres
        obtain ⟨e1, e2, e3, e4⟩ := hres
        subst eR cR dnR kR
        clear hpe HR
        go_wp2_with (first
          | (go_at_call 103; refine hsgu.mono ?_; rintro e w7 ⟨rfl, hb7⟩)
          | (go_at_call 102; refine ((hwru w7 hb7).mono (fun e w' h => And.intro (h.1.elim (fun k => k.2) (fun k => absurd rfl k.1)) h.2 : ∀ e w', _ → (e = .returned (.tuple #[]) ∧ _))).mono ?_; rintro e w8 ⟨rfl, hp⟩; obtain ⟨F8, hL8, hk8, hF8⟩ := hfinu w7 w8 hb7 hp; have p1 : w8.cell? ⟨b, off + 1, none⟩ = some (.int .i64 (c1.cnt : Int)) := hL8.cell 1 (by omega); have z1 := hL8.fz (off + 1); have hL9 := hL8.set 1 (.int .i64 ((I : Int) + 1)) (c' := ⟨c1.g, (I + 1), c1.size, c1.loose⟩) rfl rfl; have p2 : (w8.setCell ⟨b, off + 1, none⟩ (.int .i64 ((I : Int) + 1))).cell? ⟨b, off + 2, none⟩ = some (.int .i64 (c1.size : Int)) := hL9.cell 2 (by omega); have z2 := hL9.fz (off + 2); have hL10 := hL9.set 2 (.int .i64 ((M : Int))) (c' := ⟨c1.g, (I + 1), 0 + M, c1.loose⟩) (by rw [Nat.zero_add]; rfl) (by rw [Nat.zero_add]; rfl); have p3 : ((w8.setCell ⟨b, off + 1, none⟩ (.int .i64 ((I : Int) + 1))).setCell ⟨b, off + 2, none⟩ (.int .i64 ((M : Int)))).cell? ⟨b, off + 3, none⟩ = some (.bool c1.loose) := hL10.cell 3 (by omega); have z3 := hL10.fz (off + 3)))
        go_end0
        refine ⟨Or.inl ⟨rfl, rfl⟩, F8, hL10.set 3 _ rfl rfl, ?_, hF8⟩
        exact ((hk8.setCell (p := ⟨b, off + 1, none⟩) (Or.inr (Or.inr rfl)) _).setCell (p := ⟨b, off + 2, none⟩) (Or.inr (Or.inr rfl)) _).setCell (p := ⟨b, off + 3, none⟩) (Or.inr (Or.inr rfl)) _
      · have hres := HR.out.symm.trans hpe.out
        rw [if_neg h0] at hres
        simp only [Prod.mk.injEq] at hres
        obtain ⟨e1, e2, e3, e4⟩ := hres
        subst eR cR dnR kR
        clear hpe HR
        go_wp2_with (first
          | (go_at_call 103; refine hsgu.mono ?_; rintro e w7 ⟨rfl, hb7⟩)
          | (go_at_call 102; refine ((hwru w7 hb7).mono (fun e w' h => And.intro (h.1.elim (fun k => absurd k.1 h0) (fun k => k.2)) h.2 : ∀ e w', _ → (e = .panicked (gaveS en) ∧ _))).mono ?_; rintro e w8 ⟨rfl, hp⟩))
        exact ⟨rfl, gs_no h0 rfl, hfinu w7 w8 hb7 hp⟩
    · rw [if_pos hq0] at hEq0
      have hres := HR.out.symm.trans hEq0
      simp only [Prod.mk.injEq] at hres
      obtain ⟨e1, e2, e3, e4⟩ := hres
      subst eR cR dnR kR
      clear hEq0 HR
      go_wp2_with (first
        | (go_at_call 68; refine (hse.mono (fun e w' h => And.intro (h.1.elim (fun k => absurd k.1 hq0) (fun k => k.2)) h.2 : ∀ e w', _ → (e = .panicked (gaveS eq) ∧ _))).mono ?_; rintro e w4 ⟨rfl, hp4⟩))
      exact ⟨rfl, gs_no hq0 rfl, Lcp.next kp6 (fun i hi => Or.inl hi) hp4⟩
  · have hEq : Hid (layL most c Y dn k = putS I c.size c Y dn k) := by
      show _ = _
      unfold layL
      rw [if_neg (by rw [hlen]; exact hfull), HI.out]
    have hF60 : ∀ i, F i → F i ∨ w.heap.size ≤ i := fun i hi => Or.inl hi
    by_cases hz0 : 0 < c.size
    · have hz1 : (0 : Int) < (c.size : Int) := by omega
      have hz2 : ¬ (most : Int) < (c.size : Int) + (M : Int) := by omega
      clear hfull p1 p2
      go_upto_region 5 with fail
      have hsgv := segment_any b off c.g I hg (by omega) X hP6.pw (h6.cell 0 (by omega))
      obtain ⟨s, Hs⟩ : ∃ s, Hid (segN c.g I = s) := ⟨_, rfl⟩
      rw [Hs.out] at hsgv
      have hwrv := fun w' (hb : Below X.heap.size X w') => swrite_any lb d most F v _ dn k s a5 M c5 Y (by omega) (by omega) (by omega) w' (h6.L.below hb) (r6.carry (Nat.le_refl _) hb)
      obtain ⟨P, HP⟩ : ∃ P, Hid (stp dn k (appK k s Y) = P) := ⟨_, rfl⟩
      simp only [HP.out] at hwrv
      obtain ⟨en, dn', k'⟩ := P
      dsimp only at hwrv
      have hpp : stp dn k (appK k (segN c.g I) Y) = (en, dn', k') := by rw [Hs.out]; exact HP.out
      have hpe : Hid (layL most c Y dn k = (en, (if en = 0 then ⟨c.g, I, c.size + M, true⟩ else c), dn', k')) := by
        show _ = _
        rw [hEq.out, putS_eq hpp, hlen]
      clear hpp
      have hfinv : ∀ w1 w2, Below X.heap.size X w1 → Lp w1 F lb d most v (if b = lb then c else c0) dn' k' w2 → Lcp w F lb d most v dn' k' b off c0 c w2 := fun w1 w2 hb hp => Lcp.next kp6 hF60 (((h6.below hb).step hp).from hb)
      by_cases h0 : en = 0
      · subst h0
        have hres := HR.out.symm.trans hpe.out
        rw [if_pos rfl] at hres
        simp only [Prod.mk.injEq] at hres
        obtain ⟨e1, e2, e3, e4⟩ := hres
        subst eR cR dnR kR
        clear hpe HR
        go_wp2_with (first
          | (go_at_call 103; refine hsgv.mono ?_; rintro e w7 ⟨rfl, hb7⟩)
          | (go_at_call 102; refine ((hwrv w7 hb7).mono (fun e w' h => And.intro (h.1.elim (fun k => k.2) (fun k => absurd rfl k.1)) h.2 : ∀ e w', _ → (e = .returned (.tuple #[]) ∧ _))).mono ?_; rintro e w8 ⟨rfl, hp⟩; obtain ⟨F8, hL8, hk8, hF8⟩ := hfinv w7 w8 hb7 hp; have p1 : w8.cell? ⟨b, off + 1, none⟩ = some (.int .i64 (c.cnt : Int)) := hL8.cell 1 (by omega); have z1 := hL8.fz (off + 1); have hL9 := hL8.set 1 (.int .i64 ((I : Int))) (c' := ⟨c.g, I, c.size, c.loose⟩) rfl rfl; have p2 : (w8.setCell ⟨b, off + 1, none⟩ (.int .i64 ((I : Int)))).cell? ⟨b, off + 2, none⟩ = some (.int .i64 (c.size : Int)) := hL9.cell 2 (by omega); have z2 := hL9.fz (off + 2); have hL10 := hL9.set 2 (.int .i64 ((c.size : Int) + (M : Int))) (c' := ⟨c.g, I, c.size + M, c.loose⟩) (by rw [← Int.natCast_add]; rfl) (by rw [← Int.natCast_add]; rfl); have p3 : ((w8.setCell ⟨b, off + 1, none⟩ (.int .i64 ((I : Int)))).setCell ⟨b, off + 2, none⟩ (.int .i64 ((c.size : Int) + (M : Int)))).cell? ⟨b, off + 3, none⟩ = some (.bool c.loose) := hL10.cell 3 (by omega); have z3 := hL10.fz (off + 3)))
        go_end0
        refine ⟨Or.inl ⟨rfl, rfl⟩, F8, hL10.set 3 _ rfl rfl, ?_, hF8⟩
        exact ((hk8.setCell (p := ⟨b, off + 1, none⟩) (Or.inr (Or.inr rfl)) _).setCell (p := ⟨b, off + 2, none⟩) (Or.inr (Or.inr rfl)) _).setCell (p := ⟨b, off + 3, none⟩) (Or.inr (Or.inr rfl)) _
      · have hres := HR.out.symm.trans hpe.out
        rw [if_neg h0] at hres
        simp only [Prod.mk.injEq] at hres
        obtain ⟨e1, e2, e3, e4⟩ := hres
        subst eR cR dnR kR
        clear hpe HR
        go_wp2_with (first
          | (go_at_call 103; refine hsgv.mono ?_; rintro e w7 ⟨rfl, hb7⟩)
          | (go_at_call 102; refine ((hwrv w7 hb7).mono (fun e w' h => And.intro (h.1.elim (fun k => absurd k.1 h0) (fun k => k.2)) h.2 : ∀ e w', _ → (e = .panicked (gaveS en) ∧ _))).mono ?_; rintro e w8 ⟨rfl, hp⟩))
        exact ⟨rfl, gs_no h0 rfl, hfinv w7 w8 hb7 hp⟩
    · have hz1 : ¬ (0 : Int) < (c.size : Int) := by omega
      clear hfull p1 p2 p9
      go_upto_region 5 with fail
      have hsgx := segment_any b off c.g I hg (by omega) X hP6.pw (h6.cell 0 (by omega))
      obtain ⟨s, Hs⟩ : ∃ s, Hid (segN c.g I = s) := ⟨_, rfl⟩
      rw [Hs.out] at hsgx
      have hwrx := fun w' (hb : Below X.heap.size X w') => swrite_any lb d most F v _ dn k s a5 M c5 Y (by omega) (by omega) (by omega) w' (h6.L.below hb) (r6.carry (Nat.le_refl _) hb)
      obtain ⟨P, HP⟩ : ∃ P, Hid (stp dn k (appK k s Y) = P) := ⟨_, rfl⟩
      simp only [HP.out] at hwrx
      obtain ⟨en, dn', k'⟩ := P
      dsimp only at hwrx
      have hpp : stp dn k (appK k (segN c.g I) Y) = (en, dn', k') := by rw [Hs.out]; exact HP.out
      have hpe : Hid (layL most c Y dn k = (en, (if en = 0 then ⟨c.g, I, c.size + M, true⟩ else c), dn', k')) := by
        show _ = _
        rw [hEq.out, putS_eq hpp, hlen]
      clear hpp
      have hfinx : ∀ w1 w2, Below X.heap.size X w1 → Lp w1 F lb d most v (if b = lb then c else c0) dn' k' w2 → Lcp w F lb d most v dn' k' b off c0 c w2 := fun w1 w2 hb hp => Lcp.next kp6 hF60 (((h6.below hb).step hp).from hb)
      by_cases h0 : en = 0
      · subst h0
        have hres := HR.out.symm.trans hpe.out
        rw [if_pos rfl] at hres
        simp only [Prod.mk.injEq] at hres
        obtain ⟨e1, e2, e3, e4⟩ := hres
        subst eR cR dnR kR
        clear hpe HR
        go_wp2_with (first
          | (go_at_call 103; refine hsgx.mono ?_; rintro e w7 ⟨rfl, hb7⟩)
          | (go_at_call 102; refine ((hwrx w7 hb7).mono (fun e w' h => And.intro (h.1.elim (fun k => k.2) (fun k => absurd rfl k.1)) h.2 : ∀ e w', _ → (e = .returned (.tuple #[]) ∧ _))).mono ?_; rintro e w8 ⟨rfl, hp⟩; obtain ⟨F8, hL8, hk8, hF8⟩ := hfinx w7 w8 hb7 hp; have p1 : w8.cell? ⟨b, off + 1, none⟩ = some (.int .i64 (c.cnt : Int)) := hL8.cell 1 (by omega); have z1 := hL8.fz (off + 1); have hL9 := hL8.set 1 (.int .i64 ((I : Int))) (c' := ⟨c.g, I, c.size, c.loose⟩) rfl rfl; have p2 : (w8.setCell ⟨b, off + 1, none⟩ (.int .i64 ((I : Int)))).cell? ⟨b, off + 2, none⟩ = some (.int .i64 (c.size : Int)) := hL9.cell 2 (by omega); have z2 := hL9.fz (off + 2); have hL10 := hL9.set 2 (.int .i64 ((c.size : Int) + (M : Int))) (c' := ⟨c.g, I, c.size + M, c.loose⟩) (by rw [← Int.natCast_add]; rfl) (by rw [← Int.natCast_add]; rfl); have p3 : ((w8.setCell ⟨b, off + 1, none⟩ (.int .i64 ((I : Int)))).setCell ⟨b, off + 2, none⟩ (.int .i64 ((c.size : Int) + (M : Int)))).cell? ⟨b, off + 3, none⟩ = some (.bool c.loose) := hL10.cell 3 (by omega); have z3 := hL10.fz (off + 3)))
        go_end0
        refine ⟨Or.inl ⟨rfl, rfl⟩, F8, hL10.set 3 _ rfl rfl, ?_, hF8⟩
        exact ((hk8.setCell (p := ⟨b, off + 1, none⟩) (Or.inr (Or.inr rfl)) _).setCell (p := ⟨b, off + 2, none⟩) (Or.inr (Or.inr rfl)) _).setCell (p := ⟨b, off + 3, none⟩) (Or.inr (Or.inr rfl)) _
      · have hres := HR.out.symm.trans hpe.out
        rw [if_neg h0] at hres
        simp only [Prod.mk.injEq] at hres
        obtain ⟨e1, e2, e3, e4⟩ := hres
        subst eR cR dnR kR
        clear hpe HR
        go_wp2_with (first
          | (go_at_call 103; refine hsgx.mono ?_; rintro e w7 ⟨rfl, hb7⟩)
          | (go_at_call 102; refine ((hwrx w7 hb7).mono (fun e w' h => And.intro (h.1.elim (fun k => absurd k.1 h0) (fun k => k.2)) h.2 : ∀ e w', _ → (e = .panicked (gaveS en) ∧ _))).mono ?_; rintro e w8 ⟨rfl, hp⟩))
        exact ⟨rfl, gs_no h0 rfl, hfinx w7 w8 hb7 hp⟩

end Go.Proofs.YtikkieaokfailaaGreatDoor

/- A log with its records, in memory; Append's closure. -/
namespace Go.Proofs.YtikkieaokfailaaGreatDoor
open Go.RowKit Go.Joins

/-- Records: a row of rows of bytes, all of the log's own. -/
structure RcA (w : World) (H : Nat → Prop) (v : Value) (rs : List (List Int)) : Prop where
  ex : ∃ vs, w.ownsRow 0 29 1 v rs.length vs ∧ ∀ (i : Nat) r, rs[i]? = some r → ∃ u, vs[i]? = some u ∧ w.ownsRow 0 5 1 u r.length (bc r) ∧ (∀ g, u.ownBlock = some g → H g) ∧ Bd r
  own : ∀ g, v.ownBlock = some g → H g
theorem RcA.keep {S H H' : Nat → Prop} {w w' : World} {v : Value} {rs : List (List Int)} (h : RcA w H v rs) (hk : Keep S w w') (hs : ∀ i, H i → ¬ S i) (hH : ∀ i, H i → H' i) : RcA w' H' v rs := by
  obtain ⟨⟨vs, h1, h2⟩, h3⟩ := h
  refine ⟨⟨vs, own_keep h1 hk (fun g hg => hs g (h3 g hg)), fun i r hr => ?_⟩, fun g hg => hH g (h3 g hg)⟩
  obtain ⟨u, k1, k2, k3, k4⟩ := h2 i r hr
  exact ⟨u, k1, own_keep k2 hk (fun g hg => hs g (k3 g hg)), fun g hg => hH g (k3 g hg), k4⟩
theorem rcA_nil (w : World) (H : Nat → Prop) : RcA w H (.slice none 0 0) [] := ⟨⟨[], ⟨rfl, .inl ⟨rfl, rfl⟩⟩, fun i r h => by simp at h⟩, fun g h => by cases h⟩
/-- A row's block holds what the row is of. -/
theorem own_blkT {w : World} {B sz n : Nat} {t : TypeId} {v : Value} {xs : List Value} (h : w.ownsRow B t sz v n xs) {g : Nat} (hg : v.ownBlock = some g) : ∃ cur, w.heap[g]? = some (.cells cur t (0, 0)) := by
  rcases h.2 with ⟨rfl, _⟩ | ⟨g', cap, cur, rfl, _, hh, _⟩
  · cases hg
  · have e : g' = g := by simpa [Value.ownBlock] using hg
    subst e
    exact ⟨cur, hh⟩
/-- One record more. -/
theorem RcA.app {w w' : World} {H : Nat → Prop} {v v' u : Value} {rs : List (List Int)} {r : List Int} {vs : List Value} (h1 : w.ownsRow 0 29 1 v rs.length vs) (h2 : ∀ (i : Nat) r, rs[i]? = some r → ∃ u, vs[i]? = some u ∧ w.ownsRow 0 5 1 u r.length (bc r) ∧ (∀ g, u.ownBlock = some g → H g) ∧ Bd r)
    (ho : w'.ownsRow 0 29 1 v' (rs.length + 1) (vs ++ [u])) (hk : Keep (fun k => v.ownBlock = some k) w w') (hu : w.ownsRow 0 5 1 u r.length (bc r)) (huH : ∀ g, u.ownBlock = some g → H g) (hb : Bd r) (hv' : ∀ g, v'.ownBlock = some g → H g) : RcA w' H v' (rs ++ [r]) := by
  have hvl : vs.length = rs.length := by have := h1.1; simpa using this
  have hne : ∀ u2 (r2 : List Int), w.ownsRow 0 5 1 u2 r2.length (bc r2) → ∀ g, u2.ownBlock = some g → ¬ v.ownBlock = some g := fun u2 r2 h g hg hv => by
    obtain ⟨c1, e1⟩ := own_blkT h hg
    obtain ⟨c2, e2⟩ := own_blkT h1 hv
    rw [e1] at e2
    cases e2
  refine ⟨⟨vs ++ [u], by rw [List.length_append]; exact ho, fun i r' hr => ?_⟩, hv'⟩
  by_cases hi : i < rs.length
  · rw [List.getElem?_append_left hi] at hr
    obtain ⟨u2, k1, k2, k3, k4⟩ := h2 i r' hr
    exact ⟨u2, by rw [List.getElem?_append_left (by omega)]; exact k1, own_keep k2 hk (hne u2 r' k2), k3, k4⟩
  · have hi2 : i = rs.length := by
      have := (List.getElem?_eq_some_iff.1 hr).1
      simp at this
      omega
    subst hi2
    have hr' : r' = r := by simpa using hr.symm
    subst hr'
    exact ⟨u, by rw [← hvl]; simp, own_keep hu hk (hne u r' hu), huH, hb⟩

structure Lg where
  most : Nat
  recs : List (List Int)
  ch : Ch
  dn : Bool
structure LogAt (w : World) (F H : Nat → Prop) (lb d : Nat) (l : Lg) (k : Dk) : Prop where
  ex : ∃ v, LD w F lb d l.most v l.ch l.dn k ∧ RcA w H v l.recs
  hf : ∀ i, H i → ¬ F i
  hl : ¬ H lb
  lt : ∀ i, H i → i < w.heap.size
  pf : Pf w F lb
  ph : ∀ i, H i → 0 < i
theorem LogAt.below {w w' : World} {F H : Nat → Prop} {lb d : Nat} {l : Lg} {k : Dk} (h : LogAt w F H lb d l k) (hb : Below w.heap.size w w') : LogAt w' F H lb d l k := by
  obtain ⟨v, h1, h2⟩ := h.ex
  exact ⟨⟨v, h1.below hb, h2.keep (S := fun _ => False) (Keep.ofBelow hb) (fun _ _ h => h) (fun _ h => h)⟩, h.hf, h.hl, fun i hi => Nat.lt_of_lt_of_le (h.lt i hi) hb.size, h.pf.below hb, h.ph⟩
def Lgp (w : World) (F H : Nat → Prop) (lb d : Nat) (l : Lg) (k : Dk) (w' : World) : Prop := ∃ F' H', LogAt w' F' H' lb d l k ∧ Keep (fun i => F i ∨ H i ∨ i = lb) w w' ∧ (∀ i, F' i → F i ∨ w.heap.size ≤ i) ∧ (∀ i, H' i → H i ∨ w.heap.size ≤ i)
theorem Lgp.refl {w : World} {F H : Nat → Prop} {lb d : Nat} {l : Lg} {k : Dk} (h : LogAt w F H lb d l k) : Lgp w F H lb d l k w := ⟨F, H, h, Keep.refl _ _, fun _ h => Or.inl h, fun _ h => Or.inl h⟩
theorem Lgp.from {w0 w w' : World} {F H : Nat → Prop} {lb d : Nat} {l : Lg} {k : Dk} (hb : Below w0.heap.size w0 w) (h : Lgp w F H lb d l k w') : Lgp w0 F H lb d l k w' := by
  obtain ⟨F', H', h1, h2, h3, h4⟩ := h
  exact ⟨F', H', h1, (Keep.ofBelow hb).trans h2, fun i hi => (h3 i hi).imp id (fun h => Nat.le_trans hb.size h), fun i hi => (h4 i hi).imp id (fun h => Nat.le_trans hb.size h)⟩
/-- The error's cell is written behind it. -/
theorem Lgp.err {w0 w1 : World} {o : Obj} {F H : Nat → Prop} {lb d : Nat} {l : Lg} {k : Dk} (h : Lgp (w0.alloc o) F H lb d l k w1) (hF : ∀ i, F i → i < w0.heap.size) (hH : ∀ i, H i → i < w0.heap.size) (hlb : lb < w0.heap.size) (hg : 0 < w0.heap.size) (v : Value) : Lgp w0 F H lb d l k (w1.setCell ⟨w0.heap.size, 0, none⟩ v) := by
  obtain ⟨F', H', h1, h2, h3, h4⟩ := h
  have hs : (w0.alloc o).heap.size = w0.heap.size + 1 := by simp
  have hk : Keep (fun k => k = w0.heap.size) w1 (w1.setCell ⟨w0.heap.size, 0, none⟩ v) := (Keep.refl (fun k => k = w0.heap.size) w1).setCell (p := ⟨w0.heap.size, 0, none⟩) rfl v
  have hnF : ∀ i, F' i → i ≠ w0.heap.size := fun i hi e => by
    rcases h3 i hi with h | h
    · have := hF i h; omega
    · omega
  have hnH : ∀ i, H' i → i ≠ w0.heap.size := fun i hi e => by
    rcases h4 i hi with h | h
    · have := hH i h; omega
    · omega
  obtain ⟨u, k1, k2⟩ := h1.ex
  refine ⟨F', H', ⟨⟨u, k1.keep hk hnF (by omega), k2.keep hk hnH (fun _ h => h)⟩, h1.hf, h1.hl, fun i hi => Nat.lt_of_lt_of_le (h1.lt i hi) hk.size, ⟨h1.pf.pw.keep hk (by omega), h1.pf.fl, h1.pf.ll⟩, h1.ph⟩, (((Keep.refl _ w0).alloc o).trans h2).setNew (Nat.le_refl _) v, fun i hi => (h3 i hi).imp id (fun h => by omega), fun i hi => (h4 i hi).imp id (fun h => by omega)⟩
/-- From what a call at the log's own chain leaves. -/
theorem LogAt.own {w w' : World} {F H : Nat → Prop} {lb d : Nat} {l : Lg} {k k' : Dk} {v : Value} {c' : Ch} {dn' : Bool} (h : LogAt w F H lb d l k) (hv : RcA w H v l.recs) (hp : Lcp w F lb d l.most v dn' k' lb 3 c' c' w') :
    ∃ F', LD w' F' lb d l.most v c' dn' k' ∧ RcA w' H v l.recs ∧ Keep (fun i => F i ∨ H i ∨ i = lb) w w' ∧ (∀ i, F' i → F i ∨ w.heap.size ≤ i) ∧ (∀ i, H i → ¬ F' i) ∧ Pf w' F' lb ∧ ∀ i, H i → i < w'.heap.size := by
  obtain ⟨F', h1, h2, h3⟩ := hp
  have hL := h1.L
  rw [if_pos rfl] at hL
  have hk : Keep (fun i => F i ∨ i = lb) w w' := h2.mono (fun i hi => hi.elim Or.inl (fun h => Or.inr (h.elim id id)))
  refine ⟨F', hL, hv.keep hk (fun i hi hs => hs.elim (h.hf i hi) (fun e => h.hl (by rw [← e]; exact hi))) (fun _ h => h), hk.mono (fun i hi => hi.elim Or.inl (fun h => Or.inr (Or.inr h))), h3, fun i hi hf => ?_, h.pf.next hk h3, fun i hi => Nat.lt_of_lt_of_le (h.lt i hi) hk.size⟩
  rcases h3 i hf with h4 | h4
  · exact h.hf i hi h4
  · have := h.lt i hi; omega

theorem own_sl {w : World} {B sz n : Nat} {t : TypeId} {v : Value} {xs : List Value} (h : w.ownsRow B t sz v n xs) : ∃ a c, v = .slice a n c := by
  rcases h.2 with ⟨rfl, rfl⟩ | ⟨g, cap, cur, rfl, _⟩
  · exact ⟨_, _, rfl⟩
  · exact ⟨_, _, rfl⟩
theorem exec_appW {w w' : World} {o : Oper} {ρ : Operand → Value} {s x : Operand} {v u v' : Value} (ho : o.op = .call { callee := .builtin .append, args := #[s, x], argTypes := #[30, 30] }) (hs : ρ s = v) (hx : ρ x = u)
    (hrun : (Builtin.append_ #[30, 30] o.type #[v, u]).run Tryz.prog w = .ok v' w') : (execOp ρ o).run Tryz.prog w = .ok (.value v') w' := by
  simp only [execOp, ho, resolve, invoke, builtin, Sem.run_bind, Sem.run_pure, Result.andThen_ok, List.map_toArray, List.map_cons, List.map_nil, hs, hx, hrun]
theorem infoRow : (Tryz.prog.info? 29).map (fun i => (i.zero, i.size, i.bytes)) = some (some (.slice none 0 0), 1, 24) := by kernel_rfl
set_option maxRecDepth 100000 in
theorem app_whereW {w : World} {base : Nat} {v : Value} {n : Nat} {xs : List Value} (hown : w.ownsRow base 29 1 v n xs) {ad : Addr} {c : Nat} {u : Value} (hu : u.oneCell' = true) (hr : ∀ j x, [u][j]? = some x → w.cell? (ad.add j) = some x) (hb : n ≤ 1000000) {ty : TypeId} {v' : Value} {w' : World}
    (hrun : (Builtin.append_ #[30, 30] ty #[v, .slice (some ad) 1 c]).run Tryz.prog w = .ok v' w') : v'.ownBlock = v.ownBlock ∨ v'.ownBlock = some w.heap.size := by
  obtain ⟨i0, hi, hz0, hz1, hz2⟩ := info_parts infoRow
  have hl : [u].length = 1 * i0.size := by rw [hz1]; rfl
  rcases hown.2 with ⟨rfl, rfl⟩ | ⟨g, cap, cur, rfl, hbg, hg, hnc, hcm, hcs, htake⟩
  · right
    have hr2 := run_append_nil (P := Tryz.prog) w 30 ty 29 i0 (.slice none 0 0) Tryz.underlying30 hi hz0 ad 1 c [u] hl hr (by omega) (by omega) (by rw [hz2]; omega)
    rw [hr2] at hrun
    injection hrun with e _
    rw [← e]; rfl
  · by_cases hroom : n + 1 ≤ cap
    · left
      have hr2 := run_append_room (P := Tryz.prog) w 30 ty 29 i0 Tryz.underlying30 hi g n cap cur hg ad 1 c [u] hl hr (by simpa using hu) hroom (by rw [hl, hcs, hz1]; omega)
      rw [hr2] at hrun
      injection hrun with e _
      rw [← e]; rfl
    · right
      have hr2 := run_append_grow (P := Tryz.prog) w 30 ty 29 i0 (.slice none 0 0) Tryz.underlying30 hi hz0 ⟨g, 0, none⟩ n cap xs (by rw [hown.1, hz1]) (hown.cells (g := g) rfl) ad 1 c [u] hl hr (by omega) (by omega) (growslice_fits (by omega) (by rw [hz2]; omega))
      rw [hr2] at hrun
      injection hrun with e _
      rw [← e]; rfl
theorem run_appW {w : World} (ty : TypeId) {base : Nat} {v : Value} {n : Nat} {xs : List Value} (hown : w.ownsRow base 29 1 v n xs) (a : Option Addr) (m c : Nat) (hn : n ≤ 1000000) (hbase : base ≤ w.heap.size) :
    ∃ v' w', (Builtin.append_ #[30, 30] ty #[v, .slice (some ⟨w.heap.size, 0, none⟩) 1 1]).run Tryz.prog (w.alloc (.cells #[.slice a m c] 29)) = .ok v' w' ∧ w'.ownsRow base 29 1 v' (n + 1) (xs ++ [.slice a m c]) ∧ Keep (fun k => v.ownBlock = some k) w w' ∧ (v'.ownBlock = v.ownBlock ∨ ∃ g, v'.ownBlock = some g ∧ w.heap.size ≤ g) := by
  obtain ⟨i0, hi, hz0, hz1, hz2⟩ := info_parts infoRow
  have hk0 : Keep (fun k => v.ownBlock = some k) w (w.alloc (.cells #[.slice a m c] 29)) := (Keep.refl _ _).alloc _
  have hown1 := own_keep (S := fun _ => False) hown ((Keep.refl (fun _ => False) w).alloc (.cells #[.slice a m c] 29)) (fun _ _ h => h)
  have hnw : ∀ j u, [Value.slice a m c][j]? = some u → (w.alloc (.cells #[.slice a m c] 29)).cell? ((⟨w.heap.size, 0, none⟩ : Addr).add j) = some u := fun j u hu => by
    rw [add_flat, Nat.zero_add, cell_of_block (alloc_at w (.cells #[.slice a m c] 29))]
    simpa using hu
  obtain ⟨v', w', hrun, h2, h3, _⟩ := run_append_own (P := Tryz.prog) (w.alloc (.cells #[.slice a m c] 29)) base 30 ty 29 i0 (.slice none 0 0) 1 24 Tryz.underlying30 hi hz0 hz1 hz2 rfl (by decide) v n xs hown1 ⟨w.heap.size, 0, none⟩ 1 1 [.slice a m c] (by simp) hnw (by simp [Value.oneCell']) (by unfold maxLen; omega) (by omega) (by simp; omega)
  have h4 := app_whereW hown1 (by simp [Value.oneCell']) hnw hn hrun
  refine ⟨v', w', hrun, h2, hk0.trans (Keep.ofGrown h3), ?_⟩
  rcases h4 with h4 | h4
  · exact Or.inl h4
  · exact Or.inr ⟨_, h4, by simp⟩

end Go.Proofs.YtikkieaokfailaaGreatDoor

/- seglog's Append, Commit, Len, At. -/
namespace Go.Proofs.YtikkieaokfailaaGreatDoor
open Go.RowKit Go.Joins

def appendL (l : Lg) (k : Dk) (xs : List Int) : Nat × Lg × Dk :=
  ((layL l.most l.ch (formL xs) l.dn k).1, ⟨l.most, (if (layL l.most l.ch (formL xs) l.dn k).1 = 0 then l.recs ++ [xs] else l.recs), (layL l.most l.ch (formL xs) l.dn k).2.1, (layL l.most l.ch (formL xs) l.dn k).2.2.1⟩, (layL l.most l.ch (formL xs) l.dn k).2.2.2)
/-- What a log's numbers keep to. -/
structure Lg.Ok (l : Lg) : Prop where
  g : l.ch.g < 18446744073709551616
  cnt : l.ch.cnt ≤ 1000000000000
  size : l.ch.size ≤ 1000000000000
  most : l.most ≤ 1000000000000
  recs : l.recs.length ≤ 1000000

set_option maxHeartbeats 4000000 in
set_option maxRecDepth 100000 in
theorem appendC_any (W : World) (F H : Nat → Prop) (lb d bl br : Nat) (l : Lg) (k : Dk) (h : LogAt W F H lb d l k) (ok : l.Ok) (hst : k.steps < 999999) (hfl : k.fs.length < 999999)
    (a : Option Addr) (n c : Nat) (xs : List Int) (hR : Rd W a n c xs) (hn : n ≤ 1048576) (hRF : ∀ ad, a = some ad → ¬ F ad.block ∧ ad.block ≠ lb)
    (hbl : W.heap[bl]? = some (.cells #[.pointer (some ⟨lb, 0, none⟩)] 48 (0, 0))) (hbr : W.heap[br]? = some (.cells #[.slice a n c] 29 (0, 0))) (nbl : ¬ F bl) (nbr : ¬ F br) (nhl : ¬ H bl) (nhr : ¬ H br) :
    Calls Tryz.prog 64 #[.pointer (some ⟨bl, 0, none⟩), .pointer (some ⟨br, 0, none⟩)] W fun e w' => Gs (appendL l k xs).1 e ∧ Lgp W F H lb d (appendL l k xs).2.1 (appendL l k xs).2.2 w' := by
  obtain ⟨v, hLD, hRc⟩ := h.ex
  have hbb : bl ≠ lb := fun e => by rw [e, hLD.blk] at hbl; cases hbl
  have hbb2 : br ≠ lb := fun e => by rw [e, hLD.blk] at hbr; cases hbr
  have hla := fun w' (hb : Below W.heap.size W w') => lay_any w' F lb d l.most v l.dn k lb 3 l.ch l.ch ⟨by rw [if_pos rfl]; exact hLD.below hb, fun _ => rfl, fun e => absurd rfl e⟩ (h.pf.below hb) h.pf.ll ok.g ok.cnt ok.size ok.most hst hfl a n c xs (hR.carry (Nat.le_refl _) hb) hn
  obtain ⟨R, HR⟩ : ∃ R, Hid (layL l.most l.ch (formL xs) l.dn k = R) := ⟨_, rfl⟩
  have hE : appendL l k xs = (R.1, ⟨l.most, (if R.1 = 0 then l.recs ++ [xs] else l.recs), R.2.1, R.2.2.1⟩, R.2.2.2) := by unfold appendL; rw [HR.out]
  rw [hE]
  simp only [HR.out] at hla
  obtain ⟨en, c', dn', k'⟩ := R
  dsimp only at hla ⊢
  clear hE
  have hbX : Below W.heap.size W W.drew := (Below.refl _ _).drew
  have HS0 : W.drew.cell? ⟨bl, 0, none⟩ = some (.pointer (some ⟨lb, 0, none⟩)) ∧ W.drew.cell? ⟨br, 0, none⟩ = some (.slice a n c) := ⟨box_cell hbl, box_cell hbr⟩
  have hfin : ∀ w1, Lcp W.drew F lb d l.most v dn' k' lb 3 l.ch c' w1 → _ := fun w1 hp => (h.below hbX).own (hRc.keep (S := fun _ => False) (Keep.ofBelow hbX) (fun _ _ h => h) (fun _ h => h)) (c' := c') (v := v) (dn' := dn') (k' := k') (w' := w1) (by
    obtain ⟨F', k1, k2, k3⟩ := hp
    exact ⟨F', ⟨by have := k1.L; rw [if_pos rfl] at this ⊢; exact this, fun _ => rfl, fun e => absurd rfl e⟩, k2, k3⟩)
  by_cases h0 : en = 0
  · subst h0
    rw [if_pos rfl]
    go_enter Tryz.func64, Tryz.ntmps64
    go_upto_region 0 with fail
    refine wp_region_lx (fun w' => w'.cell? ⟨bl, 0, none⟩ = some (.pointer (some ⟨lb, 0, none⟩)) ∧ w'.cell? ⟨br, 0, none⟩ = some (.slice a n c)) [] 6 (by kernel_rfl) (by kernel_rfl) ?_
    refine lx_rd 0 (.pointer (some ⟨lb, 0, none⟩)) (by kernel_rfl) (fun _ _ d _ _ h => by cases d <;> exact h) (by kernel_rfl) HS0 rfl rfl rfl (fun w' hS => ?ha0) ?_
    case ha0 => have q := hS.1; first | (go_simp; rfl) | go_simp
    simp only [List.setIfInBounds_toArray, List.set_cons_zero, List.set_cons_succ]
    refine lx_rd 1 (.pointer (some ⟨lb, 0, none⟩)) (by kernel_rfl) (fun _ _ d _ _ h => by cases d <;> exact h) (by kernel_rfl) HS0 rfl rfl rfl (fun w' hS => ?ha1) ?_
    case ha1 => have q := hS.1; first | (go_simp; rfl) | go_simp
    simp only [List.setIfInBounds_toArray, List.set_cons_zero, List.set_cons_succ]
    refine lx_rd 2 (.pointer (some ⟨lb, 0, none⟩)) (by kernel_rfl) (fun _ _ d _ _ h => by cases d <;> exact h) (by kernel_rfl) HS0 rfl rfl rfl (fun w' hS => ?ha2) ?_
    case ha2 => first | (go_simp; rfl) | go_simp
    simp only [List.setIfInBounds_toArray, List.set_cons_zero, List.set_cons_succ]
    refine lx_rd 3 (.pointer (some ⟨lb, 3, none⟩)) (by kernel_rfl) (fun _ _ d _ _ h => by cases d <;> exact h) (by kernel_rfl) HS0 rfl rfl rfl (fun w' hS => ?ha3) ?_
    case ha3 => first | (go_simp; rfl) | go_simp
    simp only [List.setIfInBounds_toArray, List.set_cons_zero, List.set_cons_succ]
    refine lx_rd 4 (.slice a n c) (by kernel_rfl) (fun _ _ d _ _ h => by cases d <;> exact h) (by kernel_rfl) HS0 rfl rfl rfl (fun w' hS => ?ha4) ?_
    case ha4 => have q := hS.2; first | (go_simp; rfl) | go_simp
    simp only [List.setIfInBounds_toArray, List.set_cons_zero, List.set_cons_succ]
    refine lx_one 5 (by kernel_rfl) (stepT_call 65 ?a5 rfl rfl rfl ?r5 ?_)
    case r5 => first | (go_simp; rfl) | go_simp
    refine ((hla W.drew hbX).mono (fun e w' h => And.intro (h.1.elim (fun k => k.2) (fun k => absurd rfl k.1)) h.2 : ∀ e w', _ → (e = .returned (.tuple #[]) ∧ _))).mono ?_
    rintro e w1 ⟨rfl, hp⟩
    have hkR : Keep (fun i => F i ∨ i = lb) W w1 := by
      obtain ⟨_, _, k2, _⟩ := hp
      exact (Keep.ofBelow hbX).trans (k2.mono (fun i hi => hi.elim Or.inl (fun h => Or.inr (h.elim id id))))
    obtain ⟨F1, hL1, hR1, hk1, hF1, hHF1, hP1, hlt1⟩ := hfin w1 hp
    have nb1 : ∀ x, x ≠ lb → ¬ F x → ¬ H x → ¬ (F x ∨ H x ∨ x = lb) := fun x h1 h2 h3 h4 => h4.elim h2 (fun h5 => h5.elim h3 h1)
    have HS1 : w1.cell? ⟨bl, 0, none⟩ = some (.pointer (some ⟨lb, 0, none⟩)) ∧ w1.cell? ⟨br, 0, none⟩ = some (.slice a n c) := ⟨hk1.cell (p := ⟨bl, 0, none⟩) HS0.1 (nb1 bl hbb nbl nhl), hk1.cell (p := ⟨br, 0, none⟩) HS0.2 (nb1 br hbb2 nbr nhr)⟩
    refine ⟨_, rfl, fun _ => HS1, ?_⟩
    simp only [List.setIfInBounds_toArray, List.set_cons_zero, List.set_cons_succ]
    refine lx_nil (by kernel_rfl) ?_
    have kp1 : Keep (fun i => F i ∨ H i ∨ i = lb) W w1 := (Keep.ofBelow hbX).trans hk1
    have hR9 : Rd w1 a n c xs := hR.keep (S := fun i => F i ∨ i = lb) hkR (fun ad had hs => hs.elim (hRF ad had).1 (hRF ad had).2)
    clear hla hp hk1 HS0
    go_upto_region 1 with fail
    refine wp_region_lx (fun w' => w'.cell? ⟨bl, 0, none⟩ = some (.pointer (some ⟨lb, 0, none⟩)) ∧ w'.cell? ⟨br, 0, none⟩ = some (.slice a n c) ∧ w'.cell? ⟨lb, 2, none⟩ = some v) [11] 12 (by kernel_rfl) (by kernel_rfl) ?_
    have hbD : Below w1.heap.size w1 w1.drew := (Below.refl _ _).drew
    have hL2 := hL1.below hbD
    have hR2 := hR1.keep (S := fun _ => False) (H' := H) (Keep.ofBelow hbD) (fun _ _ h => h) (fun _ h => h)
    have hP2 := hP1.below hbD
    have hX2 : W.heap.size ≤ w1.drew.heap.size := kp1.size
    have kp2 : Keep (fun i => F i ∨ H i ∨ i = lb) W w1.drew := kp1.drew
    have hR10 := hR9.carry (Nat.le_refl _) hbD
    have HS2 : w1.drew.cell? ⟨bl, 0, none⟩ = some (.pointer (some ⟨lb, 0, none⟩)) ∧ w1.drew.cell? ⟨br, 0, none⟩ = some (.slice a n c) ∧ w1.drew.cell? ⟨lb, 2, none⟩ = some v := ⟨HS1.1, HS1.2, hL2.c2⟩
    have hlt2 : ∀ i, H i → i < w1.drew.heap.size := hlt1
    have hF2 : ∀ i, F1 i → F i ∨ W.heap.size ≤ i := hF1
    clear hL1 hR1 hP1 hR9 HS1 kp1 hlt1 hF1 hbD
    generalize w1.drew = X at *
    refine lx_rd 0 (.pointer (some ⟨lb, 0, none⟩)) (by kernel_rfl) (fun _ _ d _ _ h => by cases d <;> exact h) (by kernel_rfl) HS2 rfl rfl rfl (fun w' hS => ?hc0) ?_
    case hc0 => have q := hS.1; first | (go_simp; rfl) | go_simp
    simp only [List.setIfInBounds_toArray, List.set_cons_zero, List.set_cons_succ]
    refine lx_rd 1 (.pointer (some ⟨lb, 0, none⟩)) (by kernel_rfl) (fun _ _ d _ _ h => by cases d <;> exact h) (by kernel_rfl) HS2 rfl rfl rfl (fun w' hS => ?hc1) ?_
    case hc1 => have q := hS.1; first | (go_simp; rfl) | go_simp
    simp only [List.setIfInBounds_toArray, List.set_cons_zero, List.set_cons_succ]
    refine lx_rd 2 (.pointer (some ⟨lb, 0, none⟩)) (by kernel_rfl) (fun _ _ d _ _ h => by cases d <;> exact h) (by kernel_rfl) HS2 rfl rfl rfl (fun w' hS => ?hc2) ?_
    case hc2 => first | (go_simp; rfl) | go_simp
    simp only [List.setIfInBounds_toArray, List.set_cons_zero, List.set_cons_succ]
    refine lx_rd 3 (.pointer (some ⟨lb, 2, none⟩)) (by kernel_rfl) (fun _ _ d _ _ h => by cases d <;> exact h) (by kernel_rfl) HS2 rfl rfl rfl (fun w' hS => ?hc3) ?_
    case hc3 => first | (go_simp; rfl) | go_simp
    simp only [List.setIfInBounds_toArray, List.set_cons_zero, List.set_cons_succ]
    refine lx_rd 4 v (by kernel_rfl) (fun _ _ d _ _ h => by cases d <;> exact h) (by kernel_rfl) HS2 rfl rfl rfl (fun w' hS => ?hc4) ?_
    case hc4 => have q := hS.2.2; first | (go_simp; rfl) | go_simp
    simp only [List.setIfInBounds_toArray, List.set_cons_zero, List.set_cons_succ]
    refine lx_rd 5 (.slice a n c) (by kernel_rfl) (fun _ _ d _ _ h => by cases d <;> exact h) (by kernel_rfl) HS2 rfl rfl rfl (fun w' hS => ?hc5) ?_
    case hc5 => have q := hS.2.1; first | (go_simp; rfl) | go_simp
    simp only [List.setIfInBounds_toArray, List.set_cons_zero, List.set_cons_succ]
    refine lx_one 6 (by kernel_rfl) (stepT_call 66 ?a6 rfl rfl rfl ?r6 ?_)
    case r6 => first | (go_simp; rfl) | go_simp
    refine (bcloneO a n c xs X hR10 (by omega)).mono ?_
    rintro e w3 ⟨u, rfl, ou, hb3⟩
    obtain ⟨au, cu, rfl, _⟩ := Rd.ofOwn ou hR10.bytes
    have t3 : ∀ p x, X.cell? p = some x → w3.cell? p = some x := fun p x hx => (hb3.cell (World.block_lt_of_cell? _ _ hx)).trans hx
    have HS3 := And.intro (t3 _ _ HS2.1) (And.intro (t3 _ _ HS2.2.1) (t3 _ _ HS2.2.2))
    refine ⟨_, rfl, fun _ => HS3, ?_⟩
    simp only [List.setIfInBounds_toArray, List.set_cons_zero, List.set_cons_succ]
    have t4 : ∀ p x, w3.cell? p = some x → (w3.alloc (.cells #[.slice au n cu] 29)).cell? p = some x := fun p x hx => ((Keep.refl (fun _ => False) w3).alloc _).cell hx (fun h => h)
    refine lx_one 7 (by kernel_rfl) (stepT_val (w' := w3.alloc (.cells #[.slice au n cu] 29)) (.slice (some ⟨w3.heap.size, 0, none⟩) 1 1) rfl rfl rfl ?r7 (fun _ => And.intro (t4 _ _ HS3.1) (And.intro (t4 _ _ HS3.2.1) (t4 _ _ HS3.2.2))) ?_)
    case r7 => first | (go_simp; rfl) | go_simp
    simp only [List.setIfInBounds_toArray, List.set_cons_zero, List.set_cons_succ]
    have hL3 := hL2.below hb3
    have hR3 := hR2.keep (S := fun _ => False) (H' := H) (Keep.ofBelow hb3) (fun _ _ h => h) (fun _ h => h)
    have hP3 := hP2.below hb3
    obtain ⟨⟨vs, ov, hvs⟩, hvo⟩ := hR3
    obtain ⟨v', w4, hrun4, ov4, hk4, hwh4⟩ := run_appW 30 ov au n cu ok.recs (Nat.zero_le _)
    obtain ⟨av, cv, rfl⟩ := own_sl ov4
    have nlb : ¬ v.ownBlock = some lb := fun hv => h.hl (hvo lb hv)
    have nv1 : ¬ v.ownBlock = some bl := fun hv => nhl (hvo bl hv)
    have nv2 : ¬ v.ownBlock = some br := fun hv => nhr (hvo br hv)
    have HS4 := And.intro (hk4.cell (p := ⟨bl, 0, none⟩) HS3.1 nv1) (And.intro (hk4.cell (p := ⟨br, 0, none⟩) HS3.2.1 nv2) (hk4.cell (p := ⟨lb, 2, none⟩) HS3.2.2 nlb))
    refine lx_one 8 (by kernel_rfl) (stepT_val (w' := w4) (.slice av (l.recs.length + 1) cv) rfl rfl rfl (exec_appW rfl rfl rfl hrun4) (fun _ => HS4) ?_)
    simp only [List.setIfInBounds_toArray, List.set_cons_zero, List.set_cons_succ]
    refine lx_one 9 (by kernel_rfl) (stepT_val (w' := w4) (.pointer (some ⟨lb, 0, none⟩)) rfl rfl rfl ?r9d (fun _ => HS4) ?_)
    case r9d => first | (go_simp; rfl) | go_simp
    simp only [List.setIfInBounds_toArray, List.set_cons_zero, List.set_cons_succ]
    refine lx_one 10 (by kernel_rfl) (stepT_val (w' := w4) (.pointer (some ⟨lb, 2, none⟩)) rfl rfl rfl ?r10d (fun _ => HS4) ?_)
    case r10d => first | (go_simp; rfl) | go_simp
    simp only [List.setIfInBounds_toArray, List.set_cons_zero, List.set_cons_succ]
    have hL4 : LD w4 F1 lb d l.most v c' dn' k' := hL3.keep hk4 (fun i hi hv => hHF1 i (hvo i hv) hi) nlb
    have p4 := hL4.c2
    have z4 := hL4.fz 2
    refine lx_one 11 (by kernel_rfl) (stepT_store (w' := w4.setCell ⟨lb, 2, none⟩ (.slice av (l.recs.length + 1) cv)) rfl rfl rfl ?r11 (fun h => by cases h) ?_)
    case r11 => first | (go_simp; rfl) | go_simp
    refine lx_nil (by kernel_rfl) ?_
    have hL5 : LD (w4.setCell ⟨lb, 2, none⟩ (.slice av (l.recs.length + 1) cv)) F1 lb d l.most (.slice av (l.recs.length + 1) cv) c' dn' k' := hL4.set 2 _ rfl
    have hsz3 := hb3.size
    have hsz4 := hk4.size
    obtain ⟨H9, hH9⟩ : ∃ H9 : Nat → Prop, H9 = (fun i => H i ∨ (X.heap.size ≤ i ∧ i < w4.heap.size)) := ⟨_, rfl⟩
    have hHin : ∀ i, H i → H9 i := fun i hi => by rw [hH9]; exact Or.inl hi
    have hHout : ∀ i, H9 i → H i ∨ (X.heap.size ≤ i ∧ i < w4.heap.size) := fun i hi => by rw [hH9] at hi; exact hi
    have hu0 := own_weak ou (Nat.zero_le _)
    have hxl := hR.len
    have hRA : RcA w4 H9 (.slice av (l.recs.length + 1) cv) (l.recs ++ [xs]) := by
      refine RcA.app (vs := vs) (u := .slice au n cu) ov (fun i r hr => ?_) ov4 hk4 (by rw [hxl]; exact hu0) (fun g hg => ?_) hR.bytes (fun g hg => ?_)
      · obtain ⟨u2, m1, m2, m3, m4⟩ := hvs i r hr
        exact ⟨u2, m1, m2, fun g hg => hHin g (m3 g hg), m4⟩
      · rw [hH9]
        have := ou.lt g hg
        exact Or.inr ⟨this.1, by omega⟩
      · rcases hwh4 with h9 | ⟨g9, h9, h10⟩
        · exact hHin g (hvo g (by rw [← h9]; exact hg))
        · rw [h9] at hg
          injection hg with hg
          subst hg
          rw [hH9]
          refine Or.inr ⟨by omega, ?_⟩
          obtain ⟨cur, e⟩ := own_blkT ov4 h9
          exact (Array.getElem?_eq_some_iff.1 e).1
    have hkS : Keep (fun i => i = lb) w4 (w4.setCell ⟨lb, 2, none⟩ (.slice av (l.recs.length + 1) cv)) := (Keep.refl (fun i => i = lb) w4).setCell (p := ⟨lb, 2, none⟩) rfl _
    have hlbX : lb < X.heap.size := hL2.lt
    have hFX := hL2.D.lt
    have hHlb : ¬ H9 lb := fun hh => (hHout lb hh).elim h.hl (fun h9 => by omega)
    have hRA5 := hRA.keep (H' := H9) hkS (fun i hi e => hHlb (by rw [← e]; exact hi)) (fun _ h => h)
    have hk34 : Keep (fun i => F i ∨ H i ∨ i = lb) X w4 := (Keep.ofBelow hb3).andThen hk4 (fun i hi hv => Or.inr (Or.inl (hvo i hv)))
    have hkE : Keep (fun i => F i ∨ H i ∨ i = lb) W (w4.setCell ⟨lb, 2, none⟩ (.slice av (l.recs.length + 1) cv)) := kp2.trans (hk34.trans (hkS.mono (fun i e => Or.inr (Or.inr e))))
    have hPE : Pf (w4.setCell ⟨lb, 2, none⟩ (.slice av (l.recs.length + 1) cv)) F1 lb := ⟨h.pf.pw.keep hkE (fun hs => by
      rcases hs with hs | hs | hs
      · have := h.pf.fl _ hs; omega
      · have := h.ph _ hs; omega
      · have := h.pf.ll; omega), hP3.fl, hP3.ll⟩
    go_wp2
    go_end0
    refine ⟨Or.inl ⟨rfl, rfl⟩, F1, H9, ⟨⟨_, hL5, hRA5⟩, fun i hi hf => ?_, hHlb, fun i hi => ?_, hPE, fun i hi => ?_⟩, hkE, hF2, fun i hi => ?_⟩
    · rcases hHout i hi with h9 | h9
      · exact hHF1 i h9 hf
      · have := hFX i hf; omega
    · have hs9 := hkS.size
      rcases hHout i hi with h9 | h9
      · have := hlt2 i h9; omega
      · omega
    · rcases hHout i hi with h9 | h9
      · exact h.ph i h9
      · have := h.pf.pw.at; omega
    · rcases hHout i hi with h9 | h9
      · exact Or.inl h9
      · exact Or.inr (Nat.le_trans hX2 h9.1)
  · rw [if_neg h0]
    go_enter Tryz.func64, Tryz.ntmps64
    go_upto_region 0 with fail
    refine wp_region_lx (fun w' => w'.cell? ⟨bl, 0, none⟩ = some (.pointer (some ⟨lb, 0, none⟩)) ∧ w'.cell? ⟨br, 0, none⟩ = some (.slice a n c)) [] 6 (by kernel_rfl) (by kernel_rfl) ?_
    refine lx_rd 0 (.pointer (some ⟨lb, 0, none⟩)) (by kernel_rfl) (fun _ _ d _ _ h => by cases d <;> exact h) (by kernel_rfl) HS0 rfl rfl rfl (fun w' hS => ?hb0) ?_
    case hb0 => have q := hS.1; first | (go_simp; rfl) | go_simp
    simp only [List.setIfInBounds_toArray, List.set_cons_zero, List.set_cons_succ]
    refine lx_rd 1 (.pointer (some ⟨lb, 0, none⟩)) (by kernel_rfl) (fun _ _ d _ _ h => by cases d <;> exact h) (by kernel_rfl) HS0 rfl rfl rfl (fun w' hS => ?hb1) ?_
    case hb1 => have q := hS.1; first | (go_simp; rfl) | go_simp
    simp only [List.setIfInBounds_toArray, List.set_cons_zero, List.set_cons_succ]
    refine lx_rd 2 (.pointer (some ⟨lb, 0, none⟩)) (by kernel_rfl) (fun _ _ d _ _ h => by cases d <;> exact h) (by kernel_rfl) HS0 rfl rfl rfl (fun w' hS => ?hb2) ?_
    case hb2 => first | (go_simp; rfl) | go_simp
    simp only [List.setIfInBounds_toArray, List.set_cons_zero, List.set_cons_succ]
    refine lx_rd 3 (.pointer (some ⟨lb, 3, none⟩)) (by kernel_rfl) (fun _ _ d _ _ h => by cases d <;> exact h) (by kernel_rfl) HS0 rfl rfl rfl (fun w' hS => ?hb3) ?_
    case hb3 => first | (go_simp; rfl) | go_simp
    simp only [List.setIfInBounds_toArray, List.set_cons_zero, List.set_cons_succ]
    refine lx_rd 4 (.slice a n c) (by kernel_rfl) (fun _ _ d _ _ h => by cases d <;> exact h) (by kernel_rfl) HS0 rfl rfl rfl (fun w' hS => ?hb4) ?_
    case hb4 => have q := hS.2; first | (go_simp; rfl) | go_simp
    simp only [List.setIfInBounds_toArray, List.set_cons_zero, List.set_cons_succ]
    refine lx_one 5 (by kernel_rfl) (stepT_callP 65 ?b5 rfl rfl rfl ?s5 ?_)
    case s5 => first | (go_simp; rfl) | go_simp
    refine ((hla W.drew hbX).mono (fun e w' h => And.intro (h.1.elim (fun k => absurd k.1 h0) (fun k => k.2)) h.2 : ∀ e w', _ → (e = .panicked (gaveS en) ∧ _))).mono ?_
    rintro e w1 ⟨rfl, hp⟩
    obtain ⟨F1, hL1, hR1, hk1, hF1, hHF1, hP1, hlt1⟩ := hfin w1 hp
    refine Or.inr ⟨_, rfl, ?_⟩
    exact ⟨rfl, gs_no h0 rfl, F1, H, ⟨⟨v, hL1, hR1⟩, hHF1, h.hl, hlt1, hP1, h.ph⟩, (Keep.ofBelow hbX).trans hk1, hF1, fun i hi => Or.inl hi⟩

end Go.Proofs.YtikkieaokfailaaGreatDoor

/- seglog's Append, Commit, Len, At. -/
namespace Go.Proofs.YtikkieaokfailaaGreatDoor
open Go.RowKit Go.Joins

theorem isBig_any (a : Option Addr) (n c : Nat) (w : World) (hn : n ≤ 9223372036854775807) : Calls Tryz.prog 63 #[.slice a n c] w fun e w' => e = .returned (.bool (decide (1048576 < n))) ∧ w' = w := by
  by_cases h : 1048576 < n
  · have hz : (1048576 : Int) < (n : Int) := by omega
    rw [decide_eq_true h]
    clear h
    go_enter Tryz.func63, Tryz.ntmps63
    go_wp2
    go_ret
    exact ⟨rfl, rfl⟩
  · have hz : ¬ (1048576 : Int) < (n : Int) := by omega
    rw [decide_eq_false h]
    clear h
    go_enter Tryz.func63, Tryz.ntmps63
    go_wp2
    go_ret
    exact ⟨rfl, rfl⟩

def appendT (l : Lg) (k : Dk) (xs : List Int) : Nat × Lg × Dk := if 1048576 < xs.length then (5, l, k) else appendL l k xs

/-- attempt of a closure that leaves a log. -/
theorem attempt_L (f : Nat) (caps : Array Value) (en : Nat) (W : World) (F H : Nat → Prop) (lb d : Nat) (l l' : Lg) (k k' : Dk) (h : LogAt W F H lb d l k) (hent : ∀ args w, (callFunc f args).run Tryz.prog w = .ok (.enter f args) w)
    (hC : LogAt (W.alloc (.cells #[.int .i64 0] 37)) F H lb d l k → Below W.heap.size W (W.alloc (.cells #[.int .i64 0] 37)) → Calls Tryz.prog f caps (W.alloc (.cells #[.int .i64 0] 37)) fun e w' => Gs en e ∧ Lgp (W.alloc (.cells #[.int .i64 0] 37)) F H lb d l' k' w') :
    Calls Tryz.prog 60 #[.func (.func f) #[] caps] W fun e w' => e = .returned (.int .i64 en) ∧ Lgp W F H lb d l' k' w' := by
  have hb0 : Below W.heap.size W (W.alloc (.cells #[.int .i64 0] 37)) := (Below.refl _ _).alloc (Nat.le_refl _) _
  obtain ⟨v, hLD, _⟩ := h.ex
  have hF := hLD.D.lt
  have hlb := hLD.lt
  refine (attemptS f caps en (fun w' => Lgp (W.alloc (.cells #[.int .i64 0] 37)) F H lb d l' k' w') W hent ((hC (h.below hb0) hb0).mono ?_)).mono ?_
  · rintro e w' ⟨h1, h2⟩
    refine ⟨h1, h2, ?_⟩
    obtain ⟨F', H', _, hk, _⟩ := h2
    exact box_keep (alloc_at W _) hk (fun e => by
      rcases e with e | e | e
      · have := hF _ e; omega
      · have := h.lt _ e; omega
      · omega)
  · rintro e w' ⟨rfl, w1, h1, rfl⟩
    exact ⟨rfl, h1.err hF h.lt hlb h.pf.pw.at _⟩

set_option maxHeartbeats 1000000 in
theorem sappend_any (w : World) (F H : Nat → Prop) (lb d : Nat) (l : Lg) (k : Dk) (h : LogAt w F H lb d l k) (ok : l.Ok) (hst : k.steps < 999999) (hfl : k.fs.length < 999999)
    (a : Option Addr) (n c : Nat) (xs : List Int) (hR : Rd w a n c xs) (hRF : ∀ ad, a = some ad → ¬ F ad.block ∧ ad.block ≠ lb) :
    Calls Tryz.prog 22 #[.pointer (some ⟨lb, 0, none⟩), .slice a n c] w fun e w' => e = .returned (.int .i64 (appendT l k xs).1) ∧ Lgp w F H lb d (appendT l k xs).2.1 (appendT l k xs).2.2 w' := by
  have hmf : ∀ (fn : Fn) (first cap : Array Value) (w : World), (Instr.makeFunc fn first cap).run Tryz.prog w = .ok (.func fn first cap) w := fun _ _ _ _ => rfl
  obtain ⟨W, hW⟩ : ∃ W, (w.alloc (.cells #[.pointer (some ⟨lb, 0, none⟩)] 48)).alloc (.cells #[.slice a n c] 29) = W := ⟨_, rfl⟩
  have hB : Below w.heap.size w W := by rw [← hW]; exact ((Below.refl _ _).alloc (Nat.le_refl _) _).alloc (by simp) _
  have q0 : W.heap[w.heap.size]? = some (.cells #[.pointer (some ⟨lb, 0, none⟩)] 48 (0, 0)) := by rw [← hW]; exact alloc2_at w _ _
  have q1 : W.heap[w.heap.size + 1]? = some (.cells #[.slice a n c] 29 (0, 0)) := by rw [← hW]; exact (by simpa using alloc_at (w.alloc (.cells #[.pointer (some ⟨lb, 0, none⟩)] 48)) (.cells #[.slice a n c] 29))
  have c0 := box_cell q0
  have c1 := box_cell q1
  have hmx := hR.most
  have hcp := hR.cap
  have hig := isBig_any a n c W (by unfold maxLen at hmx; omega)
  have hl := hR.len
  have hLW := h.below hB
  have hRW := hR.carry (Nat.le_refl _) hB
  obtain ⟨v, hLD, _⟩ := h.ex
  have hF := hLD.D.lt
  have hH := h.lt
  unfold appendT
  rw [hl]
  by_cases hbig : 1048576 < n
  · rw [if_pos hbig]
    rw [decide_eq_true hbig] at hig
    clear hbig hl
    go_enter Tryz.func22, Tryz.ntmps22
    go_upto_region 1 with fail
    clear hW
    go_wp2_with (first
      | (go_at_call 63; refine hig.mono ?_; rintro e w1 ⟨rfl, h1⟩; replace h1 := h1.symm; subst h1))
    go_ret
    exact ⟨rfl, Lgp.from hB (Lgp.refl hLW)⟩
  · rw [if_neg hbig]
    rw [decide_eq_false hbig] at hig
    have hA : Calls Tryz.prog 60 #[.func (.func 64) #[] #[.pointer (some ⟨w.heap.size, 0, none⟩), .pointer (some ⟨w.heap.size + 1, 0, none⟩)]] W fun e w' => e = .returned (.int .i64 (appendL l k xs).1) ∧ Lgp W F H lb d (appendL l k xs).2.1 (appendL l k xs).2.2 w' := by
      refine attempt_L _ _ _ W F H lb d l _ k _ hLW (enters_of Tryz.func64 (by kernel_rfl) rfl) (fun hL1 hb1 => ?_)
      exact appendC_any _ F H lb d _ _ l k hL1 ok hst hfl a n c xs (hRW.carry (Nat.le_refl _) hb1) (by omega) hRF (box_below q0 hb1) (box_below q1 hb1) (fun hf => by have := hF _ hf; omega) (fun hf => by have := hF _ hf; omega) (fun hf => by have := hH _ hf; omega) (fun hf => by have := hH _ hf; omega)
    obtain ⟨P, hP⟩ : ∃ P, appendL l k xs = P := ⟨_, rfl⟩
    rw [hP] at hA ⊢
    clear hP hbig hl hLW hRW
    go_enter Tryz.func22, Tryz.ntmps22
    go_upto_region 1 with fail
    clear hW
    go_wp2_with (first
      | (go_at_call 63; refine hig.mono ?_; rintro e w1 ⟨rfl, h1⟩; replace h1 := h1.symm; subst h1)
      | (go_at_call 60; refine hA.mono ?_; rintro e w1 ⟨rfl, hp⟩))
    go_ret
    exact ⟨rfl, hp.from hB⟩

/-- Commit. -/
def commitL (l : Lg) (k : Dk) : Nat × Lg × Dk := ((settleL l.ch l.dn k).1, ⟨l.most, l.recs, (settleL l.ch l.dn k).2.1, (settleL l.ch l.dn k).2.2.1⟩, (settleL l.ch l.dn k).2.2.2)
set_option maxHeartbeats 1000000 in
theorem commitC_any (W : World) (F H : Nat → Prop) (lb d bl : Nat) (l : Lg) (k : Dk) (h : LogAt W F H lb d l k) (ok : l.Ok) (hst : k.steps < 999999) (hfl : k.fs.length < 999999)
    (hbl : W.heap[bl]? = some (.cells #[.pointer (some ⟨lb, 0, none⟩)] 48 (0, 0))) (nbl : ¬ F bl) (nhl : ¬ H bl) :
    Calls Tryz.prog 67 #[.pointer (some ⟨bl, 0, none⟩)] W fun e w' => Gs (commitL l k).1 e ∧ Lgp W F H lb d (commitL l k).2.1 (commitL l k).2.2 w' := by
  obtain ⟨v, hLD, hRc⟩ := h.ex
  have hbb : bl ≠ lb := fun e => by rw [e, hLD.blk] at hbl; cases hbl
  have hbX : Below W.heap.size W W.drew := (Below.refl _ _).drew
  have hse := settle_any W.drew F lb d l.most v l.dn k lb 3 l.ch l.ch ⟨by rw [if_pos rfl]; exact hLD.below hbX, fun _ => rfl, fun e => absurd rfl e⟩ (h.pf.below hbX) ok.g (by have := ok.cnt; omega) (by omega) (by omega)
  obtain ⟨R, HR⟩ : ∃ R, Hid (settleL l.ch l.dn k = R) := ⟨_, rfl⟩
  have hE : commitL l k = (R.1, ⟨l.most, l.recs, R.2.1, R.2.2.1⟩, R.2.2.2) := by unfold commitL; rw [HR.out]
  rw [hE]
  rw [HR.out] at hse
  obtain ⟨en, c', dn', k'⟩ := R
  dsimp only at hse ⊢
  clear hE
  have HS0 : W.drew.cell? ⟨bl, 0, none⟩ = some (.pointer (some ⟨lb, 0, none⟩)) := box_cell hbl
  have hfin : ∀ w1, Lcp W.drew F lb d l.most v dn' k' lb 3 l.ch c' w1 → _ := fun w1 hp => (h.below hbX).own (hRc.keep (S := fun _ => False) (Keep.ofBelow hbX) (fun _ _ h => h) (fun _ h => h)) (c' := c') (v := v) (dn' := dn') (k' := k') (w' := w1) (by
    obtain ⟨F', k1, k2, k3⟩ := hp
    exact ⟨F', ⟨by have := k1.L; rw [if_pos rfl] at this ⊢; exact this, fun _ => rfl, fun e => absurd rfl e⟩, k2, k3⟩)
  have nb1 : ¬ (F bl ∨ H bl ∨ bl = lb) := fun h4 => h4.elim nbl (fun h5 => h5.elim nhl hbb)
  by_cases h0 : en = 0
  · subst h0
    go_enter Tryz.func67, Tryz.ntmps67
    go_upto_region 0 with fail
    refine wp_region_lx (fun w' => w'.cell? ⟨bl, 0, none⟩ = some (.pointer (some ⟨lb, 0, none⟩))) [] 5 (by kernel_rfl) (by kernel_rfl) ?_
    refine lx_rd 0 (.pointer (some ⟨lb, 0, none⟩)) (by kernel_rfl) (fun _ _ d _ _ h => by cases d <;> exact h) (by kernel_rfl) HS0 rfl rfl rfl (fun w' hS => ?ha0) ?_
    case ha0 => first | (go_simp; rfl) | go_simp
    simp only [List.setIfInBounds_toArray, List.set_cons_zero, List.set_cons_succ]
    refine lx_rd 1 (.pointer (some ⟨lb, 0, none⟩)) (by kernel_rfl) (fun _ _ d _ _ h => by cases d <;> exact h) (by kernel_rfl) HS0 rfl rfl rfl (fun w' hS => ?ha1) ?_
    case ha1 => first | (go_simp; rfl) | go_simp
    simp only [List.setIfInBounds_toArray, List.set_cons_zero, List.set_cons_succ]
    refine lx_rd 2 (.pointer (some ⟨lb, 0, none⟩)) (by kernel_rfl) (fun _ _ d _ _ h => by cases d <;> exact h) (by kernel_rfl) HS0 rfl rfl rfl (fun w' hS => ?ha2) ?_
    case ha2 => first | (go_simp; rfl) | go_simp
    simp only [List.setIfInBounds_toArray, List.set_cons_zero, List.set_cons_succ]
    refine lx_rd 3 (.pointer (some ⟨lb, 3, none⟩)) (by kernel_rfl) (fun _ _ d _ _ h => by cases d <;> exact h) (by kernel_rfl) HS0 rfl rfl rfl (fun w' hS => ?ha3) ?_
    case ha3 => first | (go_simp; rfl) | go_simp
    simp only [List.setIfInBounds_toArray, List.set_cons_zero, List.set_cons_succ]
    refine lx_one 4 (by kernel_rfl) (stepT_call 68 ?a5 rfl rfl rfl ?r5 ?_)
    case r5 => first | (go_simp; rfl) | go_simp
    refine (hse.mono (fun e w' h => And.intro (h.1.elim (fun k => k.2) (fun k => absurd rfl k.1)) h.2 : ∀ e w', _ → (e = .returned (.tuple #[]) ∧ _))).mono ?_
    rintro e w1 ⟨rfl, hp⟩
    obtain ⟨F1, hL1, hR1, hk1, hF1, hHF1, hP1, hlt1⟩ := hfin w1 hp
    refine ⟨_, rfl, fun _ => hk1.cell (p := ⟨bl, 0, none⟩) HS0 nb1, ?_⟩
    simp only [List.setIfInBounds_toArray, List.set_cons_zero, List.set_cons_succ]
    refine lx_nil (by kernel_rfl) ?_
    go_wp2
    go_end0
    exact ⟨Or.inl ⟨rfl, rfl⟩, F1, H, ⟨⟨v, hL1, hR1⟩, hHF1, h.hl, hlt1, hP1, h.ph⟩, (Keep.ofBelow hbX).trans hk1, hF1, fun i hi => Or.inl hi⟩
  · go_enter Tryz.func67, Tryz.ntmps67
    go_upto_region 0 with fail
    refine wp_region_lx (fun w' => w'.cell? ⟨bl, 0, none⟩ = some (.pointer (some ⟨lb, 0, none⟩))) [] 5 (by kernel_rfl) (by kernel_rfl) ?_
    refine lx_rd 0 (.pointer (some ⟨lb, 0, none⟩)) (by kernel_rfl) (fun _ _ d _ _ h => by cases d <;> exact h) (by kernel_rfl) HS0 rfl rfl rfl (fun w' hS => ?hb0) ?_
    case hb0 => first | (go_simp; rfl) | go_simp
    simp only [List.setIfInBounds_toArray, List.set_cons_zero, List.set_cons_succ]
    refine lx_rd 1 (.pointer (some ⟨lb, 0, none⟩)) (by kernel_rfl) (fun _ _ d _ _ h => by cases d <;> exact h) (by kernel_rfl) HS0 rfl rfl rfl (fun w' hS => ?hb1) ?_
    case hb1 => first | (go_simp; rfl) | go_simp
    simp only [List.setIfInBounds_toArray, List.set_cons_zero, List.set_cons_succ]
    refine lx_rd 2 (.pointer (some ⟨lb, 0, none⟩)) (by kernel_rfl) (fun _ _ d _ _ h => by cases d <;> exact h) (by kernel_rfl) HS0 rfl rfl rfl (fun w' hS => ?hb2) ?_
    case hb2 => first | (go_simp; rfl) | go_simp
    simp only [List.setIfInBounds_toArray, List.set_cons_zero, List.set_cons_succ]
    refine lx_rd 3 (.pointer (some ⟨lb, 3, none⟩)) (by kernel_rfl) (fun _ _ d _ _ h => by cases d <;> exact h) (by kernel_rfl) HS0 rfl rfl rfl (fun w' hS => ?hb3) ?_
    case hb3 => first | (go_simp; rfl) | go_simp
    simp only [List.setIfInBounds_toArray, List.set_cons_zero, List.set_cons_succ]
    refine lx_one 4 (by kernel_rfl) (stepT_callP 68 ?b5 rfl rfl rfl ?s5 ?_)
    case s5 => first | (go_simp; rfl) | go_simp
    refine (hse.mono (fun e w' h => And.intro (h.1.elim (fun k => absurd k.1 h0) (fun k => k.2)) h.2 : ∀ e w', _ → (e = .panicked (gaveS en) ∧ _))).mono ?_
    rintro e w1 ⟨rfl, hp⟩
    obtain ⟨F1, hL1, hR1, hk1, hF1, hHF1, hP1, hlt1⟩ := hfin w1 hp
    refine Or.inr ⟨_, rfl, ?_⟩
    exact ⟨rfl, gs_no h0 rfl, F1, H, ⟨⟨v, hL1, hR1⟩, hHF1, h.hl, hlt1, hP1, h.ph⟩, (Keep.ofBelow hbX).trans hk1, hF1, fun i hi => Or.inl hi⟩

set_option maxHeartbeats 1000000 in
theorem scommit_any (w : World) (F H : Nat → Prop) (lb d : Nat) (l : Lg) (k : Dk) (h : LogAt w F H lb d l k) (ok : l.Ok) (hst : k.steps < 999999) (hfl : k.fs.length < 999999) :
    Calls Tryz.prog 23 #[.pointer (some ⟨lb, 0, none⟩)] w fun e w' => e = .returned (.int .i64 (commitL l k).1) ∧ Lgp w F H lb d (commitL l k).2.1 (commitL l k).2.2 w' := by
  have hmf : ∀ (fn : Fn) (first cap : Array Value) (w : World), (Instr.makeFunc fn first cap).run Tryz.prog w = .ok (.func fn first cap) w := fun _ _ _ _ => rfl
  obtain ⟨W, hW⟩ : ∃ W, w.alloc (.cells #[.pointer (some ⟨lb, 0, none⟩)] 48) = W := ⟨_, rfl⟩
  have hB : Below w.heap.size w W := by rw [← hW]; exact (Below.refl _ _).alloc (Nat.le_refl _) _
  have q0 : W.heap[w.heap.size]? = some (.cells #[.pointer (some ⟨lb, 0, none⟩)] 48 (0, 0)) := by rw [← hW]; exact alloc_at w _
  have c0 := box_cell q0
  have hLW := h.below hB
  obtain ⟨v, hLD, _⟩ := h.ex
  have hF := hLD.D.lt
  have hH := h.lt
  have hA : Calls Tryz.prog 60 #[.func (.func 67) #[] #[.pointer (some ⟨w.heap.size, 0, none⟩)]] W fun e w' => e = .returned (.int .i64 (commitL l k).1) ∧ Lgp W F H lb d (commitL l k).2.1 (commitL l k).2.2 w' := by
    refine attempt_L _ _ _ W F H lb d l _ k _ hLW (enters_of Tryz.func67 (by kernel_rfl) rfl) (fun hL1 hb1 => ?_)
    exact commitC_any _ F H lb d _ l k hL1 ok hst hfl (box_below q0 hb1) (fun hf => by have := hF _ hf; omega) (fun hf => by have := hH _ hf; omega)
  obtain ⟨P, hP⟩ : ∃ P, commitL l k = P := ⟨_, rfl⟩
  rw [hP] at hA ⊢
  clear hP hLW
  go_enter Tryz.func23, Tryz.ntmps23
  go_upto_region 1 with fail
  clear hW
  go_wp2_with (first
    | (go_at_call 60; refine hA.mono ?_; rintro e w1 ⟨rfl, hp⟩))
  go_ret
  exact ⟨rfl, hp.from hB⟩

/-- Len. -/
theorem slen_any (w : World) (F H : Nat → Prop) (lb d : Nat) (l : Lg) (k : Dk) (h : LogAt w F H lb d l k) :
    Calls Tryz.prog 26 #[.pointer (some ⟨lb, 0, none⟩)] w fun e w' => e = .returned (.int .i64 (l.recs.length : Int)) ∧ w' = w := by
  obtain ⟨v, hLD, hRc⟩ := h.ex
  obtain ⟨⟨vs, ov, _⟩, _⟩ := hRc
  obtain ⟨a, c, rfl⟩ := own_sl ov
  have q2 := hLD.c2
  obtain ⟨N, HN⟩ : ∃ N, Hid (l.recs.length = N) := ⟨_, rfl⟩
  rw [HN.out] at q2 ⊢
  clear ov hLD
  go_enter Tryz.func26, Tryz.ntmps26
  go_wp2
  go_ret
  exact ⟨rfl, rfl⟩

/-- At. -/
def atL (l : Lg) (i : Int) : Option (List Int) := if i < 0 then none else l.recs[i.toNat]?
set_option maxHeartbeats 1000000 in
theorem sat_any (w : World) (F H : Nat → Prop) (lb d : Nat) (l : Lg) (k : Dk) (i : Int) (hi1 : i ≤ 9223372036854775807) (h : LogAt w F H lb d l k) (hlen : ∀ r ∈ l.recs, r.length ≤ 1000000000) :
    Calls Tryz.prog 27 #[.pointer (some ⟨lb, 0, none⟩), .int .i64 i] w fun e w' => ∃ u, e = .returned (.tuple #[u, .bool (atL l i).isSome]) ∧ w'.ownsRow w.heap.size 5 1 u ((atL l i).getD []).length (bc ((atL l i).getD [])) ∧ Bd ((atL l i).getD []) ∧ Below w.heap.size w w' := by
  obtain ⟨v, hLD, hRc⟩ := h.ex
  obtain ⟨⟨vs, ov, hvs⟩, _⟩ := hRc
  obtain ⟨a, c, rfl⟩ := own_sl ov
  have q2 := hLD.c2
  obtain ⟨N, HN⟩ : ∃ N, Hid (l.recs.length = N) := ⟨_, rfl⟩
  have hNm : N ≤ 9223372036854775807 ∧ (N ≤ c ∧ c ≤ 9223372036854775807) := by
    rw [HN.out] at ov
    rcases ov.2 with ⟨e, h0⟩ | ⟨g, cap, cur, e, _, _, hnc, hcm, _⟩
    · cases e; omega
    · cases e; unfold maxLen at hcm; omega
  by_cases h0 : i < 0
  · have hE : atL l i = none := by unfold atL; rw [if_pos h0]
    rw [hE]
    clear ov hLD hvs
    go_enter Tryz.func27, Tryz.ntmps27
    go_wp2
    go_ret2
    exact ⟨_, rfl, ⟨rfl, .inl ⟨rfl, rfl⟩⟩, Bd.nil, Below.refl _ _⟩
  · obtain ⟨j, rfl⟩ := Int.eq_ofNat_of_zero_le (a := i) (by omega)
    have hE0 : atL l (j : Int) = l.recs[j]? := by unfold atL; rw [if_neg h0]; rfl
    by_cases hj : j < N
    · have hjl : j < l.recs.length := by rw [HN.out]; exact hj
      obtain ⟨r, hr⟩ : ∃ r, l.recs[j]? = some r := ⟨_, List.getElem?_eq_getElem hjl⟩
      obtain ⟨u, hu, ou, _, hbr⟩ := hvs j r hr
      have hrl := hlen r (List.mem_of_getElem? hr)
      rw [hE0, hr]
      obtain ⟨au, cu, rfl, ru⟩ := Rd.ofOwn ou hbr
      obtain ⟨g, hg⟩ : ∃ g, a = some ⟨g, 0, none⟩ := by
        rcases ov.2 with ⟨e, h0⟩ | ⟨g, cap, cur, e, _⟩
        · omega
        · cases e; exact ⟨g, rfl⟩
      subst hg
      have hc := ov.cells (g := g) rfl j _ hu
      rw [add_flat, Nat.zero_add] at hc
      have hcl := bcloneO au r.length cu r w ru hrl
      rw [HN.out] at q2
      have hz1 : ¬ (j : Int) < 0 := by omega
      have hz2 : ¬ (N : Int) ≤ (j : Int) := by omega
      have hz3 : (j : Int) < (N : Int) := by omega
      have hz0 : (0 : Int) ≤ (j : Int) := by omega
      obtain ⟨M, HM⟩ : ∃ M, Hid (r.length = M) := ⟨_, rfl⟩
      simp only [Option.getD_some, Option.isSome_some]
      rw [HM.out] at hcl hc ⊢
      clear ov hLD hvs hu ou ru hr hE0 h0 hrl hjl
      go_enter Tryz.func27, Tryz.ntmps27
      go_wp2_with (go_at_call 66; refine hcl.mono ?_; rintro e w1 ⟨u1, rfl, o1, hb1⟩)
      go_ret2
      exact ⟨_, rfl, o1, hbr, hb1⟩
    · have hE : atL l (j : Int) = none := by rw [hE0]; exact List.getElem?_eq_none (by rw [HN.out]; omega)
      rw [hE]
      rw [HN.out] at q2
      have hz1 : ¬ (j : Int) < 0 := by omega
      have hz2 : (N : Int) ≤ (j : Int) := by omega
      clear ov hLD hvs hE0 hE
      go_enter Tryz.func27, Tryz.ntmps27
      go_wp2
      go_ret2
      exact ⟨_, rfl, ⟨rfl, .inl ⟨rfl, rfl⟩⟩, Bd.nil, Below.refl _ _⟩

end Go.Proofs.YtikkieaokfailaaGreatDoor

/- The law's wakes: the document's run of a disk. -/
namespace Go.Proofs.YtikkieaokfailaaGreatDoor
open Go.RowKit Go.Joins

def sA : Nm := ⟨#[97]⟩
def k1a : Dk := ⟨100, [(sA, ⟨[1, 2, 3], 0⟩)], 1, false, none⟩
def k2a : Dk := ⟨100, [(sA, ⟨[1, 2, 3], 3⟩)], 2, false, none⟩
def k3a : Dk := ⟨100, [(sA, ⟨[1, 2, 3, 4, 5], 3⟩)], 3, false, none⟩
def k4a : Dk := ⟨100, [(sA, ⟨[1, 2, 3, 4], 4⟩)], 3, false, none⟩
theorem run1 : appK (newK 100) sA [1, 2, 3] = (0, k1a) := by kernel_rfl
theorem run2 : syncK k1a sA = (0, k2a) := by kernel_rfl
theorem run3 : appK k2a sA [4, 5] = (0, k3a) := by kernel_rfl
theorem run4 : restK k3a [1] = k4a := by kernel_rfl
theorem run5 : readK k4a sA = (0, [1, 2, 3, 4]) := by kernel_rfl

theorem rd_lit (w : World) (xs : List Int) (hb : Bd xs) (hl : xs.length ≤ 1000) : Rd (w.alloc (.cells (bc xs).toArray 5)) (some ⟨w.heap.size, 0, none⟩) xs.length xs.length xs :=
  ⟨rfl, Nat.le_refl _, by unfold maxLen; omega, (fun e => by cases e), hb, fun ad ha j hj => by
    cases ha
    rw [add_flat, Nat.zero_add]
    rw [cell_of_block (alloc_at w (.cells (bc xs).toArray 5)) j]
    simp [bc, hj, List.getD]⟩

theorem Keep.low {F : Nat → Prop} {B : Nat} {w w' : World} (h : Keep F w w') (hB : B ≤ w.heap.size) (hF : ∀ i, F i → B ≤ i) : Below B w w' := h.below hB hF

end Go.Proofs.YtikkieaokfailaaGreatDoor

/- Arguments of disk's laws, opened; copies of bytes. -/
set_option maxRecDepth 100000
namespace Go.Proofs.YtikkieaokfailaaGreatDoor
open Go.ChangeShapes Go.WideShapes Go.ChangeAt Go.RowKit

/-- What a slice of slices of bytes reads as. -/
structure RRd (W : World) (a : Option Addr) (n : Nat) (xs : List (List Int)) : Prop where
  len : xs.length = n
  most : n ≤ 9223372036854775807
  flat : 0 < n → ∃ b off, a = some ⟨b, off, none⟩ ∧ ∀ j, j < n → ∃ aj nj cj, W.cell? ⟨b, off + j, none⟩ = some (.slice aj nj cj) ∧ Rd W aj nj cj (xs.getD j [])
theorem RRd.below {W W' : World} {a : Option Addr} {n : Nat} {xs : List (List Int)} (h : RRd W a n xs) (hb : Below W.heap.size W W') : RRd W' a n xs := by
  refine ⟨h.len, h.most, fun h0 => ?_⟩
  obtain ⟨b, off, rfl, hc⟩ := h.flat h0
  refine ⟨b, off, rfl, fun j hj => ?_⟩
  obtain ⟨aj, nj, cj, h1, h2⟩ := hc j hj
  exact ⟨aj, nj, cj, (hb.cell (p := ⟨b, off + j, none⟩) (World.block_lt_of_cell? W _ h1)).trans h1, h2.carry (Nat.le_refl _) hb⟩
theorem rd_nilK (w : World) : Rd w none 0 0 [] := ⟨rfl, Nat.le_refl _, by unfold maxLen; omega, fun _ => rfl, Bd.nil, fun _ h => by cases h⟩

theorem rd_of_cells {H : Type} {enc : TypeId × Value → H} {W : World} {v : Value} {n : Nat} {y : DataW H × List MemPlace}
    (h : DataW.trod enc Tryz.prog W 0 (fun _ => true) true n 29 [v] = some y) : ∃ a n c zs, v = .slice a n c ∧ Rd W a n c zs := by
  rcases open_ints Tryz.underlying29 Tryz.underlying5 (by kernel_rfl) h with ⟨hcs, _⟩ | ⟨x, l, cc, zs, hcs, _, hl, hm, hz, _, hcell, hwz⟩
  · simp only [List.cons.injEq, and_true] at hcs
    exact ⟨none, 0, 0, [], hcs, rd_nilK W⟩
  · simp only [List.cons.injEq, and_true] at hcs
    have hz' : zs.length = cc := by simpa using hz
    refine ⟨some x, l, cc, zs.take l, hcs, by rw [List.length_take]; omega, hl, hm, (fun h => by cases h), fun y hy => ?_, fun ad had j hj => ?_⟩
    · have := bounds_u8 (hwz y (List.mem_of_mem_take hy)); omega
    · cases had
      rw [hcell j (by omega)]
      simp [List.getD, hj]
theorem rd_of_trod {H : Type} {enc : TypeId × Value → H} {W : World} {a : Option Addr} {n c : Nat} {d : DataW H} {ps : List MemPlace}
    (h : DataW.Trod enc Tryz.prog W 0 (fun _ => true) true 29 (.slice a n c) d ps) : ∃ zs, Rd W a n c zs := by
  obtain ⟨fuel, hf⟩ := h
  obtain ⟨_, _, _, zs, hv, hr⟩ := rd_of_cells (v := .slice a n c) (by simpa [Value.cells] using hf)
  cases hv
  exact ⟨zs, hr⟩
theorem rrd_of_cells {H : Type} {enc : TypeId × Value → H} {W : World} {v : Value} {fuel : Nat} {y : DataW H × List MemPlace}
    (hf : DataW.trod enc Tryz.prog W 0 (fun _ => true) true fuel 30 [v] = some y) : ∃ a n c xs, v = .slice a n c ∧ RRd W a n xs := by
  rcases Go.Deep.open_int_rows Tryz.underlying30 Tryz.underlying29 Tryz.underlying5 (by kernel_rfl) (by kernel_rfl) hf with ⟨hcs, _⟩ | ⟨x, l, cc, A, L, C, Z, hcs, _, hl, hm, _, hr⟩
  · simp only [List.cons.injEq, and_true] at hcs
    exact ⟨none, 0, 0, [], hcs, rfl, by omega, fun h => by omega⟩
  · simp only [List.cons.injEq, and_true] at hcs
    refine ⟨some x, l, cc, (List.range l).map (fun r => (Z r).take (L r)), hcs, by simp, by have : cc ≤ 9223372036854775807 := hm; omega, fun h0 => ?_⟩
    obtain ⟨b, off, spot⟩ := x
    have hspot : spot = none := by simpa [Addr.add] using World.cell?_spot (hr 0 (by omega)).1
    subst hspot
    refine ⟨b, off, rfl, fun j hj => ?_⟩
    obtain ⟨h1, h2, h3, h4, h5, h6, h7⟩ := hr j (by omega)
    rw [add_flat] at h1
    refine ⟨A j, L j, C j, h1, ?_⟩
    have e : ((List.range l).map (fun r => (Z r).take (L r))).getD j [] = (Z j).take (L j) := by simp [List.getD, hj]
    rw [e]
    refine ⟨by rw [List.length_take]; omega, h2, h3, h6, fun y hy => ?_, fun ad had i hi => ?_⟩
    · have := bounds_u8 (h5 y (List.mem_of_mem_take hy)); omega
    · rw [(h7 ad had).2 i (by omega)]
      simp [List.getD, hi]
theorem rrd_of_trod {H : Type} {enc : TypeId × Value → H} {W : World} {a : Option Addr} {n c : Nat} {d : DataW H} {ps : List MemPlace}
    (h : DataW.Trod enc Tryz.prog W 0 (fun _ => true) true 30 (.slice a n c) d ps) : ∃ xs, RRd W a n xs := by
  obtain ⟨fuel, hf⟩ := h
  obtain ⟨_, _, _, zs, hv, hr⟩ := rrd_of_cells (v := .slice a n c) (by simpa [Value.cells] using hf)
  cases hv
  exact ⟨zs, hr⟩

set_option maxHeartbeats 800000 in
theorem twin_any (a : Option Addr) (n c : Nat) (xs : List Int) (most : Nat) (w : World) (hR : Rd w a n c xs) (hm : most ≤ 100000) :
    Calls Tryz.prog 54 #[.slice a n c, .int .i64 most] w fun e w' => ∃ v, e = .returned v ∧ w'.ownsRow w.heap.size 5 1 v (xs.take most).length (bc (xs.take most)) ∧ Below w.heap.size w w' := by
  have hl := hR.len
  have hcp := hR.cap
  have hmx : c ≤ 9223372036854775807 := hR.most
  by_cases hn : (most : Int) < (n : Int)
  · have hlt : (xs.take most).length = most := by rw [List.length_take]; omega
    rw [hlt]
    go_enter Tryz.func54, Tryz.ntmps54
    go_wp2_with (at_builtin; refine wp_app0K rfl _ _ rfl rfl a most c (xs.take most) rfl (hR.takeK (by omega)) (by omega) ?_; intro v' w1 hown1 hb1 _)
    go_ret
    exact ⟨_, rfl, hown1, hb1⟩
  · have hlt : xs.take most = xs := List.take_of_length_le (by omega)
    rw [hlt, hl]
    go_enter Tryz.func54, Tryz.ntmps54
    go_wp2_with (at_builtin; refine wp_app0K rfl _ _ rfl rfl a n c xs rfl hR (by omega) ?_; intro v' w1 hown1 hb1 _)
    go_ret
    exact ⟨_, rfl, hown1, hb1⟩
theorem tm30 (z : Int) : ∃ k : Nat, (wrap64 (z.tmod 30 + 30)).tmod 30 = (k : Int) ∧ k < 30 := by
  have h1 : z.tmod 30 < 30 := Int.tmod_lt_of_pos z (by omega)
  have h2 : -30 < z.tmod 30 := by
    have : (-z).tmod 30 < 30 := Int.tmod_lt_of_pos (-z) (by omega)
    rw [Int.neg_tmod] at this; omega
  have h3 : wrap64 (z.tmod 30 + 30) = z.tmod 30 + 30 := by unfold wrap64; omega
  rw [h3, Int.tmod_eq_emod_of_nonneg (by omega)]
  exact ⟨((z.tmod 30 + 30) % 30).toNat, by omega, by omega⟩

end Go.Proofs.YtikkieaokfailaaGreatDoor
