/- seglog's Append, Commit, Len, At. -/
import Derived.Test.YtikkieaokfailaaGreatDoorLgG
namespace Go.Proofs.YtikkieaokfailaaGreatDoor
open Go.RowKit Go.Joins

theorem isBig_any (a : Option Addr) (n c : Nat) (w : World) (hn : n ≤ 9223372036854775807) : Calls Tryz.prog 63 #[.slice a n c] w fun e w' => e = .returned (.bool (decide (1048576 < n))) ∧ w' = w := by
  by_cases h : 1048576 < n
  · have hz : (1048576 : Int) < (n : Int) := by omega
    rw [decide_eq_true h]
    clear h
    go_enter Tryz.func63, Tryz.ntmps63
    go_wp2
    go_ret
    exact ⟨rfl, rfl⟩
  · have hz : ¬ (1048576 : Int) < (n : Int) := by omega
    rw [decide_eq_false h]
    clear h
    go_enter Tryz.func63, Tryz.ntmps63
    go_wp2
    go_ret
    exact ⟨rfl, rfl⟩

def appendT (l : Lg) (k : Dk) (xs : List Int) : Nat × Lg × Dk := if 1048576 < xs.length then (5, l, k) else appendL l k xs

/-- attempt of a closure that leaves a log. -/
theorem attempt_L (f : Nat) (caps : Array Value) (en : Nat) (W : World) (F H : Nat → Prop) (lb d : Nat) (l l' : Lg) (k k' : Dk) (h : LogAt W F H lb d l k) (hent : ∀ args w, (callFunc f args).run Tryz.prog w = .ok (.enter f args) w)
    (hC : LogAt (W.alloc (.cells #[.int .i64 0] 37)) F H lb d l k → Below W.heap.size W (W.alloc (.cells #[.int .i64 0] 37)) → Calls Tryz.prog f caps (W.alloc (.cells #[.int .i64 0] 37)) fun e w' => Gs en e ∧ Lgp (W.alloc (.cells #[.int .i64 0] 37)) F H lb d l' k' w') :
    Calls Tryz.prog 60 #[.func (.func f) #[] caps] W fun e w' => e = .returned (.int .i64 en) ∧ Lgp W F H lb d l' k' w' := by
  have hb0 : Below W.heap.size W (W.alloc (.cells #[.int .i64 0] 37)) := (Below.refl _ _).alloc (Nat.le_refl _) _
  obtain ⟨v, hLD, _⟩ := h.ex
  have hF := hLD.D.lt
  have hlb := hLD.lt
  refine (attemptS f caps en (fun w' => Lgp (W.alloc (.cells #[.int .i64 0] 37)) F H lb d l' k' w') W hent ((hC (h.below hb0) hb0).mono ?_)).mono ?_
  · rintro e w' ⟨h1, h2⟩
    refine ⟨h1, h2, ?_⟩
    obtain ⟨F', H', _, hk, _⟩ := h2
    exact box_keep (alloc_at W _) hk (fun e => by
      rcases e with e | e | e
      · have := hF _ e; omega
      · have := h.lt _ e; omega
      · omega)
  · rintro e w' ⟨rfl, w1, h1, rfl⟩
    exact ⟨rfl, h1.err hF h.lt hlb h.pf.pw.at _⟩

set_option maxHeartbeats 1000000 in
theorem sappend_any (w : World) (F H : Nat → Prop) (lb d : Nat) (l : Lg) (k : Dk) (h : LogAt w F H lb d l k) (ok : l.Ok) (hst : k.steps < 999999) (hfl : k.fs.length < 999999)
    (a : Option Addr) (n c : Nat) (xs : List Int) (hR : Rd w a n c xs) (hRF : ∀ ad, a = some ad → ¬ F ad.block ∧ ad.block ≠ lb) :
    Calls Tryz.prog 22 #[.pointer (some ⟨lb, 0, none⟩), .slice a n c] w fun e w' => e = .returned (.int .i64 (appendT l k xs).1) ∧ Lgp w F H lb d (appendT l k xs).2.1 (appendT l k xs).2.2 w' := by
  have hmf : ∀ (fn : Fn) (first cap : Array Value) (w : World), (Instr.makeFunc fn first cap).run Tryz.prog w = .ok (.func fn first cap) w := fun _ _ _ _ => rfl
  obtain ⟨W, hW⟩ : ∃ W, (w.alloc (.cells #[.pointer (some ⟨lb, 0, none⟩)] 48)).alloc (.cells #[.slice a n c] 29) = W := ⟨_, rfl⟩
  have hB : Below w.heap.size w W := by rw [← hW]; exact ((Below.refl _ _).alloc (Nat.le_refl _) _).alloc (by simp) _
  have q0 : W.heap[w.heap.size]? = some (.cells #[.pointer (some ⟨lb, 0, none⟩)] 48 (0, 0)) := by rw [← hW]; exact alloc2_at w _ _
  have q1 : W.heap[w.heap.size + 1]? = some (.cells #[.slice a n c] 29 (0, 0)) := by rw [← hW]; exact (by simpa using alloc_at (w.alloc (.cells #[.pointer (some ⟨lb, 0, none⟩)] 48)) (.cells #[.slice a n c] 29))
  have c0 := box_cell q0
  have c1 := box_cell q1
  have hmx := hR.most
  have hcp := hR.cap
  have hig := isBig_any a n c W (by unfold maxLen at hmx; omega)
  have hl := hR.len
  have hLW := h.below hB
  have hRW := hR.carry (Nat.le_refl _) hB
  obtain ⟨v, hLD, _⟩ := h.ex
  have hF := hLD.D.lt
  have hH := h.lt
  unfold appendT
  rw [hl]
  by_cases hbig : 1048576 < n
  · rw [if_pos hbig]
    rw [decide_eq_true hbig] at hig
    clear hbig hl
    go_enter Tryz.func22, Tryz.ntmps22
    go_upto_region 1 with fail
    clear hW
    go_wp2_with (first
      | (go_at_call 63; refine hig.mono ?_; rintro e w1 ⟨rfl, h1⟩; replace h1 := h1.symm; subst h1))
    go_ret
    exact ⟨rfl, Lgp.from hB (Lgp.refl hLW)⟩
  · rw [if_neg hbig]
    rw [decide_eq_false hbig] at hig
    have hA : Calls Tryz.prog 60 #[.func (.func 64) #[] #[.pointer (some ⟨w.heap.size, 0, none⟩), .pointer (some ⟨w.heap.size + 1, 0, none⟩)]] W fun e w' => e = .returned (.int .i64 (appendL l k xs).1) ∧ Lgp W F H lb d (appendL l k xs).2.1 (appendL l k xs).2.2 w' := by
      refine attempt_L _ _ _ W F H lb d l _ k _ hLW (enters_of Tryz.func64 (by kernel_rfl) rfl) (fun hL1 hb1 => ?_)
      exact appendC_any _ F H lb d _ _ l k hL1 ok hst hfl a n c xs (hRW.carry (Nat.le_refl _) hb1) (by omega) hRF (box_below q0 hb1) (box_below q1 hb1) (fun hf => by have := hF _ hf; omega) (fun hf => by have := hF _ hf; omega) (fun hf => by have := hH _ hf; omega) (fun hf => by have := hH _ hf; omega)
    obtain ⟨P, hP⟩ : ∃ P, appendL l k xs = P := ⟨_, rfl⟩
    rw [hP] at hA ⊢
    clear hP hbig hl hLW hRW
    go_enter Tryz.func22, Tryz.ntmps22
    go_upto_region 1 with fail
    clear hW
    go_wp2_with (first
      | (go_at_call 63; refine hig.mono ?_; rintro e w1 ⟨rfl, h1⟩; replace h1 := h1.symm; subst h1)
      | (go_at_call 60; refine hA.mono ?_; rintro e w1 ⟨rfl, hp⟩))
    go_ret
    exact ⟨rfl, hp.from hB⟩

/-- Commit. -/
def commitL (l : Lg) (k : Dk) : Nat × Lg × Dk := ((settleL l.ch l.dn k).1, ⟨l.most, l.recs, (settleL l.ch l.dn k).2.1, (settleL l.ch l.dn k).2.2.1⟩, (settleL l.ch l.dn k).2.2.2)
set_option maxHeartbeats 1000000 in
theorem commitC_any (W : World) (F H : Nat → Prop) (lb d bl : Nat) (l : Lg) (k : Dk) (h : LogAt W F H lb d l k) (ok : l.Ok) (hst : k.steps < 999999) (hfl : k.fs.length < 999999)
    (hbl : W.heap[bl]? = some (.cells #[.pointer (some ⟨lb, 0, none⟩)] 48 (0, 0))) (nbl : ¬ F bl) (nhl : ¬ H bl) :
    Calls Tryz.prog 67 #[.pointer (some ⟨bl, 0, none⟩)] W fun e w' => Gs (commitL l k).1 e ∧ Lgp W F H lb d (commitL l k).2.1 (commitL l k).2.2 w' := by
  obtain ⟨v, hLD, hRc⟩ := h.ex
  have hbb : bl ≠ lb := fun e => by rw [e, hLD.blk] at hbl; cases hbl
  have hbX : Below W.heap.size W W.drew := (Below.refl _ _).drew
  have hse := settle_any W.drew F lb d l.most v l.dn k lb 3 l.ch l.ch ⟨by rw [if_pos rfl]; exact hLD.below hbX, fun _ => rfl, fun e => absurd rfl e⟩ (h.pf.below hbX) ok.g (by have := ok.cnt; omega) (by omega) (by omega)
  obtain ⟨R, HR⟩ : ∃ R, Hid (settleL l.ch l.dn k = R) := ⟨_, rfl⟩
  have hE : commitL l k = (R.1, ⟨l.most, l.recs, R.2.1, R.2.2.1⟩, R.2.2.2) := by unfold commitL; rw [HR.out]
  rw [hE]
  rw [HR.out] at hse
  obtain ⟨en, c', dn', k'⟩ := R
  dsimp only at hse ⊢
  clear hE
  have HS0 : W.drew.cell? ⟨bl, 0, none⟩ = some (.pointer (some ⟨lb, 0, none⟩)) := box_cell hbl
  have hfin : ∀ w1, Lcp W.drew F lb d l.most v dn' k' lb 3 l.ch c' w1 → _ := fun w1 hp => (h.below hbX).own (hRc.keep (S := fun _ => False) (Keep.ofBelow hbX) (fun _ _ h => h) (fun _ h => h)) (c' := c') (v := v) (dn' := dn') (k' := k') (w' := w1) (by
    obtain ⟨F', k1, k2, k3⟩ := hp
    exact ⟨F', ⟨by have := k1.L; rw [if_pos rfl] at this ⊢; exact this, fun _ => rfl, fun e => absurd rfl e⟩, k2, k3⟩)
  have nb1 : ¬ (F bl ∨ H bl ∨ bl = lb) := fun h4 => h4.elim nbl (fun h5 => h5.elim nhl hbb)
  by_cases h0 : en = 0
  · subst h0
    go_enter Tryz.func67, Tryz.ntmps67
    go_upto_region 0 with fail
    refine wp_region_lx (fun w' => w'.cell? ⟨bl, 0, none⟩ = some (.pointer (some ⟨lb, 0, none⟩))) [] 5 (by kernel_rfl) (by kernel_rfl) ?_
    refine lx_rd 0 (.pointer (some ⟨lb, 0, none⟩)) (by kernel_rfl) (fun _ _ d _ _ h => by cases d <;> exact h) (by kernel_rfl) HS0 rfl rfl rfl (fun w' hS => ?ha0) ?_
    case ha0 => first | (go_simp; rfl) | go_simp
    simp only [List.setIfInBounds_toArray, List.set_cons_zero, List.set_cons_succ]
    refine lx_rd 1 (.pointer (some ⟨lb, 0, none⟩)) (by kernel_rfl) (fun _ _ d _ _ h => by cases d <;> exact h) (by kernel_rfl) HS0 rfl rfl rfl (fun w' hS => ?ha1) ?_
    case ha1 => first | (go_simp; rfl) | go_simp
    simp only [List.setIfInBounds_toArray, List.set_cons_zero, List.set_cons_succ]
    refine lx_rd 2 (.pointer (some ⟨lb, 0, none⟩)) (by kernel_rfl) (fun _ _ d _ _ h => by cases d <;> exact h) (by kernel_rfl) HS0 rfl rfl rfl (fun w' hS => ?ha2) ?_
    case ha2 => first | (go_simp; rfl) | go_simp
    simp only [List.setIfInBounds_toArray, List.set_cons_zero, List.set_cons_succ]
    refine lx_rd 3 (.pointer (some ⟨lb, 3, none⟩)) (by kernel_rfl) (fun _ _ d _ _ h => by cases d <;> exact h) (by kernel_rfl) HS0 rfl rfl rfl (fun w' hS => ?ha3) ?_
    case ha3 => first | (go_simp; rfl) | go_simp
    simp only [List.setIfInBounds_toArray, List.set_cons_zero, List.set_cons_succ]
    refine lx_one 4 (by kernel_rfl) (stepT_call 68 ?a5 rfl rfl rfl ?r5 ?_)
    case r5 => first | (go_simp; rfl) | go_simp
    refine (hse.mono (fun e w' h => And.intro (h.1.elim (fun k => k.2) (fun k => absurd rfl k.1)) h.2 : ∀ e w', _ → (e = .returned (.tuple #[]) ∧ _))).mono ?_
    rintro e w1 ⟨rfl, hp⟩
    obtain ⟨F1, hL1, hR1, hk1, hF1, hHF1, hP1, hlt1⟩ := hfin w1 hp
    refine ⟨_, rfl, fun _ => hk1.cell (p := ⟨bl, 0, none⟩) HS0 nb1, ?_⟩
    simp only [List.setIfInBounds_toArray, List.set_cons_zero, List.set_cons_succ]
    refine lx_nil (by kernel_rfl) ?_
    go_wp2
    go_end0
    exact ⟨Or.inl ⟨rfl, rfl⟩, F1, H, ⟨⟨v, hL1, hR1⟩, hHF1, h.hl, hlt1, hP1, h.ph⟩, (Keep.ofBelow hbX).trans hk1, hF1, fun i hi => Or.inl hi⟩
  · go_enter Tryz.func67, Tryz.ntmps67
    go_upto_region 0 with fail
    refine wp_region_lx (fun w' => w'.cell? ⟨bl, 0, none⟩ = some (.pointer (some ⟨lb, 0, none⟩))) [] 5 (by kernel_rfl) (by kernel_rfl) ?_
    refine lx_rd 0 (.pointer (some ⟨lb, 0, none⟩)) (by kernel_rfl) (fun _ _ d _ _ h => by cases d <;> exact h) (by kernel_rfl) HS0 rfl rfl rfl (fun w' hS => ?hb0) ?_
    case hb0 => first | (go_simp; rfl) | go_simp
    simp only [List.setIfInBounds_toArray, List.set_cons_zero, List.set_cons_succ]
    refine lx_rd 1 (.pointer (some ⟨lb, 0, none⟩)) (by kernel_rfl) (fun _ _ d _ _ h => by cases d <;> exact h) (by kernel_rfl) HS0 rfl rfl rfl (fun w' hS => ?hb1) ?_
    case hb1 => first | (go_simp; rfl) | go_simp
    simp only [List.setIfInBounds_toArray, List.set_cons_zero, List.set_cons_succ]
    refine lx_rd 2 (.pointer (some ⟨lb, 0, none⟩)) (by kernel_rfl) (fun _ _ d _ _ h => by cases d <;> exact h) (by kernel_rfl) HS0 rfl rfl rfl (fun w' hS => ?hb2) ?_
    case hb2 => first | (go_simp; rfl) | go_simp
    simp only [List.setIfInBounds_toArray, List.set_cons_zero, List.set_cons_succ]
    refine lx_rd 3 (.pointer (some ⟨lb, 3, none⟩)) (by kernel_rfl) (fun _ _ d _ _ h => by cases d <;> exact h) (by kernel_rfl) HS0 rfl rfl rfl (fun w' hS => ?hb3) ?_
    case hb3 => first | (go_simp; rfl) | go_simp
    simp only [List.setIfInBounds_toArray, List.set_cons_zero, List.set_cons_succ]
    refine lx_one 4 (by kernel_rfl) (stepT_callP 68 ?b5 rfl rfl rfl ?s5 ?_)
    case s5 => first | (go_simp; rfl) | go_simp
    refine (hse.mono (fun e w' h => And.intro (h.1.elim (fun k => absurd k.1 h0) (fun k => k.2)) h.2 : ∀ e w', _ → (e = .panicked (gaveS en) ∧ _))).mono ?_
    rintro e w1 ⟨rfl, hp⟩
    obtain ⟨F1, hL1, hR1, hk1, hF1, hHF1, hP1, hlt1⟩ := hfin w1 hp
    refine Or.inr ⟨_, rfl, ?_⟩
    exact ⟨rfl, gs_no h0 rfl, F1, H, ⟨⟨v, hL1, hR1⟩, hHF1, h.hl, hlt1, hP1, h.ph⟩, (Keep.ofBelow hbX).trans hk1, hF1, fun i hi => Or.inl hi⟩

set_option maxHeartbeats 1000000 in
theorem scommit_any (w : World) (F H : Nat → Prop) (lb d : Nat) (l : Lg) (k : Dk) (h : LogAt w F H lb d l k) (ok : l.Ok) (hst : k.steps < 999999) (hfl : k.fs.length < 999999) :
    Calls Tryz.prog 23 #[.pointer (some ⟨lb, 0, none⟩)] w fun e w' => e = .returned (.int .i64 (commitL l k).1) ∧ Lgp w F H lb d (commitL l k).2.1 (commitL l k).2.2 w' := by
  have hmf : ∀ (fn : Fn) (first cap : Array Value) (w : World), (Instr.makeFunc fn first cap).run Tryz.prog w = .ok (.func fn first cap) w := fun _ _ _ _ => rfl
  obtain ⟨W, hW⟩ : ∃ W, w.alloc (.cells #[.pointer (some ⟨lb, 0, none⟩)] 48) = W := ⟨_, rfl⟩
  have hB : Below w.heap.size w W := by rw [← hW]; exact (Below.refl _ _).alloc (Nat.le_refl _) _
  have q0 : W.heap[w.heap.size]? = some (.cells #[.pointer (some ⟨lb, 0, none⟩)] 48 (0, 0)) := by rw [← hW]; exact alloc_at w _
  have c0 := box_cell q0
  have hLW := h.below hB
  obtain ⟨v, hLD, _⟩ := h.ex
  have hF := hLD.D.lt
  have hH := h.lt
  have hA : Calls Tryz.prog 60 #[.func (.func 67) #[] #[.pointer (some ⟨w.heap.size, 0, none⟩)]] W fun e w' => e = .returned (.int .i64 (commitL l k).1) ∧ Lgp W F H lb d (commitL l k).2.1 (commitL l k).2.2 w' := by
    refine attempt_L _ _ _ W F H lb d l _ k _ hLW (enters_of Tryz.func67 (by kernel_rfl) rfl) (fun hL1 hb1 => ?_)
    exact commitC_any _ F H lb d _ l k hL1 ok hst hfl (box_below q0 hb1) (fun hf => by have := hF _ hf; omega) (fun hf => by have := hH _ hf; omega)
  obtain ⟨P, hP⟩ : ∃ P, commitL l k = P := ⟨_, rfl⟩
  rw [hP] at hA ⊢
  clear hP hLW
  go_enter Tryz.func23, Tryz.ntmps23
  go_upto_region 1 with fail
  clear hW
  go_wp2_with (first
    | (go_at_call 60; refine hA.mono ?_; rintro e w1 ⟨rfl, hp⟩))
  go_ret
  exact ⟨rfl, hp.from hB⟩

/-- Len. -/
theorem slen_any (w : World) (F H : Nat → Prop) (lb d : Nat) (l : Lg) (k : Dk) (h : LogAt w F H lb d l k) :
    Calls Tryz.prog 26 #[.pointer (some ⟨lb, 0, none⟩)] w fun e w' => e = .returned (.int .i64 (l.recs.length : Int)) ∧ w' = w := by
  obtain ⟨v, hLD, hRc⟩ := h.ex
  obtain ⟨⟨vs, ov, _⟩, _⟩ := hRc
  obtain ⟨a, c, rfl⟩ := own_sl ov
  have q2 := hLD.c2
  obtain ⟨N, HN⟩ : ∃ N, Hid (l.recs.length = N) := ⟨_, rfl⟩
  rw [HN.out] at q2 ⊢
  clear ov hLD
  go_enter Tryz.func26, Tryz.ntmps26
  go_wp2
  go_ret
  exact ⟨rfl, rfl⟩

/-- At. -/
def atL (l : Lg) (i : Int) : Option (List Int) := if i < 0 then none else l.recs[i.toNat]?
set_option maxHeartbeats 1000000 in
theorem sat_any (w : World) (F H : Nat → Prop) (lb d : Nat) (l : Lg) (k : Dk) (i : Int) (hi1 : i ≤ 9223372036854775807) (h : LogAt w F H lb d l k) (hlen : ∀ r ∈ l.recs, r.length ≤ 1000000000) :
    Calls Tryz.prog 27 #[.pointer (some ⟨lb, 0, none⟩), .int .i64 i] w fun e w' => ∃ u, e = .returned (.tuple #[u, .bool (atL l i).isSome]) ∧ w'.ownsRow w.heap.size 5 1 u ((atL l i).getD []).length (bc ((atL l i).getD [])) ∧ Bd ((atL l i).getD []) ∧ Below w.heap.size w w' := by
  obtain ⟨v, hLD, hRc⟩ := h.ex
  obtain ⟨⟨vs, ov, hvs⟩, _⟩ := hRc
  obtain ⟨a, c, rfl⟩ := own_sl ov
  have q2 := hLD.c2
  obtain ⟨N, HN⟩ : ∃ N, Hid (l.recs.length = N) := ⟨_, rfl⟩
  have hNm : N ≤ 9223372036854775807 ∧ (N ≤ c ∧ c ≤ 9223372036854775807) := by
    rw [HN.out] at ov
    rcases ov.2 with ⟨e, h0⟩ | ⟨g, cap, cur, e, _, _, hnc, hcm, _⟩
    · cases e; omega
    · cases e; unfold maxLen at hcm; omega
  by_cases h0 : i < 0
  · have hE : atL l i = none := by unfold atL; rw [if_pos h0]
    rw [hE]
    clear ov hLD hvs
    go_enter Tryz.func27, Tryz.ntmps27
    go_wp2
    go_ret2
    exact ⟨_, rfl, ⟨rfl, .inl ⟨rfl, rfl⟩⟩, Bd.nil, Below.refl _ _⟩
  · obtain ⟨j, rfl⟩ := Int.eq_ofNat_of_zero_le (a := i) (by omega)
    have hE0 : atL l (j : Int) = l.recs[j]? := by unfold atL; rw [if_neg h0]; rfl
    by_cases hj : j < N
    · have hjl : j < l.recs.length := by rw [HN.out]; exact hj
      obtain ⟨r, hr⟩ : ∃ r, l.recs[j]? = some r := ⟨_, List.getElem?_eq_getElem hjl⟩
      obtain ⟨u, hu, ou, _, hbr⟩ := hvs j r hr
      have hrl := hlen r (List.mem_of_getElem? hr)
      rw [hE0, hr]
      obtain ⟨au, cu, rfl, ru⟩ := Rd.ofOwn ou hbr
      obtain ⟨g, hg⟩ : ∃ g, a = some ⟨g, 0, none⟩ := by
        rcases ov.2 with ⟨e, h0⟩ | ⟨g, cap, cur, e, _⟩
        · omega
        · cases e; exact ⟨g, rfl⟩
      subst hg
      have hc := ov.cells (g := g) rfl j _ hu
      rw [add_flat, Nat.zero_add] at hc
      have hcl := bcloneO au r.length cu r w ru hrl
      rw [HN.out] at q2
      have hz1 : ¬ (j : Int) < 0 := by omega
      have hz2 : ¬ (N : Int) ≤ (j : Int) := by omega
      have hz3 : (j : Int) < (N : Int) := by omega
      have hz0 : (0 : Int) ≤ (j : Int) := by omega
      obtain ⟨M, HM⟩ : ∃ M, Hid (r.length = M) := ⟨_, rfl⟩
      simp only [Option.getD_some, Option.isSome_some]
      rw [HM.out] at hcl hc ⊢
      clear ov hLD hvs hu ou ru hr hE0 h0 hrl hjl
      go_enter Tryz.func27, Tryz.ntmps27
      go_wp2_with (go_at_call 66; refine hcl.mono ?_; rintro e w1 ⟨u1, rfl, o1, hb1⟩)
      go_ret2
      exact ⟨_, rfl, o1, hbr, hb1⟩
    · have hE : atL l (j : Int) = none := by rw [hE0]; exact List.getElem?_eq_none (by rw [HN.out]; omega)
      rw [hE]
      rw [HN.out] at q2
      have hz1 : ¬ (j : Int) < 0 := by omega
      have hz2 : (N : Int) ≤ (j : Int) := by omega
      clear ov hLD hvs hE0 hE
      go_enter Tryz.func27, Tryz.ntmps27
      go_wp2
      go_ret2
      exact ⟨_, rfl, ⟨rfl, .inl ⟨rfl, rfl⟩⟩, Bd.nil, Below.refl _ _⟩

end Go.Proofs.YtikkieaokfailaaGreatDoor
