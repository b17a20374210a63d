/- MeterMore: of two buckets that were emptied at the same time the one with the higher rate has never less; both have never less as time goes on. -/
import Derived.Test.YtmlkeobmkjdefaaMtL
namespace Go.Proofs.Ytmlkeobmkjdefaa
open Go.RowKit

theorem amt_nz {x : Nat} (h : amt x = true) (h64 : x < 2 ^ 64) : nz x ≤ Fl.inf ∧ Fl.sr x = (nz x : Int) ∧ Fl.nan x = false := by
  rcases nz_cases h h64 with g | ⟨g1, g2⟩
  · rcases (amt_iff h64).1 h with c | c
    · rw [g]; exact ⟨c, sr_pos c, nan_pos c⟩
    · subst c; exact absurd g (by decide)
  · rw [g2]; subst g1; exact ⟨zero_inf, by decide, by decide⟩

theorem fle_amt {x y : Nat} (hx : amt x = true) (h64 : x < 2 ^ 64) (hy : amt y = true) (g64 : y < 2 ^ 64) : fle x y = decide (nz x ≤ nz y) := by
  obtain ⟨_, a1, a2⟩ := amt_nz hx h64
  obtain ⟨_, b1, b2⟩ := amt_nz hy g64
  unfold fle
  rw [a1, a2, b1, b2]
  simp
theorem flt_amt {x y : Nat} (hx : amt x = true) (h64 : x < 2 ^ 64) (hy : amt y = true) (g64 : y < 2 ^ 64) : flt x y = decide (nz x < nz y) := by
  obtain ⟨_, a1, a2⟩ := amt_nz hx h64
  obtain ⟨_, b1, b2⟩ := amt_nz hy g64
  unfold flt
  rw [a1, a2, b1, b2]
  simp

/-- A bucket that was emptied at time 0. -/
def emp (r s : Nat) : Bk := ⟨r, nz s, 0, 0⟩

theorem emp_ok {r s : Nat} (hr : r < 2 ^ 64) (hs : s < 2 ^ 64) (h : fine r s = true) : (emp r s).Ok := by
  have := newB_ok hr hs h
  exact ⟨this.ra, this.r64, this.sb, Nat.zero_le _, (show Fl.nan 0 = false by decide), (show 0 < 2 ^ 64 by decide)⟩

theorem sub_self {s : Nat} (ha : amt s = true) (h64 : s < 2 ^ 64) (hi : nz s < Fl.inf) : Ieee.double.sub (nz s) s = some 0 := by
  rcases nz_cases ha h64 with g | ⟨g1, g2⟩
  · rw [g] at hi ⊢
    rw [Fl.sub_pos hi (Nat.le_refl _), Nat.sub_self, Fl.rnd_zero]
  · rw [g2]; subst g1; decide

theorem emp_of {r s : Nat} (hr : r < 2 ^ 64) (hs : s < 2 ^ 64) (h : fine r s = true) : (newB r s).tk 0 s = (0, emp r s) := by
  have hok := newB_ok hr hs h
  unfold fine at h
  simp only [Bool.and_eq_true, Bool.not_eq_true', decide_eq_false_iff_not] at h
  obtain ⟨⟨h1, h2⟩, h3⟩ := h
  have hfin := nz_fin h2 hs h3
  have n1 := nz_amt h2 hs
  have hlt : flt (nz s) s = false := by
    rw [flt_amt n1.1 n1.2 h2 hs]
    have : nz (nz s) = nz s := by
      rcases nz_cases n1.1 n1.2 with g | ⟨g1, _⟩
      · exact g
      · rw [g1] at hfin; exact absurd hfin (by decide)
    rw [this]
    simp
  have hc : chk (nz s) 0 s = 0 := by
    unfold chk
    have e1 : Fl.nan 0 = false := by decide
    have e2 : decide ((0 : Nat) = NI) = false := by decide
    rw [e1, e2, h2, hlt]
    rfl
  have hse : (newB r s).seen 0 = ⟨r, nz s, nz s, 0⟩ := by
    unfold Bk.seen
    have e1 : flt NI 0 = true := by decide
    show (if flt NI 0 = true then _ else _) = _
    rw [e1, if_pos rfl]
    have e2 : (newB r s).lvl 0 = nz s := by
      unfold Bk.lvl Bk.old
      have : decide ((newB r s).t = NI) = true := (show decide (NI = NI) = true by decide)
      rw [this]
      simp [newB]
    rw [e2]
    rfl
  unfold Bk.tk
  show (if chk (nz s) 0 s ≠ 0 then _ else _) = _
  rw [if_neg (by rw [hc]; simp), hse]
  show (if flt (nz s) s = true then _ else _) = _
  rw [hlt]
  unfold Bk.less emp
  show (_, (⟨r, nz s, (Ieee.double.sub (nz s) s).getD 0, 0⟩ : Bk)) = _
  rw [sub_self h2 hs hfin]
  rfl

/-- What comes in by a rate and a time. -/
def lev (s r t : Nat) : Nat := if t = 0 then 0 else if r = Fl.inf ∨ (t = Fl.inf ∧ r ≠ 0) then s else if r = 0 then 0 else min s (Fl.rnd (Fl.val t * Fl.val r * 2 ^ 1852))

theorem val_mono {x y : Nat} (h : x ≤ y) : Fl.val x ≤ Fl.val y := by
  have := Fl.val_lt_iff y x
  omega

theorem lev_mono {s r r' t t' : Nat} (hr : r ≤ r') (hr' : r' ≤ Fl.inf) (ht : t ≤ t') (ht' : t' ≤ Fl.inf) : lev s r t ≤ lev s r' t' := by
  have hls : lev s r t ≤ s := by
    unfold lev
    split
    · exact Nat.zero_le _
    · split
      · exact Nat.le_refl _
      · split
        · exact Nat.zero_le _
        · exact Nat.min_le_left _ _
  by_cases h0 : t = 0
  · have : lev s r t = 0 := by unfold lev; rw [if_pos h0]
    omega
  by_cases h1 : r = 0
  · have : lev s r t = 0 := by
      unfold lev
      rw [if_neg h0, if_neg, if_pos h1]
      rintro (g | ⟨_, g⟩)
      · rw [h1] at g; exact absurd g (by decide)
      · exact g h1
    omega
  by_cases h2 : r' = Fl.inf ∨ (t' = Fl.inf ∧ r' ≠ 0)
  · have : lev s r' t' = s := by unfold lev; rw [if_neg (by omega), if_pos h2]
    omega
  · have h3 : ¬ (r = Fl.inf ∨ (t = Fl.inf ∧ r ≠ 0)) := by
      rintro (g | ⟨g, g2⟩)
      · exact h2 (Or.inl (by omega))
      · exact h2 (Or.inr ⟨by omega, by omega⟩)
    unfold lev
    rw [if_neg h0, if_neg h3, if_neg h1, if_neg (by omega), if_neg h2, if_neg (by omega)]
    refine Nat.le_min.2 ⟨Nat.min_le_left _ _, Nat.le_trans (Nat.min_le_right _ _) (Fl.rnd_mono ?_)⟩
    exact Nat.mul_le_mul_right _ (Nat.mul_le_mul (val_mono ht) (val_mono hr))

theorem add_zeroL {x : Nat} (h : x ≤ Fl.inf) : Ieee.double.add 0 x = some x := by
  rcases Nat.lt_or_eq_of_le h with g | g
  · rw [Fl.add_pos (by decide) g, Fl.vl_zero, Nat.zero_add, Fl.rnd_vl h]
  · subst g; exact Fl.add_inf (by decide)

theorem sub_zero {x : Nat} (h : x < Fl.inf) : Ieee.double.sub x 0 = some x := by
  rw [Fl.sub_pos h (Nat.zero_le _), Fl.vl_zero, Nat.sub_zero, Fl.rnd_vl (Nat.le_of_lt h)]

theorem feq_nz {x : Nat} (h : amt x = true) (h64 : x < 2 ^ 64) : feq x 0 = decide (nz x = 0) := by
  obtain ⟨_, a1, a2⟩ := amt_nz h h64
  unfold feq
  rw [a1, a2, nan_pos zero_inf, sr_pos zero_inf]
  simp

/-- The level of a bucket that was emptied at time 0. -/
theorem emp_lvl {r s t : Nat} (hr : amt r = true) (r64 : r < 2 ^ 64) (ht : amt t = true) (t64 : t < 2 ^ 64) : (emp r s).lvl t = lev (nz s) (nz r) (nz t) := by
  obtain ⟨a0, a1, a2⟩ := amt_nz hr r64
  obtain ⟨b0, b1, b2⟩ := amt_nz ht t64
  have z0 : amt 0 = true := by decide
  have e1 : (emp r s).old t = decide (nz t = 0) := by
    unfold Bk.old
    show (Fl.nan t || decide ((0 : Nat) = NI) || fle t 0) = _
    rw [b2, fle_amt ht t64 z0 (by decide)]
    have : decide ((0 : Nat) = NI) = false := by decide
    have z1 : nz 0 = 0 := by decide
    rw [this, z1]
    simp
  have hrc := nz_cases hr r64
  have e2 : (emp r s).full t = decide (nz r = Fl.inf ∨ (nz t = Fl.inf ∧ nz r ≠ 0)) := by
    unfold Bk.full
    show (decide (r = Fl.inf) || (decide (t = Fl.inf) && !feq r 0)) = _
    rw [feq_nz hr r64]
    have q1 : (r = Fl.inf) ↔ (nz r = Fl.inf) := by
      rcases hrc with g | ⟨g1, g2⟩
      · rw [g]
      · rw [g2]; subst g1; decide
    have q2 : (t = Fl.inf) ↔ (nz t = Fl.inf) := by
      rcases nz_cases ht t64 with g | ⟨g1, g2⟩
      · rw [g]
      · rw [g2]; subst g1; decide
    rw [Bool.eq_iff_iff]
    simp [q1, q2]
  unfold Bk.lvl lev
  rw [e1, e2]
  show (if decide (nz t = 0) = true then 0 else if _ then nz s else if feq r 0 = true then 0 else min (nz s) _) = _
  rw [feq_nz hr r64]
  simp only [decide_eq_true_eq]
  by_cases h0 : nz t = 0
  · rw [if_pos h0, if_pos h0]
  rw [if_neg h0, if_neg h0]
  by_cases h1 : nz r = Fl.inf ∨ (nz t = Fl.inf ∧ nz r ≠ 0)
  · rw [if_pos h1, if_pos h1]
  rw [if_neg h1, if_neg h1]
  by_cases h2 : nz r = 0
  · rw [if_pos h2, if_pos h2]
  rw [if_neg h2, if_neg h2]
  have r1 : nz r = r := by
    rcases hrc with g | ⟨g1, g2⟩
    · exact g
    · exact absurd g2 h2
  have t1 : nz t = t := by
    rcases nz_cases ht t64 with g | ⟨g1, g2⟩
    · exact g
    · exact absurd g2 h0
  rw [r1] at a0 h1 h2
  rw [t1] at b0 h1
  have c1 : r < Fl.inf := Nat.lt_of_le_of_ne a0 (fun e => h1 (Or.inl e))
  have c2 : t < Fl.inf := Nat.lt_of_le_of_ne b0 (fun e => h1 (Or.inr ⟨e, h2⟩))
  have e9 : (emp r s).grown t = Fl.rnd (Fl.val (nz t) * Fl.val (nz r) * 2 ^ 1852) := by
    rw [r1, t1]
    unfold Bk.grown
    have q1 : (emp r s).l = 0 := rfl
    have q2 : (emp r s).t = 0 := rfl
    have q3 : (emp r s).r = r := rfl
    rw [q1, q2, q3, sub_zero c2, Option.getD_some, Fl.mul_pos c2 c1, Option.getD_some, add_zeroL (Fl.rnd_le _), Option.getD_some]
  exact congrArg (min (nz s)) e9

/-- A row of numbers. -/
structure URd (w : World) (a : Option Addr) (n c : Nat) : Prop where
  cap : n ≤ c
  most : c ≤ maxLen
  flat : 0 < n → ∃ b off, a = some ⟨b, off, none⟩ ∧ ∀ j, j < n → ∃ (T : Nat), T < 2 ^ 64 ∧ w.cell? ⟨b, off + j, none⟩ = some (.int .u64 (T : Int))

theorem URd.below {w w' : World} {a : Option Addr} {n c : Nat} (h : URd w a n c) (hb : Below w.heap.size w w') : URd w' a n c :=
  ⟨h.cap, h.most, fun hn => by
    obtain ⟨b, off, ha, hc⟩ := h.flat hn
    refine ⟨b, off, ha, fun j hj => ?_⟩
    obtain ⟨T, t1, h1⟩ := hc j hj
    exact ⟨T, t1, (hb.cell (World.block_lt_of_cell? w _ h1)).trans h1⟩⟩

theorem fine_amt {r s : Nat} (h : fine r s = true) : amt r = true ∧ amt s = true := by
  unfold fine at h
  simp only [Bool.and_eq_true] at h
  exact h.1

section
open Go.ChangeShapes Go.WideShapes Go.ChangeAt
theorem cellsMore : Try.prog.cellsOf 51 = 4 := by kernel_rfl
theorem cellsU64s : Try.prog.cellsOf 49 = 1 := by kernel_rfl
theorem arr4 {α : Type} {cs : Array α} (h : cs.size = 4) : ∃ c0 c1 c2 c3, cs = #[c0, c1, c2, c3] := by
  obtain ⟨l⟩ := cs
  match l, h with
  | [c0, c1, c2, c3], _ => exact ⟨c0, c1, c2, c3, rfl⟩

theorem urd_of_cells {H : Type} {enc : TypeId × Value → H} {W : World} {v : Value} {fuel : Nat} {y : DataW H × List MemPlace}
    (hf : DataW.trod enc Try.prog W 0 (fun _ => true) true fuel 49 [v] = some y) : ∃ a n c, v = .slice a n c ∧ URd W a n c := by
  rcases Go.Deep.open_slice Try.underlying49 hf with ⟨hcs, _⟩ | ⟨x, l, cc, m, k, D, Pl, hcs, hb, hl, hm, hmm, _, hx⟩
  · simp at hcs
    subst hcs
    exact ⟨none, 0, 0, rfl, Nat.le_refl _, by unfold maxLen; omega, fun h => by omega⟩
  · simp at hcs
    subst hcs
    simp only [if_true] at hmm
    subst hmm
    have each : ∀ j, j < l → ∃ T : Nat, T < 2 ^ 64 ∧ W.cell? (x.add j) = some (.int .u64 (T : Int)) := by
      intro j hj
      obtain ⟨cs', h1, h2⟩ := hx j (by omega)
      rw [cellsU64] at h1
      obtain ⟨_, hlen, hcell⟩ := World.cells?_some h1
      match cs', hlen with
      | [v0], _ =>
        obtain ⟨K, e0, _, w0⟩ := DataW.trod_int Try.underlying22 h2
        simp only [List.cons.injEq, and_true] at e0
        subst e0
        obtain ⟨T, rfl, t1⟩ := u64_nat (bounds_u64 w0)
        have c0 := hcell 0 (by omega)
        rw [Go.Deep.add_add] at c0
        exact ⟨T, t1, by simpa using c0⟩
    refine ⟨some x, l, m, rfl, hl, hm, fun h0 => ?_⟩
    obtain ⟨b, off, spot⟩ := x
    obtain ⟨_, _, e0⟩ := each 0 h0
    have hspot : spot = none := by simpa [Addr.add] using World.cell?_spot e0
    subst hspot
    refine ⟨b, off, rfl, fun j hj => ?_⟩
    obtain ⟨T, t1, e0⟩ := each j hj
    rw [add_flat] at e0
    exact ⟨T, t1, e0⟩

theorem open_more {H : Type} {enc : TypeId × Value → H} {W : World} {b0 : Nat} {v : Value} {d : DataW H} {p : List MemPlace}
    (hv : Value.okWide Try.prog W .any b0 51 v) (h : DataW.Trod enc Try.prog W 0 (fun _ => true) true 51 v d p) :
    ∃ (A B S : Nat) (a : Option Addr) (n c : Nat), A < 2 ^ 64 ∧ B < 2 ^ 64 ∧ S < 2 ^ 64 ∧ v = .agg #[.int .u64 A, .int .u64 B, .int .u64 S, .slice a n c] ∧ URd W a n c := by
  obtain ⟨cs, rfl, hsz⟩ := okWide_struct Try.underlying51 hv
  obtain ⟨c0, c1, c2, c3, rfl⟩ := arr4 (hsz.trans cellsMore)
  obtain ⟨fuel, hf⟩ := h
  obtain ⟨ys, n, _, hx, hl, hlen, hfs⟩ := DataW.trod_struct Try.underlying51 hf
  match ys, hlen with
  | [y0, y1, y2, y3], _ =>
    have f0 : DataW.trod enc Try.prog W 0 (fun _ => true) true n 22 [c0] = some y0 := by simpa [Value.cells, cellsU64] using hfs 0 _ rfl
    have f1 : DataW.trod enc Try.prog W 0 (fun _ => true) true n 22 [c1] = some y1 := by simpa [Value.cells, cellsU64] using hfs 1 _ rfl
    have f2 : DataW.trod enc Try.prog W 0 (fun _ => true) true n 22 [c2] = some y2 := by simpa [Value.cells, cellsU64] using hfs 2 _ rfl
    have f3 : DataW.trod enc Try.prog W 0 (fun _ => true) true n 49 [c3] = some y3 := by simpa [Value.cells, cellsU64s] using hfs 3 _ rfl
    obtain ⟨M, e0, _, w0⟩ := DataW.trod_int Try.underlying22 f0
    obtain ⟨S, e1, _, w1⟩ := DataW.trod_int Try.underlying22 f1
    obtain ⟨T, e2, _, w2⟩ := DataW.trod_int Try.underlying22 f2
    simp only [List.cons.injEq, and_true] at e0 e1 e2
    subst e0 e1 e2
    obtain ⟨M, rfl, t0⟩ := u64_nat (bounds_u64 w0)
    obtain ⟨S, rfl, t1⟩ := u64_nat (bounds_u64 w1)
    obtain ⟨T, rfl, t2⟩ := u64_nat (bounds_u64 w2)
    obtain ⟨a, len, cap, rfl, hR⟩ := urd_of_cells f3
    exact ⟨M, S, T, a, len, cap, t0, t1, t2, rfl, hR⟩
end

set_option maxRecDepth 100000 in
set_option maxHeartbeats 3200000 in
theorem more_bad_st (A B S : Nat) (hS : S < 2 ^ 64) (a : Option Addr) (n c : Nat) (w : World) (hsw : flt B A = false) (h : (fine A S && fine B S) = false) :
    Calls Try.prog 6 #[.agg #[.int .u64 A, .int .u64 B, .int .u64 S, .slice a n c]] w fun e w' => e = .returned (.bool true) ∧ Below w.heap.size w w' := by
  have hfr := run_from
  have hgt := f64_gt A B
  rw [hsw] at hgt
  have hW := wakes_any
  have hb0 : ∀ nq, Below w.heap.size w ((w.alloc (Obj.cells #[.int .u64 A, .int .u64 B, .int .u64 S, .slice a n c] 51)).drewN nq) := fun nq => (((Keep.refl (fun _ => False) _).alloc _).drewN nq).below (Nat.le_refl _) (fun _ h => h.elim)
  clear hsw
  cases gx : fine A S with
  | false =>
    cases gy : fine B S with
    | false =>
      have N1 := fun w => new_bad A S hS gx w
      have N2 := fun w => new_bad B S hS gy w
      clear gx gy h
      go_enter Try.func6, Try.ntmps6
      go_upto_region 2 with fail
      go_quiet (fail)
      have hb1 := hb0 nq
      clear hb0
      generalize (w.alloc (Obj.cells #[.int .u64 A, .int .u64 B, .int .u64 S, .slice a n c] 51)).drewN nq = w1 at *
      go_wp2_with (first
        | (go_at_call 9; refine (N1 _).mono ?_; clear N1; rintro e w2 ⟨rfl, rfl⟩)
        | (go_at_call 9; refine (N2 _).mono ?_; clear N2; rintro e w3 ⟨rfl, rfl⟩)
        | (go_at_call 11; refine (hW _).mono ?_; clear hW; rintro e w4 ⟨rfl, hb4⟩))
      go_ret
      exact ⟨rfl, (hb1).trans (hb4.mono (hb1).size)⟩
    | true =>
      have N1 := fun w => new_bad A S hS gx w
      have N2 := fun w => new_ok B S hS gy w
      clear gx gy h
      go_enter Try.func6, Try.ntmps6
      go_upto_region 2 with fail
      go_quiet (fail)
      have hb1 := hb0 nq
      clear hb0
      generalize (w.alloc (Obj.cells #[.int .u64 A, .int .u64 B, .int .u64 S, .slice a n c] 51)).drewN nq = w1 at *
      go_wp2_with (first
        | (go_at_call 9; refine (N1 _).mono ?_; clear N1; rintro e w2 ⟨rfl, rfl⟩)
        | (go_at_call 9; refine (N2 _).mono ?_; clear N2; rintro e w3 ⟨q, rfl, hB3, hq3, hb3⟩)
        | (go_at_call 11; refine (hW _).mono ?_; clear hW; rintro e w4 ⟨rfl, hb4⟩))
      go_ret
      exact ⟨rfl, ((hb1).trans (hb3.mono (hb1).size)).trans (hb4.mono ((hb1).trans (hb3.mono (hb1).size)).size)⟩
  | true =>
    cases gy : fine B S with
    | false =>
      have N1 := fun w => new_ok A S hS gx w
      have N2 := fun w => new_bad B S hS gy w
      clear gx gy h
      go_enter Try.func6, Try.ntmps6
      go_upto_region 2 with fail
      go_quiet (fail)
      have hb1 := hb0 nq
      clear hb0
      generalize (w.alloc (Obj.cells #[.int .u64 A, .int .u64 B, .int .u64 S, .slice a n c] 51)).drewN nq = w1 at *
      go_wp2_with (first
        | (go_at_call 9; refine (N1 _).mono ?_; clear N1; rintro e w2 ⟨p, rfl, hB2, hp2, hb2⟩)
        | (go_at_call 9; refine (N2 _).mono ?_; clear N2; rintro e w3 ⟨rfl, rfl⟩)
        | (go_at_call 11; refine (hW _).mono ?_; clear hW; rintro e w4 ⟨rfl, hb4⟩))
      go_ret
      exact ⟨rfl, (hb1.trans (hb2.mono hb1.size)).trans (hb4.mono (hb1.trans (hb2.mono hb1.size)).size)⟩
    | true => rw [gx, gy] at h; cases h

set_option maxRecDepth 100000 in
set_option maxHeartbeats 3200000 in
theorem more_ok_st (A B S : Nat) (hA : A < 2 ^ 64) (hB : B < 2 ^ 64) (hS : S < 2 ^ 64) (a : Option Addr) (n c : Nat) (w : World) (hR : URd w a n c) (hsw : flt B A = false) (hx : fine A S = true) (hy : fine B S = true) :
    Calls Try.prog 6 #[.agg #[.int .u64 A, .int .u64 B, .int .u64 S, .slice a n c]] w fun e w' => e = .returned (.bool true) ∧ Below w.heap.size w w' := by
  have hfr := run_from
  have hgt := f64_gt A B
  have HW := wakes_any
  have hcn := hR.cap
  have hcm : c ≤ 9223372036854775807 := hR.most
  have hb0 : ∀ nq, Below w.heap.size w ((w.alloc (Obj.cells #[.int .u64 A, .int .u64 B, .int .u64 S, .slice a n c] 51)).drewN nq) := fun nq => (((Keep.refl (fun _ => False) _).alloc _).drewN nq).below (Nat.le_refl _) (fun _ h => h.elim)
  have ax := (fine_amt hx).1
  have ay := (fine_amt hy).1
  have HO : Hid (nz A ≤ nz B) := by
    unfold Hid
    have q := hsw
    rw [flt_amt (fine_amt hy).1 hB (fine_amt hx).1 hA] at q
    simp at q
    omega
  rw [hsw] at hgt
  clear hsw
  have N1 := fun w => new_ok A S hS hx w
  have N2 := fun w => new_ok B S hS hy w
  have T1 := fun p w h => take_any p (newB A S) (newB_ok hA hS hx) 0 S (by decide) hS w h
  have T2 := fun p w h => take_any p (newB B S) (newB_ok hB hS hy) 0 S (by decide) hS w h
  rw [emp_of hA hS hx] at T1
  rw [emp_of hB hS hy] at T2
  have ox := emp_ok hA hS hx
  have oy := emp_ok hB hS hy
  have f0 := emp_lvl (s := S) ax hA (show amt 0 = true by decide) (by decide)
  go_enter Try.func6, Try.ntmps6
  go_upto_region 2 with fail
  go_quiet (fail)
  have hb1 := hb0 nq
  clear hb0
  generalize (w.alloc (Obj.cells #[.int .u64 A, .int .u64 B, .int .u64 S, .slice a n c] 51)).drewN nq = w1 at *
  go_upto_region 9 with (first
    | (go_at_call 9; refine (N1 _).mono ?_; clear N1; rintro e w2 ⟨p, rfl, hB2, hp2, hb2⟩)
    | (go_at_call 9; refine (N2 _).mono ?_; clear N2; rintro e w3 ⟨q, rfl, hB3, hq3, hb3⟩))
  have hpq : p ≠ q := fun e => by subst e; have := hB2.lt; omega
  have hP : One w p w3 (newB A S) := ⟨hB2.below hb3, newB_ok hA hS hx, (hb1.trans (hb2.mono hb1.size)).trans (hb3.mono (hb1.trans (hb2.mono hb1.size)).size), Nat.le_trans hb1.size hp2⟩
  have hq0 : w.heap.size ≤ q := Nat.le_trans (hb1.trans (hb2.mono hb1.size)).size hq3
  clear hB2 hp2 hb2 hb1 hq3 hb3 hx hy
  replace T1 := T1 p
  replace T2 := T2 q
  go_upto_region 11 with (first
    | (go_at_call 17; refine (T1 _ hP.at_).mono ?_; clear T1; rintro e w4 ⟨rfl, hB4, hk4⟩; have hQ4 := hB3.keep hk4 (fun e => hpq e.symm); have hP4 := hP.turn hk4 hB4 ox)
    | (go_at_call 17; refine (T2 _ hQ4).mono ?_; clear T2; rintro e w5 ⟨rfl, hB5, hk5⟩; have hP5 : One w p w5 (emp A S) := ⟨hP4.at_.keep hk5 hpq, ox, hP4.bel.trans (hk5.below hP4.bel.size (fun k e => by subst e; exact hq0)), hP4.new⟩)
    | (go_at_call 11; refine (HW _).mono ?_; clear HW; rintro e w6 ⟨rfl, hb6⟩; have hP6 := hP5.below hb6; have hQ6 := hB5.below hb6))
  clear hP hB3 hP4 hQ4 hB4 hk4 hP5 hB5 hk5 hb6 hq0
  go_wp2
  go_loopw [11, 12, 13, 14, 15] (fun la wa i _ _ wr => ∃ (j L : Nat), la = .float .f64 L ∧ wa = .float .f64 ((emp A S).lvl L) ∧ i = .int .i64 j ∧ j ≤ 60 ∧ amt L = true ∧ L < 2 ^ 64 ∧ One w p wr (emp A S) ∧ BkAt wr q (emp B S)) (fun _ _ i _ _ _ => 60 - natV i)
  case atStart => exact ⟨0, 0, rfl, by rw [f0]; rfl, rfl, Nat.zero_le _, by decide, by decide, hP6, hQ6⟩
  case round =>
    clear hP6 hQ6 f0
    obtain ⟨j, L, rfl, rfl, rfl, hj, hLa, hL64, hP, hQ⟩ := hrel
    by_cases hlt : j < n ∧ j < 60
    · have hz1 : (j : Int) < (n : Int) := by omega
      have hz2 : (j : Int) < 60 := by omega
      obtain ⟨g, off, rfl, hcell⟩ := (hR.below hP.bel).flat (by omega)
      obtain ⟨T, hT, q0⟩ := hcell j hlt.1
      clear hcell
      have hge := f64_ge T L
      cases g1 : fle L T with
      | false =>
        rw [g1] at hge
        go_wp2
        go_roundw
        case rel => exact ⟨j + 1, L, rfl, rfl, by go_num, by omega, hLa, hL64, hP, hQ⟩
        case measure => simp [natV]; omega
      | true =>
        have hTa : amt T = true := by
          have z := amt_nz hLa hL64
          unfold fle at g1
          rw [z.2.1, z.2.2] at g1
          unfold amt fle
          rw [nan_pos zero_inf, sr_pos zero_inf]
          cases hnn : Fl.nan T
          · rw [hnn] at g1
            simp at g1 ⊢
            omega
          · rw [hnn] at g1; simp at g1
        rw [g1] at hge
        have k1 : nz L ≤ nz T := by
          rw [fle_amt hLa hL64 hTa hT] at g1
          simpa using g1
        have z1 := emp_lvl (s := S) ax hA hTa hT
        have z2 := emp_lvl (s := S) ay hB hTa hT
        have z3 := emp_lvl (s := S) ax hA hLa hL64
        have m1 : (emp A S).lvl T ≤ (emp B S).lvl T := by rw [z1, z2]; exact lev_mono HO.out (amt_nz ay hB).1 (Nat.le_refl _) (amt_nz hTa hT).1
        have m2 : (emp A S).lvl L ≤ (emp A S).lvl T := by rw [z1, z3]; exact lev_mono (Nat.le_refl _) (amt_nz ax hA).1 k1 (amt_nz hTa hT).1
        have s1 : (emp A S).lvl T ≤ Fl.inf := Nat.le_trans (lvl_le ox T) (Nat.le_of_lt ox.sb)
        have s2 : (emp B S).lvl T ≤ Fl.inf := Nat.le_trans (lvl_le oy T) (Nat.le_of_lt oy.sb)
        have s3 : (emp A S).lvl L ≤ Fl.inf := Nat.le_trans (lvl_le ox L) (Nat.le_of_lt ox.sb)
        have f1 := f64_gt ((emp A S).lvl T) ((emp B S).lvl T)
        rw [flt_pos s2 s1, decide_eq_false (by omega)] at f1
        have f2 := f64_lt ((emp A S).lvl T) ((emp A S).lvl L)
        rw [flt_pos s1 s3, decide_eq_false (by omega)] at f2
        have L1 := fun w h => level_any p (emp A S) ox T hT w h
        have L2 := fun w h => level_any q (emp B S) oy T hT w h
        clear z1 z2 z3 m1 m2 s1 s2 s3 k1 g1
        have HV : Hid ((emp A S).lvl T = (emp A S).lvl T) := rfl
        generalize hv1 : (emp A S).lvl T = v1 at f1 f2 L1
        generalize (emp B S).lvl T = v2 at f1 L2
        generalize (emp A S).lvl L = v3 at f2 ⊢
        have HV1 : Hid ((emp A S).lvl T = v1) := hv1
        clear hv1 HV
        go_wp2_with (first
          | (go_at_call 13; refine (L1 _ hP.at_).mono ?_; clear L1; rintro e w4 ⟨rfl, k, rfl⟩; have hP4 := hP.drewN k; have hQ4 := hQ.drewN k)
          | (go_at_call 13; refine (L2 _ hQ4).mono ?_; clear L2; rintro e w5 ⟨rfl, k2, rfl⟩))
        go_roundw
        case rel => exact ⟨j + 1, T, rfl, by rw [HV1.out], by go_num, by omega, hTa, hT, hP.drewN (k + k2), hQ.drewN (k + k2)⟩
        case measure => simp [natV]; omega
    · by_cases hn : j < n
      · have hz1 : (j : Int) < (n : Int) := by omega
        have hz2 : ¬ (j : Int) < 60 := by omega
        go_wp2
        go_ret
        exact ⟨rfl, hP.bel⟩
      · have hz1 : ¬ (j : Int) < (n : Int) := by omega
        go_wp2
        go_ret
        exact ⟨rfl, hP.bel⟩

set_option maxRecDepth 100000 in
set_option maxHeartbeats 3200000 in
theorem more_bad_sw (A B S : Nat) (hS : S < 2 ^ 64) (a : Option Addr) (n c : Nat) (w : World) (hsw : flt B A = true) (h : (fine A S && fine B S) = false) :
    Calls Try.prog 6 #[.agg #[.int .u64 A, .int .u64 B, .int .u64 S, .slice a n c]] w fun e w' => e = .returned (.bool true) ∧ Below w.heap.size w w' := by
  have hfr := run_from
  have hgt := f64_gt A B
  rw [hsw] at hgt
  have hW := wakes_any
  have hb0 : ∀ nq, Below w.heap.size w ((w.alloc (Obj.cells #[.int .u64 A, .int .u64 B, .int .u64 S, .slice a n c] 51)).drewN nq) := fun nq => (((Keep.refl (fun _ => False) _).alloc _).drewN nq).below (Nat.le_refl _) (fun _ h => h.elim)
  clear hsw
  cases gx : fine B S with
  | false =>
    cases gy : fine A S with
    | false =>
      have N1 := fun w => new_bad B S hS gx w
      have N2 := fun w => new_bad A S hS gy w
      clear gx gy h
      go_enter Try.func6, Try.ntmps6
      go_upto_region 2 with fail
      go_quiet (fail)
      have hb1 := hb0 nq
      clear hb0
      generalize (w.alloc (Obj.cells #[.int .u64 A, .int .u64 B, .int .u64 S, .slice a n c] 51)).drewN nq = w1 at *
      go_wp2_with (first
        | (go_at_call 9; refine (N1 _).mono ?_; clear N1; rintro e w2 ⟨rfl, rfl⟩)
        | (go_at_call 9; refine (N2 _).mono ?_; clear N2; rintro e w3 ⟨rfl, rfl⟩)
        | (go_at_call 11; refine (hW _).mono ?_; clear hW; rintro e w4 ⟨rfl, hb4⟩))
      go_ret
      exact ⟨rfl, (hb1).trans (hb4.mono (hb1).size)⟩
    | true =>
      have N1 := fun w => new_bad B S hS gx w
      have N2 := fun w => new_ok A S hS gy w
      clear gx gy h
      go_enter Try.func6, Try.ntmps6
      go_upto_region 2 with fail
      go_quiet (fail)
      have hb1 := hb0 nq
      clear hb0
      generalize (w.alloc (Obj.cells #[.int .u64 A, .int .u64 B, .int .u64 S, .slice a n c] 51)).drewN nq = w1 at *
      go_wp2_with (first
        | (go_at_call 9; refine (N1 _).mono ?_; clear N1; rintro e w2 ⟨rfl, rfl⟩)
        | (go_at_call 9; refine (N2 _).mono ?_; clear N2; rintro e w3 ⟨q, rfl, hB3, hq3, hb3⟩)
        | (go_at_call 11; refine (hW _).mono ?_; clear hW; rintro e w4 ⟨rfl, hb4⟩))
      go_ret
      exact ⟨rfl, ((hb1).trans (hb3.mono (hb1).size)).trans (hb4.mono ((hb1).trans (hb3.mono (hb1).size)).size)⟩
  | true =>
    cases gy : fine A S with
    | false =>
      have N1 := fun w => new_ok B S hS gx w
      have N2 := fun w => new_bad A S hS gy w
      clear gx gy h
      go_enter Try.func6, Try.ntmps6
      go_upto_region 2 with fail
      go_quiet (fail)
      have hb1 := hb0 nq
      clear hb0
      generalize (w.alloc (Obj.cells #[.int .u64 A, .int .u64 B, .int .u64 S, .slice a n c] 51)).drewN nq = w1 at *
      go_wp2_with (first
        | (go_at_call 9; refine (N1 _).mono ?_; clear N1; rintro e w2 ⟨p, rfl, hB2, hp2, hb2⟩)
        | (go_at_call 9; refine (N2 _).mono ?_; clear N2; rintro e w3 ⟨rfl, rfl⟩)
        | (go_at_call 11; refine (hW _).mono ?_; clear hW; rintro e w4 ⟨rfl, hb4⟩))
      go_ret
      exact ⟨rfl, (hb1.trans (hb2.mono hb1.size)).trans (hb4.mono (hb1.trans (hb2.mono hb1.size)).size)⟩
    | true => rw [gx, gy] at h; cases h

set_option maxRecDepth 100000 in
set_option maxHeartbeats 3200000 in
theorem more_ok_sw (A B S : Nat) (hA : A < 2 ^ 64) (hB : B < 2 ^ 64) (hS : S < 2 ^ 64) (a : Option Addr) (n c : Nat) (w : World) (hR : URd w a n c) (hsw : flt B A = true) (hx : fine B S = true) (hy : fine A S = true) :
    Calls Try.prog 6 #[.agg #[.int .u64 A, .int .u64 B, .int .u64 S, .slice a n c]] w fun e w' => e = .returned (.bool true) ∧ Below w.heap.size w w' := by
  have hfr := run_from
  have hgt := f64_gt A B
  have HW := wakes_any
  have hcn := hR.cap
  have hcm : c ≤ 9223372036854775807 := hR.most
  have hb0 : ∀ nq, Below w.heap.size w ((w.alloc (Obj.cells #[.int .u64 A, .int .u64 B, .int .u64 S, .slice a n c] 51)).drewN nq) := fun nq => (((Keep.refl (fun _ => False) _).alloc _).drewN nq).below (Nat.le_refl _) (fun _ h => h.elim)
  have ax := (fine_amt hx).1
  have ay := (fine_amt hy).1
  have HO : Hid (nz B ≤ nz A) := by
    unfold Hid
    have q := hsw
    rw [flt_amt (fine_amt hx).1 hB (fine_amt hy).1 hA] at q
    simp at q
    omega
  rw [hsw] at hgt
  clear hsw
  have N1 := fun w => new_ok B S hS hx w
  have N2 := fun w => new_ok A S hS hy w
  have T1 := fun p w h => take_any p (newB B S) (newB_ok hB hS hx) 0 S (by decide) hS w h
  have T2 := fun p w h => take_any p (newB A S) (newB_ok hA hS hy) 0 S (by decide) hS w h
  rw [emp_of hB hS hx] at T1
  rw [emp_of hA hS hy] at T2
  have ox := emp_ok hB hS hx
  have oy := emp_ok hA hS hy
  have f0 := emp_lvl (s := S) ax hB (show amt 0 = true by decide) (by decide)
  go_enter Try.func6, Try.ntmps6
  go_upto_region 2 with fail
  go_quiet (fail)
  have hb1 := hb0 nq
  clear hb0
  generalize (w.alloc (Obj.cells #[.int .u64 A, .int .u64 B, .int .u64 S, .slice a n c] 51)).drewN nq = w1 at *
  go_upto_region 9 with (first
    | (go_at_call 9; refine (N1 _).mono ?_; clear N1; rintro e w2 ⟨p, rfl, hB2, hp2, hb2⟩)
    | (go_at_call 9; refine (N2 _).mono ?_; clear N2; rintro e w3 ⟨q, rfl, hB3, hq3, hb3⟩))
  have hpq : p ≠ q := fun e => by subst e; have := hB2.lt; omega
  have hP : One w p w3 (newB B S) := ⟨hB2.below hb3, newB_ok hB hS hx, (hb1.trans (hb2.mono hb1.size)).trans (hb3.mono (hb1.trans (hb2.mono hb1.size)).size), Nat.le_trans hb1.size hp2⟩
  have hq0 : w.heap.size ≤ q := Nat.le_trans (hb1.trans (hb2.mono hb1.size)).size hq3
  clear hB2 hp2 hb2 hb1 hq3 hb3 hx hy
  replace T1 := T1 p
  replace T2 := T2 q
  go_upto_region 11 with (first
    | (go_at_call 17; refine (T1 _ hP.at_).mono ?_; clear T1; rintro e w4 ⟨rfl, hB4, hk4⟩; have hQ4 := hB3.keep hk4 (fun e => hpq e.symm); have hP4 := hP.turn hk4 hB4 ox)
    | (go_at_call 17; refine (T2 _ hQ4).mono ?_; clear T2; rintro e w5 ⟨rfl, hB5, hk5⟩; have hP5 : One w p w5 (emp B S) := ⟨hP4.at_.keep hk5 hpq, ox, hP4.bel.trans (hk5.below hP4.bel.size (fun k e => by subst e; exact hq0)), hP4.new⟩)
    | (go_at_call 11; refine (HW _).mono ?_; clear HW; rintro e w6 ⟨rfl, hb6⟩; have hP6 := hP5.below hb6; have hQ6 := hB5.below hb6))
  clear hP hB3 hP4 hQ4 hB4 hk4 hP5 hB5 hk5 hb6 hq0
  go_wp2
  go_loopw [11, 12, 13, 14, 15] (fun la wa i _ _ wr => ∃ (j L : Nat), la = .float .f64 L ∧ wa = .float .f64 ((emp B S).lvl L) ∧ i = .int .i64 j ∧ j ≤ 60 ∧ amt L = true ∧ L < 2 ^ 64 ∧ One w p wr (emp B S) ∧ BkAt wr q (emp A S)) (fun _ _ i _ _ _ => 60 - natV i)
  case atStart => exact ⟨0, 0, rfl, by rw [f0]; rfl, rfl, Nat.zero_le _, by decide, by decide, hP6, hQ6⟩
  case round =>
    clear hP6 hQ6 f0
    obtain ⟨j, L, rfl, rfl, rfl, hj, hLa, hL64, hP, hQ⟩ := hrel
    by_cases hlt : j < n ∧ j < 60
    · have hz1 : (j : Int) < (n : Int) := by omega
      have hz2 : (j : Int) < 60 := by omega
      obtain ⟨g, off, rfl, hcell⟩ := (hR.below hP.bel).flat (by omega)
      obtain ⟨T, hT, q0⟩ := hcell j hlt.1
      clear hcell
      have hge := f64_ge T L
      cases g1 : fle L T with
      | false =>
        rw [g1] at hge
        go_wp2
        go_roundw
        case rel => exact ⟨j + 1, L, rfl, rfl, by go_num, by omega, hLa, hL64, hP, hQ⟩
        case measure => simp [natV]; omega
      | true =>
        have hTa : amt T = true := by
          have z := amt_nz hLa hL64
          unfold fle at g1
          rw [z.2.1, z.2.2] at g1
          unfold amt fle
          rw [nan_pos zero_inf, sr_pos zero_inf]
          cases hnn : Fl.nan T
          · rw [hnn] at g1
            simp at g1 ⊢
            omega
          · rw [hnn] at g1; simp at g1
        rw [g1] at hge
        have k1 : nz L ≤ nz T := by
          rw [fle_amt hLa hL64 hTa hT] at g1
          simpa using g1
        have z1 := emp_lvl (s := S) ax hB hTa hT
        have z2 := emp_lvl (s := S) ay hA hTa hT
        have z3 := emp_lvl (s := S) ax hB hLa hL64
        have m1 : (emp B S).lvl T ≤ (emp A S).lvl T := by rw [z1, z2]; exact lev_mono HO.out (amt_nz ay hA).1 (Nat.le_refl _) (amt_nz hTa hT).1
        have m2 : (emp B S).lvl L ≤ (emp B S).lvl T := by rw [z1, z3]; exact lev_mono (Nat.le_refl _) (amt_nz ax hB).1 k1 (amt_nz hTa hT).1
        have s1 : (emp B S).lvl T ≤ Fl.inf := Nat.le_trans (lvl_le ox T) (Nat.le_of_lt ox.sb)
        have s2 : (emp A S).lvl T ≤ Fl.inf := Nat.le_trans (lvl_le oy T) (Nat.le_of_lt oy.sb)
        have s3 : (emp B S).lvl L ≤ Fl.inf := Nat.le_trans (lvl_le ox L) (Nat.le_of_lt ox.sb)
        have f1 := f64_gt ((emp B S).lvl T) ((emp A S).lvl T)
        rw [flt_pos s2 s1, decide_eq_false (by omega)] at f1
        have f2 := f64_lt ((emp B S).lvl T) ((emp B S).lvl L)
        rw [flt_pos s1 s3, decide_eq_false (by omega)] at f2
        have L1 := fun w h => level_any p (emp B S) ox T hT w h
        have L2 := fun w h => level_any q (emp A S) oy T hT w h
        clear z1 z2 z3 m1 m2 s1 s2 s3 k1 g1
        have HV : Hid ((emp B S).lvl T = (emp B S).lvl T) := rfl
        generalize hv1 : (emp B S).lvl T = v1 at f1 f2 L1
        generalize (emp A S).lvl T = v2 at f1 L2
        generalize (emp B S).lvl L = v3 at f2 ⊢
        have HV1 : Hid ((emp B S).lvl T = v1) := hv1
        clear hv1 HV
        go_wp2_with (first
          | (go_at_call 13; refine (L1 _ hP.at_).mono ?_; clear L1; rintro e w4 ⟨rfl, k, rfl⟩; have hP4 := hP.drewN k; have hQ4 := hQ.drewN k)
          | (go_at_call 13; refine (L2 _ hQ4).mono ?_; clear L2; rintro e w5 ⟨rfl, k2, rfl⟩))
        go_roundw
        case rel => exact ⟨j + 1, T, rfl, by rw [HV1.out], by go_num, by omega, hTa, hT, hP.drewN (k + k2), hQ.drewN (k + k2)⟩
        case measure => simp [natV]; omega
    · by_cases hn : j < n
      · have hz1 : (j : Int) < (n : Int) := by omega
        have hz2 : ¬ (j : Int) < 60 := by omega
        go_wp2
        go_ret
        exact ⟨rfl, hP.bel⟩
      · have hz1 : ¬ (j : Int) < (n : Int) := by omega
        go_wp2
        go_ret
        exact ⟨rfl, hP.bel⟩

theorem more_law (A B S : Nat) (hA : A < 2 ^ 64) (hB : B < 2 ^ 64) (hS : S < 2 ^ 64) (a : Option Addr) (n c : Nat) (w : World) (hR : URd w a n c) :
    Calls Try.prog 6 #[.agg #[.int .u64 A, .int .u64 B, .int .u64 S, .slice a n c]] w fun e w' => e = .returned (.bool true) ∧ Below w.heap.size w w' := by
  cases hsw : flt B A with
  | true =>
    cases h : fine A S && fine B S with
    | false => exact more_bad_sw A B S hS a n c w hsw h
    | true =>
      rw [Bool.and_eq_true] at h
      exact more_ok_sw A B S hA hB hS a n c w hR hsw h.2 h.1
  | false =>
    cases h : fine A S && fine B S with
    | false => exact more_bad_st A B S hS a n c w hsw h
    | true =>
      rw [Bool.and_eq_true] at h
      exact more_ok_st A B S hA hB hS a n c w hR hsw h.1 h.2

end Go.Proofs.Ytmlkeobmkjdefaa
