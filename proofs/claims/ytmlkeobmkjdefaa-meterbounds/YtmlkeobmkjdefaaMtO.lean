/- MeterBounds: the level stays within its bounds, whatever is asked; asking what there is changes nothing. -/
import Derived.Test.YtmlkeobmkjdefaaMtS
namespace Go.Proofs.Ytmlkeobmkjdefaa
open Go.RowKit

theorem wt_cases {b : Bk} (hb : b.Ok) {now cost : Nat} (hc : cost < 2 ^ 64) :
    (b.wt now cost = NaN ∧ ((b.tk now cost).1 = 1 ∨ (b.tk now cost).1 = 3)) ∨ (b.wt now cost ≤ Fl.inf ∧ (b.tk now cost).1 = 19) ∨ (b.wt now cost = 0 ∧ (b.tk now cost).1 = 0) := by
  by_cases g : chk b.s now cost = 0
  · obtain ⟨g1, g2, g3, g4⟩ := chk_zero g
    have hl := lvl_le hb now
    have hs := hb.sb
    have hse : (b.seen now).l = b.lvl now := by
      unfold Bk.seen
      cases q : flt b.t now with
      | true => rfl
      | false => exact (lvl_old hb g1 q).symm
    have htk : (b.tk now cost).1 = if flt (b.lvl now) cost then 19 else 0 := by
      unfold Bk.tk
      rw [if_neg (by rw [g]; simp), hse]
      cases flt (b.lvl now) cost <;> rfl
    cases q : flt (b.lvl now) cost with
    | true =>
      right; left
      rw [htk, q]
      refine ⟨?_, rfl⟩
      unfold Bk.wt
      rw [if_neg (by rw [g]; simp)]
      cases a1 : fle cost (b.lvl now) with
      | true => exact Nat.zero_le _
      | false =>
        rw [if_neg (by decide)]
        cases a2 : feq b.r 0 with
        | true => exact Nat.le_refl _
        | false =>
          rw [if_neg (by decide)]
          by_cases a3 : b.r = Fl.inf
          · rw [if_pos a3]; exact Nat.zero_le _
          · rw [if_neg a3]
            obtain ⟨d, v, e1, e2, hv, _, _⟩ := wt_some hb hc g a1 a2 a3
            rw [e1, Option.getD_some, e2, Option.getD_some]
            exact hv
    | false =>
      right; right
      rw [htk, q]
      refine ⟨?_, rfl⟩
      unfold Bk.wt
      rw [if_neg (by rw [g]; simp)]
      have : fle cost (b.lvl now) = true := by
        unfold flt at q
        unfold fle
        rw [nan_pos (show b.lvl now ≤ Fl.inf by omega), nan_amt g3] at *
        simp at q ⊢
        omega
      rw [this]
      rfl
  · left
    unfold Bk.wt Bk.tk
    rw [if_pos g, if_pos g]
    refine ⟨rfl, ?_⟩
    show chk b.s now cost = 1 ∨ chk b.s now cost = 3
    unfold chk at *
    split
    · exact Or.inl rfl
    · rename_i h1
      rw [if_neg h1] at g
      split
      · exact Or.inr rfl
      · rename_i h2
        rw [if_neg h2] at g
        exact absurd rfl g

theorem burst_ge {S v : Nat} (hS : S < 2 ^ 64) (ha : amt S = true) (h : v ≤ nz S) (hv : v ≤ Fl.inf) : flt S v = false := by
  rcases nz_cases ha hS with g | ⟨g1, g2⟩
  · rw [g] at h
    rcases (amt_iff hS).1 ha with c | c
    · rw [flt_pos c hv]; exact decide_eq_false (by omega)
    · subst c
      exact absurd g (by decide)
  · rw [g2] at h
    obtain rfl : v = 0 := by omega
    subst g1
    decide

theorem flt_zero {x : Nat} (h : x ≤ Fl.inf) : flt x 0 = false := by
  rw [flt_pos h zero_inf]; exact decide_eq_false (by omega)

set_option maxRecDepth 100000 in
set_option maxHeartbeats 1600000 in
theorem bounds_bad (R S : Nat) (hS : S < 2 ^ 64) (a : Option Addr) (n c : Nat) (w : World) (h : fine R S = false) :
    Calls Try.prog 4 #[.int .u64 R, .int .u64 S, .slice a n c] w fun e w' => e = .returned (.bool true) ∧ Below w.heap.size w w' := by
  have hfr := run_from
  have hW := wakes_any
  have N1 := fun w => new_bad R S hS h w
  clear h
  go_enter Try.func4, Try.ntmps4
  go_wp2_with (first
    | (go_at_call 9; refine (N1 _).mono ?_; clear N1; rintro e w1 ⟨rfl, rfl⟩)
    | (go_at_call 11; refine (hW _).mono ?_; rintro e w2 ⟨rfl, hb2⟩))
  go_ret
  exact ⟨rfl, hb2⟩

set_option maxRecDepth 100000 in
set_option maxHeartbeats 3200000 in
theorem bounds_ok (R S : Nat) (hRr : R < 2 ^ 64) (hS : S < 2 ^ 64) (a : Option Addr) (n c : Nat) (w : World) (hR : ARd w a n c) (h : fine R S = true) :
    Calls Try.prog 4 #[.int .u64 R, .int .u64 S, .slice a n c] w fun e w' => e = .returned (.bool true) ∧ Below w.heap.size w w' := by
  have hfr := run_from
  have hcn := hR.cap
  have hcm : c ≤ 9223372036854775807 := hR.most
  have N1 := fun w => new_ok R S hS h w
  have hok := newB_ok hRr hS h
  have hSa : Hid (amt S = true) := by
    unfold Hid
    unfold fine at h
    simp only [Bool.and_eq_true] at h
    exact h.1.2
  have HW := wakes_any
  go_enter Try.func4, Try.ntmps4
  go_upto_region 5 with (first
    | (go_at_call 9; refine (N1 _).mono ?_; clear N1; rintro e w1 ⟨p, rfl, hB1, hp1, hb1⟩))
  have hD : One w p w1 (newB R S) := ⟨hB1, hok, hb1, hp1⟩
  have hs0 : (newB R S).s = nz S := rfl
  clear hB1 hp1 hb1 hok h hfr
  have hfr := run_from
  generalize newB R S = b0 at hD hs0
  go_wp2
  go_loopw [11, 12, 13, 14, 15, 16] (fun i _ _ _ _ _ wr => ∃ (j : Nat) (b : Bk), i = .int .i64 j ∧ j ≤ 200 ∧ One w p wr b ∧ b.s = nz S) (fun i _ _ _ _ _ _ => 200 - natV i)
  case atStart => exact ⟨0, _, rfl, Nat.zero_le _, hD, hs0⟩
  case round =>
    clear hD hs0
    obtain ⟨j, b, rfl, hj, hD, hs⟩ := hrel
    by_cases hlt : j < n ∧ j < 200
    · have hz1 : (j : Int) < (n : Int) := by omega
      have hz2 : (j : Int) < 200 := by omega
      obtain ⟨g, off, rfl, hcell⟩ := (hR.below hD.bel).flat (by omega)
      obtain ⟨D, T, C, hT, hC, q0, q1, q2⟩ := hcell j hlt.1
      clear hcell
      go_upto_region 8 with fail
      go_quiet (fail)
      have hE := hD.drewN nq
      clear hD q0 q1 q2
      generalize wr.drewN nq = W at hE ⊢
      have L1 := fun w h => level_any p b hE.ok T hT w h
      have L2 := L1
      have W1 := fun w h => wait_any p b hE.ok T C hT hC w h
      have T1 := fun w h => take_any p b hE.ok T C hT hC w h
      have hk := tk_ok hE.ok hT hC
      have hks := (tk_same b T C).2
      have hv : b.lvl T ≤ Fl.inf := by have := lvl_le hE.ok T; have := hE.ok.sb; omega
      have f1 := f64_ge (b.lvl T) 0
      rw [fle_pos zero_inf hv, decide_eq_true (Nat.zero_le _)] at f1
      have f2 := f64_gt (b.lvl T) S
      rw [burst_ge hS hSa.out (by rw [← hs]; exact lvl_le hE.ok T) hv] at f2
      have f3 := f64_ne (b.lvl T) (b.lvl T)
      rw [feq_pos hv hv, decide_eq_true rfl] at f3
      have G1 := fun w => signbit_any (b.lvl T) hv w
      have cs := wt_cases (now := T) hE.ok hC
      have f4 := f64_lt (b.wt T C) 0
      have f5 := nan_neq (b.wt T C)
      have f6 := f64_ne (b.wt T C) 0
      rw [hs] at hks
      clear hv
      generalize b.lvl T = v at *
      generalize b.wt T C = wv at *
      generalize (b.tk T C).1 = z at *
      generalize (b.tk T C).2 = b2 at *
      have fin : ∀ (k k2 k3 : Nat) (w5 : World), BkAt w5 p b2 → Keep (fun i => i = p) (W.drewN (k + k2 + k3)) w5 → ∃ (j' : Nat) (b : Bk), Value.int .i64 ((j : Int) + 1) = .int .i64 j' ∧ j' ≤ 200 ∧ One w p w5 b ∧ b.s = nz S := fun k k2 k3 w5 h5 k5 =>
        ⟨j + 1, b2, by go_num, by omega, (hE.drewN _).turn k5 h5 hk, hks⟩
      rcases cs with ⟨rfl, cz⟩ | ⟨cw, rfl⟩ | ⟨rfl, rfl⟩
      · have e4 : flt NaN 0 = false := by decide
        have e5 : Fl.nan NaN = true := by decide
        rw [e4] at f4
        rw [e5] at f5
        clear f6 e4 e5
        rcases cz with rfl | rfl
        · go_wp2_with (first
            | (go_at_call 13; refine (L1 _ hE.at_).mono ?_; clear L1; rintro e w4 ⟨rfl, k, rfl⟩; have hE4 := hE.drewN k)
            | (go_at_call 15; refine (W1 _ hE4.at_).mono ?_; clear W1; rintro e w5 ⟨rfl, k2, rfl⟩; have hE5 := hE.drewN (k + k2))
            | (go_at_call 19; refine (G1 _).mono ?_; clear G1; rintro e w6 ⟨rfl, rfl⟩)
            | (go_at_call 13; refine (L2 _ hE5.at_).mono ?_; clear L2; rintro e w7 ⟨rfl, k3, rfl⟩; have hE7 := hE.drewN (k + k2 + k3))
            | (go_at_call 17; refine (T1 _ hE7.at_).mono ?_; clear T1; rintro e w8 ⟨rfl, hB8, hk8⟩))
          go_roundw
          case rel => exact fin k k2 k3 _ hB8 hk8
          case measure => simp [natV]; omega
        · go_wp2_with (first
            | (go_at_call 13; refine (L1 _ hE.at_).mono ?_; clear L1; rintro e w4 ⟨rfl, k, rfl⟩; have hE4 := hE.drewN k)
            | (go_at_call 15; refine (W1 _ hE4.at_).mono ?_; clear W1; rintro e w5 ⟨rfl, k2, rfl⟩; have hE5 := hE.drewN (k + k2))
            | (go_at_call 19; refine (G1 _).mono ?_; clear G1; rintro e w6 ⟨rfl, rfl⟩)
            | (go_at_call 13; refine (L2 _ hE5.at_).mono ?_; clear L2; rintro e w7 ⟨rfl, k3, rfl⟩; have hE7 := hE.drewN (k + k2 + k3))
            | (go_at_call 17; refine (T1 _ hE7.at_).mono ?_; clear T1; rintro e w8 ⟨rfl, hB8, hk8⟩))
          go_roundw
          case rel => exact fin k k2 k3 _ hB8 hk8
          case measure => simp [natV]; omega
      · rw [flt_zero cw] at f4
        rw [nan_pos cw] at f5
        clear f6
        go_wp2_with (first
          | (go_at_call 13; refine (L1 _ hE.at_).mono ?_; clear L1; rintro e w4 ⟨rfl, k, rfl⟩; have hE4 := hE.drewN k)
          | (go_at_call 15; refine (W1 _ hE4.at_).mono ?_; clear W1; rintro e w5 ⟨rfl, k2, rfl⟩; have hE5 := hE.drewN (k + k2))
          | (go_at_call 19; refine (G1 _).mono ?_; clear G1; rintro e w6 ⟨rfl, rfl⟩)
          | (go_at_call 13; refine (L2 _ hE5.at_).mono ?_; clear L2; rintro e w7 ⟨rfl, k3, rfl⟩; have hE7 := hE.drewN (k + k2 + k3))
          | (go_at_call 17; refine (T1 _ hE7.at_).mono ?_; clear T1; rintro e w8 ⟨rfl, hB8, hk8⟩))
        go_roundw
        case rel => exact fin k k2 k3 _ hB8 hk8
        case measure => simp [natV]; omega
      · rw [flt_zero zero_inf] at f4
        rw [nan_pos zero_inf] at f5
        rw [feq_pos zero_inf zero_inf, decide_eq_true rfl] at f6
        go_wp2_with (first
          | (go_at_call 13; refine (L1 _ hE.at_).mono ?_; clear L1; rintro e w4 ⟨rfl, k, rfl⟩; have hE4 := hE.drewN k)
          | (go_at_call 15; refine (W1 _ hE4.at_).mono ?_; clear W1; rintro e w5 ⟨rfl, k2, rfl⟩; have hE5 := hE.drewN (k + k2))
          | (go_at_call 19; refine (G1 _).mono ?_; clear G1; rintro e w6 ⟨rfl, rfl⟩)
          | (go_at_call 13; refine (L2 _ hE5.at_).mono ?_; clear L2; rintro e w7 ⟨rfl, k3, rfl⟩; have hE7 := hE.drewN (k + k2 + k3))
          | (go_at_call 17; refine (T1 _ hE7.at_).mono ?_; clear T1; rintro e w8 ⟨rfl, hB8, hk8⟩))
        go_roundw
        case rel => exact fin k k2 k3 _ hB8 hk8
        case measure => simp [natV]; omega
    · by_cases hn : j < n
      · have hz1 : (j : Int) < (n : Int) := by omega
        have hz2 : ¬ (j : Int) < 200 := by omega
        go_wp2_with (first
          | (go_at_call 11; refine (HW _).mono ?_; clear HW; rintro e w2 ⟨rfl, hb2⟩))
        go_ret
        exact ⟨rfl, hD.bel.trans (hb2.mono hD.bel.size)⟩
      · have hz1 : ¬ (j : Int) < (n : Int) := by omega
        go_wp2_with (first
          | (go_at_call 11; refine (HW _).mono ?_; clear HW; rintro e w2 ⟨rfl, hb2⟩))
        go_ret
        exact ⟨rfl, hD.bel.trans (hb2.mono hD.bel.size)⟩

theorem bounds_law (R S : Nat) (hRr : R < 2 ^ 64) (hS : S < 2 ^ 64) (a : Option Addr) (n c : Nat) (w : World) (hR : ARd w a n c) :
    Calls Try.prog 4 #[.int .u64 R, .int .u64 S, .slice a n c] w fun e w' => e = .returned (.bool true) ∧ Below w.heap.size w w' := by
  cases h : fine R S with
  | true => exact bounds_ok R S hRr hS a n c w hR h
  | false => exact bounds_bad R S hS a n c w h

end Go.Proofs.Ytmlkeobmkjdefaa
