/- MeterExact: any bucket, asked anything: the program answers as the document. -/
import Derived.Test.YtmlkeobmkjdefaaMtS
namespace Go.Proofs.Ytmlkeobmkjdefaa
open Go.RowKit

set_option maxRecDepth 100000 in
set_option maxHeartbeats 1600000 in
theorem exact_bad (R S : Nat) (hS : S < 2 ^ 64) (a : Option Addr) (n c : Nat) (w : World) (h : fine R S = false) :
    Calls Try.prog 3 #[.int .u64 R, .int .u64 S, .slice a n c] w fun e w' => e = .returned (.bool true) ∧ Below w.heap.size w w' := by
  have hfr := run_from
  have hW := wakes_any
  have N1 := fun w => new_bad R S hS h w
  have N2 := fun w => rnew_bad R S hS h w
  clear h
  go_enter Try.func3, Try.ntmps3
  go_wp2_with (first
    | (go_at_call 9; refine (N1 _).mono ?_; clear N1; rintro e w1 ⟨rfl, rfl⟩)
    | (go_at_call 10; refine (N2 _).mono ?_; clear N2; rintro e w1 ⟨rfl, rfl⟩)
    | (go_at_call 11; refine (hW _).mono ?_; rintro e w2 ⟨rfl, hb2⟩))
  go_ret
  exact ⟨rfl, hb2⟩

set_option maxRecDepth 100000 in
set_option maxHeartbeats 3200000 in
theorem exact_ok (R S : Nat) (hRr : R < 2 ^ 64) (hS : S < 2 ^ 64) (a : Option Addr) (n c : Nat) (w : World) (hR : ARd w a n c) (h : fine R S = true) :
    Calls Try.prog 3 #[.int .u64 R, .int .u64 S, .slice a n c] w fun e w' => e = .returned (.bool true) ∧ Below w.heap.size w w' := by
  have hfr := run_from
  have hcn := hR.cap
  have hcm : c ≤ 9223372036854775807 := hR.most
  have N1 := fun w => new_ok R S hS h w
  have N2 := fun w => rnew_ok R S hRr hS h w
  have hok := newB_ok hRr hS h
  have HW := wakes_any
  go_enter Try.func3, Try.ntmps3
  go_upto_region 8 with (first
    | (go_at_call 9; refine (N1 _).mono ?_; clear N1; rintro e w1 ⟨p, rfl, hB1, hp1, hb1⟩)
    | (go_at_call 10; refine (N2 _).mono ?_; clear N2; rintro e w2 ⟨q, rfl, hB2, hq2, hb2⟩)
    | (go_at_call 11; refine (HW _).mono ?_; clear HW; rintro e w3 ⟨rfl, hb3⟩))
  have hD : Duo w p q w3 (newB R S) :=
    ⟨⟨(hB1.below hb2).below hb3, hok, hb1.trans ((hb2.mono hb1.size).trans (hb3.mono (Nat.le_trans hb1.size hb2.size))), hp1⟩, hB2.below hb3, (fun e => by subst e; have := hB1.lt; omega), Nat.le_trans hb1.size hq2⟩
  clear hB1 hp1 hb1 hB2 hq2 hb2 hb3 hok h hfr
  have hfr := run_from
  generalize newB R S = b0 at hD
  go_wp2
  go_loopw [13, 14, 15] (fun i _ _ wr => ∃ (j : Nat) (b : Bk), i = .int .i64 j ∧ j ≤ 200 ∧ Duo w p q wr b) (fun i _ _ _ => 200 - natV i)
  case atStart => exact ⟨0, _, rfl, Nat.zero_le _, hD⟩
  case round =>
    clear hD
    obtain ⟨j, b, rfl, hj, hD⟩ := hrel
    by_cases hlt : j < n ∧ j < 200
    · have hz1 : (j : Int) < (n : Int) := by omega
      have hz2 : (j : Int) < 200 := by omega
      obtain ⟨g, off, rfl, hcell⟩ := (hR.below hD.one.bel).flat (by omega)
      obtain ⟨D, T, C, hT, hC, q0, q1, q2⟩ := hcell j hlt.1
      clear hcell
      go_upto_region 11 with fail
      go_quiet (fail)
      have hE := hD.drewN nq
      have q0' : (wr.drewN nq).cell? ⟨g, off + j * 3, none⟩ = some (.int .i64 D) := q0
      clear hD q0 q1 q2
      generalize wr.drewN nq = W at hE q0' ⊢
      by_cases hD1 : D = 1
      · have hd1 : (D == 1) = true := by simpa using hD1
        clear hD1
        have L1 := fun w h => level_any p b hE.one.ok T hT w h
        have L2 := fun w h => rlevel_any q b.flat (flat_ok hE.one.ok) T hT w h
        have SM := fun w => same_any (b.lvl T) w
        rw [flat_lvl hE.one.ok] at L2
        go_wp2_with (first
          | (go_at_call 13; refine (L1 _ hE.one.at_).mono ?_; clear L1; rintro e w4 ⟨rfl, k, rfl⟩; have hE4 := hE.drewN k)
          | (go_at_call 14; refine (L2 _ hE4.ref).mono ?_; clear L2; rintro e w5 ⟨rfl, k2, rfl⟩; have hE5 := hE4.drewN k2)
          | (go_at_call 12; refine (SM _).mono ?_; clear SM; rintro e w6 ⟨rfl, rfl⟩))
        go_roundw
        case rel => exact ⟨j + 1, b, by go_num, by omega, hE.drewN (k + k2)⟩
        case measure => simp [natV]; omega
      · have hd1 : (D == 1) = false := by simpa using hD1
        clear hD1
        by_cases hD2 : D = 2
        · have hd2 : (D == 2) = true := by simpa using hD2
          clear hD2
          have L1 := fun w h => wait_any p b hE.one.ok T C hT hC w h
          have L2 := fun w h => rwait_any q b.flat (flat_ok hE.one.ok) T C hT hC w h
          have SM := fun w => same_any (b.wt T C) w
          rw [flat_wt hE.one.ok] at L2
          go_wp2_with (first
            | (go_at_call 15; refine (L1 _ hE.one.at_).mono ?_; clear L1; rintro e w4 ⟨rfl, k, rfl⟩; have hE4 := hE.drewN k)
            | (go_at_call 16; refine (L2 _ hE4.ref).mono ?_; clear L2; rintro e w5 ⟨rfl, k2, rfl⟩; have hE5 := hE4.drewN k2)
            | (go_at_call 12; refine (SM _).mono ?_; clear SM; rintro e w6 ⟨rfl, rfl⟩))
          go_roundw
          case rel => exact ⟨j + 1, b, by go_num, by omega, hE.drewN (k + k2)⟩
          case measure => simp [natV]; omega
        · have hd2 : (D == 2) = false := by simpa using hD2
          clear hD2
          have L1 := fun w h => take_any p b hE.one.ok T C hT hC w h
          have L2 := fun w h => rtake_any q b.flat (flat_ok hE.one.ok) T C hT hC w h
          have hk := tk_ok hE.one.ok hT hC
          rw [(flat_tk hE.one.ok T C).1, (flat_tk hE.one.ok T C).2] at L2
          generalize (b.tk T C).1 = z at L1 L2
          generalize (b.tk T C).2 = b2 at L1 L2 hk
          have hzz : (z != z) = false := by simp
          go_wp2_with (first
            | (go_at_call 17; refine (L1 _ hE.one.at_).mono ?_; clear L1; rintro e w4 ⟨rfl, hB4, hk4⟩; have h4r := hE.ref.keep hk4 (fun e => hE.ne e.symm))
            | (go_at_call 18; refine (L2 _ h4r).mono ?_; clear L2; rintro e w5 ⟨rfl, hB5, hk5⟩))
          have hE5 : Duo w p q w5 b2 := by
            have o4 := hE.one.turn hk4 hB4 hk
            exact ⟨⟨hB4.keep hk5 hE.ne, hk, o4.bel.trans (hk5.below o4.bel.size (fun k e => by subst e; exact hE.new)), hE.one.new⟩, hB5, hE.ne, hE.new⟩
          go_roundw
          case rel => exact ⟨j + 1, b2, by go_num, by omega, hE5⟩
          case measure => simp [natV]; omega
    · by_cases hn : j < n
      · have hz1 : (j : Int) < (n : Int) := by omega
        have hz2 : ¬ (j : Int) < 200 := by omega
        go_wp2
        go_ret
        exact ⟨rfl, hD.one.bel⟩
      · have hz1 : ¬ (j : Int) < (n : Int) := by omega
        go_wp2
        go_ret
        exact ⟨rfl, hD.one.bel⟩

theorem exact_law (R S : Nat) (hRr : R < 2 ^ 64) (hS : S < 2 ^ 64) (a : Option Addr) (n c : Nat) (w : World) (hR : ARd w a n c) :
    Calls Try.prog 3 #[.int .u64 R, .int .u64 S, .slice a n c] w fun e w' => e = .returned (.bool true) ∧ Below w.heap.size w w' := by
  cases h : fine R S with
  | true => exact exact_ok R S hRr hS a n c w hR h
  | false => exact exact_bad R S hS a n c w h

end Go.Proofs.Ytmlkeobmkjdefaa
