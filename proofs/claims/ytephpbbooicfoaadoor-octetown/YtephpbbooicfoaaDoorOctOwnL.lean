/- OctetOwn: whatever the value and the bytes: what is handed in stays as it was, spare room too; what is told is the caller's own. -/
import Derived.Test.YtephpbbooicfoaaDoorOctOwnT
import Derived.Test.YtephpbbooicfoaaDoorAnyArg
import Derived.Test.YtephpbbooicfoaaDoorLaidT
import Derived.Test.YtephpbbooicfoaaDoorWakes
namespace Go.Proofs.YtephpbbooicfoaaDoor.octetOwn
open Go.ChangeShapes Go.WideShapes Go.ChangeAt Go.RowKit
open Go.Proofs.YtephpbbooicfoaaDoor

set_option maxHeartbeats 6400000 in
set_option maxRecDepth 4000000 in
theorem walkN (ao : Option Addr) (n c : Nat) (xs : List Int) (N : Nat) (I : Int) (F : Nat) (S : ByteArray) (br : Option Addr) (nr cr : Nat) (zs : List Int) (w : World) (hR : Rd w ao n c xs) (hRr : Rd w br nr cr zs) (hT : Tabs w)
    (hN : N < 18446744073709551616) (hI0 : -9223372036854775808 ≤ I) (hI1 : I ≤ 9223372036854775807) (hS0 : S.size ≤ 9223372036854775807) :
    Calls Tryd.prog 5 #[.agg #[.slice ao n c, .int .u64 N, .int .i64 I, .int .u64 F, .string S], .slice br nr cr] w fun e w' => e = .returned (.bool true) ∧ Below w.heap.size w w' := by
  have hs0 : Sta w (w.heap.size + 1) (w.heap.size + 1 + 1) ao n c N I S 0 (((w.alloc (.cells #[.slice ao n c, .int .u64 N, .int .i64 I, .int .u64 F, .string S] 47)).alloc (.cells #[.slice none 0 0, .slice none 0 0] 58)).alloc (.cells #[.slice none 0 0, .slice none 0 0, .slice none 0 0, .slice none 0 0, .int .i64 0] 61)) := by
    have hL := (LoanAt.new (w.alloc (.cells #[.slice ao n c, .int .u64 N, .int .i64 I, .int .u64 F, .string S] 47))).keep (S := fun _ => False) ((Keep.refl _ _).alloc (.cells #[.slice none 0 0, .slice none 0 0, .slice none 0 0, .slice none 0 0, .int .i64 0] 61)) (fun _ _ h => h)
    have hK := BookAt.new ((w.alloc (.cells #[.slice ao n c, .int .u64 N, .int .i64 I, .int .u64 F, .string S] 47)).alloc (.cells #[.slice none 0 0, .slice none 0 0] 58))
    have e1 : (w.alloc (.cells #[.slice ao n c, .int .u64 N, .int .i64 I, .int .u64 F, .string S] 47)).heap.size = w.heap.size + 1 := by simp
    have e2 : ((w.alloc (.cells #[.slice ao n c, .int .u64 N, .int .i64 I, .int .u64 F, .string S] 47)).alloc (.cells #[.slice none 0 0, .slice none 0 0] 58)).heap.size = w.heap.size + 1 + 1 := by simp
    rw [e1] at hL
    rw [e2] at hK
    have k0 := (((Keep.refl (fun _ => False) (w.alloc (.cells #[.slice ao n c, .int .u64 N, .int .i64 I, .int .u64 F, .string S] 47))).alloc (.cells #[.slice none 0 0, .slice none 0 0] 58)).alloc (.cells #[.slice none 0 0, .slice none 0 0, .slice none 0 0, .slice none 0 0, .int .i64 0] 61))
    refine ⟨⟨_, _, _, _, _, _, _, _, _, _, _, hL, hK, ?_, ?_, ?_, by simp, fun x hx => by cases hx⟩, ((((Below.refl _ _).alloc (Nat.le_refl _) _).alloc (by simp) _).alloc (by simp <;> omega) _), by simp <;> omega, k0.cell (by simp) (fun h => h), k0.cell (by simp) (fun h => h), k0.cell (by simp) (fun h => h), k0.cell (by simp) (fun h => h)⟩
    · rintro j (rfl | (e | e) | (e | e)) f
      · rcases f with f | (f | f) | (f | f) <;> first | (cases f; done) | omega
      all_goals cases e
    · rintro j (rfl | (e | e) | (e | e)) <;> first | (cases e; done) | omega
    · rintro j (rfl | (e | e) | (e | e)) <;> first | (cases e; done) | omega
  go_enter Tryd.func5, Tryd.ntmps5
  go_wp2
  generalize hpn : w.heap.size + 1 + 1 = pk at hs0 ⊢
  generalize hpk : w.heap.size + 1 = pn at hs0 hpn ⊢
  go_loopw [7, 8, 9, 10] (fun i _ _ _ wr => ∃ k : Nat, i = .int .i64 k ∧ k ≤ 2 ∧ Sta w pn pk ao n c N I S (8 * k) wr) (fun i _ _ _ _ => 2 - (intOf i).toNat)
  case atStart => exact ⟨0, rfl, by omega, hs0⟩
  case round =>
    clear hs0
    obtain ⟨k, rfl, hk, s0⟩ := hrel
    by_cases hgo : k < 2
    · have hgz : (k : Int) < 2 := by omega
      go_upto_region 6 with fail
      have sdA := s0.ext (W' := World.drew _) (Below.refl _ _).drew
      refine wp_region_px (fun w' => w'.cell? ⟨w.heap.size, 0, none⟩ = some (.slice ao n c) ∧ w'.cell? ⟨w.heap.size, 1, none⟩ = some (.int .u64 N) ∧ w'.cell? ⟨w.heap.size, 2, none⟩ = some (.int .i64 I) ∧ w'.cell? ⟨w.heap.size, 4, none⟩ = some (.string S)) 10 (by kernel_rfl) (by kernel_rfl) ?_
      generalize World.drew _ = WBA at sdA ⊢
      have hbA : WBA.cell? ⟨w.heap.size, 0, none⟩ = some (.slice ao n c) ∧ WBA.cell? ⟨w.heap.size, 1, none⟩ = some (.int .u64 N) ∧ WBA.cell? ⟨w.heap.size, 2, none⟩ = some (.int .i64 I) ∧ WBA.cell? ⟨w.heap.size, 4, none⟩ = some (.string S) := ⟨sdA.c0, sdA.c1, sdA.c2, sdA.c4⟩
      refine px_rd 0 ?vA0 (by kernel_rfl) (fun _ _ d _ _ h => by cases d <;> exact h) (by kernel_rfl) hbA rfl rfl rfl (fun w' hS => ?hA0) ?_
      case hA0 => first | (go_simp; rfl) | go_simp
      simp only [List.setIfInBounds_toArray, List.set_cons_zero, List.set_cons_succ]
      refine px_rd 1 ?vA1 (by kernel_rfl) (fun _ _ d _ _ h => by cases d <;> exact h) (by kernel_rfl) hbA rfl rfl rfl (fun w' hS => ?hA1) ?_
      case hA1 => first | (go_simp; rfl) | go_simp
      simp only [List.setIfInBounds_toArray, List.set_cons_zero, List.set_cons_succ]
      refine px_rd 2 ?vA2 (by kernel_rfl) (fun _ _ d _ _ h => by cases d <;> exact h) (by kernel_rfl) hbA rfl rfl rfl (fun w' hS => ?hA2) ?_
      case hA2 => first | (go_simp; rfl) | go_simp
      simp only [List.setIfInBounds_toArray, List.set_cons_zero, List.set_cons_succ]
      refine px_rd 3 (.slice ao n c) (by kernel_rfl) (fun _ _ d _ _ h => by cases d <;> exact h) (by kernel_rfl) hbA rfl rfl rfl (fun w' hS => ?hA3) ?_
      case hA3 => have hq := hS.1; first | (go_simp; rfl) | go_simp
      simp only [List.setIfInBounds_toArray, List.set_cons_zero, List.set_cons_succ]
      refine px_rd 6 ?vA6 (by kernel_rfl) (fun _ _ d _ _ h => by cases d <;> exact h) (by kernel_rfl) hbA rfl rfl rfl (fun w' hS => ?hA6) ?_
      case hA6 => first | (go_simp; rfl) | go_simp
      simp only [List.setIfInBounds_toArray, List.set_cons_zero, List.set_cons_succ]
      refine px_rd 7 (.int .u64 N) (by kernel_rfl) (fun _ _ d _ _ h => by cases d <;> exact h) (by kernel_rfl) hbA rfl rfl rfl (fun w' hS => ?hA7) ?_
      case hA7 => have hq := hS.2.1; first | (go_simp; rfl) | go_simp
      simp only [List.setIfInBounds_toArray, List.set_cons_zero, List.set_cons_succ]
      refine px_one 4 (by kernel_rfl) (stepP_call 6 ?aA4 rfl rfl rfl ?rA4 ?_)
      case rA4 => first | (go_simp; rfl) | go_simp
      refine (fewS1 sdA ao n c xs hR).mono ?_
      rintro e waA ⟨a1, n1, c1, X1, rfl, hn1, hr1, s1A⟩
      refine ⟨_, rfl, ⟨s1A.c0, s1A.c1, s1A.c2, s1A.c4⟩, ?_⟩
      simp only [List.setIfInBounds_toArray, List.set_cons_zero, List.set_cons_succ]
      refine px_one 5 (by kernel_rfl) (stepP_call 24 ?aA5 rfl rfl rfl ?rA5 ?_)
      case rA5 => first | (go_simp; rfl) | go_simp
      refine (lendS s1A (by omega) a1 n1 c1 X1 hr1 hn1).mono ?_
      rintro e wbA ⟨g2, cap2, rfl, hr2, s2A⟩
      refine ⟨_, rfl, ⟨s2A.c0, s2A.c1, s2A.c2, s2A.c4⟩, ?_⟩
      simp only [List.setIfInBounds_toArray, List.set_cons_zero, List.set_cons_succ]
      refine px_one 8 (by kernel_rfl) (stepP_call 18 ?aA8 rfl rfl rfl ?rA8 ?_)
      case rA8 => first | (go_simp; rfl) | go_simp
      refine (putUintN _ _ _ _ N _ hr2 hn1 hN).mono ?_
      rintro e wcA ⟨v3, rfl, hn3, hx3⟩
      have s3A := s2A.ext hx3
      refine ⟨_, rfl, ⟨s3A.c0, s3A.c1, s3A.c2, s3A.c4⟩, ?_⟩
      simp only [List.setIfInBounds_toArray, List.set_cons_zero, List.set_cons_succ]
      refine px_one 9 (by kernel_rfl) (stepP_call 23 ?aA9 rfl rfl rfl ?rA9 ?_)
      case rA9 => first | (go_simp; rfl) | go_simp
      refine (takeS s2A hx3 v3 5000 hn3 (by omega)).mono ?_
      rintro e wdA ⟨r4, rfl, s4A⟩
      refine ⟨_, rfl, ⟨s4A.c0, s4A.c1, s4A.c2, s4A.c4⟩, ?_⟩
      simp only [List.setIfInBounds_toArray, List.set_cons_zero, List.set_cons_succ]
      refine px_nil (by kernel_rfl) ?_
      clear sdA hbA s1A s2A s3A hr1 hr2 hn3 hx3 hn1
      go_upto_region 7 with fail
      have sdB := s4A.ext (W' := World.drew _) (Below.refl _ _).drew
      refine wp_region_px (fun w' => w'.cell? ⟨w.heap.size, 0, none⟩ = some (.slice ao n c) ∧ w'.cell? ⟨w.heap.size, 1, none⟩ = some (.int .u64 N) ∧ w'.cell? ⟨w.heap.size, 2, none⟩ = some (.int .i64 I) ∧ w'.cell? ⟨w.heap.size, 4, none⟩ = some (.string S)) 10 (by kernel_rfl) (by kernel_rfl) ?_
      generalize World.drew _ = WBB at sdB ⊢
      have hbB : WBB.cell? ⟨w.heap.size, 0, none⟩ = some (.slice ao n c) ∧ WBB.cell? ⟨w.heap.size, 1, none⟩ = some (.int .u64 N) ∧ WBB.cell? ⟨w.heap.size, 2, none⟩ = some (.int .i64 I) ∧ WBB.cell? ⟨w.heap.size, 4, none⟩ = some (.string S) := ⟨sdB.c0, sdB.c1, sdB.c2, sdB.c4⟩
      refine px_rd 0 ?vB0 (by kernel_rfl) (fun _ _ d _ _ h => by cases d <;> exact h) (by kernel_rfl) hbB rfl rfl rfl (fun w' hS => ?hB0) ?_
      case hB0 => first | (go_simp; rfl) | go_simp
      simp only [List.setIfInBounds_toArray, List.set_cons_zero, List.set_cons_succ]
      refine px_rd 1 ?vB1 (by kernel_rfl) (fun _ _ d _ _ h => by cases d <;> exact h) (by kernel_rfl) hbB rfl rfl rfl (fun w' hS => ?hB1) ?_
      case hB1 => first | (go_simp; rfl) | go_simp
      simp only [List.setIfInBounds_toArray, List.set_cons_zero, List.set_cons_succ]
      refine px_rd 2 ?vB2 (by kernel_rfl) (fun _ _ d _ _ h => by cases d <;> exact h) (by kernel_rfl) hbB rfl rfl rfl (fun w' hS => ?hB2) ?_
      case hB2 => first | (go_simp; rfl) | go_simp
      simp only [List.setIfInBounds_toArray, List.set_cons_zero, List.set_cons_succ]
      refine px_rd 3 (.slice ao n c) (by kernel_rfl) (fun _ _ d _ _ h => by cases d <;> exact h) (by kernel_rfl) hbB rfl rfl rfl (fun w' hS => ?hB3) ?_
      case hB3 => have hq := hS.1; first | (go_simp; rfl) | go_simp
      simp only [List.setIfInBounds_toArray, List.set_cons_zero, List.set_cons_succ]
      refine px_rd 6 ?vB6 (by kernel_rfl) (fun _ _ d _ _ h => by cases d <;> exact h) (by kernel_rfl) hbB rfl rfl rfl (fun w' hS => ?hB6) ?_
      case hB6 => first | (go_simp; rfl) | go_simp
      simp only [List.setIfInBounds_toArray, List.set_cons_zero, List.set_cons_succ]
      refine px_rd 7 (.int .i64 I) (by kernel_rfl) (fun _ _ d _ _ h => by cases d <;> exact h) (by kernel_rfl) hbB rfl rfl rfl (fun w' hS => ?hB7) ?_
      case hB7 => have hq := hS.2.2.1; first | (go_simp; rfl) | go_simp
      simp only [List.setIfInBounds_toArray, List.set_cons_zero, List.set_cons_succ]
      refine px_one 4 (by kernel_rfl) (stepP_call 6 ?aB4 rfl rfl rfl ?rB4 ?_)
      case rB4 => first | (go_simp; rfl) | go_simp
      refine (fewS1 sdB ao n c xs hR).mono ?_
      rintro e waB ⟨a1, n1, c1, X1, rfl, hn1, hr1, s1B⟩
      refine ⟨_, rfl, ⟨s1B.c0, s1B.c1, s1B.c2, s1B.c4⟩, ?_⟩
      simp only [List.setIfInBounds_toArray, List.set_cons_zero, List.set_cons_succ]
      refine px_one 5 (by kernel_rfl) (stepP_call 24 ?aB5 rfl rfl rfl ?rB5 ?_)
      case rB5 => first | (go_simp; rfl) | go_simp
      refine (lendS s1B (by omega) a1 n1 c1 X1 hr1 hn1).mono ?_
      rintro e wbB ⟨g2, cap2, rfl, hr2, s2B⟩
      refine ⟨_, rfl, ⟨s2B.c0, s2B.c1, s2B.c2, s2B.c4⟩, ?_⟩
      simp only [List.setIfInBounds_toArray, List.set_cons_zero, List.set_cons_succ]
      refine px_one 8 (by kernel_rfl) (stepP_call 19 ?aB8 rfl rfl rfl ?rB8 ?_)
      case rB8 => first | (go_simp; rfl) | go_simp
      refine (putIntN _ _ _ _ I _ hr2 hn1 hI0 hI1).mono ?_
      rintro e wcB ⟨v3, rfl, hn3, hx3⟩
      have s3B := s2B.ext hx3
      refine ⟨_, rfl, ⟨s3B.c0, s3B.c1, s3B.c2, s3B.c4⟩, ?_⟩
      simp only [List.setIfInBounds_toArray, List.set_cons_zero, List.set_cons_succ]
      refine px_one 9 (by kernel_rfl) (stepP_call 23 ?aB9 rfl rfl rfl ?rB9 ?_)
      case rB9 => first | (go_simp; rfl) | go_simp
      refine (takeS s2B hx3 v3 5000 hn3 (by omega)).mono ?_
      rintro e wdB ⟨r4, rfl, s4B⟩
      refine ⟨_, rfl, ⟨s4B.c0, s4B.c1, s4B.c2, s4B.c4⟩, ?_⟩
      simp only [List.setIfInBounds_toArray, List.set_cons_zero, List.set_cons_succ]
      refine px_nil (by kernel_rfl) ?_
      clear sdB hbB s1B s2B s3B hr1 hr2 hn3 hx3 hn1
      have q0B := s4B.c0
      go_upto_region 9 with (first
        | (go_at_call 6; refine (fewS1 s4B ao n c xs hR).mono ?_; rintro e waC ⟨a1, n1, c1, X1, rfl, hn1, hr1, s1C⟩)
        | (go_at_call 24; refine (lendS s1C (by omega) a1 n1 c1 X1 hr1 hn1).mono ?_; rintro e wbC ⟨g2, cap2, rfl, hr2, s2C⟩)
        | (go_at_call 20; refine (putFloatN _ _ _ _ 4609434218613702656 _ hr2 hn1 (by omega)).mono ?_; rintro e wcC ⟨v3, rfl, hn3, hx3⟩)
        | (go_at_call 23; refine (takeS s2C hx3 v3 5000 hn3 (by omega)).mono ?_; rintro e wdC ⟨r4, rfl, s4C⟩))
      clear s1C s2C hr1 hr2 hn3 hx3 hn1
      have sdD := s4C.ext (W' := World.drew _) (Below.refl _ _).drew
      refine wp_region_px (fun w' => w'.cell? ⟨w.heap.size, 0, none⟩ = some (.slice ao n c) ∧ w'.cell? ⟨w.heap.size, 1, none⟩ = some (.int .u64 N) ∧ w'.cell? ⟨w.heap.size, 2, none⟩ = some (.int .i64 I) ∧ w'.cell? ⟨w.heap.size, 4, none⟩ = some (.string S)) 11 (by kernel_rfl) (by kernel_rfl) ?_
      generalize World.drew _ = WBD at sdD ⊢
      have hbD : WBD.cell? ⟨w.heap.size, 0, none⟩ = some (.slice ao n c) ∧ WBD.cell? ⟨w.heap.size, 1, none⟩ = some (.int .u64 N) ∧ WBD.cell? ⟨w.heap.size, 2, none⟩ = some (.int .i64 I) ∧ WBD.cell? ⟨w.heap.size, 4, none⟩ = some (.string S) := ⟨sdD.c0, sdD.c1, sdD.c2, sdD.c4⟩
      refine px_rd 0 ?vD0 (by kernel_rfl) (fun _ _ d _ _ h => by cases d <;> exact h) (by kernel_rfl) hbD rfl rfl rfl (fun w' hS => ?hD0) ?_
      case hD0 => first | (go_simp; rfl) | go_simp
      simp only [List.setIfInBounds_toArray, List.set_cons_zero, List.set_cons_succ]
      refine px_rd 1 ?vD1 (by kernel_rfl) (fun _ _ d _ _ h => by cases d <;> exact h) (by kernel_rfl) hbD rfl rfl rfl (fun w' hS => ?hD1) ?_
      case hD1 => first | (go_simp; rfl) | go_simp
      simp only [List.setIfInBounds_toArray, List.set_cons_zero, List.set_cons_succ]
      refine px_rd 2 ?vD2 (by kernel_rfl) (fun _ _ d _ _ h => by cases d <;> exact h) (by kernel_rfl) hbD rfl rfl rfl (fun w' hS => ?hD2) ?_
      case hD2 => first | (go_simp; rfl) | go_simp
      simp only [List.setIfInBounds_toArray, List.set_cons_zero, List.set_cons_succ]
      refine px_rd 3 (.slice ao n c) (by kernel_rfl) (fun _ _ d _ _ h => by cases d <;> exact h) (by kernel_rfl) hbD rfl rfl rfl (fun w' hS => ?hD3) ?_
      case hD3 => have hq := hS.1; first | (go_simp; rfl) | go_simp
      simp only [List.setIfInBounds_toArray, List.set_cons_zero, List.set_cons_succ]
      refine px_rd 6 ?vD6 (by kernel_rfl) (fun _ _ d _ _ h => by cases d <;> exact h) (by kernel_rfl) hbD rfl rfl rfl (fun w' hS => ?hD6) ?_
      case hD6 => first | (go_simp; rfl) | go_simp
      simp only [List.setIfInBounds_toArray, List.set_cons_zero, List.set_cons_succ]
      refine px_rd 7 (.string S) (by kernel_rfl) (fun _ _ d _ _ h => by cases d <;> exact h) (by kernel_rfl) hbD rfl rfl rfl (fun w' hS => ?hD7) ?_
      case hD7 => have hq := hS.2.2.2; first | (go_simp; rfl) | go_simp
      simp only [List.setIfInBounds_toArray, List.set_cons_zero, List.set_cons_succ]
      refine px_one 4 (by kernel_rfl) (stepP_call 6 ?aD4 rfl rfl rfl ?rD4 ?_)
      case rD4 => first | (go_simp; rfl) | go_simp
      refine (fewS1 sdD ao n c xs hR).mono ?_
      rintro e waD ⟨a1, n1, c1, X1, rfl, hn1, hr1, s1D⟩
      refine ⟨_, rfl, ⟨s1D.c0, s1D.c1, s1D.c2, s1D.c4⟩, ?_⟩
      simp only [List.setIfInBounds_toArray, List.set_cons_zero, List.set_cons_succ]
      refine px_one 5 (by kernel_rfl) (stepP_call 24 ?aD5 rfl rfl rfl ?rD5 ?_)
      case rD5 => first | (go_simp; rfl) | go_simp
      refine (lendS s1D (by omega) a1 n1 c1 X1 hr1 hn1).mono ?_
      rintro e wbD ⟨g2, cap2, rfl, hr2, s2D⟩
      refine ⟨_, rfl, ⟨s2D.c0, s2D.c1, s2D.c2, s2D.c4⟩, ?_⟩
      simp only [List.setIfInBounds_toArray, List.set_cons_zero, List.set_cons_succ]
      refine px_one 8 (by kernel_rfl) (stepP_call 25 ?aD8 rfl rfl rfl ?rD8 ?_)
      case rD8 => first | (go_simp; rfl) | go_simp
      refine (text_any S 300 _ hS0 (by omega)).mono ?_
      rintro e wtD ⟨tt, rfl, htt, rfl⟩
      refine ⟨_, rfl, ⟨s2D.c0, s2D.c1, s2D.c2, s2D.c4⟩, ?_⟩
      simp only [List.setIfInBounds_toArray, List.set_cons_zero, List.set_cons_succ]
      refine px_one 9 (by kernel_rfl) (stepP_call 22 ?aD9 rfl rfl rfl ?rD9 ?_)
      case rD9 => first | (go_simp; rfl) | go_simp
      refine (putTextN _ _ _ _ tt _ hr2 hn1 htt).mono ?_
      rintro e wcD ⟨v3, rfl, hn3, hx3⟩
      have s3D := s2D.ext hx3
      refine ⟨_, rfl, ⟨s3D.c0, s3D.c1, s3D.c2, s3D.c4⟩, ?_⟩
      simp only [List.setIfInBounds_toArray, List.set_cons_zero, List.set_cons_succ]
      refine px_one 10 (by kernel_rfl) (stepP_call 23 ?aD10 rfl rfl rfl ?rD10 ?_)
      case rD10 => first | (go_simp; rfl) | go_simp
      refine (takeS s2D hx3 v3 5000 hn3 (by omega)).mono ?_
      rintro e wdD ⟨r4, rfl, s4D⟩
      refine ⟨_, rfl, ⟨s4D.c0, s4D.c1, s4D.c2, s4D.c4⟩, ?_⟩
      simp only [List.setIfInBounds_toArray, List.set_cons_zero, List.set_cons_succ]
      refine px_nil (by kernel_rfl) ?_
      clear sdD hbD s1D s2D s3D hr1 hr2 hn3 hx3 hn1
      go_upto_region 12 with (first
        | (go_at_call 6; refine (fewS1 s4D br nr cr zs hRr).mono ?_; rintro e waE ⟨a1, n1, c1, X1, rfl, hn1, hr1, s1E⟩)
        | (go_at_call 24; refine (lendS s1E (by omega) a1 n1 c1 X1 hr1 hn1).mono ?_; rintro e wbE ⟨g2, cap2, rfl, hr2, s2E⟩)
        | (go_at_call 7; refine (uintN _ _ _ _ _ hr2 hn1).mono ?_; rintro e wcE ⟨z3, v3, m3, rfl, hn3, hx3⟩)
        | (go_at_call 23; refine (takeS s2E hx3 v3 2000 hn3 (by omega)).mono ?_; rintro e wdE ⟨r4, rfl, s4E⟩))
      clear s1E s2E hr1 hr2 hn3 hx3 hn1
      go_upto_region 14 with (first
        | (go_at_call 6; refine (fewS1 s4E br nr cr zs hRr).mono ?_; rintro e waF ⟨a1, n1, c1, X1, rfl, hn1, hr1, s1F⟩)
        | (go_at_call 24; refine (lendS s1F (by omega) a1 n1 c1 X1 hr1 hn1).mono ?_; rintro e wbF ⟨g2, cap2, rfl, hr2, s2F⟩)
        | (go_at_call 9; refine (intN _ _ _ _ _ hr2 hn1).mono ?_; rintro e wcF ⟨z3, v3, m3, rfl, hn3, hx3⟩)
        | (go_at_call 23; refine (takeS s2F hx3 v3 2000 hn3 (by omega)).mono ?_; rintro e wdF ⟨r4, rfl, s4F⟩))
      clear s1F s2F hr1 hr2 hn3 hx3 hn1
      go_upto_region 16 with (first
        | (go_at_call 6; refine (fewS1 s4F br nr cr zs hRr).mono ?_; rintro e waG ⟨a1, n1, c1, X1, rfl, hn1, hr1, s1G⟩)
        | (go_at_call 24; refine (lendS s1G (by omega) a1 n1 c1 X1 hr1 hn1).mono ?_; rintro e wbG ⟨g2, cap2, rfl, hr2, s2G⟩)
        | (go_at_call 11; refine (floatN _ _ _ _ _ hr2 hn1).mono ?_; rintro e wcG ⟨z3, v3, m3, rfl, hn3, hx3⟩)
        | (go_at_call 23; refine (takeS s2G hx3 v3 2000 hn3 (by omega)).mono ?_; rintro e wdG ⟨r4, rfl, s4G⟩))
      clear s1G s2G hr1 hr2 hn3 hx3 hn1
      go_wp2_with (first
        | (go_at_call 6; refine (fewS1 s4G br nr cr zs hRr).mono ?_; rintro e waH ⟨a1, n1, c1, X1, rfl, hn1, hr1, s1H⟩)
        | (go_at_call 24; refine (lendS s1H (by omega) a1 n1 c1 X1 hr1 hn1).mono ?_; rintro e wbH ⟨g2, cap2, rfl, hr2, s2H⟩)
        | (go_at_call 14; refine (textN _ _ _ _ _ hr2 (hT.carry s2H.bel) hn1).mono ?_; rintro e wcH ⟨z3, v3, m3, rfl, hn3, hx3⟩)
        | (go_at_call 23; refine (takeS s2H hx3 v3 2000 hn3 (by omega)).mono ?_; rintro e wdH ⟨r4, rfl, s4H⟩))
      clear s1H s2H hr1 hr2 hn3 hx3 hn1
      go_roundw
      case rel => exact ⟨k + 1, by go_num, by omega, (show 8 * k + 1 + 1 + 1 + 1 + 1 + 1 + 1 + 1 = 8 * (k + 1) by omega) ▸ s4H⟩
      case measure => simp [intOf]; omega
    · have hgz : ¬ (k : Int) < 2 := by omega
      go_wp2_with (first
        | (go_at_call 26; refine (backR s0.lb s0.sz (by omega)).mono ?_; rintro e wa ⟨rfl, hb1, fv, wv, fs, ws, ys, M, hbk, hbf⟩)
        | (go_at_call 27; refine (bookClose_any pk M fv wv fs ws ys _ hbk).mono ?_; rintro e wb ⟨rfl, hk2⟩)
        | (go_at_call 16; refine (wakes_any _).mono ?_; rintro e wc ⟨rfl, hb3⟩))
      go_ret
      have h1 := s0.sz
      have h2 := hb1.size
      have h3 := hk2.size
      exact ⟨rfl, ((s0.bel.trans (hb1.mono (by omega))).trans (hk2.below (by omega) (fun j s => by have := hbf j s; omega))).trans (hb3.mono (by omega))⟩

end Go.Proofs.YtephpbbooicfoaaDoor.octetOwn
