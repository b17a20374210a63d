/- CrcBurst, walked. -/
import Derived.Test.YthcgfdalgmcpgaaCcQ
import Derived.Test.YthcgfdalgmcpgaaLate
namespace Go.Proofs.Ythcgfdalgmcpgaa
open Go.RowKit

/-- The row behind i of the four changes. -/
def yb (X : List Int) (k : Nat) (b : Nat → Int) : Nat → List Int
  | 0 => X
  | i + 1 => (yb X k b i).set (k + i) (bits .xor .u8 ((yb X k b i).getD (k + i) 0) (b i))
theorem yb_len (X : List Int) (k : Nat) (b : Nat → Int) : ∀ i, (yb X k b i).length = X.length
  | 0 => rfl
  | i + 1 => by simp [yb, yb_len X k b i]
theorem yb_four (P Q : List Int) (x0 x1 x2 x3 : Int) (b : Nat → Int) : yb (P ++ x0 :: x1 :: x2 :: x3 :: Q) P.length b 4 = P ++ bits .xor .u8 x0 (b 0) :: bits .xor .u8 x1 (b 1) :: bits .xor .u8 x2 (b 2) :: bits .xor .u8 x3 (b 3) :: Q := by
  simp [yb, List.getD]
theorem four_of (X : List Int) (k : Nat) (h : k + 4 ≤ X.length) : ∃ P Q x0 x1 x2 x3, X = P ++ x0 :: x1 :: x2 :: x3 :: Q ∧ P.length = k := by
  obtain ⟨D, hD⟩ : ∃ D, X.drop k = D := ⟨_, rfl⟩
  have hl : D.length = X.length - k := by rw [← hD, List.length_drop]
  match D, hD, hl with
  | x0 :: x1 :: x2 :: x3 :: Q, hD, _ => exact ⟨X.take k, Q, x0, x1, x2, x3, by rw [← hD, List.take_append_drop], by rw [List.length_take]; omega⟩
  | [], _, hl => simp at hl; omega
  | [_], _, hl => simp at hl; omega
  | [_, _], _, hl => simp at hl; omega
  | [_, _, _], _, hl => simp at hl; omega
def bi (r : BitVec 32) (i : Nat) : Int := uw r / 2 ^ (8 * i) % 256
theorem wraps_i64' (n : Int) (h0 : 0 ≤ n) (h1 : n ≤ 1000000) : IntKind.i64.wrap n = n := by rw [IntKind.wrap_i64]; omega
theorem bi_bd (r : BitVec 32) (i : Nat) : 0 ≤ bi r i ∧ bi r i ≤ 255 := by unfold bi; omega
theorem burst_yb (X : List Int) (hX : Bd X) (k : Nat) (h : k + 4 ≤ X.length) (r : BitVec 32) (hr : uw r ≠ 0) : uw (more 0#32 X) ≠ uw (more 0#32 (yb X k (bi r) 4)) := by
  obtain ⟨P, Q, x0, x1, x2, x3, rfl, rfl⟩ := four_of X k h
  rw [yb_four]
  intro e
  refine burst (hX x0 (by simp)) (hX x1 (by simp)) (hX x2 (by simp)) (hX x3 (by simp)) (bi_bd r 0) (bi_bd r 1) (bi_bd r 2) (bi_bd r 3) ?_ 0#32 (uw_inj e)
  intro h
  have := uw_bd r
  simp [bi] at h
  omega
theorem idx3 (z : Int) (n : Nat) (hn : 4 ≤ n) (hn2 : n ≤ 1000) : ∃ k : Nat, k + 4 ≤ n ∧ (z.tmod ((n : Int) - 3) + (n : Int) - 3).tmod ((n : Int) - 3) = (k : Int) ∧ -1000 < z.tmod ((n : Int) - 3) ∧ z.tmod ((n : Int) - 3) < 1000 := by
  obtain ⟨m, hm⟩ : ∃ m : Nat, (n : Int) - 3 = (m : Int) := ⟨n - 3, by omega⟩
  rw [Int.add_sub_assoc, hm]
  have h1 : z.tmod m < m := Int.tmod_lt_of_pos z (by omega)
  have h2 : -(m : Int) < z.tmod m := by
    have : (-z).tmod m < m := Int.tmod_lt_of_pos (-z) (by omega)
    rw [Int.neg_tmod] at this; omega
  rw [Int.tmod_eq_emod_of_nonneg (by omega)]
  have h4 := Int.emod_nonneg (z.tmod m + m) (show (m : Int) ≠ 0 by omega)
  have h5 := Int.emod_lt_of_pos (z.tmod m + m) (show (0 : Int) < m by omega)
  exact ⟨((z.tmod m + m) % m).toNat, by omega, by omega, by omega, by omega⟩

namespace crcBurst
set_option maxRecDepth 100000 in
set_option maxHeartbeats 1600000 in
theorem walk (a : Option Addr) (n c : Nat) (xs : List Int) (z : Int) (r : BitVec 32) (w : World) (hR : Rd w a n c xs) (_hz : -9223372036854775808 ≤ z ∧ z ≤ 9223372036854775807) :
    Calls Try.prog 5 #[.slice a n c, .int .i64 z, .int .u32 (uw r)] w fun e w' => e = .returned (.bool true) ∧ Below w.heap.size w w' := by
  have hF := fun u (h : Rd u a n c xs) => fewF a n c xs u h
  have tk1 : True := trivial
  obtain ⟨X, HX⟩ : ∃ X, Hid (xs.take 1000 = X) := ⟨_, rfl⟩
  simp only [HX.out] at hF
  have HR : Hid (Rd w a n c xs) := hR
  clear hR
  go_enter Try.func5, Try.ntmps5
  go_wp2_with fail
  refine (hF _ HR.out).mono ?_
  rintro e w1 ⟨a1, n1, c1, rfl, hn1, ho1, hbd, hb1⟩
  have hr1 := own_rd ho1 hbd
  have hl1 := hr1.len
  clear ho1
  by_cases h4 : n1 < 4
  · have h4' : (n1 : Int) < 4 := by omega
    go_wp2_with (go_at_call 12; refine (wakes_any _).mono ?_; rintro e w5 ⟨rfl, hb5⟩)
    go_ret
    exact ⟨rfl, hb1.trans (hb5.mono hb1.size)⟩
  · have h4' : ¬ (n1 : Int) < 4 := by omega
    by_cases hr0 : uw r = 0
    · rw [hr0]
      go_wp2_with (go_at_call 12; refine (wakes_any _).mono ?_; rintro e w5 ⟨rfl, hb5⟩)
      go_ret
      exact ⟨rfl, hb1.trans (hb5.mono hb1.size)⟩
    · have hr0' : (uw r == 0) = false := by simp [hr0]
      obtain ⟨k, hk4, hke, hke1, hke2⟩ := idx3 z n1 (by omega) hn1
      have HNE : Hid (uw (more 0#32 X) ≠ uw (more 0#32 (yb X k (bi r) 4))) := burst_yb X hbd k (by omega) r hr0
      have HL : Hid (X.length = n1) := hl1
      clear hl1 hr0
      go_wp2_with fail
      refine (hF _ (HR.out.carry (Nat.le_refl _) hb1)).mono ?_
      rintro e w2 ⟨g2, n2, c2, rfl, hn2, ho2, _, hb2⟩
      obtain rfl : n2 = n1 := by have := ho2.1; rw [bc_len] at this; have := HL.out; omega
      have hr2 := own_rd ho2 hbd
      obtain ⟨hg2, hf2⟩ : w1.heap.size ≤ g2 ∧ ∀ j, w2.frozen? ⟨g2, j, none⟩ = false := by
        rcases ho2.2 with ⟨h1, _⟩ | ⟨g, cap, cur, hv, hg, hh, _⟩
        · cases h1
        · cases hv; exact ⟨hg, fun j => frozen_of_row w2 g2 j cur _ hh⟩
      have hc2 := hr2.cap
      have hm2 : c2 ≤ 9223372036854775807 := hr2.most
      have HR1 : Hid (Rd w1 (some ⟨a1, 0, none⟩) n2 c1 X) := hr1
      have HB1 : Hid (Below w.heap.size w w1) := hb1
      have HBD : Hid (Bd X) := hbd
      clear hr1 ho2 hF HR hb1 hbd hke hke1 hke2 tk1 HX
      go_wp2_with fail
      go_loopw [10] (fun i wr => ∃ j : Nat, j ≤ 4 ∧ i = .int .i64 j ∧ Hid (Rd wr (some ⟨g2, 0, none⟩) n2 c2 (yb X k (bi r) j)) ∧ Hid (∀ q, wr.frozen? ⟨g2, q, none⟩ = false) ∧ Hid (Below w1.heap.size w1 wr)) (fun i _ => 4 - (intOf i).toNat)
      case atStart => exact ⟨0, by omega, rfl, hr2, hf2, hb2⟩
      case round =>
        obtain ⟨j, hj, rfl, HY, HF, HB⟩ := hrel
        clear hr2 hf2 hb2
        by_cases hlt : j < 4
        · have hcl : (j : Int) < 4 := by omega
          have HY' : Hid (Rd wr.drew (some ⟨g2, 0, none⟩) n2 c2 (yb X k (bi r) j)) := rd_drew HY.out
          have HF' : Hid (∀ q, wr.drew.frozen? ⟨g2, q, none⟩ = false) := HF.out
          have HB' : Hid (Below w1.heap.size w1 wr.drew) := HB.out.drew
          have hc1 := HY'.out.cells _ rfl (k + j) (by omega)
          rw [add_flat, Nat.zero_add] at hc1
          have hf := HF'.out (k + j)
          obtain ⟨x, HXJ⟩ : ∃ x, Hid ((yb X k (bi r) j).getD (k + j) 0 = x) := ⟨_, rfl⟩
          rw [HXJ.out] at hc1
          have b8 := bits8 .xor x (bi r j)
          have HN := HY'.out.setAt (k := k + j) (by omega) b8.1 b8.2
          have HN' : Hid (Rd (wr.drew.setCell ⟨g2, k + j, none⟩ (.int .u8 (bits .xor .u8 x (bi r j)))) (some ⟨g2, 0, none⟩) n2 c2 (yb X k (bi r) (j + 1))) := by
            show Rd _ _ _ _ _
            unfold yb; rw [HXJ.out]; exact HN
          clear HN b8 HY HF HB HY' HXJ
          obtain ⟨p, Hp⟩ : ∃ p : Nat, Hid (k + j = p) := ⟨_, rfl⟩
          rw [Hp.out] at hc1 hf HN'
          have hkj : (k : Int) + (j : Int) = (p : Int) := by have := Hp.out; omega
          have hkl : (p : Int) < (n2 : Int) := by have := Hp.out; omega
          obtain ⟨V, HV⟩ : ∃ V, Hid (bits .xor .u8 x (bi r j) = V) := ⟨_, rfl⟩
          obtain ⟨T, HT⟩ : ∃ T, Hid (bi r j = T) := ⟨_, rfl⟩
          rw [HV.out] at HN'
          have hxv : bits .xor .u8 x T = V := by rw [← HT.out]; exact HV.out
          have hsh : IntKind.u8.wrap (uw r / 2 ^ (8 * j)) = T := by rw [IntKind.wrap_u8]; exact HT.out
          have hwp : IntKind.i64.wrap (p : Int) = (p : Int) := wraps_i64' _ (by omega) (by omega)
          have hwj : IntKind.i64.wrap (8 * (j : Int)) = 8 * (j : Int) := wraps_i64' _ (by omega) (by omega)
          clear hlt hk4 HV
          go_wp2_with fail
          refine wp_region_lx (fun w' => w' = wr.drew) [17] 18 (by kernel_rfl) (by kernel_rfl) ?_
          obtain ⟨W, HW⟩ : ∃ W, Hid (wr.drew = W) := ⟨_, rfl⟩
          rw [HW.out] at HF' HB' HN' hc1 hf ⊢
          have HS0 : W = W := rfl
          refine lx_rd 0 ?vA0 (by kernel_rfl) (fun _ _ d _ _ h => by cases d <;> exact h) (by kernel_rfl) HS0 rfl rfl rfl (fun w' hS => ?hA0) ?_
          case hA0 => first | (go_simp; rfl) | (go_simp; done) | (go_simp; exact idx_ok (by omega) (by omega)) | (go_simp; exact wi64' (by omega) (by omega) (by omega)) | (go_simp; intro hh; exfalso; omega)
          simp only [List.setIfInBounds_toArray, List.set_cons_zero, List.set_cons_succ]
          refine lx_rd 1 ?vA1 (by kernel_rfl) (fun _ _ d _ _ h => by cases d <;> exact h) (by kernel_rfl) HS0 rfl rfl rfl (fun w' hS => ?hA1) ?_
          case hA1 => first | (go_simp; rfl) | (go_simp; done) | (go_simp; exact idx_ok (by omega) (by omega)) | (go_simp; exact wi64' (by omega) (by omega) (by omega)) | (go_simp; intro hh; exfalso; omega)
          simp only [List.setIfInBounds_toArray, List.set_cons_zero, List.set_cons_succ]
          refine lx_rd 2 ?vA2 (by kernel_rfl) (fun _ _ d _ _ h => by cases d <;> exact h) (by kernel_rfl) HS0 rfl rfl rfl (fun w' hS => ?hA2) ?_
          case hA2 => first | (go_simp; rfl) | (go_simp; done) | (go_simp; exact idx_ok (by omega) (by omega)) | (go_simp; exact wi64' (by omega) (by omega) (by omega)) | (go_simp; intro hh; exfalso; omega)
          simp only [List.setIfInBounds_toArray, List.set_cons_zero, List.set_cons_succ]
          refine lx_rd 3 (.int .i64 (p : Int)) (by kernel_rfl) (fun _ _ d _ _ h => by cases d <;> exact h) (by kernel_rfl) HS0 rfl rfl rfl (fun w' hS => ?hA3) ?_
          case hA3 => first | (go_simp; rfl) | (go_simp; done) | (go_simp; exact idx_ok (by omega) (by omega)) | (go_simp; exact wi64' (by omega) (by omega) (by omega)) | (go_simp; intro hh; exfalso; omega)
          simp only [List.setIfInBounds_toArray, List.set_cons_zero, List.set_cons_succ]
          refine lx_rd 4 ?vA4 (by kernel_rfl) (fun _ _ d _ _ h => by cases d <;> exact h) (by kernel_rfl) HS0 rfl rfl rfl (fun w' hS => ?hA4) ?_
          case hA4 => first | (go_simp; rfl) | (go_simp; done) | (go_simp; exact idx_ok (by omega) (by omega)) | (go_simp; exact wi64' (by omega) (by omega) (by omega)) | (go_simp; intro hh; exfalso; omega)
          simp only [List.setIfInBounds_toArray, List.set_cons_zero, List.set_cons_succ]
          refine lx_rd 5 ?vA5 (by kernel_rfl) (fun _ _ d _ _ h => by cases d <;> exact h) (by kernel_rfl) HS0 rfl rfl rfl (fun w' hS => ?hA5) ?_
          case hA5 => first | (go_simp; rfl) | (go_simp; done) | (go_simp; exact idx_ok (by omega) (by omega)) | (go_simp; exact wi64' (by omega) (by omega) (by omega)) | (go_simp; intro hh; exfalso; omega)
          simp only [List.setIfInBounds_toArray, List.set_cons_zero, List.set_cons_succ]
          refine lx_rd 6 ?vA6 (by kernel_rfl) (fun _ _ d _ _ h => by cases d <;> exact h) (by kernel_rfl) HS0 rfl rfl rfl (fun w' hS => ?hA6) ?_
          case hA6 => first | (go_simp; rfl) | (go_simp; done) | (go_simp; exact idx_ok (by omega) (by omega)) | (go_simp; exact wi64' (by omega) (by omega) (by omega)) | (go_simp; intro hh; exfalso; omega)
          simp only [List.setIfInBounds_toArray, List.set_cons_zero, List.set_cons_succ]
          refine lx_rd 7 (.int .i64 (p : Int)) (by kernel_rfl) (fun _ _ d _ _ h => by cases d <;> exact h) (by kernel_rfl) HS0 rfl rfl rfl (fun w' hS => ?hA7) ?_
          case hA7 => first | (go_simp; rfl) | (go_simp; done) | (go_simp; exact idx_ok (by omega) (by omega)) | (go_simp; exact wi64' (by omega) (by omega) (by omega)) | (go_simp; intro hh; exfalso; omega)
          simp only [List.setIfInBounds_toArray, List.set_cons_zero, List.set_cons_succ]
          refine lx_rd 8 (.pointer (some ⟨g2, p, none⟩)) (by kernel_rfl) (fun _ _ d _ _ h => by cases d <;> exact h) (by kernel_rfl) HS0 rfl rfl rfl (fun w' hS => ?hA8) ?_
          case hA8 => first | (go_simp; rfl) | (go_simp; done) | (go_simp; exact idx_ok (by omega) (by omega)) | (go_simp; exact wi64' (by omega) (by omega) (by omega)) | (go_simp; intro hh; exfalso; omega)
          simp only [List.setIfInBounds_toArray, List.set_cons_zero, List.set_cons_succ]
          refine lx_rd 9 (.int .u8 x) (by kernel_rfl) (fun _ _ d _ _ h => by cases d <;> exact h) (by kernel_rfl) HS0 rfl rfl rfl (fun w' hS => ?hA9) ?_
          case hA9 => subst hS; first | (go_simp; rfl) | (go_simp; done) | (go_simp; exact idx_ok (by omega) (by omega)) | (go_simp; exact wi64' (by omega) (by omega) (by omega)) | (go_simp; intro hh; exfalso; omega)
          simp only [List.setIfInBounds_toArray, List.set_cons_zero, List.set_cons_succ]
          refine lx_rd 10 ?vA10 (by kernel_rfl) (fun _ _ d _ _ h => by cases d <;> exact h) (by kernel_rfl) HS0 rfl rfl rfl (fun w' hS => ?hA10) ?_
          case hA10 => first | (go_simp; rfl) | (go_simp; done) | (go_simp; exact idx_ok (by omega) (by omega)) | (go_simp; exact wi64' (by omega) (by omega) (by omega)) | (go_simp; intro hh; exfalso; omega)
          simp only [List.setIfInBounds_toArray, List.set_cons_zero, List.set_cons_succ]
          refine lx_rd 11 ?vA11 (by kernel_rfl) (fun _ _ d _ _ h => by cases d <;> exact h) (by kernel_rfl) HS0 rfl rfl rfl (fun w' hS => ?hA11) ?_
          case hA11 => first | (go_simp; rfl) | (go_simp; done) | (go_simp; exact idx_ok (by omega) (by omega)) | (go_simp; exact wi64' (by omega) (by omega) (by omega)) | (go_simp; intro hh; exfalso; omega)
          simp only [List.setIfInBounds_toArray, List.set_cons_zero, List.set_cons_succ]
          refine lx_rd 12 (.int .i64 (8 * (j : Int))) (by kernel_rfl) (fun _ _ d _ _ h => by cases d <;> exact h) (by kernel_rfl) HS0 rfl rfl rfl (fun w' hS => ?hA12) ?_
          case hA12 => first | (go_simp; rfl) | (go_simp; done) | (go_simp; exact idx_ok (by omega) (by omega)) | (go_simp; exact wi64' (by omega) (by omega) (by omega)) | (go_simp; intro hh; exfalso; omega)
          simp only [List.setIfInBounds_toArray, List.set_cons_zero, List.set_cons_succ]
          refine lx_rd 13 (.int .u32 (uw r / 2 ^ (8 * j))) (by kernel_rfl) (fun _ _ d _ _ h => by cases d <;> exact h) (by kernel_rfl) HS0 rfl rfl rfl (fun w' hS => ?hA13) ?_
          case hA13 => first | (go_simp; rfl) | (go_simp; done) | (go_simp; exact idx_ok (by omega) (by omega)) | (go_simp; exact wi64' (by omega) (by omega) (by omega)) | (go_simp; intro hh; exfalso; omega)
          simp only [List.setIfInBounds_toArray, List.set_cons_zero, List.set_cons_succ]
          refine lx_rd 14 (.int .u8 T) (by kernel_rfl) (fun _ _ d _ _ h => by cases d <;> exact h) (by kernel_rfl) HS0 rfl rfl rfl (fun w' hS => ?hA14) ?_
          case hA14 => first | (go_simp; rfl) | (go_simp; done) | (go_simp; exact idx_ok (by omega) (by omega)) | (go_simp; exact wi64' (by omega) (by omega) (by omega)) | (go_simp; intro hh; exfalso; omega)
          simp only [List.setIfInBounds_toArray, List.set_cons_zero, List.set_cons_succ]
          refine lx_rd 15 (.int .u8 V) (by kernel_rfl) (fun _ _ d _ _ h => by cases d <;> exact h) (by kernel_rfl) HS0 rfl rfl rfl (fun w' hS => ?hA15) ?_
          case hA15 => first | (go_simp; rfl) | (go_simp; done) | (go_simp; exact idx_ok (by omega) (by omega)) | (go_simp; exact wi64' (by omega) (by omega) (by omega)) | (go_simp; intro hh; exfalso; omega)
          simp only [List.setIfInBounds_toArray, List.set_cons_zero, List.set_cons_succ]
          refine lx_rd 16 (.pointer (some ⟨g2, p, none⟩)) (by kernel_rfl) (fun _ _ d _ _ h => by cases d <;> exact h) (by kernel_rfl) HS0 rfl rfl rfl (fun w' hS => ?hA16) ?_
          case hA16 => first | (go_simp; rfl) | (go_simp; done) | (go_simp; exact idx_ok (by omega) (by omega)) | (go_simp; exact wi64' (by omega) (by omega) (by omega)) | (go_simp; intro hh; exfalso; omega)
          simp only [List.setIfInBounds_toArray, List.set_cons_zero, List.set_cons_succ]
          refine lx_one 17 (by kernel_rfl) (stepT_store (w' := W.setCell ⟨g2, p, none⟩ (.int .u8 V)) rfl rfl rfl ?r17 (fun h => by cases h) ?_)
          case r17 => first | (go_simp; rfl) | go_simp
          refine lx_nil (by kernel_rfl) ?_
          go_wp2_with fail
          exact ⟨⟨j + 1, by omega, by go_num, HN', fun q => frozen_setCell W _ _ g2 q HF'.out, HB'.out.setCell (show w1.heap.size ≤ g2 from hg2) _⟩, by simp [intOf]; omega⟩
        · obtain rfl : j = 4 := by omega
          have hcl : ¬ ((4 : Nat) : Int) < 4 := by omega
          have hx1 := HR1.out.carry (Nat.le_refl _) HB.out
          have tk2 : True := trivial
          obtain ⟨S1, H1⟩ : ∃ S, Hid (uw (more 0#32 X) = S) := ⟨_, rfl⟩
          obtain ⟨S2, H2⟩ : ∃ S, Hid (uw (more 0#32 (yb X k (bi r) 4)) = S) := ⟨_, rfl⟩
          have hn12 : (S1 == S2) = false := by
            have := HNE.out
            rw [H1.out, H2.out] at this
            simp [this]
          have hn13 : ¬ (S1 = S2) := by simpa using hn12
          have hn14 : (S1 != S2) = true := by simpa using hn12
          have d1 := sum_any _ _ _ _ _ hx1
          have d2 := sum_any _ _ _ _ _ HY.out
          rw [H1.out] at d1
          rw [H2.out] at d2
          clear HNE hx1
          go_wp2_with (first
            | (go_at_call 7; clear tk2; refine d1.mono ?_; rintro e w4 ⟨rfl, rfl⟩; clear d1)
            | (go_at_call 7; refine d2.mono ?_; rintro e w4 ⟨rfl, rfl⟩; clear d2)
            | (go_at_call 12; refine (wakes_any _).mono ?_; rintro e w5 ⟨rfl, hb5⟩))
          go_ret
          exact ⟨rfl, HB1.out.trans ((HB.out.trans (hb5.mono HB.out.size)).mono HB1.out.size)⟩
end crcBurst
end Go.Proofs.Ythcgfdalgmcpgaa
