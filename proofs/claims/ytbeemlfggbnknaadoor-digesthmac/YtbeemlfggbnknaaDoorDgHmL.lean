/- DigestHmac's walk. -/
import Derived.Test.YtbeemlfggbnknaaDoorDgU
import Derived.Test.YtbeemlfggbnknaaDoorDgQ
import Derived.Test.YtbeemlfggbnknaaDoorAnyP
namespace Go.Proofs.YtbeemlfggbnknaaDoor
open Go.RowKit

theorem hmac_zero {K : List Int} (X : List Int) (h : K.length < 64) : hmac (K ++ [0]) X = hmac K X := by
  have e : kroom (K ++ [0]) = kroom K := by
    unfold kroom
    rw [if_neg (by rw [List.length_append]; simp; omega), if_neg (by omega), kroom_eq _ (by rw [List.length_append]; simp; omega), kroom_eq _ (by omega), List.append_assoc]
    congr 1
    rw [List.length_append, List.length_singleton, show 64 - K.length = (64 - (K.length + 1)) + 1 from by omega, List.replicate_succ]
    rfl
  unfold hmac sIn sOut; rw [e]
/-- append of bytes to own bytes, at its run. -/
theorem run_appO (w : World) (ty : TypeId) (base : Nat) (v : Value) (n : Nat) (xs : List Int) (hown : w.ownsRow base 5 1 v n (bc xs)) (ad : Addr) (m c : Nat) (ys : List Int) (hr : Rd w (some ad) m c ys) (hb : n + m ≤ 1000000000) (hbase : base ≤ w.heap.size) :
    ∃ v' w', (Builtin.append_ #[22, 22] ty #[v, .slice (some ad) m c]).run Tryd.prog w = .ok v' w' ∧ w'.ownsRow base 5 1 v' (n + m) (bc (xs ++ ys)) ∧ Below base w w' := by
  obtain ⟨i0, hi, hz0, hz1, hz2⟩ := info_parts Tryd.info5
  obtain ⟨v', w', hrun, h2, h3, _⟩ := run_append_own (P := Tryd.prog) w base 22 ty 5 i0 (.int .u8 0) 1 1 Tryd.underlying22 hi hz0 hz1 hz2 rfl (by decide) v n (bc xs) hown ad m c (bc ys) (by rw [bc_len, hr.len]; omega) (hr.news rfl) (bc_one ys) (by unfold maxLen; omega) (by omega) hbase
  rw [← bc_append] at h2
  exact ⟨v', w', hrun, h2, (Below.refl _ _).grown h3 hbase (fun k hk => (hown.lt k hk).1)⟩

set_option maxRecDepth 100000 in
set_option maxHeartbeats 3200000 in
theorem digestHmac_any (a : Option Addr) (n c : Nat) (xs : List Int) (a' : Option Addr) (n' c' : Nat) (ys : List Int) (w : World) (hR : Rd w a n c xs) (hR' : Rd w a' n' c' ys) (hK : Kt w) :
    Calls Tryd.prog 4 #[.slice a n c, .slice a' n' c'] w fun e w' => e = .returned (.bool true) ∧ Below w.heap.size w w' := by
  have hi23 := (size_of Tryd.u23).2
  obtain ⟨X, HX⟩ : ∃ X, Hid (xs.take 1000 = X) := ⟨_, rfl⟩
  obtain ⟨Y, HY⟩ : ∃ Y, Hid (ys.take 1000 = Y) := ⟨_, rfl⟩
  have HTX : Hid (X.take 1000 = X) := by show _ = _; rw [← HX.out, List.take_take, Nat.min_self]
  obtain ⟨H, HH⟩ : ∃ H, Hid (hmac X Y = H) := ⟨_, rfl⟩
  have hHl : H.length = 32 := by rw [← HH.out]; exact hmac_len _ _
  have tk1 : True := trivial
  have tk2 : True := trivial
  go_enter Tryd.func4, Tryd.ntmps4
  go_wp2_with (first
    | (go_at_call 10; clear tk1; refine (fewR a n c xs _ hR).mono ?_; rw [HX.out]; rintro e w1 ⟨a5, n5, c5, rfl, hn5, hX1, hb1⟩)
    | (go_at_call 10; clear tk2; refine (fewR a5 n5 c5 X _ hX1).mono ?_; rw [HTX.out]; rintro e w2 ⟨a2, n2, c2, rfl, hn2, hX2, hb2⟩; have e2 := hb1.trans (hb2.mono hb1.size))
    | (go_at_call 10; refine (fewR a' n' c' ys _ (hR'.carry (Nat.le_refl _) e2)).mono ?_; rw [HY.out]; rintro e w3 ⟨a3, n3, c3, rfl, hn3, hY3, hb3⟩; have e3 := e2.trans (hb3.mono e2.size); have b3 := hb2.trans (hb3.mono hb2.size))
    | (go_at_call 13; refine (hmac_any a2 n2 c2 X a3 n3 c3 Y _ (hX2.carry (Nat.le_refl _) hb3) (by omega) hY3 (by omega) (hK.below (Nat.le_refl _) e3)).mono ?_; rw [HH.out]; rintro e w4 ⟨rfl, hb4⟩; have e4 := e3.trans (hb4.mono e3.size); have b4 := b3.trans (hb4.mono b3.size))
    | (refine wp_alloc_ar rfl 23 rfl .u8 (List.replicate 32 0) 32 Tryd.z23 ?_; intro gH w5 A5 hg5 hb5)
    | (refine wp_store_ar rfl 23 (.tmp 6) (.tmp 13) rfl gH rfl .u8 H rfl 23 _ A5 (by rw [hHl]; rfl) (by rw [hHl]; exact hi23) ?_; intro w6 A6 hk6 hs6; clear hs6))
  have e5 := e4.trans (hb5.mono e4.size)
  have b5 := b4.trans (hb5.mono b4.size)
  have e6 : Below w.heap.size w w6 := e5.trans (hk6.below e5.size (fun q hq => by have := e4.size; omega))
  have b6 : Below w1.heap.size w1 w6 := b5.trans (hk6.below b5.size (fun q hq => by have := b4.size; omega))
  have hX6 := hX1.carry (Nat.le_refl _) b6
  clear hb1 hb2 hb3 hb4 hb5 hk6 e2 e3 e4 e5 b3 b4 b5 b6 hX1 hX2 hY3 A5 hg5
  go_upto_region 3 with fail
  refine wp_region_lx (fun w' => Ar w' gH 23 .u8 H) [] 6 (by kernel_rfl) (by kernel_rfl) ?_
  have HS : Ar w6.drew gH 23 .u8 H := A6
  have e6d := e6.drew
  have hX6d : Rd w6.drew a5 n5 c5 X := rd_drewN hX6 1
  clear e6 hX6 A6
  generalize w6.drew = W6 at HS e6d hX6d ⊢
  refine lx_rd 0 (.agg (ic .u8 H).toArray) (by kernel_rfl) (fun _ _ d _ _ h => by cases d <;> exact h) (by kernel_rfl) HS rfl rfl rfl (fun w' hS => ?hR0) ?_
  case hR0 => exact exec_load_ar 23 (.tmp 6) rfl gH rfl 23 .u8 H 5 32 hS Tryd.u23 hHl
  simp only [List.setIfInBounds_toArray, List.set_cons_zero, List.set_cons_succ]
  refine lx_rd 1 ?vR1 (by kernel_rfl) (fun _ _ d _ _ h => by cases d <;> exact h) (by kernel_rfl) HS rfl rfl rfl (fun w' hS => ?hR1) ?_
  case hR1 => first | (go_simp; rfl) | go_simp
  simp only [List.setIfInBounds_toArray, List.set_cons_zero, List.set_cons_succ]
  refine lx_rd 2 ?vR2 (by kernel_rfl) (fun _ _ d _ _ h => by cases d <;> exact h) (by kernel_rfl) HS rfl rfl rfl (fun w' hS => ?hR2) ?_
  case hR2 => first | (go_simp; rfl) | go_simp
  simp only [List.setIfInBounds_toArray, List.set_cons_zero, List.set_cons_succ]
  refine lx_one 3 (by kernel_rfl) (stepT_call 10 ?aR3 rfl rfl rfl ?rR3 ?_)
  case rR3 => first | (go_simp; rfl) | go_simp
  refine (fewR a' n' c' ys _ (hR'.carry (Nat.le_refl _) e6d)).mono ?_
  rw [HY.out]
  rintro e w7 ⟨a7, n7, c7, rfl, hn7, hY7, hb7⟩
  have A7 := HS.below hb7 HS.lt
  refine ⟨_, rfl, fun _ => A7, ?_⟩
  simp only [List.setIfInBounds_toArray, List.set_cons_zero, List.set_cons_succ]
  refine lx_one 4 (by kernel_rfl) (stepT_call 14 ?aR4 rfl rfl rfl ?rR4 ?_)
  case rR4 => first | (go_simp; rfl) | go_simp
  refine (refHmac_any a5 n5 c5 X a7 n7 c7 Y _ (hX6d.carry (Nat.le_refl _) hb7) (by omega) hY7 (by omega)).mono ?_
  rw [HH.out]
  rintro e w8 ⟨rfl, hb8⟩
  have A8 := A7.below hb8 A7.lt
  refine ⟨_, rfl, fun _ => A8, ?_⟩
  simp only [List.setIfInBounds_toArray, List.set_cons_zero, List.set_cons_succ]
  refine lx_one 5 (by kernel_rfl) (stepT_val (w' := w8) (.bool false) rfl rfl rfl ?rR5 (fun _ => A8) ?_)
  case rR5 =>
    have hq := Tryd.neq23 w8 H H hHl hHl
    rw [show (!decide (H = H)) = false from by simp] at hq
    exact exec_binOp .neq 23 (.tmp 14) (.tmp 18) _ rfl _ _ _ rfl rfl (Tryd.guard23 w8 .neq _ _ _ _) hq
  simp only [List.setIfInBounds_toArray, List.set_cons_zero, List.set_cons_succ]
  refine lx_nil (by kernel_rfl) ?_
  have b8 := hb7.trans (hb8.mono hb7.size)
  have e8 := e6d.trans (b8.mono e6d.size)
  have hX8 := hX6d.carry (Nat.le_refl _) b8
  clear hb7 hb8 b8 e6d hX6d HS A7 hY7
  go_upto_region 5 with fail
  refine wp_region_lx (fun w' => Ar w' gH 23 .u8 H) [] 18 (by kernel_rfl) (by kernel_rfl) ?_
  have HS : Ar w8.drew gH 23 .u8 H := A8
  have e8d := e8.drew
  have hX8d : Rd w8.drew a5 n5 c5 X := rd_drewN hX8 1
  have hlX := hX8.len
  clear e8 hX8 A8
  generalize w8.drew = W8 at HS e8d hX8d ⊢
  by_cases h64 : 64 ≤ n5
  · have h64i : decide ((64 : Int) ≤ (n5 : Int)) = true := by simp; omega
    refine lx_rd 0 ?vS0 (by kernel_rfl) (fun _ _ d _ _ h => by cases d <;> exact h) (by kernel_rfl) HS rfl rfl rfl (fun w' hS => ?hS0) ?_
    case hS0 => first | (go_simp; rfl) | go_simp
    simp only [List.setIfInBounds_toArray, List.set_cons_zero, List.set_cons_succ]
    refine lx_rd 1 ?vS1 (by kernel_rfl) (fun _ _ d _ _ h => by cases d <;> exact h) (by kernel_rfl) HS rfl rfl rfl (fun w' hS => ?hS1) ?_
    case hS1 => first | (go_simp; rfl) | go_simp
    simp only [List.setIfInBounds_toArray, List.set_cons_zero, List.set_cons_succ]
    refine lx_rd 2 (.bool true) (by kernel_rfl) (fun _ _ d _ _ h => by cases d <;> exact h) (by kernel_rfl) HS rfl rfl rfl (fun w' hS => ?hS2) ?_
    case hS2 => first | (go_simp; done) | (go_simp; rfl) | (go_simp; omega)
    simp only [List.setIfInBounds_toArray, List.set_cons_zero, List.set_cons_succ]
    refine lx_rd 3 ?vS3 (by kernel_rfl) (fun _ _ d _ _ h => by cases d <;> exact h) (by kernel_rfl) HS rfl rfl rfl (fun w' hS => ?hS3) ?_
    case hS3 => first | (go_simp; rfl) | go_simp
    simp only [List.setIfInBounds_toArray, List.set_cons_zero, List.set_cons_succ]
    refine lx_skip 4 (by kernel_rfl) (fun _ _ d _ _ h => by cases d <;> exact h) (by kernel_rfl) HS rfl rfl rfl ?_
    simp only [List.setIfInBounds_toArray, List.set_cons_zero, List.set_cons_succ]
    refine lx_skip 5 (by kernel_rfl) (fun _ _ d _ _ h => by cases d <;> exact h) (by kernel_rfl) HS rfl rfl rfl ?_
    simp only [List.setIfInBounds_toArray, List.set_cons_zero, List.set_cons_succ]
    refine lx_skip 6 (by kernel_rfl) (fun _ _ d _ _ h => by cases d <;> exact h) (by kernel_rfl) HS rfl rfl rfl ?_
    simp only [List.setIfInBounds_toArray, List.set_cons_zero, List.set_cons_succ]
    refine lx_skip 7 (by kernel_rfl) (fun _ _ d _ _ h => by cases d <;> exact h) (by kernel_rfl) HS rfl rfl rfl ?_
    simp only [List.setIfInBounds_toArray, List.set_cons_zero, List.set_cons_succ]
    refine lx_skip 8 (by kernel_rfl) (fun _ _ d _ _ h => by cases d <;> exact h) (by kernel_rfl) HS rfl rfl rfl ?_
    simp only [List.setIfInBounds_toArray, List.set_cons_zero, List.set_cons_succ]
    refine lx_skip 9 (by kernel_rfl) (fun _ _ d _ _ h => by cases d <;> exact h) (by kernel_rfl) HS rfl rfl rfl ?_
    simp only [List.setIfInBounds_toArray, List.set_cons_zero, List.set_cons_succ]
    refine lx_skip 10 (by kernel_rfl) (fun _ _ d _ _ h => by cases d <;> exact h) (by kernel_rfl) HS rfl rfl rfl ?_
    simp only [List.setIfInBounds_toArray, List.set_cons_zero, List.set_cons_succ]
    refine lx_skip 11 (by kernel_rfl) (fun _ _ d _ _ h => by cases d <;> exact h) (by kernel_rfl) HS rfl rfl rfl ?_
    simp only [List.setIfInBounds_toArray, List.set_cons_zero, List.set_cons_succ]
    refine lx_skip 12 (by kernel_rfl) (fun _ _ d _ _ h => by cases d <;> exact h) (by kernel_rfl) HS rfl rfl rfl ?_
    simp only [List.setIfInBounds_toArray, List.set_cons_zero, List.set_cons_succ]
    refine lx_rd 13 ?vS13 (by kernel_rfl) (fun _ _ d _ _ h => by cases d <;> exact h) (by kernel_rfl) HS rfl rfl rfl (fun w' hS => ?hS13) ?_
    case hS13 => first | (go_simp; rfl) | go_simp
    simp only [List.setIfInBounds_toArray, List.set_cons_zero, List.set_cons_succ]
    refine lx_rd 14 ?vS14 (by kernel_rfl) (fun _ _ d _ _ h => by cases d <;> exact h) (by kernel_rfl) HS rfl rfl rfl (fun w' hS => ?hS14) ?_
    case hS14 => first | (go_simp; rfl) | go_simp
    simp only [List.setIfInBounds_toArray, List.set_cons_zero, List.set_cons_succ]
    refine lx_one 15 (by kernel_rfl) (stepT_call 12 ?aS15 rfl rfl rfl ?rS15 ?_)
    case rS15 => first | (go_simp; rfl) | go_simp
    refine (wakes_any _ (hK.below (Nat.le_refl _) e8d)).mono ?_
    rintro e w9 ⟨rfl, hb9⟩
    have A9 := HS.below hb9 HS.lt
    refine ⟨_, rfl, fun _ => A9, ?_⟩
    simp only [List.setIfInBounds_toArray, List.set_cons_zero, List.set_cons_succ]
    refine lx_rd 16 ?vT16 (by kernel_rfl) (fun _ _ d _ _ h => by cases d <;> exact h) (by kernel_rfl) A9 rfl rfl rfl (fun w' hS => ?hT16) ?_
    case hT16 => first | (go_simp; rfl) | go_simp
    simp only [List.setIfInBounds_toArray, List.set_cons_zero, List.set_cons_succ]
    refine lx_rd 17 ?vT17 (by kernel_rfl) (fun _ _ d _ _ h => by cases d <;> exact h) (by kernel_rfl) A9 rfl rfl rfl (fun w' hS => ?hT17) ?_
    case hT17 => first | (go_simp; rfl) | go_simp
    simp only [List.setIfInBounds_toArray, List.set_cons_zero, List.set_cons_succ]
    refine lx_nil (by kernel_rfl) ?_
    go_wp2
    go_ret
    exact ⟨rfl, e8d.trans (hb9.mono e8d.size)⟩
  · have h64i : decide ((64 : Int) ≤ (n5 : Int)) = false := by simp; omega
    have HZ : Hid (hmac (X ++ [0]) Y = H) := by show _ = _; rw [hmac_zero Y (by omega)]; exact HH.out
    refine lx_rd 0 ?vU0 (by kernel_rfl) (fun _ _ d _ _ h => by cases d <;> exact h) (by kernel_rfl) HS rfl rfl rfl (fun w' hS => ?hU0) ?_
    case hU0 => first | (go_simp; rfl) | go_simp
    simp only [List.setIfInBounds_toArray, List.set_cons_zero, List.set_cons_succ]
    refine lx_rd 1 ?vU1 (by kernel_rfl) (fun _ _ d _ _ h => by cases d <;> exact h) (by kernel_rfl) HS rfl rfl rfl (fun w' hS => ?hU1) ?_
    case hU1 => first | (go_simp; rfl) | go_simp
    simp only [List.setIfInBounds_toArray, List.set_cons_zero, List.set_cons_succ]
    refine lx_rd 2 (.bool false) (by kernel_rfl) (fun _ _ d _ _ h => by cases d <;> exact h) (by kernel_rfl) HS rfl rfl rfl (fun w' hS => ?hU2) ?_
    case hU2 => first | (go_simp; done) | (go_simp; rfl) | (go_simp; omega)
    simp only [List.setIfInBounds_toArray, List.set_cons_zero, List.set_cons_succ]
    refine lx_rd 3 ?vU3 (by kernel_rfl) (fun _ _ d _ _ h => by cases d <;> exact h) (by kernel_rfl) HS rfl rfl rfl (fun w' hS => ?hU3) ?_
    case hU3 => first | (go_simp; rfl) | go_simp
    simp only [List.setIfInBounds_toArray, List.set_cons_zero, List.set_cons_succ]
    refine lx_rd 4 ?vU4 (by kernel_rfl) (fun _ _ d _ _ h => by cases d <;> exact h) (by kernel_rfl) HS rfl rfl rfl (fun w' hS => ?hU4) ?_
    case hU4 => first | (go_simp; rfl) | go_simp
    simp only [List.setIfInBounds_toArray, List.set_cons_zero, List.set_cons_succ]
    refine lx_rd 8 ?vU8 (by kernel_rfl) (fun _ _ d _ _ h => by cases d <;> exact h) (by kernel_rfl) HS rfl rfl rfl (fun w' hS => ?hU8) ?_
    case hU8 => first | (go_simp; rfl) | go_simp
    simp only [List.setIfInBounds_toArray, List.set_cons_zero, List.set_cons_succ]
    refine lx_rd 11 (.agg (ic .u8 H).toArray) (by kernel_rfl) (fun _ _ d _ _ h => by cases d <;> exact h) (by kernel_rfl) HS rfl rfl rfl (fun w' hS => ?hU11) ?_
    case hU11 => exact exec_load_ar 23 (.tmp 6) rfl gH rfl 23 .u8 H 5 32 hS Tryd.u23 hHl
    simp only [List.setIfInBounds_toArray, List.set_cons_zero, List.set_cons_succ]
    refine lx_two 5 6 (by kernel_rfl) ?ordA ?ordB
    case ordA =>
      refine stepT_call 10 ?aA5 rfl rfl rfl ?rA5 ?_
      case rA5 => first | (go_simp; rfl) | go_simp
      refine (fewN a5 n5 c5 X _ hX8d).mono ?_
      rw [HTX.out]
      rintro e w9 ⟨a9, n9, c9, rfl, hn9, hr9, hN9, hb9⟩
      have A9 := HS.below hb9 HS.lt
      refine ⟨_, rfl, fun _ => A9, ?_⟩
      simp only [List.setIfInBounds_toArray, List.set_cons_zero, List.set_cons_succ]
      refine lx_one 6 (by kernel_rfl) (stepT_val (w' := w9.alloc (.cells #[.int .u8 0] 5)) (.slice (some ⟨w9.heap.size, 0, none⟩) 1 1) rfl rfl rfl ?rA6 (fun _ => A9.below ((Below.refl _ _).alloc (Nat.le_refl _) _) A9.lt) ?_)
      case rA6 => first | (go_simp; done) | (go_simp; rfl)
      simp only [List.setIfInBounds_toArray, List.set_cons_zero, List.set_cons_succ]
      have hrz : Rd (w9.alloc (.cells #[.int .u8 0] 5)) (some ⟨w9.heap.size, 0, none⟩) 1 1 [0] := rd_one w9 0 (by omega) (by omega)
      have ho9 := hN9.1.alloc (.cells #[.int .u8 0] 5)
      have f9 : Below W8.heap.size W8 (w9.alloc (.cells #[.int .u8 0] 5)) := hb9.alloc hb9.size _
      have A10 : Ar (w9.alloc (.cells #[.int .u8 0] 5)) gH 23 .u8 H := A9.below ((Below.refl _ _).alloc (Nat.le_refl _) _) A9.lt
      generalize w9.alloc (.cells #[.int .u8 0] 5) = w10 at hrz ho9 f9 A10 ⊢
      generalize w9.heap.size = g6 at hrz ⊢
      have hl9 : X.length = n9 := hr9.len
      rw [hl9] at ho9
      obtain ⟨v11, w11, hrun11, ho11, hb11⟩ := run_appO w10 22 W8.heap.size _ n9 X ho9 ⟨g6, 0, none⟩ 1 1 [0] hrz (by omega) f9.size
      obtain ⟨a11, c11, rfl, hr11⟩ := Rd.ofOwn ho11 (hX8d.bytes.append hrz.bytes)
      have A11 : Ar w11 gH 23 .u8 H := A10.below hb11 HS.lt
      refine lx_one 7 (by kernel_rfl) (stepT_val (w' := w11) (.slice a11 (n9 + 1) c11) rfl rfl rfl ?rA7 (fun _ => A11) ?_)
      case rA7 => exact exec_app rfl rfl rfl hrun11
      simp only [List.setIfInBounds_toArray, List.set_cons_zero, List.set_cons_succ]
      have f11 := f9.trans hb11
      have e11 := e8d.trans (f11.mono e8d.size)
      refine lx_one 9 (by kernel_rfl) (stepT_call 10 ?aA9 rfl rfl rfl ?rA9 ?_)
      case rA9 => first | (go_simp; rfl) | go_simp
      refine (fewR a' n' c' ys _ (hR'.carry (Nat.le_refl _) e11)).mono ?_
      rw [HY.out]
      rintro e w12 ⟨a12, n12, c12, rfl, hn12, hY12, hb12⟩
      have A12 := A11.below hb12 A11.lt
      refine ⟨_, rfl, fun _ => A12, ?_⟩
      simp only [List.setIfInBounds_toArray, List.set_cons_zero, List.set_cons_succ]
      have e12 := e11.trans (hb12.mono e11.size)
      refine lx_one 10 (by kernel_rfl) (stepT_call 13 ?aA10 rfl rfl rfl ?rA10 ?_)
      case rA10 => first | (go_simp; rfl) | go_simp
      refine (hmac_any a11 (n9 + 1) c11 (X ++ [0]) a12 n12 c12 Y _ (hr11.carry (Nat.le_refl _) hb12) (by omega) hY12 (by omega) (hK.below (Nat.le_refl _) e12)).mono ?_
      rw [HZ.out]
      rintro e w13 ⟨rfl, hb13⟩
      have A13 := A12.below hb13 A12.lt
      refine ⟨_, rfl, fun _ => A13, ?_⟩
      simp only [List.setIfInBounds_toArray, List.set_cons_zero, List.set_cons_succ]
      have e13 := e12.trans (hb13.mono e12.size)
      refine lx_one 12 (by kernel_rfl) (stepT_val (w' := w13) (.bool true) rfl rfl rfl ?rA12 (fun _ => A13) ?_)
      case rA12 =>
        have hq := Tryd.eql23 w13 H H hHl hHl
        rw [show decide (H = H) = true from by simp] at hq
        exact exec_binOp .eql 23 (.tmp 30) (.tmp 31) _ rfl _ _ _ rfl rfl (Tryd.guard23 w13 .eql _ _ _ _) hq
      simp only [List.setIfInBounds_toArray, List.set_cons_zero, List.set_cons_succ]
      refine lx_rd 13 ?vAx13 (by kernel_rfl) (fun _ _ d _ _ h => by cases d <;> exact h) (by kernel_rfl) A13 rfl rfl rfl (fun w' hS => ?hAx13) ?_
      case hAx13 => first | (go_simp; rfl) | go_simp
      simp only [List.setIfInBounds_toArray, List.set_cons_zero, List.set_cons_succ]
      refine lx_rd 14 ?vAx14 (by kernel_rfl) (fun _ _ d _ _ h => by cases d <;> exact h) (by kernel_rfl) A13 rfl rfl rfl (fun w' hS => ?hAx14) ?_
      case hAx14 => first | (go_simp; rfl) | go_simp
      simp only [List.setIfInBounds_toArray, List.set_cons_zero, List.set_cons_succ]
      refine lx_one 15 (by kernel_rfl) (stepT_call 12 ?aA15 rfl rfl rfl ?rA15 ?_)
      case rA15 => first | (go_simp; rfl) | go_simp
      refine (wakes_any _ (hK.below (Nat.le_refl _) e13)).mono ?_
      rintro e w14 ⟨rfl, hb14⟩
      have A14 := A13.below hb14 A13.lt
      refine ⟨_, rfl, fun _ => A14, ?_⟩
      simp only [List.setIfInBounds_toArray, List.set_cons_zero, List.set_cons_succ]
      refine lx_rd 16 ?vAy16 (by kernel_rfl) (fun _ _ d _ _ h => by cases d <;> exact h) (by kernel_rfl) A14 rfl rfl rfl (fun w' hS => ?hAy16) ?_
      case hAy16 => first | (go_simp; rfl) | go_simp
      simp only [List.setIfInBounds_toArray, List.set_cons_zero, List.set_cons_succ]
      refine lx_rd 17 ?vAy17 (by kernel_rfl) (fun _ _ d _ _ h => by cases d <;> exact h) (by kernel_rfl) A14 rfl rfl rfl (fun w' hS => ?hAy17) ?_
      case hAy17 => first | (go_simp; rfl) | go_simp
      simp only [List.setIfInBounds_toArray, List.set_cons_zero, List.set_cons_succ]
      refine lx_nil (by kernel_rfl) ?_
      go_wp2
      go_ret
      exact ⟨rfl, e13.trans (hb14.mono e13.size)⟩
    case ordB =>
      refine stepT_val (w' := W8.alloc (.cells #[.int .u8 0] 5)) (.slice (some ⟨W8.heap.size, 0, none⟩) 1 1) rfl rfl rfl ?rB6 (fun _ => HS.below ((Below.refl _ _).alloc (Nat.le_refl _) _) HS.lt) ?_
      case rB6 => first | (go_simp; done) | (go_simp; rfl)
      simp only [List.setIfInBounds_toArray, List.set_cons_zero, List.set_cons_succ]
      have f8 : Below W8.heap.size W8 (W8.alloc (.cells #[.int .u8 0] 5)) := (Below.refl _ _).alloc (Nat.le_refl _) _
      have hrz8 : Rd (W8.alloc (.cells #[.int .u8 0] 5)) (some ⟨W8.heap.size, 0, none⟩) 1 1 [0] := rd_one W8 0 (by omega) (by omega)
      have A8b : Ar (W8.alloc (.cells #[.int .u8 0] 5)) gH 23 .u8 H := HS.below f8 HS.lt
      refine lx_one 5 (by kernel_rfl) (stepT_call 10 ?aB5 rfl rfl rfl ?rB5 ?_)
      case rB5 => first | (go_simp; rfl) | go_simp
      refine (fewN a5 n5 c5 X _ (hX8d.carry (Nat.le_refl _) f8)).mono ?_
      rw [HTX.out]
      rintro e w10 ⟨a9, n9, c9, rfl, hn9, hr9, hN9, hb9⟩
      have A10 := A8b.below hb9 A8b.lt
      refine ⟨_, rfl, fun _ => A10, ?_⟩
      simp only [List.setIfInBounds_toArray, List.set_cons_zero, List.set_cons_succ]
      have hrz : Rd w10 (some ⟨W8.heap.size, 0, none⟩) 1 1 [0] := hrz8.carry (Nat.le_refl _) hb9
      have ho9 := own_weak hN9.1 (B' := W8.heap.size) f8.size
      have f9 : Below W8.heap.size W8 w10 := f8.trans (hb9.mono f8.size)
      generalize W8.alloc (.cells #[.int .u8 0] 5) = w8b at hb9
      generalize hg6 : W8.heap.size = g6 at hrz ⊢
      have hr9l := hr9.len
      have hl9 : X.length = n9 := hr9.len
      rw [hl9] at ho9
      obtain ⟨v11, w11, hrun11, ho11, hb11⟩ := run_appO w10 22 W8.heap.size _ n9 X ho9 ⟨g6, 0, none⟩ 1 1 [0] hrz (by omega) f9.size
      obtain ⟨a11, c11, rfl, hr11⟩ := Rd.ofOwn ho11 (hX8d.bytes.append hrz.bytes)
      have A11 : Ar w11 gH 23 .u8 H := A10.below hb11 HS.lt
      refine lx_one 7 (by kernel_rfl) (stepT_val (w' := w11) (.slice a11 (n9 + 1) c11) rfl rfl rfl ?rB7 (fun _ => A11) ?_)
      case rB7 => exact exec_app rfl rfl rfl hrun11
      simp only [List.setIfInBounds_toArray, List.set_cons_zero, List.set_cons_succ]
      have f11 := f9.trans hb11
      have e11 := e8d.trans (f11.mono e8d.size)
      refine lx_one 9 (by kernel_rfl) (stepT_call 10 ?aB9 rfl rfl rfl ?rB9 ?_)
      case rB9 => first | (go_simp; rfl) | go_simp
      refine (fewR a' n' c' ys _ (hR'.carry (Nat.le_refl _) e11)).mono ?_
      rw [HY.out]
      rintro e w12 ⟨a12, n12, c12, rfl, hn12, hY12, hb12⟩
      have A12 := A11.below hb12 A11.lt
      refine ⟨_, rfl, fun _ => A12, ?_⟩
      simp only [List.setIfInBounds_toArray, List.set_cons_zero, List.set_cons_succ]
      have e12 := e11.trans (hb12.mono e11.size)
      refine lx_one 10 (by kernel_rfl) (stepT_call 13 ?aB10 rfl rfl rfl ?rB10 ?_)
      case rB10 => first | (go_simp; rfl) | go_simp
      refine (hmac_any a11 (n9 + 1) c11 (X ++ [0]) a12 n12 c12 Y _ (hr11.carry (Nat.le_refl _) hb12) (by omega) hY12 (by omega) (hK.below (Nat.le_refl _) e12)).mono ?_
      rw [HZ.out]
      rintro e w13 ⟨rfl, hb13⟩
      have A13 := A12.below hb13 A12.lt
      refine ⟨_, rfl, fun _ => A13, ?_⟩
      simp only [List.setIfInBounds_toArray, List.set_cons_zero, List.set_cons_succ]
      have e13 := e12.trans (hb13.mono e12.size)
      refine lx_one 12 (by kernel_rfl) (stepT_val (w' := w13) (.bool true) rfl rfl rfl ?rB12 (fun _ => A13) ?_)
      case rB12 =>
        have hq := Tryd.eql23 w13 H H hHl hHl
        rw [show decide (H = H) = true from by simp] at hq
        exact exec_binOp .eql 23 (.tmp 30) (.tmp 31) _ rfl _ _ _ rfl rfl (Tryd.guard23 w13 .eql _ _ _ _) hq
      simp only [List.setIfInBounds_toArray, List.set_cons_zero, List.set_cons_succ]
      refine lx_rd 13 ?vBx13 (by kernel_rfl) (fun _ _ d _ _ h => by cases d <;> exact h) (by kernel_rfl) A13 rfl rfl rfl (fun w' hS => ?hBx13) ?_
      case hBx13 => first | (go_simp; rfl) | go_simp
      simp only [List.setIfInBounds_toArray, List.set_cons_zero, List.set_cons_succ]
      refine lx_rd 14 ?vBx14 (by kernel_rfl) (fun _ _ d _ _ h => by cases d <;> exact h) (by kernel_rfl) A13 rfl rfl rfl (fun w' hS => ?hBx14) ?_
      case hBx14 => first | (go_simp; rfl) | go_simp
      simp only [List.setIfInBounds_toArray, List.set_cons_zero, List.set_cons_succ]
      refine lx_one 15 (by kernel_rfl) (stepT_call 12 ?aB15 rfl rfl rfl ?rB15 ?_)
      case rB15 => first | (go_simp; rfl) | go_simp
      refine (wakes_any _ (hK.below (Nat.le_refl _) e13)).mono ?_
      rintro e w14 ⟨rfl, hb14⟩
      have A14 := A13.below hb14 A13.lt
      refine ⟨_, rfl, fun _ => A14, ?_⟩
      simp only [List.setIfInBounds_toArray, List.set_cons_zero, List.set_cons_succ]
      refine lx_rd 16 ?vBy16 (by kernel_rfl) (fun _ _ d _ _ h => by cases d <;> exact h) (by kernel_rfl) A14 rfl rfl rfl (fun w' hS => ?hBy16) ?_
      case hBy16 => first | (go_simp; rfl) | go_simp
      simp only [List.setIfInBounds_toArray, List.set_cons_zero, List.set_cons_succ]
      refine lx_rd 17 ?vBy17 (by kernel_rfl) (fun _ _ d _ _ h => by cases d <;> exact h) (by kernel_rfl) A14 rfl rfl rfl (fun w' hS => ?hBy17) ?_
      case hBy17 => first | (go_simp; rfl) | go_simp
      simp only [List.setIfInBounds_toArray, List.set_cons_zero, List.set_cons_succ]
      refine lx_nil (by kernel_rfl) ?_
      go_wp2
      go_ret
      exact ⟨rfl, e13.trans (hb14.mono e13.size)⟩
end Go.Proofs.YtbeemlfggbnknaaDoor
