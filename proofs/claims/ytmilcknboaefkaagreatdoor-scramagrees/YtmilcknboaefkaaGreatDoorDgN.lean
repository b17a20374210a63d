/- digest.signerOf, sign, Hmac. -/
import Derived.Test.YtmilcknboaefkaaGreatDoorDgM
set_option maxRecDepth 100000
namespace Go.Proofs.YtmilcknboaefkaaGreatDoor
open Go.RowKit

set_option maxRecDepth 100000 in
set_option maxHeartbeats 1600000 in
theorem signerOf_any (a : Option Addr) (n c : Nat) (xs : List Int) (w : World) (hR : Rd w a n c xs) (hn : n ≤ 1000000000) (hK : Kt w) :
    Calls Tryz.prog 50 #[.slice a n c] w fun e w' => e = .returned (.agg (ic .u32 (sIn xs ++ sOut xs)).toArray) ∧ Below w.heap.size w w' := by
  have hl := hR.len
  have hcp := hR.cap
  have hmx : c ≤ 9223372036854775807 := hR.most
  have hsl : (sIn xs ++ sOut xs).length = 16 := by simp [sIn_len, sOut_len]
  have hi23 := (size_of Tryz.u23).2
  by_cases h64 : 64 < n
  · have hcl : (64 : Int) < (n : Int) := by omega
    have hkr : ov (List.replicate 64 0) (sha xs) = kroom xs := by unfold kroom; rw [if_pos (by omega)]
    have hsb : Bd (sha xs) := shaB_bd _ _ _
    have hkb : Bd (kroom xs) := by rw [← hkr]; exact ov_bd (bd_zeros 64) hsb
    have hsh : (sha xs).length = 32 := shaB_len _ _ _
    clear hl
    go_enter Tryz.func50, Tryz.ntmps50
    go_wp2_with (first
      | (refine wp_alloc_ar rfl 92 rfl .u32 (List.replicate 16 0) 16 Tryz.z51 ?_; intro g1 w1 A1 hg1 hb1)
      | (go_at_call 25; refine (sha_any a n c xs _ (hR.carry (Nat.le_refl _) hb1) hn (hK.below (Nat.le_refl _) hb1)).mono ?_; rintro e w2 ⟨rfl, hb2⟩)
      | (refine wp_alloc_ar rfl 27 rfl .u8 (List.replicate 32 0) 32 Tryz.z23 ?_; intro g3 w3 A3 hg3 hb3)
      | (refine wp_store_ar rfl 27 (.tmp 3) (.tmp 9) rfl g3 rfl .u8 (sha xs) rfl 27 _ A3 (by rw [hsh]; rfl) (by rw [hsh]; exact hi23) ?_; intro w4 A4 hk4 hs4; clear hs4)
      | (refine wp_alloc_ar rfl 123 rfl .u8 (List.replicate 64 0) 64 Tryz.z55 ?_; intro g5 w5 A5 hg5 hb5)
      | (refine wp_copy_ar rfl (.tmp 11) (.tmp 12) rfl g5 64 64 rfl 123 (List.replicate 64 0) A5 (by simp) _ 32 32 (sha xs) rfl (by have := (rd_row A4 hsb (by rw [hsh]; unfold maxLen; omega)).carry (Nat.le_refl _) hb5; rw [hsh] at this; exact this) ?_; intro wX r6 AR hkX hsX; rw [hkr] at AR))
    have gR := g5
    have e2 := hb1.trans (hb2.mono hb1.size)
    have e3 := e2.trans (hb3.mono e2.size)
    have s2 := hb2.size
    have s3 := hb3.size
    have s1 := hb1.size
    have sk4 := hk4.size
    have s5 := hb5.size
    have l1 := A1.lt
    have e4 : Below w.heap.size w w4 := e3.trans (hk4.below e3.size (fun q hq => by omega))
    have e5 := e4.trans (hb5.mono e4.size)
    have HBX : Below w.heap.size w wX := e5.trans (hkX.below e5.size (fun q hq => by omega))
    have kX : Kt wX := hK.below (Nat.le_refl _) HBX
    have AS : Ar wX g1 92 .u32 (List.replicate 16 0) := ((((A1.below hb2 l1).below hb3 (by omega)).keep hk4 (by omega)).below hb5 (by omega)).keep hkX (by omega)
    clear gR
    obtain ⟨gR, hgR⟩ : ∃ gR, gR = g5 := ⟨_, rfl⟩
    rw [← hgR] at AR ⊢
    clear hgR e2 e3 e4 e5 s1 s2 s3 s5 sk4 l1 hkX hsX hb5 A5 hk4 A4 hb3 A3 hb2 hb1 A1 hR hK hkr hsb hcl hcp hmx
    go_wp2_with fail
    have HB0 : Hid (Below w.heap.size w wX.drew) := HBX.drew
    have k0 : Kt wX.drew := kX.drewN 1
    have AR0 : Ar wX.drew gR 123 .u8 (kroom xs) := AR
    have AS0 : Ar wX.drew g1 92 .u32 (List.replicate 16 0) := AS
    refine wp_region_lx (fun w' => Below wX.drew.heap.size wX.drew w') [5] 6 (by kernel_rfl) (by kernel_rfl) ?_
    obtain ⟨W, HW⟩ : ∃ W, Hid (wX.drew = W) := ⟨_, rfl⟩
    rw [HW.out] at HB0 k0 AR0 AS0 ⊢
    have HS0 : Below W.heap.size W W := Below.refl _ _
    refine lx_rd 0 (.agg (ic .u8 (kroom xs)).toArray) (by kernel_rfl) (fun _ _ d _ _ h => by cases d <;> exact h) (by kernel_rfl) HS0 rfl rfl rfl (fun w' hS => ?hPA0) ?_
    case hPA0 => exact exec_load_ar 123 (.tmp 4) rfl gR rfl 123 .u8 (kroom xs) 5 64 (AR0.below hS AR0.lt) Tryz.u55 (kroom_len xs)
    simp only [List.setIfInBounds_toArray, List.set_cons_zero, List.set_cons_succ]
    refine lx_rd 2 (.agg (ic .u8 (kroom xs)).toArray) (by kernel_rfl) (fun _ _ d _ _ h => by cases d <;> exact h) (by kernel_rfl) HS0 rfl rfl rfl (fun w' hS => ?hPA2) ?_
    case hPA2 => exact exec_load_ar 123 (.tmp 4) rfl gR rfl 123 .u8 (kroom xs) 5 64 (AR0.below hS AR0.lt) Tryz.u55 (kroom_len xs)
    simp only [List.setIfInBounds_toArray, List.set_cons_zero, List.set_cons_succ]
    refine lx_one 1 (by kernel_rfl) (stepT_call 79 #[.agg (ic .u8 (kroom xs)).toArray, .int .u8 54] rfl rfl rfl ?r1P ?_)
    case r1P => first | (go_simp; rfl) | go_simp
    refine (padded_any (kroom xs) 54 _ (kroom_len xs) hkb k0).mono ?_
    rintro e u1 ⟨rfl, b1⟩
    refine ⟨_, rfl, fun _ => b1, ?_⟩
    simp only [List.setIfInBounds_toArray, List.set_cons_zero, List.set_cons_succ]
    refine lx_one 3 (by kernel_rfl) (stepT_call 79 #[.agg (ic .u8 (kroom xs)).toArray, .int .u8 92] rfl rfl rfl ?r3P ?_)
    case r3P => first | (go_simp; rfl) | go_simp
    refine (padded_any (kroom xs) 92 _ (kroom_len xs) hkb (k0.below (Nat.le_refl _) b1)).mono ?_
    rintro e u2 ⟨rfl, b2⟩
    have HS2 : Below W.heap.size W u2 := b1.trans (b2.mono b1.size)
    refine ⟨_, rfl, fun _ => HS2, ?_⟩
    simp only [List.setIfInBounds_toArray, List.set_cons_zero, List.set_cons_succ]
    have AS2 := AS0.below HS2 AS0.lt
    refine lx_rd 4 (.agg (ic .u32 (sIn xs ++ sOut xs)).toArray) (by kernel_rfl) (fun _ _ d _ _ h => by cases d <;> exact h) (by kernel_rfl) HS2 rfl rfl rfl (fun w' hS => ?hPB4) ?_
    case hPB4 => exact exec_build2 92 (.tmp 15) (.tmp 17) rfl _ _ rfl rfl _ (built_signer (sIn xs) (sOut xs) (sIn_len xs) (sOut_len xs))
    simp only [List.setIfInBounds_toArray, List.set_cons_zero, List.set_cons_succ]
    refine lx_one 5 (by kernel_rfl) (stepT_store (w' := u2.setRow g1 (ic .u32 (sIn xs ++ sOut xs)).toArray) rfl rfl rfl ?r5P (fun h => by cases h) ?_)
    case r5P => exact exec_store_ar 92 (.tmp 2) (.tmp 18) rfl g1 rfl .u32 (sIn xs ++ sOut xs) rfl 92 _ AS2 (by simp [sIn_len, sOut_len]) (by rw [hsl]; exact Tryz.i51)
    refine lx_nil (by kernel_rfl) ?_
    have A9 : Ar (u2.setRow g1 (ic .u32 (sIn xs ++ sOut xs)).toArray) g1 92 .u32 (sIn xs ++ sOut xs) := AS2.row
    have e2 := HB0.out.trans (HS2.mono HB0.out.size)
    have e9 : Below w.heap.size w (u2.setRow g1 (ic .u32 (sIn xs ++ sOut xs)).toArray) := below_setRow e2 hg1 _
    generalize u2.setRow g1 (ic .u32 (sIn xs ++ sOut xs)).toArray = w9 at A9 e9
    go_wp2
    exact bodyPost_ret (v := .agg (ic .u32 (sIn xs ++ sOut xs)).toArray) (results_struct rfl _ _ g1 92 .u32 _ _ rfl A9 Tryz.underlying92 rfl (by rw [hsl]; exact Tryz.i51)) rfl ⟨rfl, e9⟩
  · have hcl : ¬ (64 : Int) < (n : Int) := by omega
    have hkr : ov (List.replicate 64 0) xs = kroom xs := by unfold kroom; rw [if_neg (by omega)]
    have hkb : Bd (kroom xs) := by rw [← hkr]; exact ov_bd (bd_zeros 64) hR.bytes
    clear hl
    go_enter Tryz.func50, Tryz.ntmps50
    go_wp2_with (first
      | (refine wp_alloc_ar rfl 92 rfl .u32 (List.replicate 16 0) 16 Tryz.z51 ?_; intro g1 w1 A1 hg1 hb1)
      | (refine wp_alloc_ar rfl 123 rfl .u8 (List.replicate 64 0) 64 Tryz.z55 ?_; intro gR w5 A5 hg5 hb5)
      | (refine wp_copy_ar rfl (.tmp 11) (.tmp 12) rfl gR 64 64 rfl 123 (List.replicate 64 0) A5 (by simp) _ n c xs rfl ((hR.carry (Nat.le_refl _) hb1).carry (Nat.le_refl _) hb5) ?_; intro wX r6 AR hkX hsX; rw [hkr] at AR))
    have s1 := hb1.size
    have e5 := hb1.trans (hb5.mono s1)
    have HBX : Below w.heap.size w wX := e5.trans (hkX.below e5.size (fun q hq => by omega))
    have kX : Kt wX := hK.below (Nat.le_refl _) HBX
    have AS : Ar wX g1 92 .u32 (List.replicate 16 0) := (A1.below hb5 A1.lt).keep hkX (by have := A1.lt; omega)
    clear e5 s1 hkX hsX hb5 A5 hb1 A1 hR hK hkr hcl hcp hmx
    go_wp2_with fail
    have HB0 : Hid (Below w.heap.size w wX.drew) := HBX.drew
    have k0 : Kt wX.drew := kX.drewN 1
    have AR0 : Ar wX.drew gR 123 .u8 (kroom xs) := AR
    have AS0 : Ar wX.drew g1 92 .u32 (List.replicate 16 0) := AS
    refine wp_region_lx (fun w' => Below wX.drew.heap.size wX.drew w') [5] 6 (by kernel_rfl) (by kernel_rfl) ?_
    obtain ⟨W, HW⟩ : ∃ W, Hid (wX.drew = W) := ⟨_, rfl⟩
    rw [HW.out] at HB0 k0 AR0 AS0 ⊢
    have HS0 : Below W.heap.size W W := Below.refl _ _
    refine lx_rd 0 (.agg (ic .u8 (kroom xs)).toArray) (by kernel_rfl) (fun _ _ d _ _ h => by cases d <;> exact h) (by kernel_rfl) HS0 rfl rfl rfl (fun w' hS => ?hQA0) ?_
    case hQA0 => exact exec_load_ar 123 (.tmp 4) rfl gR rfl 123 .u8 (kroom xs) 5 64 (AR0.below hS AR0.lt) Tryz.u55 (kroom_len xs)
    simp only [List.setIfInBounds_toArray, List.set_cons_zero, List.set_cons_succ]
    refine lx_rd 2 (.agg (ic .u8 (kroom xs)).toArray) (by kernel_rfl) (fun _ _ d _ _ h => by cases d <;> exact h) (by kernel_rfl) HS0 rfl rfl rfl (fun w' hS => ?hQA2) ?_
    case hQA2 => exact exec_load_ar 123 (.tmp 4) rfl gR rfl 123 .u8 (kroom xs) 5 64 (AR0.below hS AR0.lt) Tryz.u55 (kroom_len xs)
    simp only [List.setIfInBounds_toArray, List.set_cons_zero, List.set_cons_succ]
    refine lx_one 1 (by kernel_rfl) (stepT_call 79 #[.agg (ic .u8 (kroom xs)).toArray, .int .u8 54] rfl rfl rfl ?r1Q ?_)
    case r1Q => first | (go_simp; rfl) | go_simp
    refine (padded_any (kroom xs) 54 _ (kroom_len xs) hkb k0).mono ?_
    rintro e u1 ⟨rfl, b1⟩
    refine ⟨_, rfl, fun _ => b1, ?_⟩
    simp only [List.setIfInBounds_toArray, List.set_cons_zero, List.set_cons_succ]
    refine lx_one 3 (by kernel_rfl) (stepT_call 79 #[.agg (ic .u8 (kroom xs)).toArray, .int .u8 92] rfl rfl rfl ?r3Q ?_)
    case r3Q => first | (go_simp; rfl) | go_simp
    refine (padded_any (kroom xs) 92 _ (kroom_len xs) hkb (k0.below (Nat.le_refl _) b1)).mono ?_
    rintro e u2 ⟨rfl, b2⟩
    have HS2 : Below W.heap.size W u2 := b1.trans (b2.mono b1.size)
    refine ⟨_, rfl, fun _ => HS2, ?_⟩
    simp only [List.setIfInBounds_toArray, List.set_cons_zero, List.set_cons_succ]
    have AS2 := AS0.below HS2 AS0.lt
    refine lx_rd 4 (.agg (ic .u32 (sIn xs ++ sOut xs)).toArray) (by kernel_rfl) (fun _ _ d _ _ h => by cases d <;> exact h) (by kernel_rfl) HS2 rfl rfl rfl (fun w' hS => ?hQB4) ?_
    case hQB4 => exact exec_build2 92 (.tmp 15) (.tmp 17) rfl _ _ rfl rfl _ (built_signer (sIn xs) (sOut xs) (sIn_len xs) (sOut_len xs))
    simp only [List.setIfInBounds_toArray, List.set_cons_zero, List.set_cons_succ]
    refine lx_one 5 (by kernel_rfl) (stepT_store (w' := u2.setRow g1 (ic .u32 (sIn xs ++ sOut xs)).toArray) rfl rfl rfl ?r5Q (fun h => by cases h) ?_)
    case r5Q => exact exec_store_ar 92 (.tmp 2) (.tmp 18) rfl g1 rfl .u32 (sIn xs ++ sOut xs) rfl 92 _ AS2 (by simp [sIn_len, sOut_len]) (by rw [hsl]; exact Tryz.i51)
    refine lx_nil (by kernel_rfl) ?_
    have A9 : Ar (u2.setRow g1 (ic .u32 (sIn xs ++ sOut xs)).toArray) g1 92 .u32 (sIn xs ++ sOut xs) := AS2.row
    have e2 := HB0.out.trans (HS2.mono HB0.out.size)
    have e9 : Below w.heap.size w (u2.setRow g1 (ic .u32 (sIn xs ++ sOut xs)).toArray) := below_setRow e2 hg1 _
    generalize u2.setRow g1 (ic .u32 (sIn xs ++ sOut xs)).toArray = w9 at A9 e9
    go_wp2
    exact bodyPost_ret (v := .agg (ic .u32 (sIn xs ++ sOut xs)).toArray) (results_struct rfl _ _ g1 92 .u32 _ _ rfl A9 Tryz.underlying92 rfl (by rw [hsl]; exact Tryz.i51)) rfl ⟨rfl, e9⟩

def hmac (ks xs : List Int) : List Int := shaB 64 (sOut ks) (shaB 64 (sIn ks) xs)
theorem hmac_len (ks xs : List Int) : (hmac ks xs).length = 32 := shaB_len _ _ _
theorem hmac_bd (ks xs : List Int) : Bd (hmac ks xs) := shaB_bd _ _ _

set_option maxRecDepth 100000 in
set_option maxHeartbeats 1600000 in
theorem sign_any (is os : List Int) (a : Option Addr) (n c : Nat) (xs : List Int) (w : World) (hi : is.length = 8) (ho : os.length = 8) (hR : Rd w a n c xs) (hn : n ≤ 1000000000) (hK : Kt w) :
    Calls Tryz.prog 51 #[.agg (ic .u32 (is ++ os)).toArray, .slice a n c] w fun e w' => e = .returned (.agg (ic .u8 (shaB 64 os (shaB 64 is xs))).toArray) ∧ Below w.heap.size w w' := by
  have hi45 := (size_of Tryz.u45)
  have hi23 := (size_of Tryz.u23).2
  have hl1 : (shaB 64 is xs).length = 32 := shaB_len _ _ _
  have hl2 : (shaB 64 os (shaB 64 is xs)).length = 32 := shaB_len _ _ _
  have hb1' : Bd (shaB 64 is xs) := shaB_bd _ _ _
  obtain ⟨X, HX⟩ : ∃ X, Hid (shaB 64 is xs = X) := ⟨_, rfl⟩
  rw [HX.out] at hl1 hl2 hb1' ⊢
  have t1 : True := trivial
  go_enter Tryz.func51, Tryz.ntmps51
  go_wp2_with (first
    | (refine wp_box_ar rfl 92 (.tmp 0) rfl .u32 (is ++ os) rfl ?_; intro g1 w1 A1 hg1 hb1)
    | (clear t1; refine wp_alloc_ar rfl 27 rfl .u8 (List.replicate 32 0) 32 Tryz.z23 ?_; intro g2 w2 A2 hg2 hb2)
    | (refine wpList_load_mid rfl 90 (.tmp 6) rfl g1 0 rfl (ic .u32 is) _ (Ar.mid (xs := []) (A1.below hb2 A1.lt)) hi45.1 rfl (by rw [hi45.2, ic_len, hi]) ?_)
    | (go_at_call 53; refine (shaBehind_any is 64 a n c xs _ hi (by omega) ((hR.carry (Nat.le_refl _) hb1).carry (Nat.le_refl _) hb2) hn ((hK.below (Nat.le_refl _) hb1).below (Nat.le_refl _) hb2)).mono ?_; rw [HX.out]; rintro e w3 ⟨rfl, hb3⟩)
    | (refine wp_alloc_ar rfl 27 rfl .u8 (List.replicate 32 0) 32 Tryz.z23 ?_; intro g4 w4 A4 hg4 hb4)
    | (refine wp_store_ar rfl 27 (.tmp 5) (.tmp 9) rfl g4 rfl .u8 X rfl 27 _ A4 (by rw [hl1]; rfl) (by rw [hl1]; exact hi23) ?_; intro wX AX hkX hsX; clear hsX))
  have l1 := A1.lt
  have l2 := A2.lt
  have s1 := hb1.size
  have s2 := hb2.size
  have s3 := hb3.size
  have s4 := hb4.size
  have e2 := hb1.trans (hb2.mono s1)
  have e3 := e2.trans (hb3.mono e2.size)
  have e4 := e3.trans (hb4.mono e3.size)
  have eX : Below w.heap.size w wX := e4.trans (hkX.below e4.size (fun q hq => by omega))
  have n14 : ¬ g1 = g4 := by omega
  have n24 : ¬ g2 = g4 := by omega
  have A1Y : Ar wX g1 92 .u32 (is ++ os) := (((A1.below hb2 l1).below hb3 (by omega)).below hb4 (by omega)).keep hkX n14
  have A1X : Ar wX.drew g1 92 .u32 (is ++ os) := A1Y
  have A2Y : Ar wX g2 27 .u8 (List.replicate 32 0) := ((A2.below hb3 l2).below hb4 (by omega)).keep hkX n24
  have A2X : Ar wX.drew g2 27 .u8 (List.replicate 32 0) := A2Y
  have AX' : Ar wX.drew g4 27 .u8 X := AX
  have k0 : Kt wX.drew := (hK.below (Nat.le_refl _) eX).drewN 1
  have HB0 : Hid (Below w.heap.size w wX.drew) := eX.drew
  have hg2' : w.heap.size ≤ g2 := by omega
  clear A1Y A2Y l1 l2 s1 s2 s3 s4 e2 e3 e4 eX hkX AX A4 A2 A1 hb4 hb3 hb2 hb1 hR hK hg1 hg2 hg4
  go_wp2_with fail
  refine wp_region_lx (fun w' => Below wX.drew.heap.size wX.drew w') [4] 5 (by kernel_rfl) (by kernel_rfl) ?_
  obtain ⟨W, HW⟩ : ∃ W, Hid (wX.drew = W) := ⟨_, rfl⟩
  rw [HW.out] at HB0 k0 A1X A2X AX' ⊢
  have HS0 : Below W.heap.size W W := Below.refl _ _
  have hrd : Rd W (some ⟨g4, 0, none⟩) 32 32 X := by have := rd_row AX' hb1' (by rw [hl1]; unfold maxLen; omega); rw [hl1] at this; exact this
  refine lx_rd 0 (.pointer (some ⟨g1, 8, none⟩)) (by kernel_rfl) (fun _ _ d _ _ h => by cases d <;> exact h) (by kernel_rfl) HS0 rfl rfl rfl (fun w' hS => ?hSA0) ?_
  case hSA0 => first | (go_simp; rfl) | go_simp
  simp only [List.setIfInBounds_toArray, List.set_cons_zero, List.set_cons_succ]
  refine lx_rd 1 (.agg (ic .u32 os).toArray) (by kernel_rfl) (fun _ _ d _ _ h => by cases d <;> exact h) (by kernel_rfl) HS0 rfl rfl rfl (fun w' hS => ?hSA1) ?_
  case hSA1 => exact exec_load_mid 90 (.tmp 10) rfl g1 8 rfl (ic .u32 os) _ (by have hA := A1X.below hS A1X.lt; rw [← List.append_nil (is ++ os)] at hA; have := hA.mid; rw [hi] at this; exact this) hi45.1 rfl (by rw [hi45.2, ic_len, ho])
  simp only [List.setIfInBounds_toArray, List.set_cons_zero, List.set_cons_succ]
  refine lx_rd 2 (.slice (some ⟨g4, 0, none⟩) 32 32) (by kernel_rfl) (fun _ _ d _ _ h => by cases d <;> exact h) (by kernel_rfl) HS0 rfl rfl rfl (fun w' hS => ?hSA2) ?_
  case hSA2 => first | (go_simp; rfl) | go_simp
  simp only [List.setIfInBounds_toArray, List.set_cons_zero, List.set_cons_succ]
  refine lx_one 3 (by kernel_rfl) (stepT_call 53 #[.agg (ic .u32 os).toArray, .int .i64 64, .slice (some ⟨g4, 0, none⟩) 32 32] rfl rfl rfl ?rs3 ?_)
  case rs3 => first | (go_simp; rfl) | go_simp
  refine (shaBehind_any os 64 _ 32 32 X _ ho (by omega) hrd (by omega) k0).mono ?_
  rintro e u1 ⟨rfl, b1⟩
  refine ⟨_, rfl, fun _ => b1, ?_⟩
  simp only [List.setIfInBounds_toArray, List.set_cons_zero, List.set_cons_succ]
  have A2u := A2X.below b1 A2X.lt
  refine lx_one 4 (by kernel_rfl) (stepT_store (w' := u1.setRow g2 (ic .u8 (shaB 64 os X)).toArray) rfl rfl rfl ?rs4 (fun h => by cases h) ?_)
  case rs4 => exact exec_store_ar 27 (.tmp 4) (.tmp 13) rfl g2 rfl .u8 (shaB 64 os X) rfl 27 _ A2u (by rw [hl2]; rfl) (by rw [hl2]; exact hi23)
  refine lx_nil (by kernel_rfl) ?_
  have A9 : Ar (u1.setRow g2 (ic .u8 (shaB 64 os X)).toArray) g2 27 .u8 (shaB 64 os X) := A2u.row
  have e1 := HB0.out.trans (b1.mono HB0.out.size)
  have e9 : Below w.heap.size w (u1.setRow g2 (ic .u8 (shaB 64 os X)).toArray) := below_setRow e1 hg2' _
  generalize u1.setRow g2 (ic .u8 (shaB 64 os X)).toArray = w9 at A9 e9
  go_wp2
  exact bodyPost_ret (v := .agg (ic .u8 (shaB 64 os X)).toArray) (ar_results rfl _ _ g2 27 .u8 _ 5 32 rfl A9 Tryz.u23 hl2) rfl ⟨rfl, e9⟩

set_option maxRecDepth 100000 in
set_option maxHeartbeats 1600000 in
theorem hmac_any (a : Option Addr) (n c : Nat) (ks : List Int) (a' : Option Addr) (n' c' : Nat) (xs : List Int) (w : World) (hR : Rd w a n c ks) (hn : n ≤ 1000000000) (hR' : Rd w a' n' c' xs) (hn' : n' ≤ 1000000000) (hK : Kt w) :
    Calls Tryz.prog 22 #[.slice a n c, .slice a' n' c'] w fun e w' => e = .returned (.agg (ic .u8 (hmac ks xs)).toArray) ∧ Below w.heap.size w w' := by
  have hi23 := (size_of Tryz.u23).2
  have hl2 : (hmac ks xs).length = 32 := hmac_len _ _
  go_enter Tryz.func22, Tryz.ntmps22
  go_wp2_with (first
    | (refine wp_alloc_ar rfl 27 rfl .u8 (List.replicate 32 0) 32 Tryz.z23 ?_; intro g1 w1 A1 hg1 hb1)
    | (go_at_call 50; refine (signerOf_any a n c ks _ (hR.carry (Nat.le_refl _) hb1) hn (hK.below (Nat.le_refl _) hb1)).mono ?_; rintro e w2 ⟨rfl, hb2⟩)
    | (go_at_call 51; refine (sign_any (sIn ks) (sOut ks) a' n' c' xs _ (sIn_len ks) (sOut_len ks) ((hR'.carry (Nat.le_refl _) hb1).carry (Nat.le_refl _) hb2) hn' ((hK.below (Nat.le_refl _) hb1).below (Nat.le_refl _) hb2)).mono ?_; rintro e w3 ⟨rfl, hb3⟩)
    | (refine wp_store_ar rfl 27 (.tmp 4) (.tmp 8) rfl g1 rfl .u8 (hmac ks xs) rfl 27 _ ((A1.below hb2 A1.lt).below hb3 (Nat.lt_of_lt_of_le A1.lt hb2.size)) (by rw [hl2]; rfl) (by rw [hl2]; exact hi23) ?_; intro wX AX hkX hsX; clear hsX))
  have e2 := hb1.trans (hb2.mono hb1.size)
  have e3 := e2.trans (hb3.mono e2.size)
  exact bodyPost_ret (v := .agg (ic .u8 (hmac ks xs)).toArray) (ar_results rfl _ _ g1 27 .u8 _ 5 32 rfl AX Tryz.u23 hl2) rfl ⟨rfl, e3.trans (hkX.below e3.size (fun q hq => by omega))⟩

end Go.Proofs.YtmilcknboaefkaaGreatDoor
