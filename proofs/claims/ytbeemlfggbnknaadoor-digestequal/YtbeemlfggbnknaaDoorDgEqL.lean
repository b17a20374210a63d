/- DigestEqual's walk. -/
import Derived.Test.YtbeemlfggbnknaaDoorDgI
import Derived.Test.YtbeemlfggbnknaaDoorLate
namespace Go.Proofs.YtbeemlfggbnknaaDoor
open Go.RowKit

theorem rd_drew {w : World} {a : Option Addr} {n c : Nat} {xs : List Int} (h : Rd w a n c xs) : Rd w.drew a n c xs := ⟨h.len, h.cap, h.most, h.nil, h.bytes, h.cells⟩
theorem idxk (z : Int) (n : Nat) (hn : 0 < n) (hn2 : n ≤ 1000) : ∃ k : Nat, k < n ∧ (wrap64 (z.tmod n + n)).tmod n = (k : Int) := by
  have h1 : z.tmod n < n := Int.tmod_lt_of_pos z (by omega)
  have h2 : -(n : Int) < z.tmod n := by
    have : (-z).tmod n < n := Int.tmod_lt_of_pos (-z) (by omega)
    rw [Int.neg_tmod] at this; omega
  have h3 : wrap64 (z.tmod n + n) = z.tmod n + n := by unfold wrap64; omega
  rw [h3, Int.tmod_eq_emod_of_nonneg (by omega)]
  have h4 := Int.emod_nonneg (z.tmod n + n) (show (n : Int) ≠ 0 by omega)
  have h5 := Int.emod_lt_of_pos (z.tmod n + n) (show (0 : Int) < n by omega)
  exact ⟨((z.tmod n + n) % n).toNat, by omega, by omega⟩
theorem str_eq (X Y : List Int) (hX : Bd X) (hY : Bd Y) : ((strOfNums X).toList == (strOfNums Y).toList) = decide (X = Y) := by
  rw [Bool.eq_iff_iff, decide_eq_true_eq, beq_iff_eq]
  constructor
  · intro h
    rw [ByteArray.toList_eq, ByteArray.toList_eq] at h
    exact str_inj hX hY (ByteArray.ext (Array.ext' h))
  · intro h; rw [h]
theorem flip_ne {X : List Int} (hX : Bd X) {k : Nat} (hk : k < X.length) : decide (X = X.set k (bits .xor .u8 (X.getD k 0) 1)) = false := by
  rw [decide_eq_false_iff_not]
  intro h
  have h1 := congrArg (fun l => l.getD k 0) h
  simp only [List.getD, List.getElem?_set, if_pos hk, if_true, Option.getD_some] at h1
  have hb := hX.get k
  have h2 : bits .xor .u8 (X.getD k 0) 1 = X.getD k 0 := h1.symm
  generalize X.getD k 0 = x at h2 hb
  rw [u8_xor _ _ hb.1 (by omega) (by omega) (by omega)] at h2
  have h3 : x.toNat ^^^ 1 = x.toNat := by have := hb.1; have e : ((1 : Int).toNat) = 1 := rfl; rw [e] at h2; omega
  have h4 := congrArg (fun n => Nat.testBit n 0) h3
  simp at h4
  omega

set_option maxRecDepth 100000 in
set_option maxHeartbeats 6400000 in
theorem digestEqual_any (a : Option Addr) (n c : Nat) (xs : List Int) (a' : Option Addr) (n' c' : Nat) (ys : List Int) (z : Int) (w : World) (hR : Rd w a n c xs) (hR' : Rd w a' n' c' ys) (hK : Kt w) :
    Calls Tryd.prog 7 #[.slice a n c, .slice a' n' c', .int .i64 z] w fun e w' => e = .returned (.bool true) ∧ Below w.heap.size w w' := by
  have t1 : True := trivial
  have t2 : True := trivial
  obtain ⟨X, HX⟩ : ∃ X, Hid (xs.take 1000 = X) := ⟨_, rfl⟩
  obtain ⟨Y, HY⟩ : ∃ Y, Hid (ys.take 1000 = Y) := ⟨_, rfl⟩
  have HTX : Hid (X.take 1000 = X) := by show _ = _; rw [← HX.out, List.take_take, Nat.min_self]
  have HTY : Hid (Y.take 1000 = Y) := by show _ = _; rw [← HY.out, List.take_take, Nat.min_self]
  have hBX : Bd X := by rw [← HX.out]; exact hR.bytes.take 1000
  have hBY : Bd Y := by rw [← HY.out]; exact hR'.bytes.take 1000
  by_cases h0 : 0 < X.length
  · go_enter Tryd.func7, Tryd.ntmps7
    go_wp2_with (first
      | (go_at_call 10; clear t1; refine (fewN a n c xs _ hR).mono ?_; rw [HX.out]; rintro e w1 ⟨a1, n1, c1, rfl, hn1, hr1, hN1, hb1⟩; have hR2 := hR'.carry (Nat.le_refl _) hb1)
      | (go_at_call 10; clear t2; refine (fewN a' n' c' ys _ hR2).mono ?_; rw [HY.out]; rintro e w2 ⟨a2, n2, c2, rfl, hn2, hr2, hN2, hb2⟩; have hR3 := hR.carry (Nat.le_refl _) (hb1.trans (hb2.mono hb1.size)))
      | (go_at_call 10; refine (fewN a n c xs _ hR3).mono ?_; rw [HX.out]; rintro e w3 ⟨a3, n3, c3, rfl, hn3, hr3, hN3, hb3⟩; have hp3 : 0 < n3 := (by rw [← hr3.len]; exact h0); obtain ⟨g3, rfl, hg3, hf3⟩ := hN3.flat hp3; obtain ⟨k, hk, hke⟩ := idxk z n3 hp3 hn3; have hkz : (k : Int) < (n3 : Int) := (by omega); have hck := hr3.cells _ rfl k hk; rw [add_flat, Nat.zero_add] at hck; obtain ⟨xk, HXK⟩ : ∃ v, Hid (X.getD k 0 = v) := ⟨_, rfl⟩; rw [HXK.out] at hck))
    have hl1 := hr1.len
    have hl3 := hr3.len
    have e2 := hb1.trans (hb2.mono hb1.size)
    have e3 := e2.trans (hb3.mono e2.size)
    have bx8 := bits8 .xor xk 1
    have hz1' := hr3.setAt (k := k) (by omega) (v := bits .xor .u8 xk 1) bx8.1 bx8.2
    have kz : Keep (fun j => j = g3) w3 (w3.setCell ⟨g3, k, none⟩ (.int .u8 (bits .xor .u8 xk 1))) := Keep.setCell (S := fun j => j = g3) (Keep.refl _ _) rfl _
    have bz : Below w2.heap.size w2 (w3.setCell ⟨g3, k, none⟩ (.int .u8 (bits .xor .u8 xk 1))) := hb3.setCell (show w2.heap.size ≤ g3 from hg3) _
    have hx' := (hr1.carry (Nat.le_refl _) hb2).carry (Nat.le_refl _) bz
    have hy' := hr2.carry (Nat.le_refl _) bz
    have HBW' := e2.trans (bz.mono e2.size)
    have hKW' := hK.below (Nat.le_refl _) HBW'
    have HZ : Hid (decide (X = X.set k (bits .xor .u8 xk 1)) = false) := by show _ = _; rw [← HXK.out]; exact flip_ne hBX (by omega)
    obtain ⟨Z, HZZ⟩ : ∃ Z, Hid (X.set k (bits .xor .u8 xk 1) = Z) := ⟨_, rfl⟩
    rw [HZZ.out] at HZ hz1'
    obtain ⟨B, HB⟩ : ∃ B, Hid (decide (X = Y) = B) := ⟨_, rfl⟩
    have hsB := str_eq X Y hBX hBY
    obtain ⟨SX, HSX⟩ : ∃ S, Hid (strOfNums X = S) := ⟨_, rfl⟩
    obtain ⟨SY, HSY⟩ : ∃ S, Hid (strOfNums Y = S) := ⟨_, rfl⟩
    rw [HSX.out, HSY.out, HB.out] at hsB
    generalize hWg : w3.setCell ⟨g3, k, none⟩ (.int .u8 (bits .xor .u8 xk 1)) = W3 at hx' hy' hz1' HBW' hKW' ⊢
    clear hWg
    have hx : Rd W3.drew a1 n1 c1 X := rd_drew hx'
    have hy : Rd W3.drew a2 n2 c2 Y := rd_drew hy'
    have hz := rd_drew hz1'
    have HBW : Hid (Below w.heap.size w W3.drew) := HBW'.drew
    have hKW : Kt W3.drew := hKW'.drewN 1
    obtain ⟨W, HW⟩ : ∃ W, Hid (W3.drew = W) := ⟨_, rfl⟩
    rw [HW.out] at hx hy hz HBW hKW
    have HS0 : Below W.heap.size W W := Below.refl _ _
    have htX := HTX.out
    have htY := HTY.out
    have E0 : ((n1 : Int) == 0) = false := by simp; omega
    clear hR hR' hK hr1 hr2 hr3 hN1 hN2 hN3 hb1 hb2 hb3 hR2 hR3 e2 e3 kz bz hx' hy' hz1' HBW' hKW' hck bx8 hf3 hg3 HX HY HXK HZZ hke hkz hk
    refine wp_region_lx (fun w' => Below W.heap.size W w') [] 32 (by kernel_rfl) (by kernel_rfl) ?_
    rw [HW.out]
    refine lx_rd 0 ?vAA0 (by kernel_rfl) (fun _ _ d _ _ h => by cases d <;> exact h) (by kernel_rfl) HS0 rfl rfl rfl (fun w' hS => ?hAA0) ?_
    case hAA0 => first | (go_simp; rfl) | (go_simp; done) | (go_simp; exact idx_ok (by omega) (by omega)) | (go_simp; exact wi64' (by omega) (by omega) (by omega)) | (go_simp; intro hh; exfalso; omega)
    simp only [List.setIfInBounds_toArray, List.set_cons_zero, List.set_cons_succ]
    refine lx_rd 2 ?vAA2 (by kernel_rfl) (fun _ _ d _ _ h => by cases d <;> exact h) (by kernel_rfl) HS0 rfl rfl rfl (fun w' hS => ?hAA2) ?_
    case hAA2 => first | (go_simp; rfl) | (go_simp; done) | (go_simp; exact idx_ok (by omega) (by omega)) | (go_simp; exact wi64' (by omega) (by omega) (by omega)) | (go_simp; intro hh; exfalso; omega)
    simp only [List.setIfInBounds_toArray, List.set_cons_zero, List.set_cons_succ]
    refine lx_rd 5 ?vAA5 (by kernel_rfl) (fun _ _ d _ _ h => by cases d <;> exact h) (by kernel_rfl) HS0 rfl rfl rfl (fun w' hS => ?hAA5) ?_
    case hAA5 => first | (go_simp; rfl) | (go_simp; done) | (go_simp; exact idx_ok (by omega) (by omega)) | (go_simp; exact wi64' (by omega) (by omega) (by omega)) | (go_simp; intro hh; exfalso; omega)
    simp only [List.setIfInBounds_toArray, List.set_cons_zero, List.set_cons_succ]
    refine lx_rd 6 (.string SX) (by kernel_rfl) (fun _ _ d _ _ h => by cases d <;> exact h) (by kernel_rfl) HS0 rfl rfl rfl (fun w' hS => ?hAA6) ?_
    case hAA6 => have hs := (hx.carry (Nat.le_refl _) hS).string; rw [HSX.out] at hs; first | (go_simp; rfl) | (go_simp; done) | (go_simp; exact idx_ok (by omega) (by omega)) | (go_simp; exact wi64' (by omega) (by omega) (by omega)) | (go_simp; intro hh; exfalso; omega)
    simp only [List.setIfInBounds_toArray, List.set_cons_zero, List.set_cons_succ]
    refine lx_rd 7 ?vAA7 (by kernel_rfl) (fun _ _ d _ _ h => by cases d <;> exact h) (by kernel_rfl) HS0 rfl rfl rfl (fun w' hS => ?hAA7) ?_
    case hAA7 => first | (go_simp; rfl) | (go_simp; done) | (go_simp; exact idx_ok (by omega) (by omega)) | (go_simp; exact wi64' (by omega) (by omega) (by omega)) | (go_simp; intro hh; exfalso; omega)
    simp only [List.setIfInBounds_toArray, List.set_cons_zero, List.set_cons_succ]
    refine lx_rd 8 (.string SY) (by kernel_rfl) (fun _ _ d _ _ h => by cases d <;> exact h) (by kernel_rfl) HS0 rfl rfl rfl (fun w' hS => ?hAA8) ?_
    case hAA8 => have hs := (hy.carry (Nat.le_refl _) hS).string; rw [HSY.out] at hs; first | (go_simp; rfl) | (go_simp; done) | (go_simp; exact idx_ok (by omega) (by omega)) | (go_simp; exact wi64' (by omega) (by omega) (by omega)) | (go_simp; intro hh; exfalso; omega)
    simp only [List.setIfInBounds_toArray, List.set_cons_zero, List.set_cons_succ]
    refine lx_rd 9 (.bool B) (by kernel_rfl) (fun _ _ d _ _ h => by cases d <;> exact h) (by kernel_rfl) HS0 rfl rfl rfl (fun w' hS => ?hAA9) ?_
    case hAA9 => first | (go_simp; rfl) | (go_simp; done) | (go_simp; exact idx_ok (by omega) (by omega)) | (go_simp; exact wi64' (by omega) (by omega) (by omega)) | (go_simp; intro hh; exfalso; omega)
    simp only [List.setIfInBounds_toArray, List.set_cons_zero, List.set_cons_succ]
    refine lx_one 1 (by kernel_rfl) (stepT_call 10 #[.slice a1 n1 c1] rfl rfl rfl ?rA1 ?_)
    case rA1 => first | (go_simp; rfl) | go_simp
    refine (fewN a1 n1 c1 X _ (hx.carry (Nat.le_refl _) HS0)).mono ?_
    rintro e u1 ⟨p1, q1, r1, rfl, _, ru1, _, bu1⟩
    have HS1 : Below W.heap.size W u1 := HS0.trans (bu1.mono HS0.size)
    refine ⟨_, rfl, fun _ => HS1, ?_⟩
    simp only [List.setIfInBounds_toArray, List.set_cons_zero, List.set_cons_succ]
    rw [htX] at ru1
    refine lx_one 3 (by kernel_rfl) (stepT_call 10 #[.slice a2 n2 c2] rfl rfl rfl ?rA3 ?_)
    case rA3 => first | (go_simp; rfl) | go_simp
    refine (fewN a2 n2 c2 Y _ (hy.carry (Nat.le_refl _) HS1)).mono ?_
    rintro e u2 ⟨p2, q2, r2, rfl, _, ru2, _, bu2⟩
    have HS2 : Below W.heap.size W u2 := HS1.trans (bu2.mono HS1.size)
    refine ⟨_, rfl, fun _ => HS2, ?_⟩
    simp only [List.setIfInBounds_toArray, List.set_cons_zero, List.set_cons_succ]
    rw [htY] at ru2
    refine lx_one 4 (by kernel_rfl) (stepT_call 19 #[.slice p1 q1 r1, .slice p2 q2 r2] rfl rfl rfl ?rA4 ?_)
    case rA4 => first | (go_simp; rfl) | go_simp
    refine (equal_any p1 q1 r1 X p2 q2 r2 Y _ (ru1.carry (Nat.le_refl _) bu2) (ru2)).mono ?_
    rintro e u3 ⟨rfl, d3, hu3⟩
    have HS3 : Below W.heap.size W u3 := by rw [hu3]; exact below_drewN HS2 _
    clear hu3
    refine ⟨_, rfl, fun _ => HS3, ?_⟩
    rw [HB.out]
    simp only [List.setIfInBounds_toArray, List.set_cons_zero, List.set_cons_succ]
    refine lx_rd 10 (.bool true) (by kernel_rfl) (fun _ _ d _ _ h => by cases d <;> exact h) (by kernel_rfl) HS3 rfl rfl rfl (fun w' hS => ?hAB10) ?_
    case hAB10 => first | (go_simp; rfl) | (go_simp; done) | (go_simp; exact idx_ok (by omega) (by omega)) | (go_simp; exact wi64' (by omega) (by omega) (by omega)) | (go_simp; intro hh; exfalso; omega)
    simp only [List.setIfInBounds_toArray, List.set_cons_zero, List.set_cons_succ]
    refine lx_rd 11 ?vAB11 (by kernel_rfl) (fun _ _ d _ _ h => by cases d <;> exact h) (by kernel_rfl) HS3 rfl rfl rfl (fun w' hS => ?hAB11) ?_
    case hAB11 => first | (go_simp; rfl) | (go_simp; done) | (go_simp; exact idx_ok (by omega) (by omega)) | (go_simp; exact wi64' (by omega) (by omega) (by omega)) | (go_simp; intro hh; exfalso; omega)
    simp only [List.setIfInBounds_toArray, List.set_cons_zero, List.set_cons_succ]
    refine lx_rd 12 ?vAB12 (by kernel_rfl) (fun _ _ d _ _ h => by cases d <;> exact h) (by kernel_rfl) HS3 rfl rfl rfl (fun w' hS => ?hAB12) ?_
    case hAB12 => first | (go_simp; rfl) | (go_simp; done) | (go_simp; exact idx_ok (by omega) (by omega)) | (go_simp; exact wi64' (by omega) (by omega) (by omega)) | (go_simp; intro hh; exfalso; omega)
    simp only [List.setIfInBounds_toArray, List.set_cons_zero, List.set_cons_succ]
    refine lx_rd 14 ?vAB14 (by kernel_rfl) (fun _ _ d _ _ h => by cases d <;> exact h) (by kernel_rfl) HS3 rfl rfl rfl (fun w' hS => ?hAB14) ?_
    case hAB14 => first | (go_simp; rfl) | (go_simp; done) | (go_simp; exact idx_ok (by omega) (by omega)) | (go_simp; exact wi64' (by omega) (by omega) (by omega)) | (go_simp; intro hh; exfalso; omega)
    simp only [List.setIfInBounds_toArray, List.set_cons_zero, List.set_cons_succ]
    refine lx_one 13 (by kernel_rfl) (stepT_call 10 #[.slice a1 n1 c1] rfl rfl rfl ?rA13 ?_)
    case rA13 => first | (go_simp; rfl) | go_simp
    refine (fewN a1 n1 c1 X _ (hx.carry (Nat.le_refl _) HS3)).mono ?_
    rintro e u4 ⟨p4, q4, r4, rfl, _, ru4, _, bu4⟩
    have HS4 : Below W.heap.size W u4 := HS3.trans (bu4.mono HS3.size)
    refine ⟨_, rfl, fun _ => HS4, ?_⟩
    simp only [List.setIfInBounds_toArray, List.set_cons_zero, List.set_cons_succ]
    rw [htX] at ru4
    refine lx_one 15 (by kernel_rfl) (stepT_call 10 #[.slice a1 n1 c1] rfl rfl rfl ?rA15 ?_)
    case rA15 => first | (go_simp; rfl) | go_simp
    refine (fewN a1 n1 c1 X _ (hx.carry (Nat.le_refl _) HS4)).mono ?_
    rintro e u5 ⟨p5, q5, r5, rfl, _, ru5, _, bu5⟩
    have HS5 : Below W.heap.size W u5 := HS4.trans (bu5.mono HS4.size)
    refine ⟨_, rfl, fun _ => HS5, ?_⟩
    simp only [List.setIfInBounds_toArray, List.set_cons_zero, List.set_cons_succ]
    rw [htX] at ru5
    refine lx_one 16 (by kernel_rfl) (stepT_call 19 #[.slice p4 q4 r4, .slice p5 q5 r5] rfl rfl rfl ?rA16 ?_)
    case rA16 => first | (go_simp; rfl) | go_simp
    refine (equal_any p4 q4 r4 X p5 q5 r5 X _ (ru4.carry (Nat.le_refl _) bu5) (ru5)).mono ?_
    rintro e u6 ⟨rfl, d6, hu6⟩
    have HS6 : Below W.heap.size W u6 := by rw [hu6]; exact below_drewN HS5 _
    clear hu6
    refine ⟨_, rfl, fun _ => HS6, ?_⟩
    rw [show decide (X = X) = true from by simp]
    simp only [List.setIfInBounds_toArray, List.set_cons_zero, List.set_cons_succ]
    refine lx_rd 17 (.bool true) (by kernel_rfl) (fun _ _ d _ _ h => by cases d <;> exact h) (by kernel_rfl) HS6 rfl rfl rfl (fun w' hS => ?hAC17) ?_
    case hAC17 => first | (go_simp; rfl) | (go_simp; done) | (go_simp; exact idx_ok (by omega) (by omega)) | (go_simp; exact wi64' (by omega) (by omega) (by omega)) | (go_simp; intro hh; exfalso; omega)
    simp only [List.setIfInBounds_toArray, List.set_cons_zero, List.set_cons_succ]
    refine lx_rd 18 ?vAC18 (by kernel_rfl) (fun _ _ d _ _ h => by cases d <;> exact h) (by kernel_rfl) HS6 rfl rfl rfl (fun w' hS => ?hAC18) ?_
    case hAC18 => first | (go_simp; rfl) | (go_simp; done) | (go_simp; exact idx_ok (by omega) (by omega)) | (go_simp; exact wi64' (by omega) (by omega) (by omega)) | (go_simp; intro hh; exfalso; omega)
    simp only [List.setIfInBounds_toArray, List.set_cons_zero, List.set_cons_succ]
    refine lx_rd 19 ?vAC19 (by kernel_rfl) (fun _ _ d _ _ h => by cases d <;> exact h) (by kernel_rfl) HS6 rfl rfl rfl (fun w' hS => ?hAC19) ?_
    case hAC19 => first | (go_simp; rfl) | (go_simp; done) | (go_simp; exact idx_ok (by omega) (by omega)) | (go_simp; exact wi64' (by omega) (by omega) (by omega)) | (go_simp; intro hh; exfalso; omega)
    simp only [List.setIfInBounds_toArray, List.set_cons_zero, List.set_cons_succ]
    refine lx_rd 21 ?vAC21 (by kernel_rfl) (fun _ _ d _ _ h => by cases d <;> exact h) (by kernel_rfl) HS6 rfl rfl rfl (fun w' hS => ?hAC21) ?_
    case hAC21 => first | (go_simp; rfl) | (go_simp; done) | (go_simp; exact idx_ok (by omega) (by omega)) | (go_simp; exact wi64' (by omega) (by omega) (by omega)) | (go_simp; intro hh; exfalso; omega)
    simp only [List.setIfInBounds_toArray, List.set_cons_zero, List.set_cons_succ]
    refine lx_rd 23 ?vAC23 (by kernel_rfl) (fun _ _ d _ _ h => by cases d <;> exact h) (by kernel_rfl) HS6 rfl rfl rfl (fun w' hS => ?hAC23) ?_
    case hAC23 => first | (go_simp; rfl) | (go_simp; done) | (go_simp; exact idx_ok (by omega) (by omega)) | (go_simp; exact wi64' (by omega) (by omega) (by omega)) | (go_simp; intro hh; exfalso; omega)
    simp only [List.setIfInBounds_toArray, List.set_cons_zero, List.set_cons_succ]
    refine lx_rd 24 (.int .i64 n1) (by kernel_rfl) (fun _ _ d _ _ h => by cases d <;> exact h) (by kernel_rfl) HS6 rfl rfl rfl (fun w' hS => ?hAC24) ?_
    case hAC24 => first | (go_simp; rfl) | (go_simp; done) | (go_simp; exact idx_ok (by omega) (by omega)) | (go_simp; exact wi64' (by omega) (by omega) (by omega)) | (go_simp; intro hh; exfalso; omega)
    simp only [List.setIfInBounds_toArray, List.set_cons_zero, List.set_cons_succ]
    refine lx_rd 25 (.bool false) (by kernel_rfl) (fun _ _ d _ _ h => by cases d <;> exact h) (by kernel_rfl) HS6 rfl rfl rfl (fun w' hS => ?hAC25) ?_
    case hAC25 => first | (go_simp; rfl) | (go_simp; done) | (go_simp; exact idx_ok (by omega) (by omega)) | (go_simp; exact wi64' (by omega) (by omega) (by omega)) | (go_simp; intro hh; exfalso; omega)
    simp only [List.setIfInBounds_toArray, List.set_cons_zero, List.set_cons_succ]
    refine lx_one 20 (by kernel_rfl) (stepT_call 10 #[.slice a1 n1 c1] rfl rfl rfl ?rA20 ?_)
    case rA20 => first | (go_simp; rfl) | go_simp
    refine (fewN a1 n1 c1 X _ (hx.carry (Nat.le_refl _) HS6)).mono ?_
    rintro e u7 ⟨p7, q7, r7, rfl, _, ru7, _, bu7⟩
    have HS7 : Below W.heap.size W u7 := HS6.trans (bu7.mono HS6.size)
    refine ⟨_, rfl, fun _ => HS7, ?_⟩
    simp only [List.setIfInBounds_toArray, List.set_cons_zero, List.set_cons_succ]
    rw [htX] at ru7
    refine lx_one 22 (by kernel_rfl) (stepT_call 19 #[.slice p7 q7 r7, .slice (some ⟨g3, 0, none⟩) n3 c3] rfl rfl rfl ?rA22 ?_)
    case rA22 => first | (go_simp; rfl) | go_simp
    refine (equal_any p7 q7 r7 X (some ⟨g3, 0, none⟩) n3 c3 Z _ (ru7) (hz.carry (Nat.le_refl _) HS7)).mono ?_
    rintro e u8 ⟨rfl, d8, hu8⟩
    have HS8 : Below W.heap.size W u8 := by rw [hu8]; exact below_drewN HS7 _
    clear hu8
    refine ⟨_, rfl, fun _ => HS8, ?_⟩
    rw [HZ.out]
    simp only [List.setIfInBounds_toArray, List.set_cons_zero, List.set_cons_succ]
    refine lx_rd 26 (.bool true) (by kernel_rfl) (fun _ _ d _ _ h => by cases d <;> exact h) (by kernel_rfl) HS8 rfl rfl rfl (fun w' hS => ?hAD26) ?_
    case hAD26 => first | (go_simp; rfl) | (go_simp; done) | (go_simp; exact idx_ok (by omega) (by omega)) | (go_simp; exact wi64' (by omega) (by omega) (by omega)) | (go_simp; intro hh; exfalso; omega)
    simp only [List.setIfInBounds_toArray, List.set_cons_zero, List.set_cons_succ]
    refine lx_rd 27 (.bool true) (by kernel_rfl) (fun _ _ d _ _ h => by cases d <;> exact h) (by kernel_rfl) HS8 rfl rfl rfl (fun w' hS => ?hAD27) ?_
    case hAD27 => first | (go_simp; rfl) | (go_simp; done) | (go_simp; exact idx_ok (by omega) (by omega)) | (go_simp; exact wi64' (by omega) (by omega) (by omega)) | (go_simp; intro hh; exfalso; omega)
    simp only [List.setIfInBounds_toArray, List.set_cons_zero, List.set_cons_succ]
    refine lx_rd 28 ?vAD28 (by kernel_rfl) (fun _ _ d _ _ h => by cases d <;> exact h) (by kernel_rfl) HS8 rfl rfl rfl (fun w' hS => ?hAD28) ?_
    case hAD28 => first | (go_simp; rfl) | (go_simp; done) | (go_simp; exact idx_ok (by omega) (by omega)) | (go_simp; exact wi64' (by omega) (by omega) (by omega)) | (go_simp; intro hh; exfalso; omega)
    simp only [List.setIfInBounds_toArray, List.set_cons_zero, List.set_cons_succ]
    refine lx_one 29 (by kernel_rfl) (stepT_call 12 #[] rfl rfl rfl ?rA29 ?_)
    case rA29 => first | (go_simp; rfl) | go_simp
    refine (wakes_any _ (hKW.below (Nat.le_refl _) HS8)).mono ?_
    rintro e u9 ⟨rfl, bu9⟩
    have HS9 : Below W.heap.size W u9 := HS8.trans (bu9.mono HS8.size)
    refine ⟨_, rfl, fun _ => HS9, ?_⟩
    simp only [List.setIfInBounds_toArray, List.set_cons_zero, List.set_cons_succ]
    refine lx_rd 30 (.bool true) (by kernel_rfl) (fun _ _ d _ _ h => by cases d <;> exact h) (by kernel_rfl) HS9 rfl rfl rfl (fun w' hS => ?hAE30) ?_
    case hAE30 => first | (go_simp; rfl) | (go_simp; done) | (go_simp; exact idx_ok (by omega) (by omega)) | (go_simp; exact wi64' (by omega) (by omega) (by omega)) | (go_simp; intro hh; exfalso; omega)
    simp only [List.setIfInBounds_toArray, List.set_cons_zero, List.set_cons_succ]
    refine lx_rd 31 ?vAE31 (by kernel_rfl) (fun _ _ d _ _ h => by cases d <;> exact h) (by kernel_rfl) HS9 rfl rfl rfl (fun w' hS => ?hAE31) ?_
    case hAE31 => first | (go_simp; rfl) | (go_simp; done) | (go_simp; exact idx_ok (by omega) (by omega)) | (go_simp; exact wi64' (by omega) (by omega) (by omega)) | (go_simp; intro hh; exfalso; omega)
    simp only [List.setIfInBounds_toArray, List.set_cons_zero, List.set_cons_succ]
    refine lx_nil (by kernel_rfl) ?_
    go_wp2
    go_ret
    exact ⟨rfl, HBW.out.trans (HS9.mono HBW.out.size)⟩
  · go_enter Tryd.func7, Tryd.ntmps7
    go_wp2_with (first
      | (go_at_call 10; clear t1; refine (fewN a n c xs _ hR).mono ?_; rw [HX.out]; rintro e w1 ⟨a1, n1, c1, rfl, hn1, hr1, hN1, hb1⟩; have hR2 := hR'.carry (Nat.le_refl _) hb1)
      | (go_at_call 10; clear t2; refine (fewN a' n' c' ys _ hR2).mono ?_; rw [HY.out]; rintro e w2 ⟨a2, n2, c2, rfl, hn2, hr2, hN2, hb2⟩; have hR3 := hR.carry (Nat.le_refl _) (hb1.trans (hb2.mono hb1.size)))
      | (go_at_call 10; refine (fewN a n c xs _ hR3).mono ?_; rw [HX.out]; rintro e w3 ⟨a3, n3, c3, rfl, hn3, hr3, hN3, hb3⟩; have hp3 : n3 = 0 := (by rw [← hr3.len]; omega); subst hp3))
    have hl1 := hr1.len
    have e2 := hb1.trans (hb2.mono hb1.size)
    have e3 := e2.trans (hb3.mono e2.size)
    have hx' := (hr1.carry (Nat.le_refl _) hb2).carry (Nat.le_refl _) hb3
    have hy' := hr2.carry (Nat.le_refl _) hb3
    have hKW' := hK.below (Nat.le_refl _) e3
    have HBW' := e3
    have hz1' := hr3
    have HZ : Hid (decide (X = X) = true) := by show _ = _; simp
    obtain ⟨B, HB⟩ : ∃ B, Hid (decide (X = Y) = B) := ⟨_, rfl⟩
    have hsB := str_eq X Y hBX hBY
    obtain ⟨SX, HSX⟩ : ∃ S, Hid (strOfNums X = S) := ⟨_, rfl⟩
    obtain ⟨SY, HSY⟩ : ∃ S, Hid (strOfNums Y = S) := ⟨_, rfl⟩
    rw [HSX.out, HSY.out, HB.out] at hsB
    have hx : Rd w3.drew a1 n1 c1 X := rd_drew hx'
    have hy : Rd w3.drew a2 n2 c2 Y := rd_drew hy'
    have hz := rd_drew hz1'
    have HBW : Hid (Below w.heap.size w w3.drew) := HBW'.drew
    have hKW : Kt w3.drew := hKW'.drewN 1
    obtain ⟨W, HW⟩ : ∃ W, Hid (w3.drew = W) := ⟨_, rfl⟩
    rw [HW.out] at hx hy hz HBW hKW
    have HS0 : Below W.heap.size W W := Below.refl _ _
    have htX := HTX.out
    have htY := HTY.out
    have E0 : ((n1 : Int) == 0) = true := by simp; omega
    clear hR hR' hK hr1 hr2 hr3 hN1 hN2 hN3 hb1 hb2 hb3 hR2 hR3 e2 e3 hx' hy' hz1' HBW' hKW' HX HY
    refine wp_region_lx (fun w' => Below W.heap.size W w') [] 32 (by kernel_rfl) (by kernel_rfl) ?_
    rw [HW.out]
    refine lx_rd 0 ?vFA0 (by kernel_rfl) (fun _ _ d _ _ h => by cases d <;> exact h) (by kernel_rfl) HS0 rfl rfl rfl (fun w' hS => ?hFA0) ?_
    case hFA0 => first | (go_simp; rfl) | (go_simp; done) | (go_simp; exact idx_ok (by omega) (by omega)) | (go_simp; exact wi64' (by omega) (by omega) (by omega)) | (go_simp; intro hh; exfalso; omega)
    simp only [List.setIfInBounds_toArray, List.set_cons_zero, List.set_cons_succ]
    refine lx_rd 2 ?vFA2 (by kernel_rfl) (fun _ _ d _ _ h => by cases d <;> exact h) (by kernel_rfl) HS0 rfl rfl rfl (fun w' hS => ?hFA2) ?_
    case hFA2 => first | (go_simp; rfl) | (go_simp; done) | (go_simp; exact idx_ok (by omega) (by omega)) | (go_simp; exact wi64' (by omega) (by omega) (by omega)) | (go_simp; intro hh; exfalso; omega)
    simp only [List.setIfInBounds_toArray, List.set_cons_zero, List.set_cons_succ]
    refine lx_rd 5 ?vFA5 (by kernel_rfl) (fun _ _ d _ _ h => by cases d <;> exact h) (by kernel_rfl) HS0 rfl rfl rfl (fun w' hS => ?hFA5) ?_
    case hFA5 => first | (go_simp; rfl) | (go_simp; done) | (go_simp; exact idx_ok (by omega) (by omega)) | (go_simp; exact wi64' (by omega) (by omega) (by omega)) | (go_simp; intro hh; exfalso; omega)
    simp only [List.setIfInBounds_toArray, List.set_cons_zero, List.set_cons_succ]
    refine lx_rd 6 (.string SX) (by kernel_rfl) (fun _ _ d _ _ h => by cases d <;> exact h) (by kernel_rfl) HS0 rfl rfl rfl (fun w' hS => ?hFA6) ?_
    case hFA6 => have hs := (hx.carry (Nat.le_refl _) hS).string; rw [HSX.out] at hs; first | (go_simp; rfl) | (go_simp; done) | (go_simp; exact idx_ok (by omega) (by omega)) | (go_simp; exact wi64' (by omega) (by omega) (by omega)) | (go_simp; intro hh; exfalso; omega)
    simp only [List.setIfInBounds_toArray, List.set_cons_zero, List.set_cons_succ]
    refine lx_rd 7 ?vFA7 (by kernel_rfl) (fun _ _ d _ _ h => by cases d <;> exact h) (by kernel_rfl) HS0 rfl rfl rfl (fun w' hS => ?hFA7) ?_
    case hFA7 => first | (go_simp; rfl) | (go_simp; done) | (go_simp; exact idx_ok (by omega) (by omega)) | (go_simp; exact wi64' (by omega) (by omega) (by omega)) | (go_simp; intro hh; exfalso; omega)
    simp only [List.setIfInBounds_toArray, List.set_cons_zero, List.set_cons_succ]
    refine lx_rd 8 (.string SY) (by kernel_rfl) (fun _ _ d _ _ h => by cases d <;> exact h) (by kernel_rfl) HS0 rfl rfl rfl (fun w' hS => ?hFA8) ?_
    case hFA8 => have hs := (hy.carry (Nat.le_refl _) hS).string; rw [HSY.out] at hs; first | (go_simp; rfl) | (go_simp; done) | (go_simp; exact idx_ok (by omega) (by omega)) | (go_simp; exact wi64' (by omega) (by omega) (by omega)) | (go_simp; intro hh; exfalso; omega)
    simp only [List.setIfInBounds_toArray, List.set_cons_zero, List.set_cons_succ]
    refine lx_rd 9 (.bool B) (by kernel_rfl) (fun _ _ d _ _ h => by cases d <;> exact h) (by kernel_rfl) HS0 rfl rfl rfl (fun w' hS => ?hFA9) ?_
    case hFA9 => first | (go_simp; rfl) | (go_simp; done) | (go_simp; exact idx_ok (by omega) (by omega)) | (go_simp; exact wi64' (by omega) (by omega) (by omega)) | (go_simp; intro hh; exfalso; omega)
    simp only [List.setIfInBounds_toArray, List.set_cons_zero, List.set_cons_succ]
    refine lx_one 1 (by kernel_rfl) (stepT_call 10 #[.slice a1 n1 c1] rfl rfl rfl ?rF1 ?_)
    case rF1 => first | (go_simp; rfl) | go_simp
    refine (fewN a1 n1 c1 X _ (hx.carry (Nat.le_refl _) HS0)).mono ?_
    rintro e u1 ⟨p1, q1, r1, rfl, _, ru1, _, bu1⟩
    have HS1 : Below W.heap.size W u1 := HS0.trans (bu1.mono HS0.size)
    refine ⟨_, rfl, fun _ => HS1, ?_⟩
    simp only [List.setIfInBounds_toArray, List.set_cons_zero, List.set_cons_succ]
    rw [htX] at ru1
    refine lx_one 3 (by kernel_rfl) (stepT_call 10 #[.slice a2 n2 c2] rfl rfl rfl ?rF3 ?_)
    case rF3 => first | (go_simp; rfl) | go_simp
    refine (fewN a2 n2 c2 Y _ (hy.carry (Nat.le_refl _) HS1)).mono ?_
    rintro e u2 ⟨p2, q2, r2, rfl, _, ru2, _, bu2⟩
    have HS2 : Below W.heap.size W u2 := HS1.trans (bu2.mono HS1.size)
    refine ⟨_, rfl, fun _ => HS2, ?_⟩
    simp only [List.setIfInBounds_toArray, List.set_cons_zero, List.set_cons_succ]
    rw [htY] at ru2
    refine lx_one 4 (by kernel_rfl) (stepT_call 19 #[.slice p1 q1 r1, .slice p2 q2 r2] rfl rfl rfl ?rF4 ?_)
    case rF4 => first | (go_simp; rfl) | go_simp
    refine (equal_any p1 q1 r1 X p2 q2 r2 Y _ (ru1.carry (Nat.le_refl _) bu2) (ru2)).mono ?_
    rintro e u3 ⟨rfl, d3, hu3⟩
    have HS3 : Below W.heap.size W u3 := by rw [hu3]; exact below_drewN HS2 _
    clear hu3
    refine ⟨_, rfl, fun _ => HS3, ?_⟩
    rw [HB.out]
    simp only [List.setIfInBounds_toArray, List.set_cons_zero, List.set_cons_succ]
    refine lx_rd 10 (.bool true) (by kernel_rfl) (fun _ _ d _ _ h => by cases d <;> exact h) (by kernel_rfl) HS3 rfl rfl rfl (fun w' hS => ?hFB10) ?_
    case hFB10 => first | (go_simp; rfl) | (go_simp; done) | (go_simp; exact idx_ok (by omega) (by omega)) | (go_simp; exact wi64' (by omega) (by omega) (by omega)) | (go_simp; intro hh; exfalso; omega)
    simp only [List.setIfInBounds_toArray, List.set_cons_zero, List.set_cons_succ]
    refine lx_rd 11 ?vFB11 (by kernel_rfl) (fun _ _ d _ _ h => by cases d <;> exact h) (by kernel_rfl) HS3 rfl rfl rfl (fun w' hS => ?hFB11) ?_
    case hFB11 => first | (go_simp; rfl) | (go_simp; done) | (go_simp; exact idx_ok (by omega) (by omega)) | (go_simp; exact wi64' (by omega) (by omega) (by omega)) | (go_simp; intro hh; exfalso; omega)
    simp only [List.setIfInBounds_toArray, List.set_cons_zero, List.set_cons_succ]
    refine lx_rd 12 ?vFB12 (by kernel_rfl) (fun _ _ d _ _ h => by cases d <;> exact h) (by kernel_rfl) HS3 rfl rfl rfl (fun w' hS => ?hFB12) ?_
    case hFB12 => first | (go_simp; rfl) | (go_simp; done) | (go_simp; exact idx_ok (by omega) (by omega)) | (go_simp; exact wi64' (by omega) (by omega) (by omega)) | (go_simp; intro hh; exfalso; omega)
    simp only [List.setIfInBounds_toArray, List.set_cons_zero, List.set_cons_succ]
    refine lx_rd 14 ?vFB14 (by kernel_rfl) (fun _ _ d _ _ h => by cases d <;> exact h) (by kernel_rfl) HS3 rfl rfl rfl (fun w' hS => ?hFB14) ?_
    case hFB14 => first | (go_simp; rfl) | (go_simp; done) | (go_simp; exact idx_ok (by omega) (by omega)) | (go_simp; exact wi64' (by omega) (by omega) (by omega)) | (go_simp; intro hh; exfalso; omega)
    simp only [List.setIfInBounds_toArray, List.set_cons_zero, List.set_cons_succ]
    refine lx_one 13 (by kernel_rfl) (stepT_call 10 #[.slice a1 n1 c1] rfl rfl rfl ?rF13 ?_)
    case rF13 => first | (go_simp; rfl) | go_simp
    refine (fewN a1 n1 c1 X _ (hx.carry (Nat.le_refl _) HS3)).mono ?_
    rintro e u4 ⟨p4, q4, r4, rfl, _, ru4, _, bu4⟩
    have HS4 : Below W.heap.size W u4 := HS3.trans (bu4.mono HS3.size)
    refine ⟨_, rfl, fun _ => HS4, ?_⟩
    simp only [List.setIfInBounds_toArray, List.set_cons_zero, List.set_cons_succ]
    rw [htX] at ru4
    refine lx_one 15 (by kernel_rfl) (stepT_call 10 #[.slice a1 n1 c1] rfl rfl rfl ?rF15 ?_)
    case rF15 => first | (go_simp; rfl) | go_simp
    refine (fewN a1 n1 c1 X _ (hx.carry (Nat.le_refl _) HS4)).mono ?_
    rintro e u5 ⟨p5, q5, r5, rfl, _, ru5, _, bu5⟩
    have HS5 : Below W.heap.size W u5 := HS4.trans (bu5.mono HS4.size)
    refine ⟨_, rfl, fun _ => HS5, ?_⟩
    simp only [List.setIfInBounds_toArray, List.set_cons_zero, List.set_cons_succ]
    rw [htX] at ru5
    refine lx_one 16 (by kernel_rfl) (stepT_call 19 #[.slice p4 q4 r4, .slice p5 q5 r5] rfl rfl rfl ?rF16 ?_)
    case rF16 => first | (go_simp; rfl) | go_simp
    refine (equal_any p4 q4 r4 X p5 q5 r5 X _ (ru4.carry (Nat.le_refl _) bu5) (ru5)).mono ?_
    rintro e u6 ⟨rfl, d6, hu6⟩
    have HS6 : Below W.heap.size W u6 := by rw [hu6]; exact below_drewN HS5 _
    clear hu6
    refine ⟨_, rfl, fun _ => HS6, ?_⟩
    rw [show decide (X = X) = true from by simp]
    simp only [List.setIfInBounds_toArray, List.set_cons_zero, List.set_cons_succ]
    refine lx_rd 17 (.bool true) (by kernel_rfl) (fun _ _ d _ _ h => by cases d <;> exact h) (by kernel_rfl) HS6 rfl rfl rfl (fun w' hS => ?hFC17) ?_
    case hFC17 => first | (go_simp; rfl) | (go_simp; done) | (go_simp; exact idx_ok (by omega) (by omega)) | (go_simp; exact wi64' (by omega) (by omega) (by omega)) | (go_simp; intro hh; exfalso; omega)
    simp only [List.setIfInBounds_toArray, List.set_cons_zero, List.set_cons_succ]
    refine lx_rd 18 ?vFC18 (by kernel_rfl) (fun _ _ d _ _ h => by cases d <;> exact h) (by kernel_rfl) HS6 rfl rfl rfl (fun w' hS => ?hFC18) ?_
    case hFC18 => first | (go_simp; rfl) | (go_simp; done) | (go_simp; exact idx_ok (by omega) (by omega)) | (go_simp; exact wi64' (by omega) (by omega) (by omega)) | (go_simp; intro hh; exfalso; omega)
    simp only [List.setIfInBounds_toArray, List.set_cons_zero, List.set_cons_succ]
    refine lx_rd 19 ?vFC19 (by kernel_rfl) (fun _ _ d _ _ h => by cases d <;> exact h) (by kernel_rfl) HS6 rfl rfl rfl (fun w' hS => ?hFC19) ?_
    case hFC19 => first | (go_simp; rfl) | (go_simp; done) | (go_simp; exact idx_ok (by omega) (by omega)) | (go_simp; exact wi64' (by omega) (by omega) (by omega)) | (go_simp; intro hh; exfalso; omega)
    simp only [List.setIfInBounds_toArray, List.set_cons_zero, List.set_cons_succ]
    refine lx_rd 21 ?vFC21 (by kernel_rfl) (fun _ _ d _ _ h => by cases d <;> exact h) (by kernel_rfl) HS6 rfl rfl rfl (fun w' hS => ?hFC21) ?_
    case hFC21 => first | (go_simp; rfl) | (go_simp; done) | (go_simp; exact idx_ok (by omega) (by omega)) | (go_simp; exact wi64' (by omega) (by omega) (by omega)) | (go_simp; intro hh; exfalso; omega)
    simp only [List.setIfInBounds_toArray, List.set_cons_zero, List.set_cons_succ]
    refine lx_rd 23 ?vFC23 (by kernel_rfl) (fun _ _ d _ _ h => by cases d <;> exact h) (by kernel_rfl) HS6 rfl rfl rfl (fun w' hS => ?hFC23) ?_
    case hFC23 => first | (go_simp; rfl) | (go_simp; done) | (go_simp; exact idx_ok (by omega) (by omega)) | (go_simp; exact wi64' (by omega) (by omega) (by omega)) | (go_simp; intro hh; exfalso; omega)
    simp only [List.setIfInBounds_toArray, List.set_cons_zero, List.set_cons_succ]
    refine lx_rd 24 (.int .i64 n1) (by kernel_rfl) (fun _ _ d _ _ h => by cases d <;> exact h) (by kernel_rfl) HS6 rfl rfl rfl (fun w' hS => ?hFC24) ?_
    case hFC24 => first | (go_simp; rfl) | (go_simp; done) | (go_simp; exact idx_ok (by omega) (by omega)) | (go_simp; exact wi64' (by omega) (by omega) (by omega)) | (go_simp; intro hh; exfalso; omega)
    simp only [List.setIfInBounds_toArray, List.set_cons_zero, List.set_cons_succ]
    refine lx_rd 25 (.bool true) (by kernel_rfl) (fun _ _ d _ _ h => by cases d <;> exact h) (by kernel_rfl) HS6 rfl rfl rfl (fun w' hS => ?hFC25) ?_
    case hFC25 => first | (go_simp; rfl) | (go_simp; done) | (go_simp; exact idx_ok (by omega) (by omega)) | (go_simp; exact wi64' (by omega) (by omega) (by omega)) | (go_simp; intro hh; exfalso; omega)
    simp only [List.setIfInBounds_toArray, List.set_cons_zero, List.set_cons_succ]
    refine lx_one 20 (by kernel_rfl) (stepT_call 10 #[.slice a1 n1 c1] rfl rfl rfl ?rF20 ?_)
    case rF20 => first | (go_simp; rfl) | go_simp
    refine (fewN a1 n1 c1 X _ (hx.carry (Nat.le_refl _) HS6)).mono ?_
    rintro e u7 ⟨p7, q7, r7, rfl, _, ru7, _, bu7⟩
    have HS7 : Below W.heap.size W u7 := HS6.trans (bu7.mono HS6.size)
    refine ⟨_, rfl, fun _ => HS7, ?_⟩
    simp only [List.setIfInBounds_toArray, List.set_cons_zero, List.set_cons_succ]
    rw [htX] at ru7
    refine lx_one 22 (by kernel_rfl) (stepT_call 19 #[.slice p7 q7 r7, .slice a3 0 c3] rfl rfl rfl ?rF22 ?_)
    case rF22 => first | (go_simp; rfl) | go_simp
    refine (equal_any p7 q7 r7 X a3 0 c3 X _ (ru7) (hz.carry (Nat.le_refl _) HS7)).mono ?_
    rintro e u8 ⟨rfl, d8, hu8⟩
    have HS8 : Below W.heap.size W u8 := by rw [hu8]; exact below_drewN HS7 _
    clear hu8
    refine ⟨_, rfl, fun _ => HS8, ?_⟩
    rw [HZ.out]
    simp only [List.setIfInBounds_toArray, List.set_cons_zero, List.set_cons_succ]
    refine lx_rd 26 (.bool true) (by kernel_rfl) (fun _ _ d _ _ h => by cases d <;> exact h) (by kernel_rfl) HS8 rfl rfl rfl (fun w' hS => ?hFD26) ?_
    case hFD26 => first | (go_simp; rfl) | (go_simp; done) | (go_simp; exact idx_ok (by omega) (by omega)) | (go_simp; exact wi64' (by omega) (by omega) (by omega)) | (go_simp; intro hh; exfalso; omega)
    simp only [List.setIfInBounds_toArray, List.set_cons_zero, List.set_cons_succ]
    refine lx_rd 27 (.bool true) (by kernel_rfl) (fun _ _ d _ _ h => by cases d <;> exact h) (by kernel_rfl) HS8 rfl rfl rfl (fun w' hS => ?hFD27) ?_
    case hFD27 => first | (go_simp; rfl) | (go_simp; done) | (go_simp; exact idx_ok (by omega) (by omega)) | (go_simp; exact wi64' (by omega) (by omega) (by omega)) | (go_simp; intro hh; exfalso; omega)
    simp only [List.setIfInBounds_toArray, List.set_cons_zero, List.set_cons_succ]
    refine lx_rd 28 ?vFD28 (by kernel_rfl) (fun _ _ d _ _ h => by cases d <;> exact h) (by kernel_rfl) HS8 rfl rfl rfl (fun w' hS => ?hFD28) ?_
    case hFD28 => first | (go_simp; rfl) | (go_simp; done) | (go_simp; exact idx_ok (by omega) (by omega)) | (go_simp; exact wi64' (by omega) (by omega) (by omega)) | (go_simp; intro hh; exfalso; omega)
    simp only [List.setIfInBounds_toArray, List.set_cons_zero, List.set_cons_succ]
    refine lx_one 29 (by kernel_rfl) (stepT_call 12 #[] rfl rfl rfl ?rF29 ?_)
    case rF29 => first | (go_simp; rfl) | go_simp
    refine (wakes_any _ (hKW.below (Nat.le_refl _) HS8)).mono ?_
    rintro e u9 ⟨rfl, bu9⟩
    have HS9 : Below W.heap.size W u9 := HS8.trans (bu9.mono HS8.size)
    refine ⟨_, rfl, fun _ => HS9, ?_⟩
    simp only [List.setIfInBounds_toArray, List.set_cons_zero, List.set_cons_succ]
    refine lx_rd 30 (.bool true) (by kernel_rfl) (fun _ _ d _ _ h => by cases d <;> exact h) (by kernel_rfl) HS9 rfl rfl rfl (fun w' hS => ?hFE30) ?_
    case hFE30 => first | (go_simp; rfl) | (go_simp; done) | (go_simp; exact idx_ok (by omega) (by omega)) | (go_simp; exact wi64' (by omega) (by omega) (by omega)) | (go_simp; intro hh; exfalso; omega)
    simp only [List.setIfInBounds_toArray, List.set_cons_zero, List.set_cons_succ]
    refine lx_rd 31 ?vFE31 (by kernel_rfl) (fun _ _ d _ _ h => by cases d <;> exact h) (by kernel_rfl) HS9 rfl rfl rfl (fun w' hS => ?hFE31) ?_
    case hFE31 => first | (go_simp; rfl) | (go_simp; done) | (go_simp; exact idx_ok (by omega) (by omega)) | (go_simp; exact wi64' (by omega) (by omega) (by omega)) | (go_simp; intro hh; exfalso; omega)
    simp only [List.setIfInBounds_toArray, List.set_cons_zero, List.set_cons_succ]
    refine lx_nil (by kernel_rfl) ?_
    go_wp2
    go_ret
    exact ⟨rfl, HBW.out.trans (HS9.mono HBW.out.size)⟩

end Go.Proofs.YtbeemlfggbnknaaDoor
