/- ScramAgrees: whose nonce is none. -/
import Derived.Test.YtmilcknboaefkaaGreatDoorScAg
namespace Go.Proofs.YtmilcknboaefkaaGreatDoor
open Go.RowKit Go.Shelf

set_option maxHeartbeats 4000000 in
set_option maxRecDepth 1000000 in
theorem agrees_b (P U O T R : Tx) (a : Option Addr) (n c : Nat) (ss : List Int) (N turn : Int) (w : World) (h1 : P.length ≤ 9223372036854775807) (h2 : U.length ≤ 9223372036854775807) (h3 : O.length ≤ 9223372036854775807) (h4 : T.length ≤ 9223372036854775807) (_ : R.length ≤ 9223372036854775807) (hR : Rd w a n c ss) (hK : Kt w) (hM : Mx w) (hT : Lib.Utf8Tabs 1 2 w)
    (P2 U2 O2 T2 SB : Tx) (X A B : List Int) (M EB EK : Int) (HP2 : Hid (P.take 200 = P2)) (HU2 : Hid (U.take 1100 = U2)) (HO2 : Hid (O.take 1100 = O2)) (HT2 : Hid (T.take 1100 = T2)) (HX : Hid (ss.take 60 = X)) (HM : Hid (rnd N = M)) (lA : A.length = 32) (lB : B.length = 32)
    (cG : ∀ u, Below w.heap.size w u → Calls Tryz.prog 19 #[.string ⟨U2.toArray⟩, .string ⟨O2.toArray⟩] u fun e w' => e = .returned (.tuple #[.string ⟨SB.toArray⟩, .int .i64 EB]) ∧ Below u.heap.size u w')
    (cKe : ∀ (u : World) (a : Option Addr) (n c : Nat), Rd u a n c X → n ≤ 10000 → Kt u → Calls Tryz.prog 8 #[.string ⟨P2.toArray⟩, .slice a n c, .int .i64 M] u fun e w' => e = .returned (.tuple #[.agg (ic .u8 A).toArray, .agg (ic .u8 B).toArray, .int .i64 EK]) ∧ Below u.heap.size u w') (Hh BA : Tx) (hUU : Hid (U = U2)) (hB0 : EB = 0) (hK0 : EK = 0)
    (cFi : ∀ u, Below w.heap.size w u → Calls Tryz.prog 20 #[.string ⟨SB.toArray⟩] u fun e w' => e = .returned (.tuple #[.agg #[.string ⟨Hh.toArray⟩, .string ⟨U2.toArray⟩, .string ⟨O2.toArray⟩, .string ⟨BA.toArray⟩], .int .i64 0]) ∧ Below u.heap.size u w')
    (CT : Tx) (EC : Int) (cCh : ∀ (u : World) (a : Option Addr) (n c : Nat), Rd u a n c X → n ≤ 10000 → Below w.heap.size w u → Calls Tryz.prog 11 #[.agg (fcells ⟨Hh, U2, O2, BA⟩), .string ⟨T2.toArray⟩, .slice a n c, .int .i64 M] u fun e w' => e = .returned (.tuple #[.string ⟨CT.toArray⟩, .int .i64 EC]) ∧ Below u.heap.size u w') (_ : (EC == 0) = false) (hC2 : (EC != 0) = true) :
    Calls Tryz.prog 5 #[.agg #[.string ⟨P.toArray⟩, .string ⟨U.toArray⟩, .string ⟨O.toArray⟩, .string ⟨T.toArray⟩, .slice a n c, .int .i64 N], .string ⟨R.toArray⟩, .int .i64 turn] w fun e w' => e = .returned (.bool true) ∧ Below w.heap.size w w' := by
  subst hB0 hK0
  have hi23 := (size_of Tryz.u23).2
  have cP := fun w => text_tx P 200 w h1 (by omega)
  have cU := fun w => cutL_any U w h2
  have cO := fun w => cutL_any O w h3
  rw [HP2.out] at cP
  rw [HU2.out] at cU
  rw [HO2.out] at cO
  have cf := fun (u : World) (h : Rd u a n c ss) => fewR60 a n c ss u h
  rw [HX.out] at cf
  have cr := fun u => rounds_any N u
  rw [HM.out] at cr
  have cW := fun (u : World) (hb : Below w.heap.size w u) => wakes_any u (hM.below hb) (tabs_below hT hb)
  have HcW : Hid _ := cW
  have hb0 : Below w.heap.size w (w.alloc (.cells #[.string ⟨P.toArray⟩, .string ⟨U.toArray⟩, .string ⟨O.toArray⟩, .string ⟨T.toArray⟩, .slice a n c, .int .i64 N] 24)) := (Below.refl _ _).alloc (Nat.le_refl _) _
  have hT0 : TkAt (w.alloc (.cells #[.string ⟨P.toArray⟩, .string ⟨U.toArray⟩, .string ⟨O.toArray⟩, .string ⟨T.toArray⟩, .slice a n c, .int .i64 N] 24)) w.heap.size (.string ⟨P.toArray⟩) (.string ⟨U.toArray⟩) (.string ⟨O.toArray⟩) (.string ⟨T.toArray⟩) (.slice a n c) (.int .i64 N) := heap_alloc_new _ _
  have rc5 := hT0.c5
  clear cW
  have tk1 : True := trivial
  have tk2 : True := trivial
  go_enter Tryz.func5, Tryz.ntmps5
  go_upto_region 3 with (first
    | (go_at_call 6; refine (cr _).mono ?_; rintro e w1 ⟨rfl, hb1⟩; have hT1 := hT0.below hb1; have e1 := bel_step hb0 hb1; have rc0 := hT1.c0)
    | (go_at_call 7; refine (cP _).mono ?_; rintro e wq ⟨rfl, rfl⟩))
  obtain ⟨g3, Hg3⟩ : ∃ g, Hid (w.heap.size = g) := ⟨_, rfl⟩
  have hT1' : TkAt wq.drew g3 (.string ⟨P.toArray⟩) (.string ⟨U.toArray⟩) (.string ⟨O.toArray⟩) (.string ⟨T.toArray⟩) (.slice a n c) (.int .i64 N) := by rw [← Hg3.out]; exact hT1
  have e1' := e1.drew
  rw [Hg3.out]
  clear rc5 rc0 hT0 hb0 hb1 hT1 e1 cr cP
  refine wp_region_lx (fun w' => Below wq.drew.heap.size wq.drew w') [] 12 (by kernel_rfl) (by kernel_rfl) ?_
  obtain ⟨W, HW⟩ : ∃ W, Hid (wq.drew = W) := ⟨_, rfl⟩
  rw [HW.out] at hT1' e1' ⊢
  have HS0 : Below W.heap.size W W := Below.refl _ _
  refine lx_rd 0 (.pointer (some ⟨g3, 1, none⟩)) (by kernel_rfl) (fun _ _ d _ _ h => by cases d <;> exact h) (by kernel_rfl) HS0 rfl rfl rfl (fun w' hS => ?hA0) ?_
  case hA0 => first | (go_simp; rfl) | (go_simp; done) | (go_simp; exact idx_ok (by omega) (by omega)) | (go_simp; exact wi64' (by omega) (by omega) (by omega)) | (go_simp; intro hh; exfalso; omega)
  simp only [List.setIfInBounds_toArray, List.set_cons_zero, List.set_cons_succ]
  refine lx_rd 1 (.string ⟨U.toArray⟩) (by kernel_rfl) (fun _ _ d _ _ h => by cases d <;> exact h) (by kernel_rfl) HS0 rfl rfl rfl (fun w' hS => ?hA1) ?_
  case hA1 => have hc := (hT1'.below hS).c1; first | (go_simp; rfl) | (go_simp; done) | (go_simp; exact idx_ok (by omega) (by omega)) | (go_simp; exact wi64' (by omega) (by omega) (by omega)) | (go_simp; intro hh; exfalso; omega)
  simp only [List.setIfInBounds_toArray, List.set_cons_zero, List.set_cons_succ]
  refine lx_rd 3 (.pointer (some ⟨g3, 2, none⟩)) (by kernel_rfl) (fun _ _ d _ _ h => by cases d <;> exact h) (by kernel_rfl) HS0 rfl rfl rfl (fun w' hS => ?hA3) ?_
  case hA3 => first | (go_simp; rfl) | (go_simp; done) | (go_simp; exact idx_ok (by omega) (by omega)) | (go_simp; exact wi64' (by omega) (by omega) (by omega)) | (go_simp; intro hh; exfalso; omega)
  simp only [List.setIfInBounds_toArray, List.set_cons_zero, List.set_cons_succ]
  refine lx_rd 4 (.string ⟨O.toArray⟩) (by kernel_rfl) (fun _ _ d _ _ h => by cases d <;> exact h) (by kernel_rfl) HS0 rfl rfl rfl (fun w' hS => ?hA4) ?_
  case hA4 => have hc := (hT1'.below hS).c2; first | (go_simp; rfl) | (go_simp; done) | (go_simp; exact idx_ok (by omega) (by omega)) | (go_simp; exact wi64' (by omega) (by omega) (by omega)) | (go_simp; intro hh; exfalso; omega)
  simp only [List.setIfInBounds_toArray, List.set_cons_zero, List.set_cons_succ]
  refine lx_one 2 (by kernel_rfl) (stepT_call 12 #[.string ⟨U.toArray⟩] rfl rfl rfl ?rA2 ?_)
  case rA2 => first | (go_simp; rfl) | go_simp
  refine (cU _).mono ?_
  rintro e wx ⟨rfl, hx⟩
  replace hx := hx.symm
  subst hx
  refine ⟨_, rfl, fun _ => HS0, ?_⟩
  simp only [List.setIfInBounds_toArray, List.set_cons_zero, List.set_cons_succ]
  refine lx_one 5 (by kernel_rfl) (stepT_call 12 #[.string ⟨O.toArray⟩] rfl rfl rfl ?rA5 ?_)
  case rA5 => first | (go_simp; rfl) | go_simp
  refine (cO _).mono ?_
  rintro e wx ⟨rfl, hx⟩
  replace hx := hx.symm
  subst hx
  refine ⟨_, rfl, fun _ => HS0, ?_⟩
  simp only [List.setIfInBounds_toArray, List.set_cons_zero, List.set_cons_succ]
  refine lx_one 6 (by kernel_rfl) (stepT_call 19 #[.string ⟨U2.toArray⟩, .string ⟨O2.toArray⟩] rfl rfl rfl ?rA6 ?_)
  case rA6 => first | (go_simp; rfl) | go_simp
  refine (cG _ e1').mono ?_
  rintro e w2 ⟨rfl, hb2⟩
  refine ⟨_, rfl, fun _ => hb2, ?_⟩
  simp only [List.setIfInBounds_toArray, List.set_cons_zero, List.set_cons_succ]
  refine lx_rd 7 (.tuple #[.string ⟨SB.toArray⟩, .int .i64 0]) (by kernel_rfl) (fun _ _ d _ _ h => by cases d <;> exact h) (by kernel_rfl) hb2 rfl rfl rfl (fun w' hS => ?hB7) ?_
  case hB7 => first | (go_simp; rfl) | (go_simp; done) | (go_simp; exact idx_ok (by omega) (by omega)) | (go_simp; exact wi64' (by omega) (by omega) (by omega)) | (go_simp; intro hh; exfalso; omega)
  simp only [List.setIfInBounds_toArray, List.set_cons_zero, List.set_cons_succ]
  refine lx_rd 8 (.string ⟨SB.toArray⟩) (by kernel_rfl) (fun _ _ d _ _ h => by cases d <;> exact h) (by kernel_rfl) hb2 rfl rfl rfl (fun w' hS => ?hB8) ?_
  case hB8 => first | (go_simp; rfl) | (go_simp; done) | (go_simp; exact idx_ok (by omega) (by omega)) | (go_simp; exact wi64' (by omega) (by omega) (by omega)) | (go_simp; intro hh; exfalso; omega)
  simp only [List.setIfInBounds_toArray, List.set_cons_zero, List.set_cons_succ]
  refine lx_rd 9 (.int .i64 0) (by kernel_rfl) (fun _ _ d _ _ h => by cases d <;> exact h) (by kernel_rfl) hb2 rfl rfl rfl (fun w' hS => ?hB9) ?_
  case hB9 => first | (go_simp; rfl) | (go_simp; done) | (go_simp; exact idx_ok (by omega) (by omega)) | (go_simp; exact wi64' (by omega) (by omega) (by omega)) | (go_simp; intro hh; exfalso; omega)
  simp only [List.setIfInBounds_toArray, List.set_cons_zero, List.set_cons_succ]
  refine lx_rd 10 (.string ⟨SB.toArray⟩) (by kernel_rfl) (fun _ _ d _ _ h => by cases d <;> exact h) (by kernel_rfl) hb2 rfl rfl rfl (fun w' hS => ?hB10) ?_
  case hB10 => first | (go_simp; rfl) | (go_simp; done) | (go_simp; exact idx_ok (by omega) (by omega)) | (go_simp; exact wi64' (by omega) (by omega) (by omega)) | (go_simp; intro hh; exfalso; omega)
  simp only [List.setIfInBounds_toArray, List.set_cons_zero, List.set_cons_succ]
  refine lx_rd 11 (.int .i64 0) (by kernel_rfl) (fun _ _ d _ _ h => by cases d <;> exact h) (by kernel_rfl) hb2 rfl rfl rfl (fun w' hS => ?hB11) ?_
  case hB11 => first | (go_simp; rfl) | (go_simp; done) | (go_simp; exact idx_ok (by omega) (by omega)) | (go_simp; exact wi64' (by omega) (by omega) (by omega)) | (go_simp; intro hh; exfalso; omega)
  simp only [List.setIfInBounds_toArray, List.set_cons_zero, List.set_cons_succ]
  refine lx_nil (by kernel_rfl) ?_
  have hT2' := hT1'.below hb2
  have e2 := bel_step e1' hb2
  have rc4 := hT2'.c4
  have R2 := hR.carry (Nat.le_refl _) e2
  clear HS0 HW hT1' e1' hb2 cU cO cG
  go_upto_region 5 with (first
    | (go_at_call 9; refine (cf _ R2).mono ?_; rintro e w3 ⟨a3, n3, c3, rfl, hn3, R3, hb3⟩; have e3 := bel_step e2 hb3)
    | (go_at_call 8; refine (cKe _ a3 n3 c3 R3 (by omega) (hK.below (Nat.le_refl _) e3)).mono ?_; rintro e w4 ⟨rfl, hb4⟩; have e4 := bel_step e3 hb4; have b4 := bel_step hb3 hb4)
    | (clear tk1; refine wp_alloc_ar rfl 27 rfl .u8 (List.replicate 32 0) 32 Tryz.z23 ?_; intro g11 w5 A11 hg11 hb5; have e5 := bel_step e4 hb5; have b5 := bel_step b4 hb5)
    | (clear tk2; refine wp_alloc_ar rfl 27 rfl .u8 (List.replicate 32 0) 32 Tryz.z23 ?_; intro g12 w6 A12 hg12 hb6; have e6 := bel_step e5 hb6; have b6 := bel_step b5 hb6; have A11' := A11.below hb6 A11.lt; have l11 := A11.lt)
    | (refine wp_store_ar rfl 27 (.tmp 11) (.tmp 49) rfl g11 rfl .u8 A rfl 27 _ A11' (by rw [lA]; rfl) (by rw [lA]; exact hi23) ?_; intro w7 B11 hk7 hs7; clear hs7; have A12' := A12.keep hk7 (by omega))
    | (refine wp_store_ar rfl 27 (.tmp 12) (.tmp 50) rfl g12 rfl .u8 B rfl 27 _ A12' (by rw [lB]; rfl) (by rw [lB]; exact hi23) ?_; intro w8 B12 hk8 hs8; clear hs8; have B11' := B11.keep hk8 (by omega)))
  have z4 : w2.heap.size ≤ w4.heap.size := b4.size
  have z5 : w2.heap.size ≤ w5.heap.size := b5.size
  have b7 : Below w2.heap.size w2 w7 := b6.trans (hk7.below b6.size (fun q hq => by omega))
  have b8 : Below w2.heap.size w2 w8 := b7.trans (hk8.below b7.size (fun q hq => by omega))
  have e8 := bel_step e2 b8
  have O8 : Obs w8 [(g3, .cells #[.string ⟨P.toArray⟩, .string ⟨U.toArray⟩, .string ⟨O.toArray⟩, .string ⟨T.toArray⟩, .slice a n c, .int .i64 N] 24), (g11, .cells (ic .u8 A).toArray 27), (g12, .cells (ic .u8 B).toArray 27)] := ⟨hT2'.below b8, B11', B12, trivial⟩
  clear rc4 R2 hT2' hb3 hb4 hb5 hb6 hk7 hk8 e3 e4 e5 e6 b4 b5 b6 b7 b8 A11 A11' A12 A12' B11 B11' B12 R3 e2 hg11 hg12 l11 z4 z5 cKe cf
  have hUU' : U = U2 := hUU.out
  clear hUU
  subst hUU'
  have hi35 : (Tryz.prog.info? 35).map (·.size) = some 4 := by kernel_rfl
  have HnF : Hid (∀ u : World, FAt (u.alloc (.cells #[.string ⟨Hh.toArray⟩, .string ⟨U.toArray⟩, .string ⟨O2.toArray⟩, .string ⟨BA.toArray⟩] 35)) u.heap.size (.string ⟨Hh.toArray⟩) (.string ⟨U.toArray⟩) (.string ⟨O2.toArray⟩) (.string ⟨BA.toArray⟩)) := fun u => heap_alloc_new u _
  have cT := fun w => cutL_any T w h4
  rw [HT2.out] at cT
  have hUe : ((⟨U.toArray⟩ : ByteArray).toList == (⟨U.toArray⟩ : ByteArray).toList) = true := by simp
  go_upto_region 10 with (go_at_call 20; refine (cFi _ e8).mono ?_; rintro e w9 ⟨rfl, hb9⟩; have O9 := O8.below hb9; have e9 := bel_step e8 hb9; have b9 : Below w9.heap.size w9 (w9.alloc (.cells #[.string ⟨Hh.toArray⟩, .string ⟨U.toArray⟩, .string ⟨O2.toArray⟩, .string ⟨BA.toArray⟩] 35)) := (Below.refl _ _).alloc (Nat.le_refl _) _; have F9 := HnF.out w9; have O9' := O9.below b9; have u1 := F9.c1; have u2 := TkAt.c1 O9'.1)
  have e9' := bel_step e9 b9
  obtain ⟨g14, Hg14⟩ : ∃ g, Hid (w9.heap.size = g) := ⟨_, rfl⟩
  rw [Hg14.out] at F9 u1 ⊢
  generalize w9.alloc (.cells #[.string ⟨Hh.toArray⟩, .string ⟨U.toArray⟩, .string ⟨O2.toArray⟩, .string ⟨BA.toArray⟩] 35) = V9 at F9 O9' e9' b9 u1 u2 ⊢
  have O10 : Obs V9.drew [(g14, .cells #[.string ⟨Hh.toArray⟩, .string ⟨U.toArray⟩, .string ⟨O2.toArray⟩, .string ⟨BA.toArray⟩] 35), (g3, .cells #[.string ⟨P.toArray⟩, .string ⟨U.toArray⟩, .string ⟨O.toArray⟩, .string ⟨T.toArray⟩, .slice a n c, .int .i64 N] 24), (g11, .cells (ic .u8 A).toArray 27), (g12, .cells (ic .u8 B).toArray 27)] := ⟨F9, O9'⟩
  have e10 := e9'.drew
  clear F9 O9' e9' b9 u1 u2 O9 O8 hb9 e9 e8 cFi HnF
  refine wp_region_lx (fun w' => Below V9.drew.heap.size V9.drew w') [] 14 (by kernel_rfl) (by kernel_rfl) ?_
  obtain ⟨W, HW⟩ : ∃ W, Hid (V9.drew = W) := ⟨_, rfl⟩
  rw [HW.out] at O10 e10 ⊢
  have HS0 : Below W.heap.size W W := Below.refl _ _
  refine lx_rd 0 (.agg (fcells ⟨Hh, U, O2, BA⟩)) (by kernel_rfl) (fun _ _ d _ _ h => by cases d <;> exact h) (by kernel_rfl) HS0 rfl rfl rfl (fun w' hS => ?hC0) ?_
  case hC0 => exact exec_load_rowP 35 (.tmp 14) rfl g14 rfl 35 _ _ (Obs.below hS O10).1 Tryz.underlying35 hi35
  simp only [List.setIfInBounds_toArray, List.set_cons_zero, List.set_cons_succ]
  refine lx_rd 1 (.pointer (some ⟨g3, 3, none⟩)) (by kernel_rfl) (fun _ _ d _ _ h => by cases d <;> exact h) (by kernel_rfl) HS0 rfl rfl rfl (fun w' hS => ?hC1) ?_
  case hC1 => first | (go_simp; rfl) | (go_simp; done) | (go_simp; exact idx_ok (by omega) (by omega)) | (go_simp; exact wi64' (by omega) (by omega) (by omega)) | (go_simp; intro hh; exfalso; omega)
  simp only [List.setIfInBounds_toArray, List.set_cons_zero, List.set_cons_succ]
  refine lx_rd 2 (.string ⟨T.toArray⟩) (by kernel_rfl) (fun _ _ d _ _ h => by cases d <;> exact h) (by kernel_rfl) HS0 rfl rfl rfl (fun w' hS => ?hC2) ?_
  case hC2 => have hc := TkAt.c3 (Obs.below hS O10).2.1; first | (go_simp; rfl) | (go_simp; done) | (go_simp; exact idx_ok (by omega) (by omega)) | (go_simp; exact wi64' (by omega) (by omega) (by omega)) | (go_simp; intro hh; exfalso; omega)
  simp only [List.setIfInBounds_toArray, List.set_cons_zero, List.set_cons_succ]
  refine lx_rd 4 (.pointer (some ⟨g3, 4, none⟩)) (by kernel_rfl) (fun _ _ d _ _ h => by cases d <;> exact h) (by kernel_rfl) HS0 rfl rfl rfl (fun w' hS => ?hC4) ?_
  case hC4 => first | (go_simp; rfl) | (go_simp; done) | (go_simp; exact idx_ok (by omega) (by omega)) | (go_simp; exact wi64' (by omega) (by omega) (by omega)) | (go_simp; intro hh; exfalso; omega)
  simp only [List.setIfInBounds_toArray, List.set_cons_zero, List.set_cons_succ]
  refine lx_rd 5 (.slice a n c) (by kernel_rfl) (fun _ _ d _ _ h => by cases d <;> exact h) (by kernel_rfl) HS0 rfl rfl rfl (fun w' hS => ?hC5) ?_
  case hC5 => have hc := TkAt.c4 (Obs.below hS O10).2.1; first | (go_simp; rfl) | (go_simp; done) | (go_simp; exact idx_ok (by omega) (by omega)) | (go_simp; exact wi64' (by omega) (by omega) (by omega)) | (go_simp; intro hh; exfalso; omega)
  simp only [List.setIfInBounds_toArray, List.set_cons_zero, List.set_cons_succ]
  refine lx_rd 7 (.int .i64 M) (by kernel_rfl) (fun _ _ d _ _ h => by cases d <;> exact h) (by kernel_rfl) HS0 rfl rfl rfl (fun w' hS => ?hC7) ?_
  case hC7 => first | (go_simp; rfl) | (go_simp; done) | (go_simp; exact idx_ok (by omega) (by omega)) | (go_simp; exact wi64' (by omega) (by omega) (by omega)) | (go_simp; intro hh; exfalso; omega)
  simp only [List.setIfInBounds_toArray, List.set_cons_zero, List.set_cons_succ]
  refine lx_one 3 (by kernel_rfl) (stepT_call 12 #[.string ⟨T.toArray⟩] rfl rfl rfl ?rC3 ?_)
  case rC3 => first | (go_simp; rfl) | go_simp
  refine (cT _).mono ?_
  rintro e wx ⟨rfl, hx⟩
  replace hx := hx.symm
  subst hx
  refine ⟨_, rfl, fun _ => HS0, ?_⟩
  simp only [List.setIfInBounds_toArray, List.set_cons_zero, List.set_cons_succ]
  refine lx_one 6 (by kernel_rfl) (stepT_call 9 #[.slice a n c] rfl rfl rfl ?rC6 ?_)
  case rC6 => first | (go_simp; rfl) | go_simp
  have cf2 := fewR60 a n c ss W (hR.carry (Nat.le_refl _) e10)
  rw [HX.out] at cf2
  refine cf2.mono ?_
  rintro e w10 ⟨a10, n10, c10, rfl, hn10, R10, hb10⟩
  refine ⟨_, rfl, fun _ => hb10, ?_⟩
  simp only [List.setIfInBounds_toArray, List.set_cons_zero, List.set_cons_succ]
  refine lx_one 8 (by kernel_rfl) (stepT_call 11 #[.agg (fcells ⟨Hh, U, O2, BA⟩), .string ⟨T2.toArray⟩, .slice a10 n10 c10, .int .i64 M] rfl rfl rfl ?rC8 ?_)
  case rC8 => first | (go_simp; rfl) | go_simp
  refine (cCh _ a10 n10 c10 R10 (by omega) (bel_step e10 hb10)).mono ?_
  rintro e w11 ⟨rfl, hb11'⟩
  have hb11 := bel_step hb10 hb11'
  refine ⟨_, rfl, fun _ => hb11, ?_⟩
  simp only [List.setIfInBounds_toArray, List.set_cons_zero, List.set_cons_succ]
  refine lx_rd 9 (.tuple #[.string ⟨CT.toArray⟩, .int .i64 EC]) (by kernel_rfl) (fun _ _ d _ _ h => by cases d <;> exact h) (by kernel_rfl) hb11 rfl rfl rfl (fun w' hS => ?hD9) ?_
  case hD9 => first | (go_simp; rfl) | (go_simp; done) | (go_simp; exact idx_ok (by omega) (by omega)) | (go_simp; exact wi64' (by omega) (by omega) (by omega)) | (go_simp; intro hh; exfalso; omega)
  simp only [List.setIfInBounds_toArray, List.set_cons_zero, List.set_cons_succ]
  refine lx_rd 10 (.string ⟨CT.toArray⟩) (by kernel_rfl) (fun _ _ d _ _ h => by cases d <;> exact h) (by kernel_rfl) hb11 rfl rfl rfl (fun w' hS => ?hD10) ?_
  case hD10 => first | (go_simp; rfl) | (go_simp; done) | (go_simp; exact idx_ok (by omega) (by omega)) | (go_simp; exact wi64' (by omega) (by omega) (by omega)) | (go_simp; intro hh; exfalso; omega)
  simp only [List.setIfInBounds_toArray, List.set_cons_zero, List.set_cons_succ]
  refine lx_rd 11 (.int .i64 EC) (by kernel_rfl) (fun _ _ d _ _ h => by cases d <;> exact h) (by kernel_rfl) hb11 rfl rfl rfl (fun w' hS => ?hD11) ?_
  case hD11 => first | (go_simp; rfl) | (go_simp; done) | (go_simp; exact idx_ok (by omega) (by omega)) | (go_simp; exact wi64' (by omega) (by omega) (by omega)) | (go_simp; intro hh; exfalso; omega)
  simp only [List.setIfInBounds_toArray, List.set_cons_zero, List.set_cons_succ]
  refine lx_rd 12 (.string ⟨CT.toArray⟩) (by kernel_rfl) (fun _ _ d _ _ h => by cases d <;> exact h) (by kernel_rfl) hb11 rfl rfl rfl (fun w' hS => ?hD12) ?_
  case hD12 => first | (go_simp; rfl) | (go_simp; done) | (go_simp; exact idx_ok (by omega) (by omega)) | (go_simp; exact wi64' (by omega) (by omega) (by omega)) | (go_simp; intro hh; exfalso; omega)
  simp only [List.setIfInBounds_toArray, List.set_cons_zero, List.set_cons_succ]
  refine lx_rd 13 (.int .i64 EC) (by kernel_rfl) (fun _ _ d _ _ h => by cases d <;> exact h) (by kernel_rfl) hb11 rfl rfl rfl (fun w' hS => ?hD13) ?_
  case hD13 => first | (go_simp; rfl) | (go_simp; done) | (go_simp; exact idx_ok (by omega) (by omega)) | (go_simp; exact wi64' (by omega) (by omega) (by omega)) | (go_simp; intro hh; exfalso; omega)
  simp only [List.setIfInBounds_toArray, List.set_cons_zero, List.set_cons_succ]
  refine lx_nil (by kernel_rfl) ?_
  have O11 := Obs.below hb11 O10
  have e11 := bel_step e10 hb11
  clear O10 e10 hb10 hb11 hb11' R10 HS0 HW cf2 cT cCh hn10
  go_wp2_with (go_at_call 14; refine (HcW.out _ e11).mono ?_; rintro e w12 ⟨rfl, hb12⟩)
  go_ret
  exact ⟨rfl, bel_step e11 hb12⟩
end Go.Proofs.YtmilcknboaefkaaGreatDoor
