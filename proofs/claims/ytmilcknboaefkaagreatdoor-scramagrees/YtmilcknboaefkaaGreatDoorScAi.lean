/- ScramAgrees: the whole way. -/
import Derived.Test.YtmilcknboaefkaaGreatDoorScAg
namespace Go.Proofs.YtmilcknboaefkaaGreatDoor
open Go.RowKit Go.Shelf

set_option maxHeartbeats 16000000 in
set_option maxRecDepth 1000000 in
theorem agrees_c (P U O T R : Tx) (a : Option Addr) (n c : Nat) (ss : List Int) (N turn : Int) (w : World) (h1 : P.length ≤ 9223372036854775807) (h2 : U.length ≤ 9223372036854775807) (h3 : O.length ≤ 9223372036854775807) (h4 : T.length ≤ 9223372036854775807) (h5 : R.length ≤ 9223372036854775807) (hR : Rd w a n c ss) (hK : Kt w) (hM : Mx w) (hT : Lib.Utf8Tabs 1 2 w)
    (P2 U2 O2 T2 SB : Tx) (X A B : List Int) (M EB EK : Int) (HP2 : Hid (P.take 200 = P2)) (HU2 : Hid (U.take 1100 = U2)) (HO2 : Hid (O.take 1100 = O2)) (HT2 : Hid (T.take 1100 = T2)) (HX : Hid (ss.take 60 = X)) (HM : Hid (rnd N = M)) (lA : A.length = 32) (lB : B.length = 32)
    (cG : ∀ u, Below w.heap.size w u → Calls Tryz.prog 19 #[.string ⟨U2.toArray⟩, .string ⟨O2.toArray⟩] u fun e w' => e = .returned (.tuple #[.string ⟨SB.toArray⟩, .int .i64 EB]) ∧ Below u.heap.size u w')
    (cKe : ∀ (u : World) (a : Option Addr) (n c : Nat), Rd u a n c X → n ≤ 10000 → Kt u → Calls Tryz.prog 8 #[.string ⟨P2.toArray⟩, .slice a n c, .int .i64 M] u fun e w' => e = .returned (.tuple #[.agg (ic .u8 A).toArray, .agg (ic .u8 B).toArray, .int .i64 EK]) ∧ Below u.heap.size u w') (Hh BA : Tx) (hUU : Hid (U = U2)) (hB0 : EB = 0) (hK0 : EK = 0)
    (cFi : ∀ u, Below w.heap.size w u → Calls Tryz.prog 20 #[.string ⟨SB.toArray⟩] u fun e w' => e = .returned (.tuple #[.agg #[.string ⟨Hh.toArray⟩, .string ⟨U2.toArray⟩, .string ⟨O2.toArray⟩, .string ⟨BA.toArray⟩], .int .i64 0]) ∧ Below u.heap.size u w')
    (CT : Tx) (EC : Int) (cCh : ∀ (u : World) (a : Option Addr) (n c : Nat), Rd u a n c X → n ≤ 10000 → Below w.heap.size w u → Calls Tryz.prog 11 #[.agg (fcells ⟨Hh, U2, O2, BA⟩), .string ⟨T2.toArray⟩, .slice a n c, .int .i64 M] u fun e w' => e = .returned (.tuple #[.string ⟨CT.toArray⟩, .int .i64 EC]) ∧ Below u.heap.size u w') (hC0 : EC = 0) (NO LB FT VT AU : Tx) (PF Zs ZA : List Int) (lPF : PF.length = 32) (lCT : CT.length ≤ 100000) (lBA : BA.length ≤ 100000) (lLB : LB.length ≤ 100000) (bA : Bd A) (bB : Bd B) (lZs : Zs.length = 32) (bZs : Bd Zs)
    (cPr : ∀ u, Below w.heap.size w u → Calls Tryz.prog 15 #[.string ⟨P2.toArray⟩, .agg (fcells ⟨Hh, U2, O2, BA⟩), .string ⟨CT.toArray⟩] u fun e w' => e = .returned (.tuple #[.string ⟨FT.toArray⟩, .int .i64 0]) ∧ Below u.heap.size u w')
    (cFn : ∀ u, Below w.heap.size w u → Calls Tryz.prog 21 #[.string ⟨FT.toArray⟩] u fun e w' => (∃ va vc, e = .returned (.tuple #[.agg #[.string ⟨Hh.toArray⟩, .string ⟨NO.toArray⟩, .slice va 32 vc, .string ⟨LB.toArray⟩], .int .i64 0]) ∧ New u w' (.slice va 32 vc) PF) ∧ Below u.heap.size u w')
    (cCk : ∀ (u : World) (a : Option Addr) (c : Nat), Rd u a 32 c PF → Below w.heap.size w u → Calls Tryz.prog 17 #[.agg (recL (.string ⟨#[]⟩) (.slice none 0 0) (.int .i64 M) A B).toArray, .agg (fcells ⟨Hh, U2, O2, BA⟩), .string ⟨CT.toArray⟩, .agg (lcells ⟨Hh, NO, PF, LB⟩ (.slice a 32 c))] u fun e w' => e = .returned (.tuple #[.string ⟨VT.toArray⟩, .int .i64 0]) ∧ Below u.heap.size u w')
    (hAU : Hid (authT BA CT LB = AU)) (hVT : Hid ([118, 61] ++ tx (enc Zs) = VT)) (hZs : Hid (hmac B (il AU) = Zs)) (k : Nat) (hk32 : k < 32) (hkk : (wrap64 (turn.tmod 32 + 32)).tmod 32 = (k : Int)) (PG XG YG : List Int) (VG : Tx) (EG : Int) (hPG : Hid (PF.set k (bits .xor .u8 (PF.getD k 0) 1) = PG)) (lPG : PG.length = 32) (hZA : Hid (hmac A (il AU) = ZA)) (lZA : ZA.length = 32)
    (cCk2 : ∀ (u : World) (a : Option Addr) (c : Nat), Rd u a 32 c PG → Below w.heap.size w u → Calls Tryz.prog 17 #[.agg (recL (.string ⟨#[]⟩) (.slice none 0 0) (.int .i64 M) A B).toArray, .agg (fcells ⟨Hh, U2, O2, BA⟩), .string ⟨CT.toArray⟩, .agg (lcells ⟨Hh, NO, PG, LB⟩ (.slice a 32 c))] u fun e w' => e = .returned (.tuple #[.string ⟨VG.toArray⟩, .int .i64 EG]) ∧ Below u.heap.size u w')
    (hXG : Hid (xb PG ZA 32 = XG)) (lXG : XG.length = 32) (bXG : Bd XG) (hYG : Hid (sha XG = YG)) (lYG : YG.length = 32) (hEG : Hid ((EG == 0) = decide (YG = A))) (R2 FT2 V3 : Tx) (HR2 : Hid (R.take 200 = R2)) (PF2 X3 Y3 : List Int) (E3 : Int) (lP2 : PF2.length = 32)
    (cPr2 : ∀ u, Below w.heap.size w u → Calls Tryz.prog 15 #[.string ⟨R2.toArray⟩, .agg (fcells ⟨Hh, U2, O2, BA⟩), .string ⟨CT.toArray⟩] u fun e w' => e = .returned (.tuple #[.string ⟨FT2.toArray⟩, .int .i64 0]) ∧ Below u.heap.size u w')
    (cFn2 : ∀ u, Below w.heap.size w u → Calls Tryz.prog 21 #[.string ⟨FT2.toArray⟩] u fun e w' => (∃ va vc, e = .returned (.tuple #[.agg #[.string ⟨Hh.toArray⟩, .string ⟨NO.toArray⟩, .slice va 32 vc, .string ⟨LB.toArray⟩], .int .i64 0]) ∧ New u w' (.slice va 32 vc) PF2) ∧ Below u.heap.size u w')
    (cCk3 : ∀ (u : World) (a : Option Addr) (c : Nat), Rd u a 32 c PF2 → Below w.heap.size w u → Calls Tryz.prog 17 #[.agg (recL (.string ⟨#[]⟩) (.slice none 0 0) (.int .i64 M) A B).toArray, .agg (fcells ⟨Hh, U2, O2, BA⟩), .string ⟨CT.toArray⟩, .agg (lcells ⟨Hh, NO, PF2, LB⟩ (.slice a 32 c))] u fun e w' => e = .returned (.tuple #[.string ⟨V3.toArray⟩, .int .i64 E3]) ∧ Below u.heap.size u w')
    (hX3 : Hid (xb PF2 ZA 32 = X3)) (lX3 : X3.length = 32) (bX3 : Bd X3) (hY3 : Hid (sha X3 = Y3)) (lY3 : Y3.length = 32) (hE3 : Hid ((E3 == 0) = decide (Y3 = A))) :
    Calls Tryz.prog 5 #[.agg #[.string ⟨P.toArray⟩, .string ⟨U.toArray⟩, .string ⟨O.toArray⟩, .string ⟨T.toArray⟩, .slice a n c, .int .i64 N], .string ⟨R.toArray⟩, .int .i64 turn] w fun e w' => e = .returned (.bool true) ∧ Below w.heap.size w w' := by
  subst hB0 hK0 hC0
  have hi23 := (size_of Tryz.u23).2
  have cP := fun w => text_tx P 200 w h1 (by omega)
  have cU := fun w => cutL_any U w h2
  have cO := fun w => cutL_any O w h3
  rw [HP2.out] at cP
  rw [HU2.out] at cU
  rw [HO2.out] at cO
  have cf := fun (u : World) (h : Rd u a n c ss) => fewR60 a n c ss u h
  rw [HX.out] at cf
  have cr := fun u => rounds_any N u
  rw [HM.out] at cr
  have cW := fun (u : World) (hb : Below w.heap.size w u) => wakes_any u (hM.below hb) (tabs_below hT hb)
  have HcW : Hid _ := cW
  have hb0 : Below w.heap.size w (w.alloc (.cells #[.string ⟨P.toArray⟩, .string ⟨U.toArray⟩, .string ⟨O.toArray⟩, .string ⟨T.toArray⟩, .slice a n c, .int .i64 N] 24)) := (Below.refl _ _).alloc (Nat.le_refl _) _
  have hT0 : TkAt (w.alloc (.cells #[.string ⟨P.toArray⟩, .string ⟨U.toArray⟩, .string ⟨O.toArray⟩, .string ⟨T.toArray⟩, .slice a n c, .int .i64 N] 24)) w.heap.size (.string ⟨P.toArray⟩) (.string ⟨U.toArray⟩) (.string ⟨O.toArray⟩) (.string ⟨T.toArray⟩) (.slice a n c) (.int .i64 N) := heap_alloc_new _ _
  have rc5 := hT0.c5
  clear cW
  have tk1 : True := trivial
  have tk2 : True := trivial
  go_enter Tryz.func5, Tryz.ntmps5
  go_upto_region 3 with (first
    | (go_at_call 6; refine (cr _).mono ?_; rintro e w1 ⟨rfl, hb1⟩; have hT1 := hT0.below hb1; have e1 := bel_step hb0 hb1; have rc0 := hT1.c0)
    | (go_at_call 7; refine (cP _).mono ?_; rintro e wq ⟨rfl, rfl⟩))
  obtain ⟨g3, Hg3⟩ : ∃ g, Hid (w.heap.size = g) := ⟨_, rfl⟩
  have hT1' : TkAt wq.drew g3 (.string ⟨P.toArray⟩) (.string ⟨U.toArray⟩) (.string ⟨O.toArray⟩) (.string ⟨T.toArray⟩) (.slice a n c) (.int .i64 N) := by rw [← Hg3.out]; exact hT1
  have e1' := e1.drew
  rw [Hg3.out]
  clear rc5 rc0 hT0 hb0 hb1 hT1 e1 cr cP
  refine wp_region_lx (fun w' => Below wq.drew.heap.size wq.drew w') [] 12 (by kernel_rfl) (by kernel_rfl) ?_
  obtain ⟨W, HW⟩ : ∃ W, Hid (wq.drew = W) := ⟨_, rfl⟩
  rw [HW.out] at hT1' e1' ⊢
  have HS0 : Below W.heap.size W W := Below.refl _ _
  refine lx_rd 0 (.pointer (some ⟨g3, 1, none⟩)) (by kernel_rfl) (fun _ _ d _ _ h => by cases d <;> exact h) (by kernel_rfl) HS0 rfl rfl rfl (fun w' hS => ?hA0) ?_
  case hA0 => first | (go_simp; rfl) | (go_simp; done) | (go_simp; exact idx_ok (by omega) (by omega)) | (go_simp; exact wi64' (by omega) (by omega) (by omega)) | (go_simp; intro hh; exfalso; omega)
  simp only [List.setIfInBounds_toArray, List.set_cons_zero, List.set_cons_succ]
  refine lx_rd 1 (.string ⟨U.toArray⟩) (by kernel_rfl) (fun _ _ d _ _ h => by cases d <;> exact h) (by kernel_rfl) HS0 rfl rfl rfl (fun w' hS => ?hA1) ?_
  case hA1 => have hc := (hT1'.below hS).c1; first | (go_simp; rfl) | (go_simp; done) | (go_simp; exact idx_ok (by omega) (by omega)) | (go_simp; exact wi64' (by omega) (by omega) (by omega)) | (go_simp; intro hh; exfalso; omega)
  simp only [List.setIfInBounds_toArray, List.set_cons_zero, List.set_cons_succ]
  refine lx_rd 3 (.pointer (some ⟨g3, 2, none⟩)) (by kernel_rfl) (fun _ _ d _ _ h => by cases d <;> exact h) (by kernel_rfl) HS0 rfl rfl rfl (fun w' hS => ?hA3) ?_
  case hA3 => first | (go_simp; rfl) | (go_simp; done) | (go_simp; exact idx_ok (by omega) (by omega)) | (go_simp; exact wi64' (by omega) (by omega) (by omega)) | (go_simp; intro hh; exfalso; omega)
  simp only [List.setIfInBounds_toArray, List.set_cons_zero, List.set_cons_succ]
  refine lx_rd 4 (.string ⟨O.toArray⟩) (by kernel_rfl) (fun _ _ d _ _ h => by cases d <;> exact h) (by kernel_rfl) HS0 rfl rfl rfl (fun w' hS => ?hA4) ?_
  case hA4 => have hc := (hT1'.below hS).c2; first | (go_simp; rfl) | (go_simp; done) | (go_simp; exact idx_ok (by omega) (by omega)) | (go_simp; exact wi64' (by omega) (by omega) (by omega)) | (go_simp; intro hh; exfalso; omega)
  simp only [List.setIfInBounds_toArray, List.set_cons_zero, List.set_cons_succ]
  refine lx_one 2 (by kernel_rfl) (stepT_call 12 #[.string ⟨U.toArray⟩] rfl rfl rfl ?rA2 ?_)
  case rA2 => first | (go_simp; rfl) | go_simp
  refine (cU _).mono ?_
  rintro e wx ⟨rfl, hx⟩
  replace hx := hx.symm
  subst hx
  refine ⟨_, rfl, fun _ => HS0, ?_⟩
  simp only [List.setIfInBounds_toArray, List.set_cons_zero, List.set_cons_succ]
  refine lx_one 5 (by kernel_rfl) (stepT_call 12 #[.string ⟨O.toArray⟩] rfl rfl rfl ?rA5 ?_)
  case rA5 => first | (go_simp; rfl) | go_simp
  refine (cO _).mono ?_
  rintro e wx ⟨rfl, hx⟩
  replace hx := hx.symm
  subst hx
  refine ⟨_, rfl, fun _ => HS0, ?_⟩
  simp only [List.setIfInBounds_toArray, List.set_cons_zero, List.set_cons_succ]
  refine lx_one 6 (by kernel_rfl) (stepT_call 19 #[.string ⟨U2.toArray⟩, .string ⟨O2.toArray⟩] rfl rfl rfl ?rA6 ?_)
  case rA6 => first | (go_simp; rfl) | go_simp
  refine (cG _ e1').mono ?_
  rintro e w2 ⟨rfl, hb2⟩
  refine ⟨_, rfl, fun _ => hb2, ?_⟩
  simp only [List.setIfInBounds_toArray, List.set_cons_zero, List.set_cons_succ]
  refine lx_rd 7 (.tuple #[.string ⟨SB.toArray⟩, .int .i64 0]) (by kernel_rfl) (fun _ _ d _ _ h => by cases d <;> exact h) (by kernel_rfl) hb2 rfl rfl rfl (fun w' hS => ?hB7) ?_
  case hB7 => first | (go_simp; rfl) | (go_simp; done) | (go_simp; exact idx_ok (by omega) (by omega)) | (go_simp; exact wi64' (by omega) (by omega) (by omega)) | (go_simp; intro hh; exfalso; omega)
  simp only [List.setIfInBounds_toArray, List.set_cons_zero, List.set_cons_succ]
  refine lx_rd 8 (.string ⟨SB.toArray⟩) (by kernel_rfl) (fun _ _ d _ _ h => by cases d <;> exact h) (by kernel_rfl) hb2 rfl rfl rfl (fun w' hS => ?hB8) ?_
  case hB8 => first | (go_simp; rfl) | (go_simp; done) | (go_simp; exact idx_ok (by omega) (by omega)) | (go_simp; exact wi64' (by omega) (by omega) (by omega)) | (go_simp; intro hh; exfalso; omega)
  simp only [List.setIfInBounds_toArray, List.set_cons_zero, List.set_cons_succ]
  refine lx_rd 9 (.int .i64 0) (by kernel_rfl) (fun _ _ d _ _ h => by cases d <;> exact h) (by kernel_rfl) hb2 rfl rfl rfl (fun w' hS => ?hB9) ?_
  case hB9 => first | (go_simp; rfl) | (go_simp; done) | (go_simp; exact idx_ok (by omega) (by omega)) | (go_simp; exact wi64' (by omega) (by omega) (by omega)) | (go_simp; intro hh; exfalso; omega)
  simp only [List.setIfInBounds_toArray, List.set_cons_zero, List.set_cons_succ]
  refine lx_rd 10 (.string ⟨SB.toArray⟩) (by kernel_rfl) (fun _ _ d _ _ h => by cases d <;> exact h) (by kernel_rfl) hb2 rfl rfl rfl (fun w' hS => ?hB10) ?_
  case hB10 => first | (go_simp; rfl) | (go_simp; done) | (go_simp; exact idx_ok (by omega) (by omega)) | (go_simp; exact wi64' (by omega) (by omega) (by omega)) | (go_simp; intro hh; exfalso; omega)
  simp only [List.setIfInBounds_toArray, List.set_cons_zero, List.set_cons_succ]
  refine lx_rd 11 (.int .i64 0) (by kernel_rfl) (fun _ _ d _ _ h => by cases d <;> exact h) (by kernel_rfl) hb2 rfl rfl rfl (fun w' hS => ?hB11) ?_
  case hB11 => first | (go_simp; rfl) | (go_simp; done) | (go_simp; exact idx_ok (by omega) (by omega)) | (go_simp; exact wi64' (by omega) (by omega) (by omega)) | (go_simp; intro hh; exfalso; omega)
  simp only [List.setIfInBounds_toArray, List.set_cons_zero, List.set_cons_succ]
  refine lx_nil (by kernel_rfl) ?_
  have hT2' := hT1'.below hb2
  have e2 := bel_step e1' hb2
  have rc4 := hT2'.c4
  have R2 := hR.carry (Nat.le_refl _) e2
  clear HS0 HW hT1' e1' hb2 cU cO cG
  go_upto_region 5 with (first
    | (go_at_call 9; refine (cf _ R2).mono ?_; rintro e w3 ⟨a3, n3, c3, rfl, hn3, R3, hb3⟩; have e3 := bel_step e2 hb3)
    | (go_at_call 8; refine (cKe _ a3 n3 c3 R3 (by omega) (hK.below (Nat.le_refl _) e3)).mono ?_; rintro e w4 ⟨rfl, hb4⟩; have e4 := bel_step e3 hb4; have b4 := bel_step hb3 hb4)
    | (clear tk1; refine wp_alloc_ar rfl 27 rfl .u8 (List.replicate 32 0) 32 Tryz.z23 ?_; intro g11 w5 A11 hg11 hb5; have e5 := bel_step e4 hb5; have b5 := bel_step b4 hb5)
    | (clear tk2; refine wp_alloc_ar rfl 27 rfl .u8 (List.replicate 32 0) 32 Tryz.z23 ?_; intro g12 w6 A12 hg12 hb6; have e6 := bel_step e5 hb6; have b6 := bel_step b5 hb6; have A11' := A11.below hb6 A11.lt; have l11 := A11.lt)
    | (refine wp_store_ar rfl 27 (.tmp 11) (.tmp 49) rfl g11 rfl .u8 A rfl 27 _ A11' (by rw [lA]; rfl) (by rw [lA]; exact hi23) ?_; intro w7 B11 hk7 hs7; clear hs7; have A12' := A12.keep hk7 (by omega))
    | (refine wp_store_ar rfl 27 (.tmp 12) (.tmp 50) rfl g12 rfl .u8 B rfl 27 _ A12' (by rw [lB]; rfl) (by rw [lB]; exact hi23) ?_; intro w8 B12 hk8 hs8; clear hs8; have B11' := B11.keep hk8 (by omega)))
  have z4 : w2.heap.size ≤ w4.heap.size := b4.size
  have z5 : w2.heap.size ≤ w5.heap.size := b5.size
  have b7 : Below w2.heap.size w2 w7 := b6.trans (hk7.below b6.size (fun q hq => by omega))
  have b8 : Below w2.heap.size w2 w8 := b7.trans (hk8.below b7.size (fun q hq => by omega))
  have e8 := bel_step e2 b8
  have O8 : Obs w8 [(g3, .cells #[.string ⟨P.toArray⟩, .string ⟨U.toArray⟩, .string ⟨O.toArray⟩, .string ⟨T.toArray⟩, .slice a n c, .int .i64 N] 24), (g11, .cells (ic .u8 A).toArray 27), (g12, .cells (ic .u8 B).toArray 27)] := ⟨hT2'.below b8, B11', B12, trivial⟩
  clear rc4 R2 hT2' hb3 hb4 hb5 hb6 hk7 hk8 e3 e4 e5 e6 b4 b5 b6 b7 b8 A11 A11' A12 A12' B11 B11' B12 R3 e2 hg11 hg12 l11 z4 z5 cKe cf
  have hUU' : U = U2 := hUU.out
  clear hUU
  subst hUU'
  have hi35 : (Tryz.prog.info? 35).map (·.size) = some 4 := by kernel_rfl
  have HnF : Hid (∀ u : World, FAt (u.alloc (.cells #[.string ⟨Hh.toArray⟩, .string ⟨U.toArray⟩, .string ⟨O2.toArray⟩, .string ⟨BA.toArray⟩] 35)) u.heap.size (.string ⟨Hh.toArray⟩) (.string ⟨U.toArray⟩) (.string ⟨O2.toArray⟩) (.string ⟨BA.toArray⟩)) := fun u => heap_alloc_new u _
  have cT := fun w => cutL_any T w h4
  rw [HT2.out] at cT
  have hUe : ((⟨U.toArray⟩ : ByteArray).toList == (⟨U.toArray⟩ : ByteArray).toList) = true := by simp
  go_upto_region 10 with (go_at_call 20; refine (cFi _ e8).mono ?_; rintro e w9 ⟨rfl, hb9⟩; have O9 := O8.below hb9; have e9 := bel_step e8 hb9; have b9 : Below w9.heap.size w9 (w9.alloc (.cells #[.string ⟨Hh.toArray⟩, .string ⟨U.toArray⟩, .string ⟨O2.toArray⟩, .string ⟨BA.toArray⟩] 35)) := (Below.refl _ _).alloc (Nat.le_refl _) _; have F9 := HnF.out w9; have O9' := O9.below b9; have u1 := F9.c1; have u2 := TkAt.c1 O9'.1)
  have e9' := bel_step e9 b9
  obtain ⟨g14, Hg14⟩ : ∃ g, Hid (w9.heap.size = g) := ⟨_, rfl⟩
  rw [Hg14.out] at F9 u1 ⊢
  generalize w9.alloc (.cells #[.string ⟨Hh.toArray⟩, .string ⟨U.toArray⟩, .string ⟨O2.toArray⟩, .string ⟨BA.toArray⟩] 35) = V9 at F9 O9' e9' b9 u1 u2 ⊢
  have O10 : Obs V9.drew [(g14, .cells #[.string ⟨Hh.toArray⟩, .string ⟨U.toArray⟩, .string ⟨O2.toArray⟩, .string ⟨BA.toArray⟩] 35), (g3, .cells #[.string ⟨P.toArray⟩, .string ⟨U.toArray⟩, .string ⟨O.toArray⟩, .string ⟨T.toArray⟩, .slice a n c, .int .i64 N] 24), (g11, .cells (ic .u8 A).toArray 27), (g12, .cells (ic .u8 B).toArray 27)] := ⟨F9, O9'⟩
  have e10 := e9'.drew
  clear F9 O9' e9' b9 u1 u2 O9 O8 hb9 e9 e8 cFi HnF
  refine wp_region_lx (fun w' => Below V9.drew.heap.size V9.drew w') [] 14 (by kernel_rfl) (by kernel_rfl) ?_
  obtain ⟨W, HW⟩ : ∃ W, Hid (V9.drew = W) := ⟨_, rfl⟩
  rw [HW.out] at O10 e10 ⊢
  have HS0 : Below W.heap.size W W := Below.refl _ _
  refine lx_rd 0 (.agg (fcells ⟨Hh, U, O2, BA⟩)) (by kernel_rfl) (fun _ _ d _ _ h => by cases d <;> exact h) (by kernel_rfl) HS0 rfl rfl rfl (fun w' hS => ?hC0) ?_
  case hC0 => exact exec_load_rowP 35 (.tmp 14) rfl g14 rfl 35 _ _ (Obs.below hS O10).1 Tryz.underlying35 hi35
  simp only [List.setIfInBounds_toArray, List.set_cons_zero, List.set_cons_succ]
  refine lx_rd 1 (.pointer (some ⟨g3, 3, none⟩)) (by kernel_rfl) (fun _ _ d _ _ h => by cases d <;> exact h) (by kernel_rfl) HS0 rfl rfl rfl (fun w' hS => ?hC1) ?_
  case hC1 => first | (go_simp; rfl) | (go_simp; done) | (go_simp; exact idx_ok (by omega) (by omega)) | (go_simp; exact wi64' (by omega) (by omega) (by omega)) | (go_simp; intro hh; exfalso; omega)
  simp only [List.setIfInBounds_toArray, List.set_cons_zero, List.set_cons_succ]
  refine lx_rd 2 (.string ⟨T.toArray⟩) (by kernel_rfl) (fun _ _ d _ _ h => by cases d <;> exact h) (by kernel_rfl) HS0 rfl rfl rfl (fun w' hS => ?hC2) ?_
  case hC2 => have hc := TkAt.c3 (Obs.below hS O10).2.1; first | (go_simp; rfl) | (go_simp; done) | (go_simp; exact idx_ok (by omega) (by omega)) | (go_simp; exact wi64' (by omega) (by omega) (by omega)) | (go_simp; intro hh; exfalso; omega)
  simp only [List.setIfInBounds_toArray, List.set_cons_zero, List.set_cons_succ]
  refine lx_rd 4 (.pointer (some ⟨g3, 4, none⟩)) (by kernel_rfl) (fun _ _ d _ _ h => by cases d <;> exact h) (by kernel_rfl) HS0 rfl rfl rfl (fun w' hS => ?hC4) ?_
  case hC4 => first | (go_simp; rfl) | (go_simp; done) | (go_simp; exact idx_ok (by omega) (by omega)) | (go_simp; exact wi64' (by omega) (by omega) (by omega)) | (go_simp; intro hh; exfalso; omega)
  simp only [List.setIfInBounds_toArray, List.set_cons_zero, List.set_cons_succ]
  refine lx_rd 5 (.slice a n c) (by kernel_rfl) (fun _ _ d _ _ h => by cases d <;> exact h) (by kernel_rfl) HS0 rfl rfl rfl (fun w' hS => ?hC5) ?_
  case hC5 => have hc := TkAt.c4 (Obs.below hS O10).2.1; first | (go_simp; rfl) | (go_simp; done) | (go_simp; exact idx_ok (by omega) (by omega)) | (go_simp; exact wi64' (by omega) (by omega) (by omega)) | (go_simp; intro hh; exfalso; omega)
  simp only [List.setIfInBounds_toArray, List.set_cons_zero, List.set_cons_succ]
  refine lx_rd 7 (.int .i64 M) (by kernel_rfl) (fun _ _ d _ _ h => by cases d <;> exact h) (by kernel_rfl) HS0 rfl rfl rfl (fun w' hS => ?hC7) ?_
  case hC7 => first | (go_simp; rfl) | (go_simp; done) | (go_simp; exact idx_ok (by omega) (by omega)) | (go_simp; exact wi64' (by omega) (by omega) (by omega)) | (go_simp; intro hh; exfalso; omega)
  simp only [List.setIfInBounds_toArray, List.set_cons_zero, List.set_cons_succ]
  refine lx_one 3 (by kernel_rfl) (stepT_call 12 #[.string ⟨T.toArray⟩] rfl rfl rfl ?rC3 ?_)
  case rC3 => first | (go_simp; rfl) | go_simp
  refine (cT _).mono ?_
  rintro e wx ⟨rfl, hx⟩
  replace hx := hx.symm
  subst hx
  refine ⟨_, rfl, fun _ => HS0, ?_⟩
  simp only [List.setIfInBounds_toArray, List.set_cons_zero, List.set_cons_succ]
  refine lx_one 6 (by kernel_rfl) (stepT_call 9 #[.slice a n c] rfl rfl rfl ?rC6 ?_)
  case rC6 => first | (go_simp; rfl) | go_simp
  have cf2 := fewR60 a n c ss W (hR.carry (Nat.le_refl _) e10)
  rw [HX.out] at cf2
  refine cf2.mono ?_
  rintro e w10 ⟨a10, n10, c10, rfl, hn10, R10, hb10⟩
  refine ⟨_, rfl, fun _ => hb10, ?_⟩
  simp only [List.setIfInBounds_toArray, List.set_cons_zero, List.set_cons_succ]
  refine lx_one 8 (by kernel_rfl) (stepT_call 11 #[.agg (fcells ⟨Hh, U, O2, BA⟩), .string ⟨T2.toArray⟩, .slice a10 n10 c10, .int .i64 M] rfl rfl rfl ?rC8 ?_)
  case rC8 => first | (go_simp; rfl) | go_simp
  refine (cCh _ a10 n10 c10 R10 (by omega) (bel_step e10 hb10)).mono ?_
  rintro e w11 ⟨rfl, hb11'⟩
  have hb11 := bel_step hb10 hb11'
  refine ⟨_, rfl, fun _ => hb11, ?_⟩
  simp only [List.setIfInBounds_toArray, List.set_cons_zero, List.set_cons_succ]
  refine lx_rd 9 (.tuple #[.string ⟨CT.toArray⟩, .int .i64 0]) (by kernel_rfl) (fun _ _ d _ _ h => by cases d <;> exact h) (by kernel_rfl) hb11 rfl rfl rfl (fun w' hS => ?hD9) ?_
  case hD9 => first | (go_simp; rfl) | (go_simp; done) | (go_simp; exact idx_ok (by omega) (by omega)) | (go_simp; exact wi64' (by omega) (by omega) (by omega)) | (go_simp; intro hh; exfalso; omega)
  simp only [List.setIfInBounds_toArray, List.set_cons_zero, List.set_cons_succ]
  refine lx_rd 10 (.string ⟨CT.toArray⟩) (by kernel_rfl) (fun _ _ d _ _ h => by cases d <;> exact h) (by kernel_rfl) hb11 rfl rfl rfl (fun w' hS => ?hD10) ?_
  case hD10 => first | (go_simp; rfl) | (go_simp; done) | (go_simp; exact idx_ok (by omega) (by omega)) | (go_simp; exact wi64' (by omega) (by omega) (by omega)) | (go_simp; intro hh; exfalso; omega)
  simp only [List.setIfInBounds_toArray, List.set_cons_zero, List.set_cons_succ]
  refine lx_rd 11 (.int .i64 0) (by kernel_rfl) (fun _ _ d _ _ h => by cases d <;> exact h) (by kernel_rfl) hb11 rfl rfl rfl (fun w' hS => ?hD11) ?_
  case hD11 => first | (go_simp; rfl) | (go_simp; done) | (go_simp; exact idx_ok (by omega) (by omega)) | (go_simp; exact wi64' (by omega) (by omega) (by omega)) | (go_simp; intro hh; exfalso; omega)
  simp only [List.setIfInBounds_toArray, List.set_cons_zero, List.set_cons_succ]
  refine lx_rd 12 (.string ⟨CT.toArray⟩) (by kernel_rfl) (fun _ _ d _ _ h => by cases d <;> exact h) (by kernel_rfl) hb11 rfl rfl rfl (fun w' hS => ?hD12) ?_
  case hD12 => first | (go_simp; rfl) | (go_simp; done) | (go_simp; exact idx_ok (by omega) (by omega)) | (go_simp; exact wi64' (by omega) (by omega) (by omega)) | (go_simp; intro hh; exfalso; omega)
  simp only [List.setIfInBounds_toArray, List.set_cons_zero, List.set_cons_succ]
  refine lx_rd 13 (.int .i64 0) (by kernel_rfl) (fun _ _ d _ _ h => by cases d <;> exact h) (by kernel_rfl) hb11 rfl rfl rfl (fun w' hS => ?hD13) ?_
  case hD13 => first | (go_simp; rfl) | (go_simp; done) | (go_simp; exact idx_ok (by omega) (by omega)) | (go_simp; exact wi64' (by omega) (by omega) (by omega)) | (go_simp; intro hh; exfalso; omega)
  simp only [List.setIfInBounds_toArray, List.set_cons_zero, List.set_cons_succ]
  refine lx_nil (by kernel_rfl) ?_
  have O11 := Obs.below hb11 O10
  have e11 := bel_step e10 hb11
  clear O10 e10 hb10 hb11 hb11' R10 HS0 HW cf2 cT cCh hn10
  have tkA : True := trivial
  have h67 := rec_len (.string ⟨#[]⟩) (.slice none 0 0) (.int .i64 M) lA lB
  have hi46 : (Tryz.prog.info? 46).map (·.size) = some 4 := by kernel_rfl
  go_upto_region 14 with (first
    | (clear tkA; refine wp_load_ar rfl 27 (.tmp 11) rfl g11 rfl 27 .u8 A 5 32 O11.2.2.1 Tryz.u23 lA ?_)
    | (refine wp_load_ar rfl 27 (.tmp 12) rfl g12 rfl 27 .u8 B 5 32 O11.2.2.2.1 Tryz.u23 lB ?_)
    | (refine wp_build_recP rfl (.tmp 88) (.tmp 89) (.tmp 90) rfl M A B rfl rfl rfl lA lB ?_)
    | (refine wp_alloc_row rfl 44 rfl rec0 67 zero_rec ?_; intro g16 w12 G16 hg16 hb12)
    | (refine wp_store_rec rfl (.tmp 16) (.tmp 91) rfl g16 rfl _ rfl _ G16 (by rfl) h67 (rec_one _ _ _ _ _ _ _) ?_; intro w13 G13 k13))
  have b13 : Below w11.heap.size w11 w13 := hb12.trans (k13.below hb12.size (fun q hq => by omega))
  have O13 : Obs w13 [(g16, .cells (recL (.string ⟨#[]⟩) (.slice none 0 0) (.int .i64 M) A B).toArray 44), (g14, .cells #[.string ⟨Hh.toArray⟩, .string ⟨U.toArray⟩, .string ⟨O2.toArray⟩, .string ⟨BA.toArray⟩] 35), (g3, .cells #[.string ⟨P.toArray⟩, .string ⟨U.toArray⟩, .string ⟨O.toArray⟩, .string ⟨T.toArray⟩, .slice a n c, .int .i64 N] 24), (g11, .cells (ic .u8 A).toArray 27), (g12, .cells (ic .u8 B).toArray 27)] := ⟨G13, Obs.below b13 O11⟩
  have e13 := bel_step e11 b13
  clear G16 hg16 hb12 G13 k13 b13 O11 e11
  go_upto_region 15 with (first
    | (refine wp_execW rfl (exec_load_rowP 35 (.tmp 14) rfl g14 rfl 35 _ _ O13.2.1 Tryz.underlying35 hi35) ?_)
    | (go_at_call 15; refine (cPr _ e13).mono ?_; rintro e w14 ⟨rfl, hb14⟩))
  have O14 := Obs.below hb14 O13
  have e14 := bel_step e13 hb14
  clear O13 e13 hb14 cPr
  have HnL : Hid (∀ (va : Option Addr) (vc : Nat) (u : World), LAt (u.alloc (.cells #[.string ⟨Hh.toArray⟩, .string ⟨NO.toArray⟩, .slice va 32 vc, .string ⟨LB.toArray⟩] 46)) u.heap.size (.string ⟨Hh.toArray⟩) (.string ⟨NO.toArray⟩) (.slice va 32 vc) (.string ⟨LB.toArray⟩)) := fun va vc u => heap_alloc_new u _
  go_upto_region 18 with (go_at_call 21; refine (cFn _ e14).mono ?_; rintro e w15 ⟨⟨va, vc, rfl, hnew⟩, hb15⟩)
  have b15' : Below w15.heap.size w15 (w15.alloc (.cells #[.string ⟨Hh.toArray⟩, .string ⟨NO.toArray⟩, .slice va 32 vc, .string ⟨LB.toArray⟩] 46)) := (Below.refl _ _).alloc (Nat.le_refl _) _
  have L15 := HnL.out va vc w15
  have O15 := Obs.below b15' (Obs.below hb15 O14)
  have e15 := bel_step (bel_step e14 hb15) b15'
  have N15 := hnew.bel b15'
  obtain ⟨g18, Hg18⟩ : ∃ g, Hid (w15.heap.size = g) := ⟨_, rfl⟩
  have hg18 : w14.heap.size ≤ g18 := by rw [← Hg18.out]; exact hb15.size
  obtain ⟨gp, rfl, hgp1, _⟩ := hnew.flat (by omega)
  have hgp2 : gp < g18 := by
    rw [← Hg18.out]
    exact (hnew.rd32 lPF).blk (by omega) rfl
  have hlt14 := Obs.lt O14
  rw [Hg18.out] at L15 ⊢
  generalize w15.alloc (.cells #[.string ⟨Hh.toArray⟩, .string ⟨NO.toArray⟩, .slice (some ⟨gp, 0, none⟩) 32 vc, .string ⟨LB.toArray⟩] 46) = w16 at L15 O15 e15 N15 ⊢
  have O16 : Obs w16 [(g18, .cells #[.string ⟨Hh.toArray⟩, .string ⟨NO.toArray⟩, .slice (some ⟨gp, 0, none⟩) 32 vc, .string ⟨LB.toArray⟩] 46), (g16, .cells (recL (.string ⟨#[]⟩) (.slice none 0 0) (.int .i64 M) A B).toArray 44), (g14, .cells #[.string ⟨Hh.toArray⟩, .string ⟨U.toArray⟩, .string ⟨O2.toArray⟩, .string ⟨BA.toArray⟩] 35), (g3, .cells #[.string ⟨P.toArray⟩, .string ⟨U.toArray⟩, .string ⟨O.toArray⟩, .string ⟨T.toArray⟩, .slice a n c, .int .i64 N] 24), (g11, .cells (ic .u8 A).toArray 27), (g12, .cells (ic .u8 B).toArray 27)] := ⟨L15, O15⟩
  have R16 := N15.rd32 lPF
  clear L15 O15 b15' hb15 hnew O14 Hg18 cFn HnL
  go_upto_region 19 with (first
    | (refine wp_load_rec rfl (.tmp 16) rfl g16 rfl _ O16.2.1 h67 ?_)
    | (refine wp_execW rfl (exec_load_rowP 35 (.tmp 14) rfl g14 rfl 35 _ _ O16.2.2.1 Tryz.underlying35 hi35) ?_)
    | (refine wp_execW rfl (exec_load_rowP 46 (.tmp 18) rfl g18 rfl 46 _ _ O16.1 Tryz.underlying46 hi46) ?_)
    | (go_at_call 17; refine (cCk _ _ _ R16 e15).mono ?_; rintro e w17 ⟨rfl, hb17⟩))
  have O17 := Obs.below hb17 O16
  have e17 := bel_step e15 hb17
  have N17 := N15.bel hb17
  have R17 := R16.carry (Nat.le_refl _) hb17
  clear O16 e15 hb17 N15 R16 cCk
  have q1 := FAt.c3 O17.2.2.1
  have q2 := LAt.c3 O17.1
  have a1 : (⟨BA.toArray⟩ : ByteArray) ++ ⟨#[44]⟩ = ⟨(BA ++ [44]).toArray⟩ := app_tx BA [44]
  have a2 : (⟨(BA ++ [44]).toArray⟩ : ByteArray) ++ ⟨CT.toArray⟩ = ⟨(BA ++ [44] ++ CT).toArray⟩ := app_tx _ _
  have a3 : (⟨(BA ++ [44] ++ CT).toArray⟩ : ByteArray) ++ ⟨#[44]⟩ = ⟨(BA ++ [44] ++ CT ++ [44]).toArray⟩ := app_tx _ [44]
  have a4 : (⟨(BA ++ [44] ++ CT ++ [44]).toArray⟩ : ByteArray) ++ ⟨LB.toArray⟩ = ⟨AU.toArray⟩ := by rw [app_tx, ← hAU.out]; rfl
  have z1 := size_tx BA
  have z2 := size_tx (BA ++ [44])
  have z3 := size_tx CT
  have z4 := size_tx (BA ++ [44] ++ CT)
  have z5 := size_tx (BA ++ [44] ++ CT ++ [44])
  have z6 := size_tx LB
  have zAU : AU.length ≤ 1000000 := by rw [← hAU.out]; unfold authT; simp only [List.length_append, List.length_cons, List.length_nil]; omega
  simp only [List.length_append, List.length_cons, List.length_nil] at z2 z4 z5
  generalize (⟨(BA ++ [44]).toArray⟩ : ByteArray) = t1 at a1 a2 z2
  generalize (⟨(BA ++ [44] ++ CT).toArray⟩ : ByteArray) = t2 at a2 a3 z4
  generalize (⟨(BA ++ [44] ++ CT ++ [44]).toArray⟩ : ByteArray) = t3 at a3 a4 z5
  go_upto_region 20 with fail
  clear a1 a2 a3 a4 z1 z2 z3 z4 z5 z6 q1 q2
  obtain ⟨cc, w18, hcv, R18, hb18⟩ := bytes_big AU w17 (by omega)
  have O18 := Obs.below hb18 O17
  have e18 := bel_step e17 hb18
  have RB := rd_rowA O18.2.2.2.2.2.1 lB bB
  go_upto_region 21 with (first
    | (go_at_call 22; refine (hmac_any (some ⟨g12, 0, none⟩) 32 32 B _ _ _ (il AU) _ RB (by omega) R18 (by omega) (hK.below (Nat.le_refl _) e18)).mono ?_; rw [hZs.out]; rintro e w19 ⟨rfl, hb19⟩)
    | (refine wp_alloc_ar rfl 27 rfl .u8 (List.replicate 32 0) 32 Tryz.z23 ?_; intro g21 w20 A21 hg21 hb20)
    | (refine wp_store_ar rfl 27 (.tmp 21) (.tmp 130) rfl g21 rfl .u8 Zs rfl 27 _ A21 (by rw [lZs]; rfl) (by rw [lZs]; exact hi23) ?_; intro w21 B21 hk21 hs21; clear hs21))
  have b21 : Below w17.heap.size w17 w21 := (bel_step (bel_step hb18 hb19) hb20).trans (hk21.below (bel_step (bel_step hb18 hb19) hb20).size (fun q hq => by have := (bel_step hb18 hb19).size; omega))
  have O21 := Obs.below b21 O17
  have e21 := bel_step e17 b21
  have N21 := N17.bel b21
  have RZ := rd_rowA B21 lZs bZs
  have cE := encode_any (some ⟨g21, 0, none⟩) 32 32 Zs w21 RZ (by omega)
  rw [str_tx] at cE
  have aV : (⟨#[118, 61]⟩ : ByteArray) ++ ⟨(tx (enc Zs)).toArray⟩ = ⟨VT.toArray⟩ := by rw [← hVT.out]; exact app_tx [118, 61] _
  have zE : (⟨(tx (enc Zs)).toArray⟩ : ByteArray).size ≤ 100 := by rw [size_tx]; unfold tx; rw [List.length_map, enc_len, lZs]; omega
  have hVe : ((⟨VT.toArray⟩ : ByteArray).toList == (⟨VT.toArray⟩ : ByteArray).toList) = true := by simp
  generalize (⟨(tx (enc Zs)).toArray⟩ : ByteArray) = tE at cE aV zE
  clear hcv R18 hb18 O18 e18 RB hb19 hb20 hk21 A21 hg21 b21 O17 e17 N17 R17 B21
  go_upto_region 23 with (go_at_call 23; refine cE.mono ?_; clear cE; rintro e w2a ⟨rfl, hb2a⟩)
  have O22 := Obs.below hb2a O21
  have e22 := bel_step e21 hb2a
  have N22 := N21.bel hb2a
  have R22 := N22.rd32 lPF
  obtain ⟨gq, heq, _, fz⟩ := N22.flat (by omega)
  obtain rfl : gq = gp := by cases heq; rfl
  have f22 := fz k
  have q3 := LAt.c2 O22.1
  have q4 := R22.cells _ rfl k (by omega)
  rw [add_flat, Nat.zero_add] at q4
  have hkl : (k : Int) < 32 := by omega
  obtain ⟨xk, Hxk⟩ : ∃ x, Hid (PF.getD k 0 = x) := ⟨_, rfl⟩
  rw [Hxk.out] at q4 hPG
  have b8 := bits8 .xor xk 1
  have R23 := R22.setAt (k := k) (by omega) b8.1 b8.2
  rw [hPG.out] at R23
  have k23 : Keep (fun j => j = gq) w2a (w2a.setCell ⟨gq, k, none⟩ (.int .u8 (bits .xor .u8 xk 1))) := (Keep.refl (fun j => j = gq) w2a).setCell (p := ⟨gq, k, none⟩) rfl _
  have O23 := Obs.keepG k23 O22 (fun p hp => by
    rcases List.mem_cons.1 hp with e | e
    · rw [e]; intro e'; have e2 : g18 = gq := e'; omega
    · have := hlt14 p e; omega)
  have e23 := bel_step e22 (Below.refl _ _)
  have e23 : Below w.heap.size w (w2a.setCell ⟨gq, k, none⟩ (.int .u8 (bits .xor .u8 xk 1))) := e22.trans (k23.below e22.size (fun q hq => by have := e14.size; omega))
  clear O21 e21 N21 hb2a RZ aV zE hVe b8 fz N22 R22 heq
  go_upto_region 24 with fail
  generalize w2a.setCell ⟨gq, k, none⟩ (.int .u8 (bits .xor .u8 xk 1)) = w23 at R23 O23 e23 ⊢
  clear k23 O22 e22 f22 q3 q4 Hxk hPG
  go_upto_region 26 with (first
    | (refine wp_load_rec rfl (.tmp 16) rfl g16 rfl _ O23.2.1 h67 ?_)
    | (refine wp_execW rfl (exec_load_rowP 35 (.tmp 14) rfl g14 rfl 35 _ _ O23.2.2.1 Tryz.underlying35 hi35) ?_)
    | (refine wp_execW rfl (exec_load_rowP 46 (.tmp 18) rfl g18 rfl 46 _ _ O23.1 Tryz.underlying46 hi46) ?_)
    | (go_at_call 17; refine (cCk2 _ _ _ R23 e23).mono ?_; rintro e w24 ⟨rfl, hb24⟩)
    | (refine wp_alloc_ar rfl 27 rfl .u8 (List.replicate 32 0) 32 Tryz.z23 ?_; intro g22 w25 A22 hg22 hb25))
  have b25 := bel_step hb24 hb25
  have O25 : Obs w25.drew _ := Obs.below b25.drew O23
  have e25 := (bel_step e23 b25).drew
  have R25 : Rd w25.drew (some ⟨gq, 0, none⟩) 32 vc PG := R23.carry (Nat.le_refl _) b25.drew
  have A22' : Ar w25.drew g22 27 .u8 (List.replicate 32 0) := A22
  have hg22' : w23.heap.size ≤ g22 := Nat.le_trans hb24.size hg22
  have hlt23 := Obs.lt O23
  have hg22w : w14.heap.size ≤ g22 := by have := hg18; have := hlt23 _ (List.mem_cons_self ..); dsimp only at this; omega
  have kr : Keep (fun j => j = g22) w25.drew (w25.drew.setRow g22 (ic .u8 PG).toArray) := ⟨rfl, rfl, rfl, by simp, fun j _ hj => setRow_other w25.drew g22 j _ hj⟩
  have Ok := Obs.keepG kr O25 (fun p hp => by have := hlt23 p hp; omega)
  have A22k : Ar (w25.drew.setRow g22 (ic .u8 PG).toArray) g22 27 .u8 PG := A22'.row
  have ek : Below w.heap.size w (w25.drew.setRow g22 (ic .u8 PG).toArray) := e25.trans (kr.below e25.size (fun q hq => by have := e23.size; omega))
  clear O23 hb24 hb25 b25 A22 hg22 cCk2
  refine wp_region_lx (fun u => LAt u g18 (.string ⟨Hh.toArray⟩) (.string ⟨NO.toArray⟩) (.slice (some ⟨gq, 0, none⟩) 32 vc) (.string ⟨LB.toArray⟩)) [] 4 (by kernel_rfl) (by kernel_rfl) ?_
  have HS : LAt w25.drew g18 (.string ⟨Hh.toArray⟩) (.string ⟨NO.toArray⟩) (.slice (some ⟨gq, 0, none⟩) 32 vc) (.string ⟨LB.toArray⟩) := O25.1
  refine lx_rd 0 (.slice (some ⟨g22, 0, none⟩) 32 32) (by kernel_rfl) (fun _ _ d _ _ h => by cases d <;> exact h) (by kernel_rfl) HS rfl rfl rfl (fun w' hS => ?hG0) ?_
  case hG0 => first | (go_simp; rfl) | go_simp
  simp only [List.setIfInBounds_toArray, List.set_cons_zero, List.set_cons_succ]
  refine lx_rd 1 (.pointer (some ⟨g18, 2, none⟩)) (by kernel_rfl) (fun _ _ d _ _ h => by cases d <;> exact h) (by kernel_rfl) HS rfl rfl rfl (fun w' hS => ?hG1) ?_
  case hG1 => first | (go_simp; rfl) | go_simp
  simp only [List.setIfInBounds_toArray, List.set_cons_zero, List.set_cons_succ]
  refine lx_rd 2 (.slice (some ⟨gq, 0, none⟩) 32 vc) (by kernel_rfl) (fun _ _ d _ _ h => by cases d <;> exact h) (by kernel_rfl) HS rfl rfl rfl (fun w' hS => ?hG2) ?_
  case hG2 => have hc := hS.c2; first | (go_simp; rfl) | go_simp
  simp only [List.setIfInBounds_toArray, List.set_cons_zero, List.set_cons_succ]
  refine lx_one 3 (by kernel_rfl) (stepT_val (w' := w25.drew.setRow g22 (ic .u8 PG).toArray) (goInt 32) rfl rfl rfl (exec_copy32 (.tmp 158) (.tmp 160) rfl g22 32 rfl 27 (List.replicate 32 0) A22' rfl _ vc PG rfl R25) (fun _ => Ok.1) ?_)
  refine lx_nil (by kernel_rfl) ?_
  simp only [List.setIfInBounds_toArray, List.set_cons_zero, List.set_cons_succ]
  generalize w25.drew.setRow g22 (ic .u8 PG).toArray = w22 at Ok A22k ek kr ⊢
  have O26 := Obs.drew Ok.2
  have A22X : Ar w22.drew g22 27 .u8 PG := A22k
  have A11X : Ar w22.drew g11 27 .u8 A := Ok.2.2.2.2.1
  have hKX : Kt w22.drew := (hK.below (Nat.le_refl _) ek).drewN 1
  have HE26 : Hid (Below w.heap.size w w22.drew) := ek.drew
  clear O25 e25 R25 A22' kr Ok A22k HS R23
  go_wp2_with fail
  refine wp_region_facts [0, 1, 2, 3, 4, 5, 6] (Gl [(fEq (.agg (ic .u8 PG).toArray)), (fEq (.slice (some ⟨g11, 0, none⟩) 32 32)), (fEq (.string ⟨AU.toArray⟩)), (fRd (il AU) 100000000), (fEq (.agg (ic .u8 ZA).toArray)), (fEq (.agg (ic .u8 XG).toArray)), (fArr w22.heap.size)]) 8 1 (by kernel_rfl) (by kernel_rfl) rfl (by kernel_rfl) (lasts_list ?plst) ?pob ?_
  case plst =>
    intro g hg
    simp only [List.mem_cons, List.not_mem_nil, or_false] at hg
    rcases hg with rfl | rfl | rfl | rfl | rfl | rfl | rfl
    · exact lasts_eq _
    · exact lasts_eq _
    · exact lasts_eq _
    · exact lasts_rd _ _
    · exact lasts_eq _
    · exact lasts_eq _
    · exact lasts_arr _
  case pob =>
    refine (allIn_cons ?p0 (allIn_cons ?p1 (allIn_cons ?p2 (allIn_cons ?p3 (allIn_cons ?p4 (allIn_cons ?p5 (allIn_cons ?p6 allIn_nil)))))))
    case p0 =>
      refine ob_val 0 rfl rfl (by simp) (fun tm u h => ⟨?pw0, ?_⟩)
      case pw0 => exact wanted_none rfl
      have s22 : tm.getD 22 undef = .pointer (some ⟨g22, 0, none⟩) := h.same 22 (of_decide_eq_true (by kernel_rfl))
      exact ⟨_, u, exec_load_ar 27 (.tmp 22) rfl g22 s22 27 .u8 PG 5 32 (A22X.below h.s A22X.lt) Tryz.u23 lPG, rfl, Below.refl _ _⟩
    case p1 =>
      refine ob_val 1 rfl rfl (by simp) (fun tm u h => ⟨?pw1, ?_⟩)
      case pw1 => exact wanted_none rfl
      have s11 : tm.getD 11 undef = .pointer (some ⟨g11, 0, none⟩) := h.same 11 (of_decide_eq_true (by kernel_rfl))
      refine ⟨.slice (some ⟨g11, 0, none⟩) 32 32, u, ?_, rfl, Below.refl _ _⟩
      first | (go_simp; done) | (go_simp; rfl)
    case p2 =>
      refine ob_val 2 rfl rfl (by simp) (fun tm u h => ⟨?pw2, ?_⟩)
      case pw2 => exact wanted_none rfl
      have s20 : tm.getD 20 undef = .string ⟨AU.toArray⟩ := h.same 20 (of_decide_eq_true (by kernel_rfl))
      exact ⟨.string ⟨AU.toArray⟩, u, by first | (go_simp; done) | (go_simp; rfl), rfl, Below.refl _ _⟩
    case p3 =>
      refine ob_val 3 rfl rfl (by simp) (fun tm u h => ⟨?pw3, ?_⟩)
      case pw3 => exact wanted_none rfl
      have f2 : tm.getD 164 undef = .string ⟨AU.toArray⟩ := h.dep 2 _ _ (by simp) rfl rfl ⟨_, rfl, by kernel_rfl⟩
      obtain ⟨cB, wB, hcv, hRB, hbB⟩ := bytes_big AU u (by omega)
      exact ⟨_, _, exec_conv rfl f2 hcv, ⟨_, _, _, rfl, by omega, hRB⟩, hbB⟩
    case p4 =>
      refine ob_call 4 rfl rfl (by simp) (fun tm u h => ⟨?pw4, ?_⟩)
      case pw4 => exact wanted_none rfl
      have f1 : tm.getD 163 undef = .slice (some ⟨g11, 0, none⟩) 32 32 := h.dep 1 _ _ (by simp) rfl rfl ⟨_, rfl, by kernel_rfl⟩
      obtain ⟨a3, n3, c3, f3, hn3, hr3⟩ : fRd (il AU) 100000000 (tm.getD 165 undef) u := h.dep 3 _ _ (by simp) rfl rfl ⟨_, rfl, by kernel_rfl⟩
      refine ⟨22, #[.slice (some ⟨g11, 0, none⟩) 32 32, .slice a3 n3 c3], by first | (go_simp; done) | (go_simp; rfl), ?_⟩
      refine (hmac_any _ 32 32 A a3 n3 c3 _ u (rd_rowA (A11X.below h.s A11X.lt) lA bA) (by omega) hr3 (by omega) (hKX.below (Nat.le_refl _) h.s)).mono ?_
      rw [hZA.out]
      rintro e u2 ⟨rfl, hb2⟩
      exact ⟨_, rfl, rfl, hb2⟩
    case p5 =>
      refine ob_call 5 rfl rfl (by simp) (fun tm u h => ⟨?pw5, ?_⟩)
      case pw5 => exact wanted_none rfl
      have f0 : tm.getD 162 undef = .agg (ic .u8 PG).toArray := h.dep 0 _ _ (by simp) rfl rfl ⟨_, rfl, by kernel_rfl⟩
      have f4 : tm.getD 166 undef = .agg (ic .u8 ZA).toArray := h.dep 4 _ _ (by simp) rfl rfl ⟨_, rfl, by kernel_rfl⟩
      refine ⟨24, #[.agg (ic .u8 PG).toArray, .agg (ic .u8 ZA).toArray], by first | (go_simp; done) | (go_simp; rfl), ?_⟩
      refine (xor_any PG ZA u lPG lZA).mono ?_
      rw [hXG.out]
      rintro e u2 ⟨rfl, hb2⟩
      exact ⟨_, rfl, rfl, hb2⟩
    case p6 =>
      refine ob_val 6 rfl rfl (by simp) (fun tm u h => ⟨?pw6, ?_⟩)
      case pw6 => exact wanted_none rfl
      refine ⟨.pointer (some ⟨u.heap.size, 0, none⟩), u.alloc (.cells (ic .u8 (List.replicate 32 0)).toArray 27), ?_, ⟨u.heap.size, rfl, h.s.size, heap_alloc_new _ _⟩, (Below.refl _ _).alloc (Nat.le_refl _) _⟩
      first | (go_simp; done) | (go_simp; rfl) | (exact exec_alloc_ar rfl Tryz.z23)
  intro af wf hAO
  have k167 : af.tmps.getD 167 undef = .agg (ic .u8 XG).toArray := hAO.got 5 _ _ rfl (by simp) rfl rfl
  obtain ⟨g23, p23, hg23, A23⟩ : fArr w22.heap.size (af.tmps.getD 23 undef) wf := hAO.got 6 _ _ rfl (by simp) rfl rfl
  have hs := hAO.s
  have p1 : af.tmps.getD 1 undef = .string ⟨R.toArray⟩ := hAO.same 1 (of_decide_eq_true (by kernel_rfl))
  have p10 : af.tmps.getD 10 undef = .int .i64 EG := hAO.same 10 (of_decide_eq_true (by kernel_rfl))
  have p11 : af.tmps.getD 11 undef = .pointer (some ⟨g11, 0, none⟩) := hAO.same 11 (of_decide_eq_true (by kernel_rfl))
  have p14 : af.tmps.getD 14 undef = .pointer (some ⟨g14, 0, none⟩) := hAO.same 14 (of_decide_eq_true (by kernel_rfl))
  have p15 : af.tmps.getD 15 undef = .string ⟨CT.toArray⟩ := hAO.same 15 (of_decide_eq_true (by kernel_rfl))
  have p16 : af.tmps.getD 16 undef = .pointer (some ⟨g16, 0, none⟩) := hAO.same 16 (of_decide_eq_true (by kernel_rfl))
  have p22 : af.tmps.getD 22 undef = .pointer (some ⟨g22, 0, none⟩) := hAO.same 22 (of_decide_eq_true (by kernel_rfl))
  obtain ⟨tm, dfx⟩ := af
  obtain rfl : dfx = [] := hAO.df
  have hsz : tm.size = 230 := hAO.sz
  clear hAO
  have eF : tm = #[tm.getD 0 undef, tm.getD 1 undef, tm.getD 2 undef, tm.getD 3 undef, tm.getD 4 undef, tm.getD 5 undef, tm.getD 6 undef, tm.getD 7 undef, tm.getD 8 undef, tm.getD 9 undef, tm.getD 10 undef, tm.getD 11 undef, tm.getD 12 undef, tm.getD 13 undef, tm.getD 14 undef, tm.getD 15 undef, tm.getD 16 undef, tm.getD 17 undef, tm.getD 18 undef, tm.getD 19 undef, tm.getD 20 undef, tm.getD 21 undef, tm.getD 22 undef, tm.getD 23 undef, tm.getD 24 undef, tm.getD 25 undef, tm.getD 26 undef, tm.getD 27 undef, tm.getD 28 undef, tm.getD 29 undef, tm.getD 30 undef, tm.getD 31 undef, tm.getD 32 undef, tm.getD 33 undef, tm.getD 34 undef, tm.getD 35 undef, tm.getD 36 undef, tm.getD 37 undef, tm.getD 38 undef, tm.getD 39 undef, tm.getD 40 undef, tm.getD 41 undef, tm.getD 42 undef, tm.getD 43 undef, tm.getD 44 undef, tm.getD 45 undef, tm.getD 46 undef, tm.getD 47 undef, tm.getD 48 undef, tm.getD 49 undef, tm.getD 50 undef, tm.getD 51 undef, tm.getD 52 undef, tm.getD 53 undef, tm.getD 54 undef, tm.getD 55 undef, tm.getD 56 undef, tm.getD 57 undef, tm.getD 58 undef, tm.getD 59 undef, tm.getD 60 undef, tm.getD 61 undef, tm.getD 62 undef, tm.getD 63 undef, tm.getD 64 undef, tm.getD 65 undef, tm.getD 66 undef, tm.getD 67 undef, tm.getD 68 undef, tm.getD 69 undef, tm.getD 70 undef, tm.getD 71 undef, tm.getD 72 undef, tm.getD 73 undef, tm.getD 74 undef, tm.getD 75 undef, tm.getD 76 undef, tm.getD 77 undef, tm.getD 78 undef, tm.getD 79 undef, tm.getD 80 undef, tm.getD 81 undef, tm.getD 82 undef, tm.getD 83 undef, tm.getD 84 undef, tm.getD 85 undef, tm.getD 86 undef, tm.getD 87 undef, tm.getD 88 undef, tm.getD 89 undef, tm.getD 90 undef, tm.getD 91 undef, tm.getD 92 undef, tm.getD 93 undef, tm.getD 94 undef, tm.getD 95 undef, tm.getD 96 undef, tm.getD 97 undef, tm.getD 98 undef, tm.getD 99 undef, tm.getD 100 undef, tm.getD 101 undef, tm.getD 102 undef, tm.getD 103 undef, tm.getD 104 undef, tm.getD 105 undef, tm.getD 106 undef, tm.getD 107 undef, tm.getD 108 undef, tm.getD 109 undef, tm.getD 110 undef, tm.getD 111 undef, tm.getD 112 undef, tm.getD 113 undef, tm.getD 114 undef, tm.getD 115 undef, tm.getD 116 undef, tm.getD 117 undef, tm.getD 118 undef, tm.getD 119 undef, tm.getD 120 undef, tm.getD 121 undef, tm.getD 122 undef, tm.getD 123 undef, tm.getD 124 undef, tm.getD 125 undef, tm.getD 126 undef, tm.getD 127 undef, tm.getD 128 undef, tm.getD 129 undef, tm.getD 130 undef, tm.getD 131 undef, tm.getD 132 undef, tm.getD 133 undef, tm.getD 134 undef, tm.getD 135 undef, tm.getD 136 undef, tm.getD 137 undef, tm.getD 138 undef, tm.getD 139 undef, tm.getD 140 undef, tm.getD 141 undef, tm.getD 142 undef, tm.getD 143 undef, tm.getD 144 undef, tm.getD 145 undef, tm.getD 146 undef, tm.getD 147 undef, tm.getD 148 undef, tm.getD 149 undef, tm.getD 150 undef, tm.getD 151 undef, tm.getD 152 undef, tm.getD 153 undef, tm.getD 154 undef, tm.getD 155 undef, tm.getD 156 undef, tm.getD 157 undef, tm.getD 158 undef, tm.getD 159 undef, tm.getD 160 undef, tm.getD 161 undef, tm.getD 162 undef, tm.getD 163 undef, tm.getD 164 undef, tm.getD 165 undef, tm.getD 166 undef, tm.getD 167 undef, tm.getD 168 undef, tm.getD 169 undef, tm.getD 170 undef, tm.getD 171 undef, tm.getD 172 undef, tm.getD 173 undef, tm.getD 174 undef, tm.getD 175 undef, tm.getD 176 undef, tm.getD 177 undef, tm.getD 178 undef, tm.getD 179 undef, tm.getD 180 undef, tm.getD 181 undef, tm.getD 182 undef, tm.getD 183 undef, tm.getD 184 undef, tm.getD 185 undef, tm.getD 186 undef, tm.getD 187 undef, tm.getD 188 undef, tm.getD 189 undef, tm.getD 190 undef, tm.getD 191 undef, tm.getD 192 undef, tm.getD 193 undef, tm.getD 194 undef, tm.getD 195 undef, tm.getD 196 undef, tm.getD 197 undef, tm.getD 198 undef, tm.getD 199 undef, tm.getD 200 undef, tm.getD 201 undef, tm.getD 202 undef, tm.getD 203 undef, tm.getD 204 undef, tm.getD 205 undef, tm.getD 206 undef, tm.getD 207 undef, tm.getD 208 undef, tm.getD 209 undef, tm.getD 210 undef, tm.getD 211 undef, tm.getD 212 undef, tm.getD 213 undef, tm.getD 214 undef, tm.getD 215 undef, tm.getD 216 undef, tm.getD 217 undef, tm.getD 218 undef, tm.getD 219 undef, tm.getD 220 undef, tm.getD 221 undef, tm.getD 222 undef, tm.getD 223 undef, tm.getD 224 undef, tm.getD 225 undef, tm.getD 226 undef, tm.getD 227 undef, tm.getD 228 undef, tm.getD 229 undef] := eta_arr tm 230 hsz
  try dsimp only at eF
  have kF1 : tm.getD 1 undef = .string ⟨R.toArray⟩ := p1
  have kF10 : tm.getD 10 undef = .int .i64 EG := p10
  have kF11 : tm.getD 11 undef = .pointer (some ⟨g11, 0, none⟩) := p11
  have kF14 : tm.getD 14 undef = .pointer (some ⟨g14, 0, none⟩) := p14
  have kF15 : tm.getD 15 undef = .string ⟨CT.toArray⟩ := p15
  have kF16 : tm.getD 16 undef = .pointer (some ⟨g16, 0, none⟩) := p16
  have kF22 : tm.getD 22 undef = .pointer (some ⟨g22, 0, none⟩) := p22
  have kF23 : tm.getD 23 undef = .pointer (some ⟨g23, 0, none⟩) := p23
  have kF167 : tm.getD 167 undef = .agg (ic .u8 XG).toArray := k167
  rw [kF1, kF10, kF11, kF14, kF15, kF16, kF22, kF23, kF167] at eF
  clear kF1 kF10 kF11 kF14 kF15 kF16 kF22 kF23 kF167
  generalize tm.getD 0 undef = vF0 at eF
  generalize tm.getD 2 undef = vF2 at eF
  generalize tm.getD 3 undef = vF3 at eF
  generalize tm.getD 4 undef = vF4 at eF
  generalize tm.getD 5 undef = vF5 at eF
  generalize tm.getD 6 undef = vF6 at eF
  generalize tm.getD 7 undef = vF7 at eF
  generalize tm.getD 8 undef = vF8 at eF
  generalize tm.getD 9 undef = vF9 at eF
  generalize tm.getD 12 undef = vF12 at eF
  generalize tm.getD 13 undef = vF13 at eF
  generalize tm.getD 17 undef = vF17 at eF
  generalize tm.getD 18 undef = vF18 at eF
  generalize tm.getD 19 undef = vF19 at eF
  generalize tm.getD 20 undef = vF20 at eF
  generalize tm.getD 21 undef = vF21 at eF
  generalize tm.getD 24 undef = vF24 at eF
  generalize tm.getD 25 undef = vF25 at eF
  generalize tm.getD 26 undef = vF26 at eF
  generalize tm.getD 27 undef = vF27 at eF
  generalize tm.getD 28 undef = vF28 at eF
  generalize tm.getD 29 undef = vF29 at eF
  generalize tm.getD 30 undef = vF30 at eF
  generalize tm.getD 31 undef = vF31 at eF
  generalize tm.getD 32 undef = vF32 at eF
  generalize tm.getD 33 undef = vF33 at eF
  generalize tm.getD 34 undef = vF34 at eF
  generalize tm.getD 35 undef = vF35 at eF
  generalize tm.getD 36 undef = vF36 at eF
  generalize tm.getD 37 undef = vF37 at eF
  generalize tm.getD 38 undef = vF38 at eF
  generalize tm.getD 39 undef = vF39 at eF
  generalize tm.getD 40 undef = vF40 at eF
  generalize tm.getD 41 undef = vF41 at eF
  generalize tm.getD 42 undef = vF42 at eF
  generalize tm.getD 43 undef = vF43 at eF
  generalize tm.getD 44 undef = vF44 at eF
  generalize tm.getD 45 undef = vF45 at eF
  generalize tm.getD 46 undef = vF46 at eF
  generalize tm.getD 47 undef = vF47 at eF
  generalize tm.getD 48 undef = vF48 at eF
  generalize tm.getD 49 undef = vF49 at eF
  generalize tm.getD 50 undef = vF50 at eF
  generalize tm.getD 51 undef = vF51 at eF
  generalize tm.getD 52 undef = vF52 at eF
  generalize tm.getD 53 undef = vF53 at eF
  generalize tm.getD 54 undef = vF54 at eF
  generalize tm.getD 55 undef = vF55 at eF
  generalize tm.getD 56 undef = vF56 at eF
  generalize tm.getD 57 undef = vF57 at eF
  generalize tm.getD 58 undef = vF58 at eF
  generalize tm.getD 59 undef = vF59 at eF
  generalize tm.getD 60 undef = vF60 at eF
  generalize tm.getD 61 undef = vF61 at eF
  generalize tm.getD 62 undef = vF62 at eF
  generalize tm.getD 63 undef = vF63 at eF
  generalize tm.getD 64 undef = vF64 at eF
  generalize tm.getD 65 undef = vF65 at eF
  generalize tm.getD 66 undef = vF66 at eF
  generalize tm.getD 67 undef = vF67 at eF
  generalize tm.getD 68 undef = vF68 at eF
  generalize tm.getD 69 undef = vF69 at eF
  generalize tm.getD 70 undef = vF70 at eF
  generalize tm.getD 71 undef = vF71 at eF
  generalize tm.getD 72 undef = vF72 at eF
  generalize tm.getD 73 undef = vF73 at eF
  generalize tm.getD 74 undef = vF74 at eF
  generalize tm.getD 75 undef = vF75 at eF
  generalize tm.getD 76 undef = vF76 at eF
  generalize tm.getD 77 undef = vF77 at eF
  generalize tm.getD 78 undef = vF78 at eF
  generalize tm.getD 79 undef = vF79 at eF
  generalize tm.getD 80 undef = vF80 at eF
  generalize tm.getD 81 undef = vF81 at eF
  generalize tm.getD 82 undef = vF82 at eF
  generalize tm.getD 83 undef = vF83 at eF
  generalize tm.getD 84 undef = vF84 at eF
  generalize tm.getD 85 undef = vF85 at eF
  generalize tm.getD 86 undef = vF86 at eF
  generalize tm.getD 87 undef = vF87 at eF
  generalize tm.getD 88 undef = vF88 at eF
  generalize tm.getD 89 undef = vF89 at eF
  generalize tm.getD 90 undef = vF90 at eF
  generalize tm.getD 91 undef = vF91 at eF
  generalize tm.getD 92 undef = vF92 at eF
  generalize tm.getD 93 undef = vF93 at eF
  generalize tm.getD 94 undef = vF94 at eF
  generalize tm.getD 95 undef = vF95 at eF
  generalize tm.getD 96 undef = vF96 at eF
  generalize tm.getD 97 undef = vF97 at eF
  generalize tm.getD 98 undef = vF98 at eF
  generalize tm.getD 99 undef = vF99 at eF
  generalize tm.getD 100 undef = vF100 at eF
  generalize tm.getD 101 undef = vF101 at eF
  generalize tm.getD 102 undef = vF102 at eF
  generalize tm.getD 103 undef = vF103 at eF
  generalize tm.getD 104 undef = vF104 at eF
  generalize tm.getD 105 undef = vF105 at eF
  generalize tm.getD 106 undef = vF106 at eF
  generalize tm.getD 107 undef = vF107 at eF
  generalize tm.getD 108 undef = vF108 at eF
  generalize tm.getD 109 undef = vF109 at eF
  generalize tm.getD 110 undef = vF110 at eF
  generalize tm.getD 111 undef = vF111 at eF
  generalize tm.getD 112 undef = vF112 at eF
  generalize tm.getD 113 undef = vF113 at eF
  generalize tm.getD 114 undef = vF114 at eF
  generalize tm.getD 115 undef = vF115 at eF
  generalize tm.getD 116 undef = vF116 at eF
  generalize tm.getD 117 undef = vF117 at eF
  generalize tm.getD 118 undef = vF118 at eF
  generalize tm.getD 119 undef = vF119 at eF
  generalize tm.getD 120 undef = vF120 at eF
  generalize tm.getD 121 undef = vF121 at eF
  generalize tm.getD 122 undef = vF122 at eF
  generalize tm.getD 123 undef = vF123 at eF
  generalize tm.getD 124 undef = vF124 at eF
  generalize tm.getD 125 undef = vF125 at eF
  generalize tm.getD 126 undef = vF126 at eF
  generalize tm.getD 127 undef = vF127 at eF
  generalize tm.getD 128 undef = vF128 at eF
  generalize tm.getD 129 undef = vF129 at eF
  generalize tm.getD 130 undef = vF130 at eF
  generalize tm.getD 131 undef = vF131 at eF
  generalize tm.getD 132 undef = vF132 at eF
  generalize tm.getD 133 undef = vF133 at eF
  generalize tm.getD 134 undef = vF134 at eF
  generalize tm.getD 135 undef = vF135 at eF
  generalize tm.getD 136 undef = vF136 at eF
  generalize tm.getD 137 undef = vF137 at eF
  generalize tm.getD 138 undef = vF138 at eF
  generalize tm.getD 139 undef = vF139 at eF
  generalize tm.getD 140 undef = vF140 at eF
  generalize tm.getD 141 undef = vF141 at eF
  generalize tm.getD 142 undef = vF142 at eF
  generalize tm.getD 143 undef = vF143 at eF
  generalize tm.getD 144 undef = vF144 at eF
  generalize tm.getD 145 undef = vF145 at eF
  generalize tm.getD 146 undef = vF146 at eF
  generalize tm.getD 147 undef = vF147 at eF
  generalize tm.getD 148 undef = vF148 at eF
  generalize tm.getD 149 undef = vF149 at eF
  generalize tm.getD 150 undef = vF150 at eF
  generalize tm.getD 151 undef = vF151 at eF
  generalize tm.getD 152 undef = vF152 at eF
  generalize tm.getD 153 undef = vF153 at eF
  generalize tm.getD 154 undef = vF154 at eF
  generalize tm.getD 155 undef = vF155 at eF
  generalize tm.getD 156 undef = vF156 at eF
  generalize tm.getD 157 undef = vF157 at eF
  generalize tm.getD 158 undef = vF158 at eF
  generalize tm.getD 159 undef = vF159 at eF
  generalize tm.getD 160 undef = vF160 at eF
  generalize tm.getD 161 undef = vF161 at eF
  generalize tm.getD 162 undef = vF162 at eF
  generalize tm.getD 163 undef = vF163 at eF
  generalize tm.getD 164 undef = vF164 at eF
  generalize tm.getD 165 undef = vF165 at eF
  generalize tm.getD 166 undef = vF166 at eF
  generalize tm.getD 168 undef = vF168 at eF
  generalize tm.getD 169 undef = vF169 at eF
  generalize tm.getD 170 undef = vF170 at eF
  generalize tm.getD 171 undef = vF171 at eF
  generalize tm.getD 172 undef = vF172 at eF
  generalize tm.getD 173 undef = vF173 at eF
  generalize tm.getD 174 undef = vF174 at eF
  generalize tm.getD 175 undef = vF175 at eF
  generalize tm.getD 176 undef = vF176 at eF
  generalize tm.getD 177 undef = vF177 at eF
  generalize tm.getD 178 undef = vF178 at eF
  generalize tm.getD 179 undef = vF179 at eF
  generalize tm.getD 180 undef = vF180 at eF
  generalize tm.getD 181 undef = vF181 at eF
  generalize tm.getD 182 undef = vF182 at eF
  generalize tm.getD 183 undef = vF183 at eF
  generalize tm.getD 184 undef = vF184 at eF
  generalize tm.getD 185 undef = vF185 at eF
  generalize tm.getD 186 undef = vF186 at eF
  generalize tm.getD 187 undef = vF187 at eF
  generalize tm.getD 188 undef = vF188 at eF
  generalize tm.getD 189 undef = vF189 at eF
  generalize tm.getD 190 undef = vF190 at eF
  generalize tm.getD 191 undef = vF191 at eF
  generalize tm.getD 192 undef = vF192 at eF
  generalize tm.getD 193 undef = vF193 at eF
  generalize tm.getD 194 undef = vF194 at eF
  generalize tm.getD 195 undef = vF195 at eF
  generalize tm.getD 196 undef = vF196 at eF
  generalize tm.getD 197 undef = vF197 at eF
  generalize tm.getD 198 undef = vF198 at eF
  generalize tm.getD 199 undef = vF199 at eF
  generalize tm.getD 200 undef = vF200 at eF
  generalize tm.getD 201 undef = vF201 at eF
  generalize tm.getD 202 undef = vF202 at eF
  generalize tm.getD 203 undef = vF203 at eF
  generalize tm.getD 204 undef = vF204 at eF
  generalize tm.getD 205 undef = vF205 at eF
  generalize tm.getD 206 undef = vF206 at eF
  generalize tm.getD 207 undef = vF207 at eF
  generalize tm.getD 208 undef = vF208 at eF
  generalize tm.getD 209 undef = vF209 at eF
  generalize tm.getD 210 undef = vF210 at eF
  generalize tm.getD 211 undef = vF211 at eF
  generalize tm.getD 212 undef = vF212 at eF
  generalize tm.getD 213 undef = vF213 at eF
  generalize tm.getD 214 undef = vF214 at eF
  generalize tm.getD 215 undef = vF215 at eF
  generalize tm.getD 216 undef = vF216 at eF
  generalize tm.getD 217 undef = vF217 at eF
  generalize tm.getD 218 undef = vF218 at eF
  generalize tm.getD 219 undef = vF219 at eF
  generalize tm.getD 220 undef = vF220 at eF
  generalize tm.getD 221 undef = vF221 at eF
  generalize tm.getD 222 undef = vF222 at eF
  generalize tm.getD 223 undef = vF223 at eF
  generalize tm.getD 224 undef = vF224 at eF
  generalize tm.getD 225 undef = vF225 at eF
  generalize tm.getD 226 undef = vF226 at eF
  generalize tm.getD 227 undef = vF227 at eF
  generalize tm.getD 228 undef = vF228 at eF
  generalize tm.getD 229 undef = vF229 at eF
  subst eF
  have O27 := Obs.below hs O26
  have f1 := HE26.out.trans (hs.mono HE26.out.size)
  have A22f := A22X.below hs A22X.lt
  have l22 := A22X.lt
  have hl26 := Obs.lt O26
  have hsz22 : w22.drew.heap.size = w22.heap.size := rfl
  refine lx_one 7 (by kernel_rfl) (stepT_store (w' := wf.setRow g23 (ic .u8 XG).toArray) rfl rfl rfl (exec_store_ar 27 (.tmp 23) (.tmp 167) rfl g23 rfl .u8 XG rfl 27 _ A23 (by rw [lXG]; rfl) (by rw [lXG]; exact hi23)) (fun _ => trivial) ?_)
  refine lx_nil (by kernel_rfl) ?_
  have k27 : Keep (fun j => j = g23) wf (wf.setRow g23 (ic .u8 XG).toArray) := ⟨rfl, rfl, rfl, by simp, fun j _ hj => setRow_other wf g23 j _ hj⟩
  have A23k : Ar (wf.setRow g23 (ic .u8 XG).toArray) g23 27 .u8 XG := A23.row
  have O27k := Obs.keepG k27 O27 (fun p hp => by have := hl26 p hp; omega)
  have A22k : Ar (wf.setRow g23 (ic .u8 XG).toArray) g22 27 .u8 PG := A22f.keep k27 (by omega)
  have e27 : Below w.heap.size w (wf.setRow g23 (ic .u8 XG).toArray) := f1.trans (k27.below f1.size (fun q hq => by have := ek.size; omega))
  generalize wf.setRow g23 (ic .u8 XG).toArray = w27 at k27 A23k O27k A22k e27 ⊢
  have h2223 : g22 ≠ g23 := by omega
  have hl23 : g22 < g23 := by omega
  have O28 := Obs.drew O27k
  have A23X : Ar w27.drew g23 27 .u8 XG := A23k
  have A22Y : Ar w27.drew g22 27 .u8 PG := A22k
  have e28 := e27.drew
  clear O27 f1 A22f hl26 k27 A23k O27k A22k e27 hs A23 A22X A11X hKX HE26 O26 ek hsz22
  obtain ⟨BG, HBG⟩ : ∃ b, Hid (decide (YG = A) = b) := ⟨_, rfl⟩
  have hEGb : (EG == 0) = BG := by rw [← HBG.out]; exact hEG.out
  go_wp2_with fail
  refine wp_region_lx (fun w' => Below w27.drew.heap.size w27.drew w') [] 7 (by kernel_rfl) (by kernel_rfl) ?_
  obtain ⟨W, HW⟩ : ∃ W, Hid (w27.drew = W) := ⟨_, rfl⟩
  rw [HW.out] at O28 A23X A22Y e28 ⊢
  have HS0 : Below W.heap.size W W := Below.refl _ _
  refine lx_rd 0 (.int .i64 EG) (by kernel_rfl) (fun _ _ d _ _ h => by cases d <;> exact h) (by kernel_rfl) HS0 rfl rfl rfl (fun w' hS => ?hI0) ?_
  case hI0 => first | (go_simp; rfl) | (go_simp; done) | (go_simp; exact idx_ok (by omega) (by omega)) | (go_simp; exact wi64' (by omega) (by omega) (by omega)) | (go_simp; intro hh; exfalso; omega)
  simp only [List.setIfInBounds_toArray, List.set_cons_zero, List.set_cons_succ]
  refine lx_rd 1 (.bool BG) (by kernel_rfl) (fun _ _ d _ _ h => by cases d <;> exact h) (by kernel_rfl) HS0 rfl rfl rfl (fun w' hS => ?hI1) ?_
  case hI1 => first | (go_simp; rfl) | (go_simp; done) | (go_simp; exact idx_ok (by omega) (by omega)) | (go_simp; exact wi64' (by omega) (by omega) (by omega)) | (go_simp; intro hh; exfalso; omega)
  simp only [List.setIfInBounds_toArray, List.set_cons_zero, List.set_cons_succ]
  refine lx_rd 2 (.slice (some ⟨g23, 0, none⟩) 32 32) (by kernel_rfl) (fun _ _ d _ _ h => by cases d <;> exact h) (by kernel_rfl) HS0 rfl rfl rfl (fun w' hS => ?hI2) ?_
  case hI2 => first | (go_simp; rfl) | (go_simp; done) | (go_simp; exact idx_ok (by omega) (by omega)) | (go_simp; exact wi64' (by omega) (by omega) (by omega)) | (go_simp; intro hh; exfalso; omega)
  simp only [List.setIfInBounds_toArray, List.set_cons_zero, List.set_cons_succ]
  refine lx_rd 4 (.agg (ic .u8 A).toArray) (by kernel_rfl) (fun _ _ d _ _ h => by cases d <;> exact h) (by kernel_rfl) HS0 rfl rfl rfl (fun w' hS => ?hI4) ?_
  case hI4 => exact exec_load_ar 27 (.tmp 11) rfl g11 rfl 27 .u8 A 5 32 (Obs.below hS O28).2.2.2.1 Tryz.u23 lA
  simp only [List.setIfInBounds_toArray, List.set_cons_zero, List.set_cons_succ]
  refine lx_one 3 (by kernel_rfl) (stepT_call 25 #[.slice (some ⟨g23, 0, none⟩) 32 32] rfl rfl rfl ?rI3 ?_)
  case rI3 => first | (go_simp; rfl) | go_simp
  refine (sha_any (some ⟨g23, 0, none⟩) 32 32 XG _ (rd_rowA A23X lXG bXG) (by omega) (hK.below (Nat.le_refl _) e28)).mono ?_
  rw [hYG.out]
  rintro e w28 ⟨rfl, hb28⟩
  refine ⟨_, rfl, fun _ => hb28, ?_⟩
  simp only [List.setIfInBounds_toArray, List.set_cons_zero, List.set_cons_succ]
  refine lx_rd 5 (.bool BG) (by kernel_rfl) (fun _ _ d _ _ h => by cases d <;> exact h) (by kernel_rfl) hb28 rfl rfl rfl (fun w' hS => ?hJ5) ?_
  case hJ5 => rw [← HBG.out]; exact exec_binOp .eql 27 (.tmp 171) (.tmp 172) _ rfl _ _ _ rfl rfl (Tryz.guard23 _ .eql _ _ _ _) (Tryz.eql23 _ YG A lYG lA)
  simp only [List.setIfInBounds_toArray, List.set_cons_zero, List.set_cons_succ]
  refine lx_rd 6 (.bool false) (by kernel_rfl) (fun _ _ d _ _ h => by cases d <;> exact h) (by kernel_rfl) hb28 rfl rfl rfl (fun w' hS => ?hJ6) ?_
  case hJ6 => cases BG <;> (first | (go_simp; done) | (go_simp; rfl))
  simp only [List.setIfInBounds_toArray, List.set_cons_zero, List.set_cons_succ]
  refine lx_nil (by kernel_rfl) ?_
  have O29 := Obs.drew (Obs.below hb28 O28)
  have e29 := (bel_step e28 hb28).drew
  have A22Z : Ar w28.drew g22 27 .u8 PG := A22Y.below hb28.drew A22Y.lt
  have A23Z : Ar w28.drew g23 27 .u8 XG := A23X.below hb28.drew A23X.lt
  clear HW HS0 O28 A23X A22Y e28 hb28 hEGb HBG hEG
  go_upto_region 30 with fail
  have cR := fun u => text_tx R 200 u h5 (by omega)
  rw [HR2.out] at cR
  refine wp_region_lx (fun w' => Below w28.drew.heap.size w28.drew w') [] 10 (by kernel_rfl) (by kernel_rfl) ?_
  obtain ⟨W, HW⟩ : ∃ W, Hid (w28.drew = W) := ⟨_, rfl⟩
  rw [HW.out] at O29 A22Z A23Z e29 ⊢
  have HS0 : Below W.heap.size W W := Below.refl _ _
  refine lx_rd 0 (.string ⟨R.toArray⟩) (by kernel_rfl) (fun _ _ d _ _ h => by cases d <;> exact h) (by kernel_rfl) HS0 rfl rfl rfl (fun w' hS => ?hK0) ?_
  case hK0 => first | (go_simp; rfl) | (go_simp; done) | (go_simp; exact idx_ok (by omega) (by omega)) | (go_simp; exact wi64' (by omega) (by omega) (by omega)) | (go_simp; intro hh; exfalso; omega)
  simp only [List.setIfInBounds_toArray, List.set_cons_zero, List.set_cons_succ]
  refine lx_rd 2 (.agg (fcells ⟨Hh, U, O2, BA⟩)) (by kernel_rfl) (fun _ _ d _ _ h => by cases d <;> exact h) (by kernel_rfl) HS0 rfl rfl rfl (fun w' hS => ?hK2) ?_
  case hK2 => exact exec_load_rowP 35 (.tmp 14) rfl g14 rfl 35 _ _ (Obs.below hS O29).2.1 Tryz.underlying35 hi35
  simp only [List.setIfInBounds_toArray, List.set_cons_zero, List.set_cons_succ]
  refine lx_rd 3 (.string ⟨CT.toArray⟩) (by kernel_rfl) (fun _ _ d _ _ h => by cases d <;> exact h) (by kernel_rfl) HS0 rfl rfl rfl (fun w' hS => ?hK3) ?_
  case hK3 => first | (go_simp; rfl) | (go_simp; done) | (go_simp; exact idx_ok (by omega) (by omega)) | (go_simp; exact wi64' (by omega) (by omega) (by omega)) | (go_simp; intro hh; exfalso; omega)
  simp only [List.setIfInBounds_toArray, List.set_cons_zero, List.set_cons_succ]
  refine lx_one 1 (by kernel_rfl) (stepT_call 7 #[.string ⟨R.toArray⟩, .int .i64 200] rfl rfl rfl ?rK1 ?_)
  case rK1 => first | (go_simp; rfl) | go_simp
  refine (cR _).mono ?_
  rintro e wx ⟨rfl, hx⟩
  replace hx := hx.symm
  subst hx
  refine ⟨_, rfl, fun _ => HS0, ?_⟩
  simp only [List.setIfInBounds_toArray, List.set_cons_zero, List.set_cons_succ]
  refine lx_one 4 (by kernel_rfl) (stepT_call 15 #[.string ⟨R2.toArray⟩, .agg (fcells ⟨Hh, U, O2, BA⟩), .string ⟨CT.toArray⟩] rfl rfl rfl ?rK4 ?_)
  case rK4 => first | (go_simp; rfl) | go_simp
  refine (cPr2 _ e29).mono ?_
  rintro e w30 ⟨rfl, hb30⟩
  refine ⟨_, rfl, fun _ => hb30, ?_⟩
  simp only [List.setIfInBounds_toArray, List.set_cons_zero, List.set_cons_succ]
  refine lx_rd 5 (.tuple #[.string ⟨FT2.toArray⟩, .int .i64 0]) (by kernel_rfl) (fun _ _ d _ _ h => by cases d <;> exact h) (by kernel_rfl) hb30 rfl rfl rfl (fun w' hS => ?hL5) ?_
  case hL5 => first | (go_simp; rfl) | (go_simp; done) | (go_simp; exact idx_ok (by omega) (by omega)) | (go_simp; exact wi64' (by omega) (by omega) (by omega)) | (go_simp; intro hh; exfalso; omega)
  simp only [List.setIfInBounds_toArray, List.set_cons_zero, List.set_cons_succ]
  refine lx_rd 6 (.string ⟨FT2.toArray⟩) (by kernel_rfl) (fun _ _ d _ _ h => by cases d <;> exact h) (by kernel_rfl) hb30 rfl rfl rfl (fun w' hS => ?hL6) ?_
  case hL6 => first | (go_simp; rfl) | (go_simp; done) | (go_simp; exact idx_ok (by omega) (by omega)) | (go_simp; exact wi64' (by omega) (by omega) (by omega)) | (go_simp; intro hh; exfalso; omega)
  simp only [List.setIfInBounds_toArray, List.set_cons_zero, List.set_cons_succ]
  refine lx_rd 7 (.int .i64 0) (by kernel_rfl) (fun _ _ d _ _ h => by cases d <;> exact h) (by kernel_rfl) hb30 rfl rfl rfl (fun w' hS => ?hL7) ?_
  case hL7 => first | (go_simp; rfl) | (go_simp; done) | (go_simp; exact idx_ok (by omega) (by omega)) | (go_simp; exact wi64' (by omega) (by omega) (by omega)) | (go_simp; intro hh; exfalso; omega)
  simp only [List.setIfInBounds_toArray, List.set_cons_zero, List.set_cons_succ]
  refine lx_rd 8 (.string ⟨FT2.toArray⟩) (by kernel_rfl) (fun _ _ d _ _ h => by cases d <;> exact h) (by kernel_rfl) hb30 rfl rfl rfl (fun w' hS => ?hL8) ?_
  case hL8 => first | (go_simp; rfl) | (go_simp; done) | (go_simp; exact idx_ok (by omega) (by omega)) | (go_simp; exact wi64' (by omega) (by omega) (by omega)) | (go_simp; intro hh; exfalso; omega)
  simp only [List.setIfInBounds_toArray, List.set_cons_zero, List.set_cons_succ]
  refine lx_rd 9 (.int .i64 0) (by kernel_rfl) (fun _ _ d _ _ h => by cases d <;> exact h) (by kernel_rfl) hb30 rfl rfl rfl (fun w' hS => ?hL9) ?_
  case hL9 => first | (go_simp; rfl) | (go_simp; done) | (go_simp; exact idx_ok (by omega) (by omega)) | (go_simp; exact wi64' (by omega) (by omega) (by omega)) | (go_simp; intro hh; exfalso; omega)
  simp only [List.setIfInBounds_toArray, List.set_cons_zero, List.set_cons_succ]
  refine lx_nil (by kernel_rfl) ?_
  have O30 := Obs.below hb30 O29
  have e30 := bel_step e29 hb30
  have A22a := A22Z.below hb30 A22Z.lt
  have A23a := A23Z.below hb30 A23Z.lt
  clear HW HS0 O29 e29 A22Z A23Z hb30 cPr2 cR
  have HnM : Hid (∀ (va : Option Addr) (vc : Nat) (u : World), LAt (u.alloc (.cells #[.string ⟨Hh.toArray⟩, .string ⟨NO.toArray⟩, .slice va 32 vc, .string ⟨LB.toArray⟩] 46)) u.heap.size (.string ⟨Hh.toArray⟩) (.string ⟨NO.toArray⟩) (.slice va 32 vc) (.string ⟨LB.toArray⟩)) := fun va vc u => heap_alloc_new u _
  go_upto_region 34 with (go_at_call 21; refine (cFn2 _ e30).mono ?_; rintro e w31 ⟨⟨va, vd, rfl, hnew⟩, hb31⟩)
  have b31' : Below w31.heap.size w31 (w31.alloc (.cells #[.string ⟨Hh.toArray⟩, .string ⟨NO.toArray⟩, .slice va 32 vd, .string ⟨LB.toArray⟩] 46)) := (Below.refl _ _).alloc (Nat.le_refl _) _
  have b31 := bel_step hb31 b31'
  have L31 := HnM.out va vd w31
  have O31 := Obs.below b31 O30
  have e31 := bel_step e30 b31
  have A22b := A22a.below b31 A22a.lt
  have A23b := A23a.below b31 A23a.lt
  have R31 := (hnew.rd32 lP2).carry (Nat.le_refl _) b31'
  have n31 := hnew.flat (by omega)
  obtain ⟨g25, Hg25⟩ : ∃ g, Hid (w31.heap.size = g) := ⟨_, rfl⟩
  have l23a := A23a.lt
  have hg25 : g23 < g25 := by rw [← Hg25.out]; have := hb31.size; omega
  obtain ⟨gr, rfl, hgr, _⟩ := n31
  have hgr23 : g23 < gr := by omega
  rw [Hg25.out] at L31 ⊢
  generalize w31.alloc (.cells #[.string ⟨Hh.toArray⟩, .string ⟨NO.toArray⟩, .slice (some ⟨gr, 0, none⟩) 32 vd, .string ⟨LB.toArray⟩] 46) = w32 at L31 O31 e31 A22b A23b R31 ⊢
  clear HnM b31 b31' hb31 hnew O30 e30 A22a A23a Hg25 cFn2
  go_upto_region 35 with (first
    | (refine wp_load_rec rfl (.tmp 16) rfl g16 rfl _ O31.1 h67 ?_)
    | (refine wp_execW rfl (exec_load_rowP 35 (.tmp 14) rfl g14 rfl 35 _ _ O31.2.1 Tryz.underlying35 hi35) ?_)
    | (refine wp_execW rfl (exec_load_rowP 46 (.tmp 25) rfl g25 rfl 46 _ _ L31 Tryz.underlying46 hi46) ?_)
    | (go_at_call 17; refine (cCk3 _ _ _ R31 e31).mono ?_; rintro e w33 ⟨rfl, hb33⟩))
  have O33 := Obs.drew (Obs.below hb33 O31)
  have L33 : LAt w33.drew g25 (.string ⟨Hh.toArray⟩) (.string ⟨NO.toArray⟩) (.slice (some ⟨gr, 0, none⟩) 32 vd) (.string ⟨LB.toArray⟩) := LAt.below (w := w32) L31 hb33.drew
  have e33 := (bel_step e31 hb33).drew
  have A22c : Ar w33.drew g22 27 .u8 PG := A22b.below hb33.drew A22b.lt
  have A23c : Ar w33.drew g23 27 .u8 XG := A23b.below hb33.drew A23b.lt
  have R33 := R31.carry (Nat.le_refl _) hb33.drew
  have kq : Keep (fun j => j = g22) w33.drew (w33.drew.setRow g22 (ic .u8 PF2).toArray) := ⟨rfl, rfl, rfl, by simp, fun j _ hj => setRow_other w33.drew g22 j _ hj⟩
  have Oq := Obs.keepG kq O33 (fun p hp => by have := hlt14 p hp; have := hg22w; omega)
  have Lq : LAt (w33.drew.setRow g22 (ic .u8 PF2).toArray) g25 (.string ⟨Hh.toArray⟩) (.string ⟨NO.toArray⟩) (.slice (some ⟨gr, 0, none⟩) 32 vd) (.string ⟨LB.toArray⟩) := L33.keep kq (by omega)
  have A22q : Ar (w33.drew.setRow g22 (ic .u8 PF2).toArray) g22 27 .u8 PF2 := A22c.row
  have A23q := A23c.keep kq (by omega)
  have eq' : Below w.heap.size w (w33.drew.setRow g22 (ic .u8 PF2).toArray) := e33.trans (kq.below e33.size (fun q hq => by have := e14.size; omega))
  clear O31 L31 e31 A22b A23b R31 hb33 cCk3
  refine wp_region_lx (fun u => LAt u g25 (.string ⟨Hh.toArray⟩) (.string ⟨NO.toArray⟩) (.slice (some ⟨gr, 0, none⟩) 32 vd) (.string ⟨LB.toArray⟩)) [] 4 (by kernel_rfl) (by kernel_rfl) ?_
  refine lx_rd 0 (.slice (some ⟨g22, 0, none⟩) 32 32) (by kernel_rfl) (fun _ _ d _ _ h => by cases d <;> exact h) (by kernel_rfl) L33 rfl rfl rfl (fun w' hS => ?hM0) ?_
  case hM0 => first | (go_simp; rfl) | go_simp
  simp only [List.setIfInBounds_toArray, List.set_cons_zero, List.set_cons_succ]
  refine lx_rd 1 (.pointer (some ⟨g25, 2, none⟩)) (by kernel_rfl) (fun _ _ d _ _ h => by cases d <;> exact h) (by kernel_rfl) L33 rfl rfl rfl (fun w' hS => ?hM1) ?_
  case hM1 => first | (go_simp; rfl) | go_simp
  simp only [List.setIfInBounds_toArray, List.set_cons_zero, List.set_cons_succ]
  refine lx_rd 2 (.slice (some ⟨gr, 0, none⟩) 32 vd) (by kernel_rfl) (fun _ _ d _ _ h => by cases d <;> exact h) (by kernel_rfl) L33 rfl rfl rfl (fun w' hS => ?hM2) ?_
  case hM2 => have hc := hS.c2; first | (go_simp; rfl) | go_simp
  simp only [List.setIfInBounds_toArray, List.set_cons_zero, List.set_cons_succ]
  refine lx_one 3 (by kernel_rfl) (stepT_val (w' := w33.drew.setRow g22 (ic .u8 PF2).toArray) (goInt 32) rfl rfl rfl (exec_copy32 (.tmp 202) (.tmp 204) rfl g22 32 rfl 27 PG A22c lPG _ vd PF2 rfl R33) (fun _ => Lq) ?_)
  refine lx_nil (by kernel_rfl) ?_
  simp only [List.setIfInBounds_toArray, List.set_cons_zero, List.set_cons_succ]
  generalize w33.drew.setRow g22 (ic .u8 PF2).toArray = w35 at Oq Lq A22q A23q eq' kq ⊢
  have O36 := Obs.drew Oq
  have L36 : LAt w35.drew g25 (.string ⟨Hh.toArray⟩) (.string ⟨NO.toArray⟩) (.slice (some ⟨gr, 0, none⟩) 32 vd) (.string ⟨LB.toArray⟩) := Lq
  have A22r : Ar w35.drew g22 27 .u8 PF2 := A22q
  have A23r : Ar w35.drew g23 27 .u8 XG := A23q
  have e36 := eq'.drew
  clear O33 L33 e33 A22c A23c R33 kq Oq Lq A22q A23q eq'
  go_wp2_with fail
  refine wp_region_lx (fun w' => Below w35.drew.heap.size w35.drew w') [14] 15 (by kernel_rfl) (by kernel_rfl) ?_
  obtain ⟨W, HW⟩ : ∃ W, Hid (w35.drew = W) := ⟨_, rfl⟩
  rw [HW.out] at O36 L36 A22r A23r e36 ⊢
  have HS0 : Below W.heap.size W W := Below.refl _ _
  have aAU : BA ++ [44] ++ CT ++ [44] ++ LB = AU := by rw [← hAU.out]; rfl
  refine lx_rd 0 (.agg (ic .u8 PF2).toArray) (by kernel_rfl) (fun _ _ d _ _ h => by cases d <;> exact h) (by kernel_rfl) HS0 rfl rfl rfl (fun w' hS => ?hN0) ?_
  case hN0 => exact exec_load_ar 27 (.tmp 22) rfl g22 rfl 27 .u8 PF2 5 32 (A22r.below hS A22r.lt) Tryz.u23 lP2
  simp only [List.setIfInBounds_toArray, List.set_cons_zero, List.set_cons_succ]
  refine lx_rd 1 (.slice (some ⟨g11, 0, none⟩) 32 32) (by kernel_rfl) (fun _ _ d _ _ h => by cases d <;> exact h) (by kernel_rfl) HS0 rfl rfl rfl (fun w' hS => ?hN1) ?_
  case hN1 => first | (go_simp; rfl) | (go_simp; done) | (go_simp; exact idx_ok (by omega) (by omega)) | (go_simp; exact wi64' (by omega) (by omega) (by omega)) | (go_simp; intro hh; exfalso; omega)
  simp only [List.setIfInBounds_toArray, List.set_cons_zero, List.set_cons_succ]
  refine lx_rd 2 (.pointer (some ⟨g14, 3, none⟩)) (by kernel_rfl) (fun _ _ d _ _ h => by cases d <;> exact h) (by kernel_rfl) HS0 rfl rfl rfl (fun w' hS => ?hN2) ?_
  case hN2 => first | (go_simp; rfl) | (go_simp; done) | (go_simp; exact idx_ok (by omega) (by omega)) | (go_simp; exact wi64' (by omega) (by omega) (by omega)) | (go_simp; intro hh; exfalso; omega)
  simp only [List.setIfInBounds_toArray, List.set_cons_zero, List.set_cons_succ]
  refine lx_rd 3 (.string ⟨BA.toArray⟩) (by kernel_rfl) (fun _ _ d _ _ h => by cases d <;> exact h) (by kernel_rfl) HS0 rfl rfl rfl (fun w' hS => ?hN3) ?_
  case hN3 => have hc := FAt.c3 (Obs.below hS O36).2.1; first | (go_simp; rfl) | (go_simp; done) | (go_simp; exact idx_ok (by omega) (by omega)) | (go_simp; exact wi64' (by omega) (by omega) (by omega)) | (go_simp; intro hh; exfalso; omega)
  simp only [List.setIfInBounds_toArray, List.set_cons_zero, List.set_cons_succ]
  refine lx_rd 4 (.string ⟨(BA ++ [44]).toArray⟩) (by kernel_rfl) (fun _ _ d _ _ h => by cases d <;> exact h) (by kernel_rfl) HS0 rfl rfl rfl (fun w' hS => ?hN4) ?_
  case hN4 => exact exec_addT rfl rfl rfl (by simp only [List.length_cons, List.length_nil]; omega)
  simp only [List.setIfInBounds_toArray, List.set_cons_zero, List.set_cons_succ]
  refine lx_rd 5 (.string ⟨CT.toArray⟩) (by kernel_rfl) (fun _ _ d _ _ h => by cases d <;> exact h) (by kernel_rfl) HS0 rfl rfl rfl (fun w' hS => ?hN5) ?_
  case hN5 => first | (go_simp; rfl) | (go_simp; done) | (go_simp; exact idx_ok (by omega) (by omega)) | (go_simp; exact wi64' (by omega) (by omega) (by omega)) | (go_simp; intro hh; exfalso; omega)
  simp only [List.setIfInBounds_toArray, List.set_cons_zero, List.set_cons_succ]
  refine lx_rd 6 (.string ⟨(BA ++ [44] ++ CT).toArray⟩) (by kernel_rfl) (fun _ _ d _ _ h => by cases d <;> exact h) (by kernel_rfl) HS0 rfl rfl rfl (fun w' hS => ?hN6) ?_
  case hN6 => exact exec_addT rfl rfl rfl (by simp only [List.length_append, List.length_cons, List.length_nil]; omega)
  simp only [List.setIfInBounds_toArray, List.set_cons_zero, List.set_cons_succ]
  refine lx_rd 7 (.string ⟨(BA ++ [44] ++ CT ++ [44]).toArray⟩) (by kernel_rfl) (fun _ _ d _ _ h => by cases d <;> exact h) (by kernel_rfl) HS0 rfl rfl rfl (fun w' hS => ?hN7) ?_
  case hN7 => exact exec_addT rfl rfl rfl (by simp only [List.length_append, List.length_cons, List.length_nil]; omega)
  simp only [List.setIfInBounds_toArray, List.set_cons_zero, List.set_cons_succ]
  refine lx_rd 8 (.pointer (some ⟨g25, 3, none⟩)) (by kernel_rfl) (fun _ _ d _ _ h => by cases d <;> exact h) (by kernel_rfl) HS0 rfl rfl rfl (fun w' hS => ?hN8) ?_
  case hN8 => first | (go_simp; rfl) | (go_simp; done) | (go_simp; exact idx_ok (by omega) (by omega)) | (go_simp; exact wi64' (by omega) (by omega) (by omega)) | (go_simp; intro hh; exfalso; omega)
  simp only [List.setIfInBounds_toArray, List.set_cons_zero, List.set_cons_succ]
  refine lx_rd 9 (.string ⟨LB.toArray⟩) (by kernel_rfl) (fun _ _ d _ _ h => by cases d <;> exact h) (by kernel_rfl) HS0 rfl rfl rfl (fun w' hS => ?hN9) ?_
  case hN9 => have hc := (LAt.below L36 hS).c3; first | (go_simp; rfl) | (go_simp; done) | (go_simp; exact idx_ok (by omega) (by omega)) | (go_simp; exact wi64' (by omega) (by omega) (by omega)) | (go_simp; intro hh; exfalso; omega)
  simp only [List.setIfInBounds_toArray, List.set_cons_zero, List.set_cons_succ]
  refine lx_rd 10 (.string ⟨AU.toArray⟩) (by kernel_rfl) (fun _ _ d _ _ h => by cases d <;> exact h) (by kernel_rfl) HS0 rfl rfl rfl (fun w' hS => ?hN10) ?_
  case hN10 => rw [← aAU]; exact exec_addT rfl rfl rfl (by simp only [List.length_append, List.length_cons, List.length_nil]; omega)
  simp only [List.setIfInBounds_toArray, List.set_cons_zero, List.set_cons_succ]
  obtain ⟨cd, w36, hcw, R36, hb36⟩ := bytes_big AU W (by omega)
  refine lx_one 11 (by kernel_rfl) (stepT_val (w' := w36) (.slice (some ⟨W.heap.size, 0, none⟩) AU.length cd) rfl rfl rfl (exec_conv rfl rfl hcw) (fun _ => hb36) ?_)
  simp only [List.setIfInBounds_toArray, List.set_cons_zero, List.set_cons_succ]
  have A11r : Ar w36 g11 27 .u8 A := (Obs.below hb36 O36).2.2.2.1
  have e37 := bel_step e36 hb36
  refine lx_one 12 (by kernel_rfl) (stepT_call 22 #[.slice (some ⟨g11, 0, none⟩) 32 32, .slice (some ⟨W.heap.size, 0, none⟩) AU.length cd] rfl rfl rfl ?rN12 ?_)
  case rN12 => first | (go_simp; rfl) | go_simp
  refine (hmac_any _ 32 32 A _ _ _ (il AU) _ (rd_rowA A11r lA bA) (by omega) R36 (by omega) (hK.below (Nat.le_refl _) e37)).mono ?_
  rw [hZA.out]
  rintro e w37 ⟨rfl, hb37'⟩
  have hb37 := bel_step hb36 hb37'
  refine ⟨_, rfl, fun _ => hb37, ?_⟩
  simp only [List.setIfInBounds_toArray, List.set_cons_zero, List.set_cons_succ]
  refine lx_one 13 (by kernel_rfl) (stepT_call 24 #[.agg (ic .u8 PF2).toArray, .agg (ic .u8 ZA).toArray] rfl rfl rfl ?rN13 ?_)
  case rN13 => first | (go_simp; rfl) | go_simp
  refine (xor_any PF2 ZA _ lP2 lZA).mono ?_
  rw [hX3.out]
  rintro e w38 ⟨rfl, hb38'⟩
  have hb38 := bel_step hb37 hb38'
  refine ⟨_, rfl, fun _ => hb38, ?_⟩
  simp only [List.setIfInBounds_toArray, List.set_cons_zero, List.set_cons_succ]
  have A23s := A23r.below hb38 A23r.lt
  have O38 := Obs.below hb38 O36
  have e38 := bel_step e36 hb38
  have A23t : Ar (w38.setRow g23 (ic .u8 X3).toArray) g23 27 .u8 X3 := A23s.row
  have kt : Keep (fun j => j = g23) w38 (w38.setRow g23 (ic .u8 X3).toArray) := ⟨rfl, rfl, rfl, by simp, fun j _ hj => setRow_other w38 g23 j _ hj⟩
  have Ot := Obs.keepG kt O38 (fun p hp => by have := hlt14 p hp; have := hg22w; omega)
  have et : Below w.heap.size w (w38.setRow g23 (ic .u8 X3).toArray) := e38.trans (kt.below e38.size (fun q hq => by have := e14.size; omega))
  refine lx_one 14 (by kernel_rfl) (stepT_store (w' := w38.setRow g23 (ic .u8 X3).toArray) rfl rfl rfl (exec_store_ar 27 (.tmp 23) (.tmp 219) rfl g23 rfl .u8 X3 rfl 27 _ A23s (by rw [lX3, lXG]) (by rw [lX3]; exact hi23)) (fun h => by cases h) ?_)
  refine lx_nil (by kernel_rfl) ?_
  generalize w38.setRow g23 (ic .u8 X3).toArray = w39 at A23t kt Ot et ⊢
  have O40 := Obs.drew Ot
  have A23u : Ar w39.drew g23 27 .u8 X3 := A23t
  have e40 := et.drew
  clear HS0 HW O36 L36 A22r A23r e36 hcw R36 hb36 A11r e37 hb37 hb37' hb38 hb38' A23s O38 e38 A23t kt Ot et
  obtain ⟨BT, HBT⟩ : ∃ b, Hid (decide (Y3 = A) = b) := ⟨_, rfl⟩
  have hE3b : (E3 == 0) = BT := by rw [← HBT.out]; exact hE3.out
  go_wp2_with fail
  refine wp_region_lx (fun w' => Below w39.drew.heap.size w39.drew w') [] 11 (by kernel_rfl) (by kernel_rfl) ?_
  obtain ⟨W, HW⟩ : ∃ W, Hid (w39.drew = W) := ⟨_, rfl⟩
  rw [HW.out] at O40 A23u e40 ⊢
  have HS0 : Below W.heap.size W W := Below.refl _ _
  refine lx_rd 0 (.int .i64 E3) (by kernel_rfl) (fun _ _ d _ _ h => by cases d <;> exact h) (by kernel_rfl) HS0 rfl rfl rfl (fun w' hS => ?hQ0) ?_
  case hQ0 => first | (go_simp; rfl) | (go_simp; done) | (go_simp; exact idx_ok (by omega) (by omega)) | (go_simp; exact wi64' (by omega) (by omega) (by omega)) | (go_simp; intro hh; exfalso; omega)
  simp only [List.setIfInBounds_toArray, List.set_cons_zero, List.set_cons_succ]
  refine lx_rd 1 (.bool BT) (by kernel_rfl) (fun _ _ d _ _ h => by cases d <;> exact h) (by kernel_rfl) HS0 rfl rfl rfl (fun w' hS => ?hQ1) ?_
  case hQ1 => first | (go_simp; rfl) | (go_simp; done) | (go_simp; exact idx_ok (by omega) (by omega)) | (go_simp; exact wi64' (by omega) (by omega) (by omega)) | (go_simp; intro hh; exfalso; omega)
  simp only [List.setIfInBounds_toArray, List.set_cons_zero, List.set_cons_succ]
  refine lx_rd 2 (.slice (some ⟨g23, 0, none⟩) 32 32) (by kernel_rfl) (fun _ _ d _ _ h => by cases d <;> exact h) (by kernel_rfl) HS0 rfl rfl rfl (fun w' hS => ?hQ2) ?_
  case hQ2 => first | (go_simp; rfl) | (go_simp; done) | (go_simp; exact idx_ok (by omega) (by omega)) | (go_simp; exact wi64' (by omega) (by omega) (by omega)) | (go_simp; intro hh; exfalso; omega)
  simp only [List.setIfInBounds_toArray, List.set_cons_zero, List.set_cons_succ]
  refine lx_rd 4 (.agg (ic .u8 A).toArray) (by kernel_rfl) (fun _ _ d _ _ h => by cases d <;> exact h) (by kernel_rfl) HS0 rfl rfl rfl (fun w' hS => ?hQ4) ?_
  case hQ4 => exact exec_load_ar 27 (.tmp 11) rfl g11 rfl 27 .u8 A 5 32 (Obs.below hS O40).2.2.2.1 Tryz.u23 lA
  simp only [List.setIfInBounds_toArray, List.set_cons_zero, List.set_cons_succ]
  refine lx_one 3 (by kernel_rfl) (stepT_call 25 #[.slice (some ⟨g23, 0, none⟩) 32 32] rfl rfl rfl ?rQ3 ?_)
  case rQ3 => first | (go_simp; rfl) | go_simp
  refine (sha_any (some ⟨g23, 0, none⟩) 32 32 X3 _ (rd_rowA A23u lX3 bX3) (by omega) (hK.below (Nat.le_refl _) e40)).mono ?_
  rw [hY3.out]
  rintro e w40 ⟨rfl, hb40⟩
  refine ⟨_, rfl, fun _ => hb40, ?_⟩
  simp only [List.setIfInBounds_toArray, List.set_cons_zero, List.set_cons_succ]
  refine lx_rd 5 (.bool BT) (by kernel_rfl) (fun _ _ d _ _ h => by cases d <;> exact h) (by kernel_rfl) hb40 rfl rfl rfl (fun w' hS => ?hS5) ?_
  case hS5 => rw [← HBT.out]; exact exec_binOp .eql 27 (.tmp 223) (.tmp 224) _ rfl _ _ _ rfl rfl (Tryz.guard23 _ .eql _ _ _ _) (Tryz.eql23 _ Y3 A lY3 lA)
  simp only [List.setIfInBounds_toArray, List.set_cons_zero, List.set_cons_succ]
  refine lx_rd 6 (.bool true) (by kernel_rfl) (fun _ _ d _ _ h => by cases d <;> exact h) (by kernel_rfl) hb40 rfl rfl rfl (fun w' hS => ?hS6) ?_
  case hS6 => cases BT <;> (first | (go_simp; done) | (go_simp; rfl))
  simp only [List.setIfInBounds_toArray, List.set_cons_zero, List.set_cons_succ]
  refine lx_rd 7 (.bool true) (by kernel_rfl) (fun _ _ d _ _ h => by cases d <;> exact h) (by kernel_rfl) hb40 rfl rfl rfl (fun w' hS => ?hS7) ?_
  case hS7 => first | (go_simp; rfl) | (go_simp; done) | (go_simp; exact idx_ok (by omega) (by omega)) | (go_simp; exact wi64' (by omega) (by omega) (by omega)) | (go_simp; intro hh; exfalso; omega)
  simp only [List.setIfInBounds_toArray, List.set_cons_zero, List.set_cons_succ]
  refine lx_one 8 (by kernel_rfl) (stepT_call 14 #[] rfl rfl rfl ?rQ8 ?_)
  case rQ8 => first | (go_simp; rfl) | go_simp
  have e41 := bel_step e40 hb40
  refine (HcW.out _ e41).mono ?_
  rintro e w41 ⟨rfl, hb41'⟩
  have hb41 := bel_step hb40 hb41'
  refine ⟨_, rfl, fun _ => hb41, ?_⟩
  simp only [List.setIfInBounds_toArray, List.set_cons_zero, List.set_cons_succ]
  refine lx_rd 9 (.bool true) (by kernel_rfl) (fun _ _ d _ _ h => by cases d <;> exact h) (by kernel_rfl) hb41 rfl rfl rfl (fun w' hS => ?hV9) ?_
  case hV9 => first | (go_simp; rfl) | (go_simp; done) | (go_simp; exact idx_ok (by omega) (by omega)) | (go_simp; exact wi64' (by omega) (by omega) (by omega)) | (go_simp; intro hh; exfalso; omega)
  simp only [List.setIfInBounds_toArray, List.set_cons_zero, List.set_cons_succ]
  refine lx_rd 10 (.bool true) (by kernel_rfl) (fun _ _ d _ _ h => by cases d <;> exact h) (by kernel_rfl) hb41 rfl rfl rfl (fun w' hS => ?hV10) ?_
  case hV10 => first | (go_simp; rfl) | (go_simp; done) | (go_simp; exact idx_ok (by omega) (by omega)) | (go_simp; exact wi64' (by omega) (by omega) (by omega)) | (go_simp; intro hh; exfalso; omega)
  simp only [List.setIfInBounds_toArray, List.set_cons_zero, List.set_cons_succ]
  refine lx_nil (by kernel_rfl) ?_
  go_wp2_with fail
  go_ret
  exact ⟨rfl, bel_step e41 hb41'⟩
end Go.Proofs.YtmilcknboaefkaaGreatDoor
