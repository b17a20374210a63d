/- The law of creds' codes, there and back. -/
import Derived.Test.YtiidjdedeenijaaDoorCwH
import Derived.Test.YtiidjdedeenijaaDoorDrW
namespace Go.Proofs.YtiidjdedeenijaaDoor
open Go.RowKit

theorem tw_tw (u : ByteArray) : twU (twU u) = twU u := by
  unfold twU
  rw [nums_str ((nums_bd u).take 100), List.take_take, Nat.min_self]
theorem tk_tk (ss : List Int) : (ss.take 40).take 40 = ss.take 40 := by rw [List.take_take, Nat.min_self]
theorem tw_size (u : ByteArray) : (twU u).size ≤ 100 := by
  unfold twU
  rw [strOf_size, List.length_take]
  omega

set_option maxRecDepth 100000 in
set_option maxHeartbeats 1600000 in
theorem back_00 (U : ByteArray) (a : Option Addr) (n c : Nat) (ss : List Int) (z : Int) (K V : List Int) (b : Option Addr) (m d : Nat) (ys : List Int) (w : World) (hU : U.size ≤ 9223372036854775807) (hR : Rd w a n c ss) (hK : K.length = 32) (hV : V.length = 32) (_ : Bd K) (_ : Bd V) (hY : Rd w b m d ys) (hT : Lib.Utf8Tabs 0 1 w) (hB : Tabs w) (h1 : rightB (twU U) (ss.take 40).length z = false) (h2 : recOk (ys.take 200) = false) :
    Calls Tryd.prog 5 #[.agg (recL (.string U) (.slice a n c) (.int .i64 z) K V).toArray, .slice b m d] w fun e w' => e = .returned (.bool true) ∧ Below w.heap.size w w' := by
  have h67 := rec_len (.string U) (.slice a n c) (.int .i64 z) hK hV
  have h67' := fun a2 n2 c2 => rec_len (.string (twU U)) (.slice a2 n2 c2) (.int .i64 z) hK hV
  go_enter Tryd.func5, Tryd.ntmps5
  go_upto_region 1 with (refine wp_box_row rfl 28 (.tmp 0) rfl (recL (.string U) (.slice a n c) (.int .i64 z) K V) rfl ?_; intro g2 w1 G1 hg1 hb1)
  have G1 : RcAt w1 g2 _ := G1
  have R1 := hR.carry (Nat.le_refl _) hb1
  go_upto_region 2 with (first
    | (refine wp_load_rec rfl (.tmp 2) rfl g2 rfl _ G1 h67 ?_)
    | (go_at_call 12; refine (rtwin_any U a n c ss z K V w1 hU R1 hK hV).mono ?_; rintro e w2 ⟨⟨a2, n2, c2, rfl, R2⟩, hb2⟩)
    | (refine wp_alloc_row rfl 28 rfl rec0 67 zero_rec ?_; intro g5 w3 G3 hg5 hb3)
    | (refine wp_store_rec rfl (.tmp 5) (.tmp 15) rfl g5 rfl _ rfl _ G3 rec0_len (h67' a2 n2 c2) (rec_one _ _ _ _ _ _ _) ?_; intro w4 G4 k4))
  have b2 := hb1.trans (hb2.mono hb1.size)
  have b3 := b2.trans (hb3.mono b2.size)
  have b4 := b3.trans ((k4.mono (fun _ e => (show w.heap.size ≤ _ by have := b2.size; omega))).below b3.size (fun _ h => h))
  have R4 := (R2.carry (Nat.le_refl _) hb3).apart k4 (fun ad had h0 e => by have := R2.blk h0 had; omega)
  have hT4 := Nm.tabs_below hT b4
  have hB4 := hB.carry b4
  have n2l := R4.len
  have cT2 := rtwin_any (twU U) a2 n2 c2 (ss.take 40) z K V w4 (by have := tw_size U; omega) R4 hK hV
  rw [tw_tw, tk_tk] at cT2
  have tws := tw_size U
  clear h67 G1 R1 hb1 hb2 hb3 G3 k4 b2 b3 R2
  generalize twU U = u at *
  generalize ss.take 40 = sl at *
  go_upto_region 7 with (first
    | (refine wp_load_rec rfl (.tmp 5) rfl g5 rfl _ G4 (h67' a2 n2 c2) ?_)
    | (go_at_call 12; refine cT2.mono ?_; rintro e w5 ⟨⟨a5, n5, c5, rfl, R5⟩, hb5⟩; have b5 := b4.trans (hb5.mono b4.size))
    | (go_at_call 13; refine (write_bad u a5 n5 c5 z K V w5 (by omega) (Nm.tabs_below hT b5) (by rw [← R5.len]; exact h1)).mono ?_; rintro e w6 ⟨rfl, hb6⟩; have b6 := b5.trans (hb6.mono b5.size)))
  have bq := b6
  have Yq := hY.carry (Nat.le_refl _) bq
  clear cT2 G4 R4
  go_upto_region 8 with (first
    | (go_at_call 17; refine (few8_any b m d ys _ Yq).mono ?_; rintro e v1 ⟨a11, n11, c11, rfl, R11, hb11⟩; have b11 := bq.trans (hb11.mono bq.size); have n11l : n11 ≤ 200 := by (rw [← R11.len, List.length_take]; omega))
    | (go_at_call 16; refine (read_no a11 n11 c11 (ys.take 200) v1 R11 (by omega) (Nm.tabs_below hT b11) (hB.carry b11) h2).mono ?_; rintro e v2 ⟨rfl, hb12⟩; have b12 := b11.trans (hb12.mono b11.size))
    | (refine wp_alloc_row rfl 28 rfl rec0 67 zero_rec ?_; intro g10 v3 G13 hg10 hb13)
    | (refine wp_store_rec rfl (.tmp 10) (.tmp 41) rfl g10 rfl _ rfl _ G13 rec0_len rec0_len (rec_one _ _ _ _ _ _ _) ?_; intro v4 G14 k14))
  have b13 := b12.trans (hb13.mono b12.size)
  have b14 := b13.trans ((k14.mono (fun _ e => (show w.heap.size ≤ _ by have := b12.size; omega))).below b13.size (fun _ h => h))
  have Z14 : Rd v4 none 0 0 [] := ⟨rfl, Nat.le_refl _, by unfold maxLen; omega, fun _ => rfl, Bd.nil, fun _ _ j hj => by omega⟩
  go_wp2_with (first
    | (refine wp_load_rec rfl (.tmp 10) rfl g10 rfl _ G14 rec0_len ?_)
    | (refine wp_build_rec0 rfl rfl ?_)
    | (go_at_call 10; refine (same_true ⟨#[]⟩ none none 0 0 0 0 [] 0 Z32 Z32 _ Z14 Z14 (by simp [Z32]) (by simp [Z32])).mono ?_; rintro e v5 ⟨rfl, hb15⟩; have b15 := b14.trans (hb15.mono b14.size))
    | (go_at_call 11; refine (wakes_any _).mono ?_; rintro e v6 ⟨rfl, hb16⟩; have b16 := b15.trans (hb16.mono b15.size)))
  go_ret
  exact ⟨rfl, b16⟩

set_option maxRecDepth 100000 in
set_option maxHeartbeats 1600000 in
theorem back_01 (U : ByteArray) (a : Option Addr) (n c : Nat) (ss : List Int) (z : Int) (K V : List Int) (b : Option Addr) (m d : Nat) (ys : List Int) (w : World) (hU : U.size ≤ 9223372036854775807) (hR : Rd w a n c ss) (hK : K.length = 32) (hV : V.length = 32) (_ : Bd K) (_ : Bd V) (hY : Rd w b m d ys) (hT : Lib.Utf8Tabs 0 1 w) (hB : Tabs w) (h1 : rightB (twU U) (ss.take 40).length z = false) (h2 : recOk (ys.take 200) = true) :
    Calls Tryd.prog 5 #[.agg (recL (.string U) (.slice a n c) (.int .i64 z) K V).toArray, .slice b m d] w fun e w' => e = .returned (.bool true) ∧ Below w.heap.size w w' := by
  have h67 := rec_len (.string U) (.slice a n c) (.int .i64 z) hK hV
  have h67' := fun a2 n2 c2 => rec_len (.string (twU U)) (.slice a2 n2 c2) (.int .i64 z) hK hV
  go_enter Tryd.func5, Tryd.ntmps5
  go_upto_region 1 with (refine wp_box_row rfl 28 (.tmp 0) rfl (recL (.string U) (.slice a n c) (.int .i64 z) K V) rfl ?_; intro g2 w1 G1 hg1 hb1)
  have G1 : RcAt w1 g2 _ := G1
  have R1 := hR.carry (Nat.le_refl _) hb1
  go_upto_region 2 with (first
    | (refine wp_load_rec rfl (.tmp 2) rfl g2 rfl _ G1 h67 ?_)
    | (go_at_call 12; refine (rtwin_any U a n c ss z K V w1 hU R1 hK hV).mono ?_; rintro e w2 ⟨⟨a2, n2, c2, rfl, R2⟩, hb2⟩)
    | (refine wp_alloc_row rfl 28 rfl rec0 67 zero_rec ?_; intro g5 w3 G3 hg5 hb3)
    | (refine wp_store_rec rfl (.tmp 5) (.tmp 15) rfl g5 rfl _ rfl _ G3 rec0_len (h67' a2 n2 c2) (rec_one _ _ _ _ _ _ _) ?_; intro w4 G4 k4))
  have b2 := hb1.trans (hb2.mono hb1.size)
  have b3 := b2.trans (hb3.mono b2.size)
  have b4 := b3.trans ((k4.mono (fun _ e => (show w.heap.size ≤ _ by have := b2.size; omega))).below b3.size (fun _ h => h))
  have R4 := (R2.carry (Nat.le_refl _) hb3).apart k4 (fun ad had h0 e => by have := R2.blk h0 had; omega)
  have hT4 := Nm.tabs_below hT b4
  have hB4 := hB.carry b4
  have n2l := R4.len
  have cT2 := rtwin_any (twU U) a2 n2 c2 (ss.take 40) z K V w4 (by have := tw_size U; omega) R4 hK hV
  rw [tw_tw, tk_tk] at cT2
  have tws := tw_size U
  clear h67 G1 R1 hb1 hb2 hb3 G3 k4 b2 b3 R2
  generalize twU U = u at *
  generalize ss.take 40 = sl at *
  go_upto_region 7 with (first
    | (refine wp_load_rec rfl (.tmp 5) rfl g5 rfl _ G4 (h67' a2 n2 c2) ?_)
    | (go_at_call 12; refine cT2.mono ?_; rintro e w5 ⟨⟨a5, n5, c5, rfl, R5⟩, hb5⟩; have b5 := b4.trans (hb5.mono b4.size))
    | (go_at_call 13; refine (write_bad u a5 n5 c5 z K V w5 (by omega) (Nm.tabs_below hT b5) (by rw [← R5.len]; exact h1)).mono ?_; rintro e w6 ⟨rfl, hb6⟩; have b6 := b5.trans (hb6.mono b5.size)))
  have bq := b6
  have Yq := hY.carry (Nat.le_refl _) bq
  clear cT2 G4 R4
  obtain ⟨p1, p2⟩ := rec_back (ys.take 200) (hY.bytes.take 200) h2
  have bY := hY.bytes.take 200
  have bX3 : Bd (rx3 (ys.take 200)) := ((((bY.drop _).drop _).drop _).drop _).drop _
  have q3 : 32 ≤ (rx3 (ys.take 200)).length ∧ 32 ≤ (rx4 (ys.take 200)).length ∧ (usrT (ys.take 200)).size ≤ 1000 := by
    have h2' := h2
    unfold recOk usrOk at h2'
    simp only [Bool.and_eq_true, decide_eq_true_eq] at h2'
    exact ⟨h2'.2.2.2.2.1, h2'.2.2.2.2.2.1, by have := (prep_vld h2'.2.1.2).1; omega⟩
  have l3 : ((rx3 (ys.take 200)).take 32).length = 32 := by rw [List.length_take]; omega
  have l4 : ((rx4 (ys.take 200)).take 32).length = 32 := by rw [List.length_take]; omega
  have bK3 := bX3.take 32
  have bV3 : Bd ((rx4 (ys.take 200)).take 32) := (bX3.drop 32).take 32
  go_upto_region 8 with (first
    | (go_at_call 17; refine (few8_any b m d ys _ Yq).mono ?_; rintro e v1 ⟨a11, n11, c11, rfl, R11, hb11⟩; have b11 := bq.trans (hb11.mono bq.size); have n11l : n11 ≤ 200 := by (rw [← R11.len, List.length_take]; omega))
    | (go_at_call 16; refine (read_ok a11 n11 c11 (ys.take 200) v1 R11 (by omega) (Nm.tabs_below hT b11) (hB.carry b11) h2).mono ?_; rintro e v2 ⟨⟨a12, n12, c12, rfl, R12, _⟩, hb12⟩; have b12 := b11.trans (hb12.mono b11.size))
    | (refine wp_alloc_row rfl 28 rfl rec0 67 zero_rec ?_; intro g10 v3 G13 hg10 hb13)
    | (refine wp_store_rec rfl (.tmp 10) (.tmp 41) rfl g10 rfl _ rfl _ G13 rec0_len (rec_len _ _ _ l3 l4) (rec_one _ _ _ _ _ _ _) ?_; intro v4 G14 k14))
  have b13 := b12.trans (hb13.mono b12.size)
  have b14 := b13.trans ((k14.mono (fun _ e => (show w.heap.size ≤ _ by have := b12.size; omega))).below b13.size (fun _ h => h))
  have R14 := (R12.carry (Nat.le_refl _) hb13).apart k14 (fun ad had h0 e => by have := R12.blk h0 had; omega)
  have cW := write_ok (usrT (ys.take 200)) a12 n12 c12 (saltT (rx1 (ys.take 200))) _ _ _ v4 q3.2.2 R14 l3 l4 bK3 bV3 (Nm.tabs_below hT b14) (by rw [← R14.len]; exact p1)
  rw [p2] at cW
  have e67 := rec_len (.string (usrT (ys.take 200))) (.slice a12 n12 c12) (.int .i64 ((scan (rx2 (ys.take 200)) 0 0).1 : Nat)) l3 l4
  go_upto_region 10 with (first
    | (refine wp_load_rec rfl (.tmp 10) rfl g10 rfl _ G14 e67 ?_)
    | (go_at_call 13; refine cW.mono ?_; clear cW; rintro e v5 ⟨a15, n15, c15, rfl, R15, hb15⟩; have b15 := b14.trans (hb15.mono b14.size)))
  refine wp_region_lx (fun w' => Rd w' a15 n15 c15 (ys.take 200)) [] 14 (by kernel_rfl) (by kernel_rfl) ?_
  have hd16 : Below v5.heap.size v5 v5.drew := (Below.refl _ _).drew
  generalize World.drew v5 = W0 at hd16 ⊢
  have b16 := b15.trans (hd16.mono b15.size)
  have HS := R15.carry (Nat.le_refl _) hd16
  have Y16 := hY.carry (Nat.le_refl _) b16
  refine lx_rd 0 ?vA0 (by kernel_rfl) (fun _ _ d _ _ h => by cases d <;> exact h) (by kernel_rfl) HS rfl rfl rfl (fun w' hS => ?hA0) ?_
  case hA0 => first | (go_simp; rfl) | go_simp
  simp only [List.setIfInBounds_toArray, List.set_cons_zero, List.set_cons_succ]
  refine lx_rd 1 (.bool true) (by kernel_rfl) (fun _ _ d _ _ h => by cases d <;> exact h) (by kernel_rfl) HS rfl rfl rfl (fun w' hS => ?hA1) ?_
  case hA1 => first | (go_simp; rfl) | go_simp
  simp only [List.setIfInBounds_toArray, List.set_cons_zero, List.set_cons_succ]
  refine lx_rd 2 ?vA2 (by kernel_rfl) (fun _ _ d _ _ h => by cases d <;> exact h) (by kernel_rfl) HS rfl rfl rfl (fun w' hS => ?hA2) ?_
  case hA2 => first | (go_simp; rfl) | go_simp
  simp only [List.setIfInBounds_toArray, List.set_cons_zero, List.set_cons_succ]
  refine lx_rd 3 ?vA3 (by kernel_rfl) (fun _ _ d _ _ h => by cases d <;> exact h) (by kernel_rfl) HS rfl rfl rfl (fun w' hS => ?hA3) ?_
  case hA3 => first | (go_simp; rfl) | go_simp
  simp only [List.setIfInBounds_toArray, List.set_cons_zero, List.set_cons_succ]
  refine lx_rd 4 (.string (strOfNums (ys.take 200))) (by kernel_rfl) (fun _ _ d _ _ h => by cases d <;> exact h) (by kernel_rfl) HS rfl rfl rfl (fun w' hS => ?hA4) ?_
  case hA4 => have hq := hS.string; first | (go_simp; rfl) | go_simp
  simp only [List.setIfInBounds_toArray, List.set_cons_zero, List.set_cons_succ]
  refine lx_rd 5 ?vA5 (by kernel_rfl) (fun _ _ d _ _ h => by cases d <;> exact h) (by kernel_rfl) HS rfl rfl rfl (fun w' hS => ?hA5) ?_
  case hA5 => first | (go_simp; rfl) | go_simp
  simp only [List.setIfInBounds_toArray, List.set_cons_zero, List.set_cons_succ]
  refine lx_one 6 (by kernel_rfl) (stepT_call 17 ?a6 rfl rfl rfl ?r6 ?_)
  case r6 => first | (go_simp; rfl) | go_simp
  refine (few8_any b m d ys _ Y16).mono ?_
  rintro e w17 ⟨a17, n17, c17, rfl, R17, hb17⟩
  have b17 := b16.trans (hb17.mono b16.size)
  have HS17 := HS.carry (Nat.le_refl _) hb17
  refine ⟨_, rfl, fun _ => HS17, ?_⟩
  simp only [List.setIfInBounds_toArray, List.set_cons_zero, List.set_cons_succ]
  have hq17 := R17.string
  refine lx_one 7 (by kernel_rfl) (stepT_val (w' := w17) (.string (strOfNums (ys.take 200))) rfl rfl rfl ?r7 (fun _ => HS17) ?_)
  case r7 => first | (go_simp; rfl) | go_simp
  simp only [List.setIfInBounds_toArray, List.set_cons_zero, List.set_cons_succ]
  refine lx_rd 8 (.bool true) (by kernel_rfl) (fun _ _ d _ _ h => by cases d <;> exact h) (by kernel_rfl) HS17 rfl rfl rfl (fun w' hS => ?hD8) ?_
  case hD8 => first | (go_simp; rfl) | go_simp
  simp only [List.setIfInBounds_toArray, List.set_cons_zero, List.set_cons_succ]
  refine lx_rd 9 ?vD9 (by kernel_rfl) (fun _ _ d _ _ h => by cases d <;> exact h) (by kernel_rfl) HS17 rfl rfl rfl (fun w' hS => ?hD9) ?_
  case hD9 => first | (go_simp; rfl) | go_simp
  simp only [List.setIfInBounds_toArray, List.set_cons_zero, List.set_cons_succ]
  refine lx_rd 10 ?vD10 (by kernel_rfl) (fun _ _ d _ _ h => by cases d <;> exact h) (by kernel_rfl) HS17 rfl rfl rfl (fun w' hS => ?hD10) ?_
  case hD10 => first | (go_simp; rfl) | go_simp
  simp only [List.setIfInBounds_toArray, List.set_cons_zero, List.set_cons_succ]
  refine lx_one 11 (by kernel_rfl) (stepT_call 11 ?a11 rfl rfl rfl ?r11 ?_)
  case r11 => first | (go_simp; rfl) | go_simp
  refine (wakes_any _).mono ?_
  rintro e w18 ⟨rfl, hb18⟩
  have b18 := b17.trans (hb18.mono b17.size)
  have HS18 := HS17.carry (Nat.le_refl _) hb18
  refine ⟨_, rfl, fun _ => HS18, ?_⟩
  simp only [List.setIfInBounds_toArray, List.set_cons_zero, List.set_cons_succ]
  refine lx_rd 12 ?vE12 (by kernel_rfl) (fun _ _ d _ _ h => by cases d <;> exact h) (by kernel_rfl) HS18 rfl rfl rfl (fun w' hS => ?hE12) ?_
  case hE12 => first | (go_simp; rfl) | go_simp
  simp only [List.setIfInBounds_toArray, List.set_cons_zero, List.set_cons_succ]
  refine lx_rd 13 ?vE13 (by kernel_rfl) (fun _ _ d _ _ h => by cases d <;> exact h) (by kernel_rfl) HS18 rfl rfl rfl (fun w' hS => ?hE13) ?_
  case hE13 => first | (go_simp; rfl) | go_simp
  simp only [List.setIfInBounds_toArray, List.set_cons_zero, List.set_cons_succ]
  refine lx_nil (by kernel_rfl) ?_
  go_wp2
  go_ret
  exact ⟨rfl, b18⟩

set_option maxRecDepth 100000 in
set_option maxHeartbeats 1600000 in
theorem back_10 (U : ByteArray) (a : Option Addr) (n c : Nat) (ss : List Int) (z : Int) (K V : List Int) (b : Option Addr) (m d : Nat) (ys : List Int) (w : World) (hU : U.size ≤ 9223372036854775807) (hR : Rd w a n c ss) (hK : K.length = 32) (hV : V.length = 32) (bK : Bd K) (bV : Bd V) (hY : Rd w b m d ys) (hT : Lib.Utf8Tabs 0 1 w) (hB : Tabs w) (h1 : rightB (twU U) (ss.take 40).length z = true) (h2 : recOk (ys.take 200) = false) :
    Calls Tryd.prog 5 #[.agg (recL (.string U) (.slice a n c) (.int .i64 z) K V).toArray, .slice b m d] w fun e w' => e = .returned (.bool true) ∧ Below w.heap.size w w' := by
  have h67 := rec_len (.string U) (.slice a n c) (.int .i64 z) hK hV
  have h67' := fun a2 n2 c2 => rec_len (.string (twU U)) (.slice a2 n2 c2) (.int .i64 z) hK hV
  go_enter Tryd.func5, Tryd.ntmps5
  go_upto_region 1 with (refine wp_box_row rfl 28 (.tmp 0) rfl (recL (.string U) (.slice a n c) (.int .i64 z) K V) rfl ?_; intro g2 w1 G1 hg1 hb1)
  have G1 : RcAt w1 g2 _ := G1
  have R1 := hR.carry (Nat.le_refl _) hb1
  go_upto_region 2 with (first
    | (refine wp_load_rec rfl (.tmp 2) rfl g2 rfl _ G1 h67 ?_)
    | (go_at_call 12; refine (rtwin_any U a n c ss z K V w1 hU R1 hK hV).mono ?_; rintro e w2 ⟨⟨a2, n2, c2, rfl, R2⟩, hb2⟩)
    | (refine wp_alloc_row rfl 28 rfl rec0 67 zero_rec ?_; intro g5 w3 G3 hg5 hb3)
    | (refine wp_store_rec rfl (.tmp 5) (.tmp 15) rfl g5 rfl _ rfl _ G3 rec0_len (h67' a2 n2 c2) (rec_one _ _ _ _ _ _ _) ?_; intro w4 G4 k4))
  have b2 := hb1.trans (hb2.mono hb1.size)
  have b3 := b2.trans (hb3.mono b2.size)
  have b4 := b3.trans ((k4.mono (fun _ e => (show w.heap.size ≤ _ by have := b2.size; omega))).below b3.size (fun _ h => h))
  have R4 := (R2.carry (Nat.le_refl _) hb3).apart k4 (fun ad had h0 e => by have := R2.blk h0 had; omega)
  have hT4 := Nm.tabs_below hT b4
  have hB4 := hB.carry b4
  have n2l := R4.len
  have cT2 := rtwin_any (twU U) a2 n2 c2 (ss.take 40) z K V w4 (by have := tw_size U; omega) R4 hK hV
  rw [tw_tw, tk_tk] at cT2
  have tws := tw_size U
  clear h67 G1 R1 hb1 hb2 hb3 G3 k4 b2 b3 R2
  generalize twU U = u at *
  generalize ss.take 40 = sl at *
  obtain ⟨zn, rfl⟩ : ∃ zn : Nat, z = (zn : Int) := by
    unfold rightB at h1
    simp only [Bool.and_eq_true, decide_eq_true_eq] at h1
    exact ⟨z.toNat, by omega⟩
  obtain ⟨o1, o2, o3, o4, o5, o6⟩ := rec_there u sl zn K V hK hV h1
  go_upto_region 4 with (first
    | (refine wp_load_rec rfl (.tmp 5) rfl g5 rfl _ G4 (h67' a2 n2 c2) ?_)
    | (go_at_call 12; refine cT2.mono ?_; rintro e w5 ⟨⟨a5, n5, c5, rfl, R5⟩, hb5⟩; have b5 := b4.trans (hb5.mono b4.size))
    | (go_at_call 13; refine (write_ok u a5 n5 c5 sl zn K V w5 (by omega) R5 hK hV bK bV (Nm.tabs_below hT b5) (by rw [← R5.len]; exact h1)).mono ?_; rintro e w6 ⟨a6, m6, c6, rfl, R6, hb6⟩; have b6 := b5.trans (hb6.mono b5.size)))
  have G6 := (G4.below hb5).below hb6
  have R46 := (R4.carry (Nat.le_refl _) hb5).carry (Nat.le_refl _) hb6
  have l6 := R6.len
  have lX : (recForm u sl zn K V).length ≤ 164 := by
    unfold recOk at o1
    simp only [Bool.and_eq_true, decide_eq_true_eq] at o1
    exact o1.1
  have cR := read_ok a6 m6 c6 _ w6 R6 (by omega) (Nm.tabs_below hT b6) (hB.carry b6) o1
  rw [o2, o3, o4, o5, o6] at cR
  clear o1 o2 o3 o4 o5 o6
  go_upto_region 5 with (first
    | (go_at_call 16; refine cR.mono ?_; clear cR; rintro e w7 ⟨⟨a7, n7, c7, rfl, R7, _⟩, hb7⟩; have b7 := b6.trans (hb7.mono b6.size))
    | (refine wp_alloc_row rfl 28 rfl rec0 67 zero_rec ?_; intro g8 w8 G8 hg8 hb8)
    | (refine wp_store_rec rfl (.tmp 8) (.tmp 27) rfl g8 rfl _ rfl _ G8 rec0_len (h67' a7 n7 c7) (rec_one _ _ _ _ _ _ _) ?_; intro w9 G9 k9))
  have b8 := b7.trans (hb8.mono b7.size)
  have b9 := b8.trans ((k9.mono (fun _ e => (show w.heap.size ≤ _ by have := b7.size; omega))).below b8.size (fun _ h => h))
  have g6l := G6.lt
  have G59 := ((G6.below hb7).below hb8).keep k9 (fun e => by have := hb7.size; omega)
  have R49 := ((R46.carry (Nat.le_refl _) hb7).carry (Nat.le_refl _) hb8).apart k9 (fun ad had h0 e => by have := (R46.carry (Nat.le_refl _) hb7).blk h0 had; omega)
  have R79 := (R7.carry (Nat.le_refl _) hb8).apart k9 (fun ad had h0 e => by have := R7.blk h0 had; omega)
  have hsz : ∀ cs : List Value, cs.length = 67 → (Tryd.prog.info? 28).map (·.size) = some cs.toArray.size := fun cs h => by
    rw [show (Tryd.prog.info? 28).map (·.size) = some 67 from by kernel_rfl]; simp [h]
  have e5 := h67' a2 n2 c2
  have e8 := h67' a7 n7 c7
  go_upto_region 7 with (first
    | (refine wp_execW rfl (exec_load_row 28 (.tmp 5) rfl g5 rfl 28 _ _ G59 Tryd.underlying28 (hsz _ e5)) ?_)
    | (refine wp_execW rfl (exec_load_row 28 (.tmp 8) rfl g8 rfl 28 _ _ G9 Tryd.underlying28 (hsz _ e8)) ?_)
    | (go_at_call 10; refine (same_true u a2 a7 n2 n7 c2 c7 sl zn K V _ R49 R79 hK hV).mono ?_; rintro e w10 ⟨rfl, hb10⟩; have bq := b9.trans (hb10.mono b9.size)))
  have Yq := hY.carry (Nat.le_refl _) bq
  clear cT2 G4 R4
  go_upto_region 8 with (first
    | (go_at_call 17; refine (few8_any b m d ys _ Yq).mono ?_; rintro e v1 ⟨a11, n11, c11, rfl, R11, hb11⟩; have b11 := bq.trans (hb11.mono bq.size); have n11l : n11 ≤ 200 := by (rw [← R11.len, List.length_take]; omega))
    | (go_at_call 16; refine (read_no a11 n11 c11 (ys.take 200) v1 R11 (by omega) (Nm.tabs_below hT b11) (hB.carry b11) h2).mono ?_; rintro e v2 ⟨rfl, hb12⟩; have b12 := b11.trans (hb12.mono b11.size))
    | (refine wp_alloc_row rfl 28 rfl rec0 67 zero_rec ?_; intro g10 v3 G13 hg10 hb13)
    | (refine wp_store_rec rfl (.tmp 10) (.tmp 41) rfl g10 rfl _ rfl _ G13 rec0_len rec0_len (rec_one _ _ _ _ _ _ _) ?_; intro v4 G14 k14))
  have b13 := b12.trans (hb13.mono b12.size)
  have b14 := b13.trans ((k14.mono (fun _ e => (show w.heap.size ≤ _ by have := b12.size; omega))).below b13.size (fun _ h => h))
  have Z14 : Rd v4 none 0 0 [] := ⟨rfl, Nat.le_refl _, by unfold maxLen; omega, fun _ => rfl, Bd.nil, fun _ _ j hj => by omega⟩
  go_wp2_with (first
    | (refine wp_load_rec rfl (.tmp 10) rfl g10 rfl _ G14 rec0_len ?_)
    | (refine wp_build_rec0 rfl rfl ?_)
    | (go_at_call 10; refine (same_true ⟨#[]⟩ none none 0 0 0 0 [] 0 Z32 Z32 _ Z14 Z14 (by simp [Z32]) (by simp [Z32])).mono ?_; rintro e v5 ⟨rfl, hb15⟩; have b15 := b14.trans (hb15.mono b14.size))
    | (go_at_call 11; refine (wakes_any _).mono ?_; rintro e v6 ⟨rfl, hb16⟩; have b16 := b15.trans (hb16.mono b15.size)))
  go_ret
  exact ⟨rfl, b16⟩

set_option maxRecDepth 100000 in
set_option maxHeartbeats 1600000 in
theorem back_11 (U : ByteArray) (a : Option Addr) (n c : Nat) (ss : List Int) (z : Int) (K V : List Int) (b : Option Addr) (m d : Nat) (ys : List Int) (w : World) (hU : U.size ≤ 9223372036854775807) (hR : Rd w a n c ss) (hK : K.length = 32) (hV : V.length = 32) (bK : Bd K) (bV : Bd V) (hY : Rd w b m d ys) (hT : Lib.Utf8Tabs 0 1 w) (hB : Tabs w) (h1 : rightB (twU U) (ss.take 40).length z = true) (h2 : recOk (ys.take 200) = true) :
    Calls Tryd.prog 5 #[.agg (recL (.string U) (.slice a n c) (.int .i64 z) K V).toArray, .slice b m d] w fun e w' => e = .returned (.bool true) ∧ Below w.heap.size w w' := by
  have h67 := rec_len (.string U) (.slice a n c) (.int .i64 z) hK hV
  have h67' := fun a2 n2 c2 => rec_len (.string (twU U)) (.slice a2 n2 c2) (.int .i64 z) hK hV
  go_enter Tryd.func5, Tryd.ntmps5
  go_upto_region 1 with (refine wp_box_row rfl 28 (.tmp 0) rfl (recL (.string U) (.slice a n c) (.int .i64 z) K V) rfl ?_; intro g2 w1 G1 hg1 hb1)
  have G1 : RcAt w1 g2 _ := G1
  have R1 := hR.carry (Nat.le_refl _) hb1
  go_upto_region 2 with (first
    | (refine wp_load_rec rfl (.tmp 2) rfl g2 rfl _ G1 h67 ?_)
    | (go_at_call 12; refine (rtwin_any U a n c ss z K V w1 hU R1 hK hV).mono ?_; rintro e w2 ⟨⟨a2, n2, c2, rfl, R2⟩, hb2⟩)
    | (refine wp_alloc_row rfl 28 rfl rec0 67 zero_rec ?_; intro g5 w3 G3 hg5 hb3)
    | (refine wp_store_rec rfl (.tmp 5) (.tmp 15) rfl g5 rfl _ rfl _ G3 rec0_len (h67' a2 n2 c2) (rec_one _ _ _ _ _ _ _) ?_; intro w4 G4 k4))
  have b2 := hb1.trans (hb2.mono hb1.size)
  have b3 := b2.trans (hb3.mono b2.size)
  have b4 := b3.trans ((k4.mono (fun _ e => (show w.heap.size ≤ _ by have := b2.size; omega))).below b3.size (fun _ h => h))
  have R4 := (R2.carry (Nat.le_refl _) hb3).apart k4 (fun ad had h0 e => by have := R2.blk h0 had; omega)
  have hT4 := Nm.tabs_below hT b4
  have hB4 := hB.carry b4
  have n2l := R4.len
  have cT2 := rtwin_any (twU U) a2 n2 c2 (ss.take 40) z K V w4 (by have := tw_size U; omega) R4 hK hV
  rw [tw_tw, tk_tk] at cT2
  have tws := tw_size U
  clear h67 G1 R1 hb1 hb2 hb3 G3 k4 b2 b3 R2
  generalize twU U = u at *
  generalize ss.take 40 = sl at *
  obtain ⟨zn, rfl⟩ : ∃ zn : Nat, z = (zn : Int) := by
    unfold rightB at h1
    simp only [Bool.and_eq_true, decide_eq_true_eq] at h1
    exact ⟨z.toNat, by omega⟩
  obtain ⟨o1, o2, o3, o4, o5, o6⟩ := rec_there u sl zn K V hK hV h1
  go_upto_region 4 with (first
    | (refine wp_load_rec rfl (.tmp 5) rfl g5 rfl _ G4 (h67' a2 n2 c2) ?_)
    | (go_at_call 12; refine cT2.mono ?_; rintro e w5 ⟨⟨a5, n5, c5, rfl, R5⟩, hb5⟩; have b5 := b4.trans (hb5.mono b4.size))
    | (go_at_call 13; refine (write_ok u a5 n5 c5 sl zn K V w5 (by omega) R5 hK hV bK bV (Nm.tabs_below hT b5) (by rw [← R5.len]; exact h1)).mono ?_; rintro e w6 ⟨a6, m6, c6, rfl, R6, hb6⟩; have b6 := b5.trans (hb6.mono b5.size)))
  have G6 := (G4.below hb5).below hb6
  have R46 := (R4.carry (Nat.le_refl _) hb5).carry (Nat.le_refl _) hb6
  have l6 := R6.len
  have lX : (recForm u sl zn K V).length ≤ 164 := by
    unfold recOk at o1
    simp only [Bool.and_eq_true, decide_eq_true_eq] at o1
    exact o1.1
  have cR := read_ok a6 m6 c6 _ w6 R6 (by omega) (Nm.tabs_below hT b6) (hB.carry b6) o1
  rw [o2, o3, o4, o5, o6] at cR
  clear o1 o2 o3 o4 o5 o6
  go_upto_region 5 with (first
    | (go_at_call 16; refine cR.mono ?_; clear cR; rintro e w7 ⟨⟨a7, n7, c7, rfl, R7, _⟩, hb7⟩; have b7 := b6.trans (hb7.mono b6.size))
    | (refine wp_alloc_row rfl 28 rfl rec0 67 zero_rec ?_; intro g8 w8 G8 hg8 hb8)
    | (refine wp_store_rec rfl (.tmp 8) (.tmp 27) rfl g8 rfl _ rfl _ G8 rec0_len (h67' a7 n7 c7) (rec_one _ _ _ _ _ _ _) ?_; intro w9 G9 k9))
  have b8 := b7.trans (hb8.mono b7.size)
  have b9 := b8.trans ((k9.mono (fun _ e => (show w.heap.size ≤ _ by have := b7.size; omega))).below b8.size (fun _ h => h))
  have g6l := G6.lt
  have G59 := ((G6.below hb7).below hb8).keep k9 (fun e => by have := hb7.size; omega)
  have R49 := ((R46.carry (Nat.le_refl _) hb7).carry (Nat.le_refl _) hb8).apart k9 (fun ad had h0 e => by have := (R46.carry (Nat.le_refl _) hb7).blk h0 had; omega)
  have R79 := (R7.carry (Nat.le_refl _) hb8).apart k9 (fun ad had h0 e => by have := R7.blk h0 had; omega)
  have hsz : ∀ cs : List Value, cs.length = 67 → (Tryd.prog.info? 28).map (·.size) = some cs.toArray.size := fun cs h => by
    rw [show (Tryd.prog.info? 28).map (·.size) = some 67 from by kernel_rfl]; simp [h]
  have e5 := h67' a2 n2 c2
  have e8 := h67' a7 n7 c7
  go_upto_region 7 with (first
    | (refine wp_execW rfl (exec_load_row 28 (.tmp 5) rfl g5 rfl 28 _ _ G59 Tryd.underlying28 (hsz _ e5)) ?_)
    | (refine wp_execW rfl (exec_load_row 28 (.tmp 8) rfl g8 rfl 28 _ _ G9 Tryd.underlying28 (hsz _ e8)) ?_)
    | (go_at_call 10; refine (same_true u a2 a7 n2 n7 c2 c7 sl zn K V _ R49 R79 hK hV).mono ?_; rintro e w10 ⟨rfl, hb10⟩; have bq := b9.trans (hb10.mono b9.size)))
  have Yq := hY.carry (Nat.le_refl _) bq
  clear cT2 G4 R4
  obtain ⟨p1, p2⟩ := rec_back (ys.take 200) (hY.bytes.take 200) h2
  have bY := hY.bytes.take 200
  have bX3 : Bd (rx3 (ys.take 200)) := ((((bY.drop _).drop _).drop _).drop _).drop _
  have q3 : 32 ≤ (rx3 (ys.take 200)).length ∧ 32 ≤ (rx4 (ys.take 200)).length ∧ (usrT (ys.take 200)).size ≤ 1000 := by
    have h2' := h2
    unfold recOk usrOk at h2'
    simp only [Bool.and_eq_true, decide_eq_true_eq] at h2'
    exact ⟨h2'.2.2.2.2.1, h2'.2.2.2.2.2.1, by have := (prep_vld h2'.2.1.2).1; omega⟩
  have l3 : ((rx3 (ys.take 200)).take 32).length = 32 := by rw [List.length_take]; omega
  have l4 : ((rx4 (ys.take 200)).take 32).length = 32 := by rw [List.length_take]; omega
  have bK3 := bX3.take 32
  have bV3 : Bd ((rx4 (ys.take 200)).take 32) := (bX3.drop 32).take 32
  go_upto_region 8 with (first
    | (go_at_call 17; refine (few8_any b m d ys _ Yq).mono ?_; rintro e v1 ⟨a11, n11, c11, rfl, R11, hb11⟩; have b11 := bq.trans (hb11.mono bq.size); have n11l : n11 ≤ 200 := by (rw [← R11.len, List.length_take]; omega))
    | (go_at_call 16; refine (read_ok a11 n11 c11 (ys.take 200) v1 R11 (by omega) (Nm.tabs_below hT b11) (hB.carry b11) h2).mono ?_; rintro e v2 ⟨⟨a12, n12, c12, rfl, R12, _⟩, hb12⟩; have b12 := b11.trans (hb12.mono b11.size))
    | (refine wp_alloc_row rfl 28 rfl rec0 67 zero_rec ?_; intro g10 v3 G13 hg10 hb13)
    | (refine wp_store_rec rfl (.tmp 10) (.tmp 41) rfl g10 rfl _ rfl _ G13 rec0_len (rec_len _ _ _ l3 l4) (rec_one _ _ _ _ _ _ _) ?_; intro v4 G14 k14))
  have b13 := b12.trans (hb13.mono b12.size)
  have b14 := b13.trans ((k14.mono (fun _ e => (show w.heap.size ≤ _ by have := b12.size; omega))).below b13.size (fun _ h => h))
  have R14 := (R12.carry (Nat.le_refl _) hb13).apart k14 (fun ad had h0 e => by have := R12.blk h0 had; omega)
  have cW := write_ok (usrT (ys.take 200)) a12 n12 c12 (saltT (rx1 (ys.take 200))) _ _ _ v4 q3.2.2 R14 l3 l4 bK3 bV3 (Nm.tabs_below hT b14) (by rw [← R14.len]; exact p1)
  rw [p2] at cW
  have e67 := rec_len (.string (usrT (ys.take 200))) (.slice a12 n12 c12) (.int .i64 ((scan (rx2 (ys.take 200)) 0 0).1 : Nat)) l3 l4
  go_upto_region 10 with (first
    | (refine wp_load_rec rfl (.tmp 10) rfl g10 rfl _ G14 e67 ?_)
    | (go_at_call 13; refine cW.mono ?_; clear cW; rintro e v5 ⟨a15, n15, c15, rfl, R15, hb15⟩; have b15 := b14.trans (hb15.mono b14.size)))
  refine wp_region_lx (fun w' => Rd w' a15 n15 c15 (ys.take 200)) [] 14 (by kernel_rfl) (by kernel_rfl) ?_
  have hd16 : Below v5.heap.size v5 v5.drew := (Below.refl _ _).drew
  generalize World.drew v5 = W0 at hd16 ⊢
  have b16 := b15.trans (hd16.mono b15.size)
  have HS := R15.carry (Nat.le_refl _) hd16
  have Y16 := hY.carry (Nat.le_refl _) b16
  refine lx_rd 0 ?vA0 (by kernel_rfl) (fun _ _ d _ _ h => by cases d <;> exact h) (by kernel_rfl) HS rfl rfl rfl (fun w' hS => ?hA0) ?_
  case hA0 => first | (go_simp; rfl) | go_simp
  simp only [List.setIfInBounds_toArray, List.set_cons_zero, List.set_cons_succ]
  refine lx_rd 1 (.bool true) (by kernel_rfl) (fun _ _ d _ _ h => by cases d <;> exact h) (by kernel_rfl) HS rfl rfl rfl (fun w' hS => ?hA1) ?_
  case hA1 => first | (go_simp; rfl) | go_simp
  simp only [List.setIfInBounds_toArray, List.set_cons_zero, List.set_cons_succ]
  refine lx_rd 2 ?vA2 (by kernel_rfl) (fun _ _ d _ _ h => by cases d <;> exact h) (by kernel_rfl) HS rfl rfl rfl (fun w' hS => ?hA2) ?_
  case hA2 => first | (go_simp; rfl) | go_simp
  simp only [List.setIfInBounds_toArray, List.set_cons_zero, List.set_cons_succ]
  refine lx_rd 3 ?vA3 (by kernel_rfl) (fun _ _ d _ _ h => by cases d <;> exact h) (by kernel_rfl) HS rfl rfl rfl (fun w' hS => ?hA3) ?_
  case hA3 => first | (go_simp; rfl) | go_simp
  simp only [List.setIfInBounds_toArray, List.set_cons_zero, List.set_cons_succ]
  refine lx_rd 4 (.string (strOfNums (ys.take 200))) (by kernel_rfl) (fun _ _ d _ _ h => by cases d <;> exact h) (by kernel_rfl) HS rfl rfl rfl (fun w' hS => ?hA4) ?_
  case hA4 => have hq := hS.string; first | (go_simp; rfl) | go_simp
  simp only [List.setIfInBounds_toArray, List.set_cons_zero, List.set_cons_succ]
  refine lx_rd 5 ?vA5 (by kernel_rfl) (fun _ _ d _ _ h => by cases d <;> exact h) (by kernel_rfl) HS rfl rfl rfl (fun w' hS => ?hA5) ?_
  case hA5 => first | (go_simp; rfl) | go_simp
  simp only [List.setIfInBounds_toArray, List.set_cons_zero, List.set_cons_succ]
  refine lx_one 6 (by kernel_rfl) (stepT_call 17 ?a6 rfl rfl rfl ?r6 ?_)
  case r6 => first | (go_simp; rfl) | go_simp
  refine (few8_any b m d ys _ Y16).mono ?_
  rintro e w17 ⟨a17, n17, c17, rfl, R17, hb17⟩
  have b17 := b16.trans (hb17.mono b16.size)
  have HS17 := HS.carry (Nat.le_refl _) hb17
  refine ⟨_, rfl, fun _ => HS17, ?_⟩
  simp only [List.setIfInBounds_toArray, List.set_cons_zero, List.set_cons_succ]
  have hq17 := R17.string
  refine lx_one 7 (by kernel_rfl) (stepT_val (w' := w17) (.string (strOfNums (ys.take 200))) rfl rfl rfl ?r7 (fun _ => HS17) ?_)
  case r7 => first | (go_simp; rfl) | go_simp
  simp only [List.setIfInBounds_toArray, List.set_cons_zero, List.set_cons_succ]
  refine lx_rd 8 (.bool true) (by kernel_rfl) (fun _ _ d _ _ h => by cases d <;> exact h) (by kernel_rfl) HS17 rfl rfl rfl (fun w' hS => ?hD8) ?_
  case hD8 => first | (go_simp; rfl) | go_simp
  simp only [List.setIfInBounds_toArray, List.set_cons_zero, List.set_cons_succ]
  refine lx_rd 9 ?vD9 (by kernel_rfl) (fun _ _ d _ _ h => by cases d <;> exact h) (by kernel_rfl) HS17 rfl rfl rfl (fun w' hS => ?hD9) ?_
  case hD9 => first | (go_simp; rfl) | go_simp
  simp only [List.setIfInBounds_toArray, List.set_cons_zero, List.set_cons_succ]
  refine lx_rd 10 ?vD10 (by kernel_rfl) (fun _ _ d _ _ h => by cases d <;> exact h) (by kernel_rfl) HS17 rfl rfl rfl (fun w' hS => ?hD10) ?_
  case hD10 => first | (go_simp; rfl) | go_simp
  simp only [List.setIfInBounds_toArray, List.set_cons_zero, List.set_cons_succ]
  refine lx_one 11 (by kernel_rfl) (stepT_call 11 ?a11 rfl rfl rfl ?r11 ?_)
  case r11 => first | (go_simp; rfl) | go_simp
  refine (wakes_any _).mono ?_
  rintro e w18 ⟨rfl, hb18⟩
  have b18 := b17.trans (hb18.mono b17.size)
  have HS18 := HS17.carry (Nat.le_refl _) hb18
  refine ⟨_, rfl, fun _ => HS18, ?_⟩
  simp only [List.setIfInBounds_toArray, List.set_cons_zero, List.set_cons_succ]
  refine lx_rd 12 ?vE12 (by kernel_rfl) (fun _ _ d _ _ h => by cases d <;> exact h) (by kernel_rfl) HS18 rfl rfl rfl (fun w' hS => ?hE12) ?_
  case hE12 => first | (go_simp; rfl) | go_simp
  simp only [List.setIfInBounds_toArray, List.set_cons_zero, List.set_cons_succ]
  refine lx_rd 13 ?vE13 (by kernel_rfl) (fun _ _ d _ _ h => by cases d <;> exact h) (by kernel_rfl) HS18 rfl rfl rfl (fun w' hS => ?hE13) ?_
  case hE13 => first | (go_simp; rfl) | go_simp
  simp only [List.setIfInBounds_toArray, List.set_cons_zero, List.set_cons_succ]
  refine lx_nil (by kernel_rfl) ?_
  go_wp2
  go_ret
  exact ⟨rfl, b18⟩

theorem credsBack_any (U : ByteArray) (a : Option Addr) (n c : Nat) (ss : List Int) (z : Int) (K V : List Int) (b : Option Addr) (m d : Nat) (ys : List Int) (w : World) (hU : U.size ≤ 9223372036854775807) (hR : Rd w a n c ss) (hK : K.length = 32) (hV : V.length = 32) (bK : Bd K) (bV : Bd V) (hY : Rd w b m d ys) (hT : Lib.Utf8Tabs 0 1 w) (hB : Tabs w) :
    Calls Tryd.prog 5 #[.agg (recL (.string U) (.slice a n c) (.int .i64 z) K V).toArray, .slice b m d] w fun e w' => e = .returned (.bool true) ∧ Below w.heap.size w w' := by
  cases h1 : rightB (twU U) (ss.take 40).length z with
  | false =>
    cases h2 : recOk (ys.take 200) with
    | false => exact back_00 U a n c ss z K V b m d ys w hU hR hK hV bK bV hY hT hB h1 h2
    | true => exact back_01 U a n c ss z K V b m d ys w hU hR hK hV bK bV hY hT hB h1 h2
  | true =>
    cases h2 : recOk (ys.take 200) with
    | false => exact back_10 U a n c ss z K V b m d ys w hU hR hK hV bK bV hY hT hB h1 h2
    | true => exact back_11 U a n c ss z K V b m d ys w hU hR hK hV bK bV hY hT hB h1 h2

end Go.Proofs.YtiidjdedeenijaaDoor
