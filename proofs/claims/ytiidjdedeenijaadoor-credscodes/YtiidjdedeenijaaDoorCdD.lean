/- The law of creds' codes: the program's and the document's. -/
import Derived.Test.YtiidjdedeenijaaDoorCdC
import Derived.Test.YtiidjdedeenijaaDoorCdB
import Derived.Test.YtiidjdedeenijaaDoorCdP
import Derived.Test.YtiidjdedeenijaaDoorDrW
namespace Go.Proofs.YtiidjdedeenijaaDoor
open Go.RowKit

theorem tw_tw (u : ByteArray) : twU (twU u) = twU u := by
  unfold twU
  rw [nums_str ((nums_bd u).take 100), List.take_take, Nat.min_self]
theorem tk_tk (ss : List Int) : (ss.take 40).take 40 = ss.take 40 := by rw [List.take_take, Nat.min_self]
theorem tw_size (u : ByteArray) : (twU u).size ≤ 100 := by
  unfold twU
  rw [strOf_size, List.length_take]
  omega
theorem scan_some {xs : List Int} (h : (scan xs 0 0).2.2 = 0) : 0 < xs.length := by
  cases xs with
  | nil => exact absurd h (by decide)
  | cons x xs => simp

theorem uintR (xs : List Int) (hl : xs.length ≤ 1000) (h : (scan xs 0 0).2.2 = 0) (u : World) (p : Option Addr) (q r : Nat) (hR : Rd u p q r xs) :
    Calls Tryd.prog 39 #[.slice p q r] u fun e w' => ∃ a' n' c', e = .returned (.tuple #[.int .u64 (scan xs 0 0).1, .slice a' n' c', .int .i64 0]) ∧ Rd w' a' n' c' (xs.drop (scan xs 0 0).2.1) ∧ Below u.heap.size u w' ∧ ∀ ad, a' = some ad → u.heap.size ≤ ad.block := by
  refine (refUint_any p q r xs u hR (by have := hR.len; omega)).mono ?_
  rintro e w' (⟨h1, _⟩ | ⟨_, v, rfl, ho, hb⟩)
  · exact absurd h h1
  · obtain ⟨a1, n1, c1, rfl, hr, hn⟩ := ownRN (hR.bytes.drop _) ho
    exact ⟨a1, n1, c1, rfl, hr, hb, hn⟩
theorem uintN (xs : List Int) (hl : xs.length ≤ 1000) (h : (scan xs 0 0).2.2 ≠ 0) (u : World) (p : Option Addr) (q r : Nat) (hR : Rd u p q r xs) :
    Calls Tryd.prog 39 #[.slice p q r] u fun e w' => e = .returned (.tuple #[.int .u64 0, .slice none 0 0, .int .i64 ((scan xs 0 0).2.2 : Nat)]) ∧ Below u.heap.size u w' := by
  refine (refUint_any p q r xs u hR (by have := hR.len; omega)).mono ?_
  rintro e w' (⟨_, rfl, rfl⟩ | ⟨h1, _⟩)
  · exact ⟨rfl, Below.refl _ _⟩
  · exact absurd h1 h

theorem refCRead_ok (a : Option Addr) (n c : Nat) (xs : List Int) (w : World) (hR : Rd w a n c xs) (hn : n ≤ 200) (h : rOk xs = true) :
    Calls Tryd.prog 18 #[.slice a n c] w fun e w' => (∃ sa sn sc, e = .returned (.tuple #[.agg (recL (.string (usrT xs)) (.slice sa sn sc) (.int .i64 ((scan (rx2 xs) 0 0).1 : Nat)) ((rx3 xs).take 32) ((rx4 xs).take 32)).toArray, .bool true]) ∧ Rd w' sa sn sc (saltT (rx1 xs))) ∧ Below w.heap.size w w' := by
  have hl := hR.len
  unfold rOk saltOk numOk at h
  simp only [Bool.and_eq_true, decide_eq_true_eq] at h
  obtain ⟨ht, ⟨⟨a1, a2, a3⟩, a4⟩, ⟨b1, b2⟩, h5, h6⟩ := h
  have l1 : (rx1 xs).length ≤ 200 := by unfold rx1 usrR; rw [List.length_drop, List.length_drop]; omega
  have l2 : (rx2 xs).length ≤ 200 := by unfold rx2 saltR; rw [List.length_drop, List.length_drop]; omega
  have p2 := scan_some b1
  have lz : ((rx1 xs).drop (scan (rx1 xs) 0 0).2.1).length = (rx1 xs).length - (scan (rx1 xs) 0 0).2.1 := List.length_drop
  have lr : (rx2 xs).length = ((rx1 xs).drop (scan (rx1 xs) 0 0).2.1).length - (scan (rx1 xs) 0 0).1 := by unfold rx2 saltR; rw [List.length_drop]
  have lS : (saltT (rx1 xs)).length = (scan (rx1 xs) 0 0).1 := by unfold saltT; rw [List.length_take]; omega
  rw [lS] at h6
  have hU : (usrT xs).size ≤ 1000 := by unfold usrT; rw [strOf_size, List.length_take, List.length_drop]; omega
  refine rread_ok a n c xs w hR (usrT xs) (rx1 xs) ((rx1 xs).drop (scan (rx1 xs) 0 0).2.1) (rx3 xs) _ _ (fun u hu => ?_) (uintR (rx1 xs) (by omega) a1) (uintR (rx2 xs) (by omega) b1) (by omega) a2 a3 (by omega) (by omega) b2 h5 hU h6
  refine (refTextN a n c xs 64 u hu (by omega) (by omega) (by omega)).mono ?_
  rintro e w' (⟨h1, _⟩ | ⟨_, a', n', c', rfl, hr, hx, _⟩)
  · exact absurd ht h1
  · exact ⟨a', n', c', rfl, hr, hx⟩

theorem refCRead_no (a : Option Addr) (n c : Nat) (xs : List Int) (w : World) (hR : Rd w a n c xs) (hn : n ≤ 200) (h : rOk xs = false) :
    Calls Tryd.prog 18 #[.slice a n c] w fun e w' => e = .returned (.tuple #[.agg rec0.toArray, .bool false]) ∧ Below w.heap.size w w' := by
  have hl := hR.len
  by_cases ht : terr xs 64 = 0
  · have cT : ∀ u, Rd u a n c xs → Calls Tryd.prog 38 #[.slice a n c, .int .i64 64] u fun e w' => ∃ a' n' c', e = .returned (.tuple #[.string (usrT xs), .slice a' n' c', .int .i64 0]) ∧ Rd w' a' n' c' (rx1 xs) ∧ Below u.heap.size u w' := fun u hu => by
      refine (refTextN a n c xs 64 u hu (by omega) (by omega) (by omega)).mono ?_
      rintro e w' (⟨h1, _⟩ | ⟨_, a', n', c', rfl, hr, hx, _⟩)
      · exact absurd ht h1
      · exact ⟨a', n', c', rfl, hr, hx⟩
    have l1 : (rx1 xs).length ≤ 200 := by unfold rx1 usrR; rw [List.length_drop, List.length_drop]; omega
    have l2 : (rx2 xs).length ≤ 200 := by unfold rx2 saltR; rw [List.length_drop, List.length_drop]; omega
    have lz : ((rx1 xs).drop (scan (rx1 xs) 0 0).2.1).length = (rx1 xs).length - (scan (rx1 xs) 0 0).2.1 := List.length_drop
    have lr : (rx2 xs).length = ((rx1 xs).drop (scan (rx1 xs) 0 0).2.1).length - (scan (rx1 xs) 0 0).1 := by unfold rx2 saltR; rw [List.length_drop]
    by_cases a1 : (scan (rx1 xs) 0 0).2.2 = 0
    · have c1 := uintR (rx1 xs) (by omega) a1
      by_cases a2 : 1 ≤ (scan (rx1 xs) 0 0).1
      · by_cases a3 : (scan (rx1 xs) 0 0).1 ≤ 32
        · by_cases a4 : (scan (rx1 xs) 0 0).1 ≤ (rx1 xs).length - (scan (rx1 xs) 0 0).2.1
          · by_cases b1 : (scan (rx2 xs) 0 0).2.2 = 0
            · have p2 := scan_some b1
              have c2 := uintR (rx2 xs) (by omega) b1
              by_cases b2 : (scan (rx2 xs) 0 0).1 ≤ 4096
              · by_cases h5 : (rx3 xs).length = 64
                · have lS : (saltT (rx1 xs)).length = (scan (rx1 xs) 0 0).1 := by unfold saltT; rw [List.length_take]; omega
                  have hU : (usrT xs).size ≤ 1000 := by unfold usrT; rw [strOf_size, List.length_take, List.length_drop]; omega
                  have h6 : rightB (usrT xs) (scan (rx1 xs) 0 0).1 (scan (rx2 xs) 0 0).1 = false := by
                    rw [← lS]
                    unfold rOk saltOk numOk at h
                    rw [decide_eq_true ht, decide_eq_true ⟨a1, a2, a3⟩, decide_eq_true a4, decide_eq_true ⟨b1, b2⟩, decide_eq_true h5] at h
                    simpa using h
                  exact rread_no4 a n c xs w hR (usrT xs) (rx1 xs) ((rx1 xs).drop (scan (rx1 xs) 0 0).2.1) (rx3 xs) _ _ cT c1 c2 (by omega) a2 a3 (by omega) (by omega) b2 h5 hU h6
                · exact rread_no3c a n c xs w hR (usrT xs) (rx1 xs) ((rx1 xs).drop (scan (rx1 xs) 0 0).2.1) (rx3 xs) _ _ cT c1 c2 (by omega) a2 a3 (by omega) (by omega) b2 h5
              · exact rread_no3b a n c xs w hR (usrT xs) (rx1 xs) ((rx1 xs).drop (scan (rx1 xs) 0 0).2.1) (rx3 xs) _ _ cT c1 c2 (by omega) a2 a3 (by omega) (by omega) (by omega)
            · exact rread_no3a a n c xs w hR (usrT xs) (rx1 xs) ((rx1 xs).drop (scan (rx1 xs) 0 0).2.1) _ _ (by simpa using b1) cT c1 (uintN (rx2 xs) (by omega) b1) (by omega) a2 a3 (by omega)
          · exact rread_no2d a n c xs w hR (usrT xs) (rx1 xs) _ _ cT c1 (by omega) a2 a3 (by omega)
        · exact rread_no2c a n c xs w hR (usrT xs) (rx1 xs) _ _ cT c1 (by omega) a2 (by omega)
      · exact rread_no2b a n c xs w hR (usrT xs) (rx1 xs) _ _ cT c1 (by omega) (by omega)
    · exact rread_no2a a n c xs w hR (usrT xs) (rx1 xs) _ (by simpa using a1) cT (uintN (rx1 xs) (by omega) a1)
  · refine rread_no1 a n c xs w hR (terr xs 64 : Nat) (by simpa using ht) (fun u hu => ?_)
    refine (refTextN a n c xs 64 u hu (by omega) (by omega) (by omega)).mono ?_
    rintro e w' (⟨_, rfl, hx⟩ | ⟨h1, _⟩)
    · exact ⟨rfl, hx⟩
    · exact absurd h1 ht

set_option maxRecDepth 100000 in
set_option maxHeartbeats 3200000 in
theorem codes_00 (U : ByteArray) (a : Option Addr) (n c : Nat) (ss : List Int) (z : Int) (K V : List Int) (b : Option Addr) (m d : Nat) (ys : List Int) (w : World) (hU : U.size ≤ 9223372036854775807) (hR : Rd w a n c ss) (hK : K.length = 32) (hV : V.length = 32) (_ : Bd K) (_ : Bd V) (hY : Rd w b m d ys) (hT : Lib.Utf8Tabs 0 1 w) (hB : Tabs w) (h1 : rightB (twU U) (ss.take 40).length z = false) (h2 : recOk (ys.take 200) = false) :
    Calls Tryd.prog 4 #[.agg (recL (.string U) (.slice a n c) (.int .i64 z) K V).toArray, .slice b m d] w fun e w' => e = .returned (.bool true) ∧ Below w.heap.size w w' := by
  have h67 := rec_len (.string U) (.slice a n c) (.int .i64 z) hK hV
  have h67' := fun a2 n2 c2 => rec_len (.string (twU U)) (.slice a2 n2 c2) (.int .i64 z) hK hV
  go_enter Tryd.func4, Tryd.ntmps4
  go_upto_region 1 with (refine wp_box_row rfl 28 (.tmp 0) rfl (recL (.string U) (.slice a n c) (.int .i64 z) K V) rfl ?_; intro g2 w1 G1 hg1 hb1)
  have G1 : RcAt w1 g2 _ := G1
  have R1 := hR.carry (Nat.le_refl _) hb1
  go_upto_region 2 with (first
    | (refine wp_load_rec rfl (.tmp 2) rfl g2 rfl _ G1 h67 ?_)
    | (go_at_call 12; refine (rtwin_any U a n c ss z K V w1 hU R1 hK hV).mono ?_; rintro e w2 ⟨⟨a2, n2, c2, rfl, R2⟩, hb2⟩)
    | (refine wp_alloc_row rfl 28 rfl rec0 67 zero_rec ?_; intro g5 w3 G3 hg5 hb3)
    | (refine wp_store_rec rfl (.tmp 5) (.tmp 12) rfl g5 rfl _ rfl _ G3 rec0_len (h67' a2 n2 c2) (rec_one _ _ _ _ _ _ _) ?_; intro w4 G4 k4))
  have b2 := hb1.trans (hb2.mono hb1.size)
  have b3 := b2.trans (hb3.mono b2.size)
  have b4 := b3.trans ((k4.mono (fun _ e => (show w.heap.size ≤ _ by have := b2.size; omega))).below b3.size (fun _ h => h))
  have R4 := (R2.carry (Nat.le_refl _) hb3).apart k4 (fun ad had h0 e => by have := R2.blk h0 had; omega)
  have hT4 := Nm.tabs_below hT b4
  have hB4 := hB.carry b4
  have n2l := R4.len
  have cT2 := rtwin_any (twU U) a2 n2 c2 (ss.take 40) z K V w4 (by have := tw_size U; omega) R4 hK hV
  rw [tw_tw, tk_tk] at cT2
  have tws := tw_size U
  clear h67 G1 R1 hb1 hb2 hb3 G3 k4 b2 b3 R2
  generalize twU U = u at *
  generalize ss.take 40 = sl at *
  go_upto_region 3 with (first
    | (refine wp_load_rec rfl (.tmp 5) rfl g5 rfl _ G4 (h67' a2 n2 c2) ?_)
    | (go_at_call 12; refine cT2.mono ?_; rintro e w5 ⟨⟨a5, n5, c5, rfl, R5⟩, hb5⟩; have b5 := b4.trans (hb5.mono b4.size))
    | (go_at_call 13; refine (write_bad u a5 n5 c5 z K V w5 (by omega) (Nm.tabs_below hT b5) (by rw [← R5.len]; exact h1)).mono ?_; rintro e w6 ⟨rfl, hb6⟩; have b6 := b5.trans (hb6.mono b5.size)))
  have R46 := (R4.carry (Nat.le_refl _) hb5).carry (Nat.le_refl _) hb6
  have G6 := (G4.below hb5).below hb6
  have hsz : ∀ cs : List Value, cs.length = 67 → (Tryd.prog.info? 28).map (·.size) = some cs.toArray.size := fun cs h => by
    rw [show (Tryd.prog.info? 28).map (·.size) = some 67 from by kernel_rfl]; simp [h]
  have e5 := h67' a2 n2 c2
  refine wp_region_lx (fun w' => Below w6.drew.heap.size w6.drew w') [] 30 (by kernel_rfl) (by kernel_rfl) ?_
  have G6' : RcAt w6.drew g5 (recL (.string u) (.slice a2 n2 c2) (.int .i64 z) K V) := G6
  have b6' := b6.drew
  have R46' := R46.carry (Nat.le_refl _) (Below.refl _ w6).drew
  obtain ⟨W, HW⟩ : ∃ W, Hid (w6.drew = W) := ⟨_, rfl⟩
  rw [HW.out] at G6' b6' R46' ⊢
  clear cT2 G4 R4 G6 R46 R5 hb5 hb6 b5 b6
  have HS0 : Below W.heap.size W W := Below.refl _ _
  refine lx_rd 0 (.agg (recL (.string u) (.slice a2 n2 c2) (.int .i64 z) K V).toArray) (by kernel_rfl) (fun _ _ d _ _ h => by cases d <;> exact h) (by kernel_rfl) HS0 rfl rfl rfl (fun w' hS => ?hA0) ?_
  case hA0 => exact exec_load_row 28 (.tmp 5) rfl g5 rfl 28 _ _ (G6'.below hS) Tryd.underlying28 (hsz _ e5)
  simp only [List.setIfInBounds_toArray, List.set_cons_zero, List.set_cons_succ]
  refine lx_rd 2 ?vA2 (by kernel_rfl) (fun _ _ d _ _ h => by cases d <;> exact h) (by kernel_rfl) HS0 rfl rfl rfl (fun w' hS => ?hA2) ?_
  case hA2 => first | (go_simp; rfl) | (go_simp; done) | (go_simp; exact idx_ok (by omega) (by omega)) | (go_simp; exact wi64' (by omega) (by omega) (by omega)) | (go_simp; intro hh; exfalso; omega)
  simp only [List.setIfInBounds_toArray, List.set_cons_zero, List.set_cons_succ]
  refine lx_rd 3 (.bool false) (by kernel_rfl) (fun _ _ d _ _ h => by cases d <;> exact h) (by kernel_rfl) HS0 rfl rfl rfl (fun w' hS => ?hA3) ?_
  case hA3 => first | (go_simp; rfl) | (go_simp; done) | (go_simp; exact idx_ok (by omega) (by omega)) | (go_simp; exact wi64' (by omega) (by omega) (by omega)) | (go_simp; intro hh; exfalso; omega)
  simp only [List.setIfInBounds_toArray, List.set_cons_zero, List.set_cons_succ]
  refine lx_one 1 (by kernel_rfl) (stepT_call 14 #[.agg (recL (.string u) (.slice a2 n2 c2) (.int .i64 z) K V).toArray] rfl rfl rfl ?r1 ?_)
  case r1 => first | (go_simp; rfl) | go_simp
  refine (refRight_any u a2 n2 c2 z K V _ (by omega)).mono ?_
  rintro e w8 ⟨rfl, hb8⟩
  rw [show rightB u n2 z = false from by rw [← R46'.len]; exact h1]
  refine ⟨_, rfl, fun _ => hb8, ?_⟩
  simp only [List.setIfInBounds_toArray, List.set_cons_zero, List.set_cons_succ]
  refine lx_rd 4 (.bool false) (by kernel_rfl) (fun _ _ d _ _ h => by cases d <;> exact h) (by kernel_rfl) hb8 rfl rfl rfl (fun w' hS => ?hB4) ?_
  case hB4 => first | (go_simp; rfl) | (go_simp; done) | (go_simp; exact idx_ok (by omega) (by omega)) | (go_simp; exact wi64' (by omega) (by omega) (by omega)) | (go_simp; intro hh; exfalso; omega)
  simp only [List.setIfInBounds_toArray, List.set_cons_zero, List.set_cons_succ]
  refine lx_rd 5 (.bool false) (by kernel_rfl) (fun _ _ d _ _ h => by cases d <;> exact h) (by kernel_rfl) hb8 rfl rfl rfl (fun w' hS => ?hB5) ?_
  case hB5 => first | (go_simp; rfl) | (go_simp; done) | (go_simp; exact idx_ok (by omega) (by omega)) | (go_simp; exact wi64' (by omega) (by omega) (by omega)) | (go_simp; intro hh; exfalso; omega)
  simp only [List.setIfInBounds_toArray, List.set_cons_zero, List.set_cons_succ]
  refine lx_rd 6 ?vB6 (by kernel_rfl) (fun _ _ d _ _ h => by cases d <;> exact h) (by kernel_rfl) hb8 rfl rfl rfl (fun w' hS => ?hB6) ?_
  case hB6 => first | (go_simp; rfl) | (go_simp; done) | (go_simp; exact idx_ok (by omega) (by omega)) | (go_simp; exact wi64' (by omega) (by omega) (by omega)) | (go_simp; intro hh; exfalso; omega)
  simp only [List.setIfInBounds_toArray, List.set_cons_zero, List.set_cons_succ]
  refine lx_rd 7 (.bool false) (by kernel_rfl) (fun _ _ d _ _ h => by cases d <;> exact h) (by kernel_rfl) hb8 rfl rfl rfl (fun w' hS => ?hB7) ?_
  case hB7 => first | (go_simp; rfl) | (go_simp; done) | (go_simp; exact idx_ok (by omega) (by omega)) | (go_simp; exact wi64' (by omega) (by omega) (by omega)) | (go_simp; intro hh; exfalso; omega)
  simp only [List.setIfInBounds_toArray, List.set_cons_zero, List.set_cons_succ]
  refine lx_rd 8 (.bool false) (by kernel_rfl) (fun _ _ d _ _ h => by cases d <;> exact h) (by kernel_rfl) hb8 rfl rfl rfl (fun w' hS => ?hB8) ?_
  case hB8 => first | (go_simp; rfl) | (go_simp; done) | (go_simp; exact idx_ok (by omega) (by omega)) | (go_simp; exact wi64' (by omega) (by omega) (by omega)) | (go_simp; intro hh; exfalso; omega)
  simp only [List.setIfInBounds_toArray, List.set_cons_zero, List.set_cons_succ]
  refine lx_skip 9 (by kernel_rfl) (fun _ _ d _ _ h => by cases d <;> exact h) (by kernel_rfl) hb8 rfl rfl rfl ?_
  simp only [List.setIfInBounds_toArray, List.set_cons_zero, List.set_cons_succ]
  refine lx_skip 10 (by kernel_rfl) (fun _ _ d _ _ h => by cases d <;> exact h) (by kernel_rfl) hb8 rfl rfl rfl ?_
  simp only [List.setIfInBounds_toArray, List.set_cons_zero, List.set_cons_succ]
  refine lx_skip 11 (by kernel_rfl) (fun _ _ d _ _ h => by cases d <;> exact h) (by kernel_rfl) hb8 rfl rfl rfl ?_
  simp only [List.setIfInBounds_toArray, List.set_cons_zero, List.set_cons_succ]
  refine lx_skip 12 (by kernel_rfl) (fun _ _ d _ _ h => by cases d <;> exact h) (by kernel_rfl) hb8 rfl rfl rfl ?_
  simp only [List.setIfInBounds_toArray, List.set_cons_zero, List.set_cons_succ]
  refine lx_skip 13 (by kernel_rfl) (fun _ _ d _ _ h => by cases d <;> exact h) (by kernel_rfl) hb8 rfl rfl rfl ?_
  simp only [List.setIfInBounds_toArray, List.set_cons_zero, List.set_cons_succ]
  refine lx_skip 14 (by kernel_rfl) (fun _ _ d _ _ h => by cases d <;> exact h) (by kernel_rfl) hb8 rfl rfl rfl ?_
  simp only [List.setIfInBounds_toArray, List.set_cons_zero, List.set_cons_succ]
  refine lx_rd 15 (.bool false) (by kernel_rfl) (fun _ _ d _ _ h => by cases d <;> exact h) (by kernel_rfl) hb8 rfl rfl rfl (fun w' hS => ?hD15) ?_
  case hD15 => first | (go_simp; rfl) | (go_simp; done) | (go_simp; exact idx_ok (by omega) (by omega)) | (go_simp; exact wi64' (by omega) (by omega) (by omega)) | (go_simp; intro hh; exfalso; omega)
  simp only [List.setIfInBounds_toArray, List.set_cons_zero, List.set_cons_succ]
  refine lx_rd 16 (.bool false) (by kernel_rfl) (fun _ _ d _ _ h => by cases d <;> exact h) (by kernel_rfl) hb8 rfl rfl rfl (fun w' hS => ?hD16) ?_
  case hD16 => first | (go_simp; rfl) | (go_simp; done) | (go_simp; exact idx_ok (by omega) (by omega)) | (go_simp; exact wi64' (by omega) (by omega) (by omega)) | (go_simp; intro hh; exfalso; omega)
  simp only [List.setIfInBounds_toArray, List.set_cons_zero, List.set_cons_succ]
  refine lx_rd 17 (.bool false) (by kernel_rfl) (fun _ _ d _ _ h => by cases d <;> exact h) (by kernel_rfl) hb8 rfl rfl rfl (fun w' hS => ?hD17) ?_
  case hD17 => first | (go_simp; rfl) | (go_simp; done) | (go_simp; exact idx_ok (by omega) (by omega)) | (go_simp; exact wi64' (by omega) (by omega) (by omega)) | (go_simp; intro hh; exfalso; omega)
  simp only [List.setIfInBounds_toArray, List.set_cons_zero, List.set_cons_succ]
  refine lx_rd 18 ?vD18 (by kernel_rfl) (fun _ _ d _ _ h => by cases d <;> exact h) (by kernel_rfl) hb8 rfl rfl rfl (fun w' hS => ?hD18) ?_
  case hD18 => first | (go_simp; rfl) | (go_simp; done) | (go_simp; exact idx_ok (by omega) (by omega)) | (go_simp; exact wi64' (by omega) (by omega) (by omega)) | (go_simp; intro hh; exfalso; omega)
  simp only [List.setIfInBounds_toArray, List.set_cons_zero, List.set_cons_succ]
  refine lx_rd 19 (.bool true) (by kernel_rfl) (fun _ _ d _ _ h => by cases d <;> exact h) (by kernel_rfl) hb8 rfl rfl rfl (fun w' hS => ?hD19) ?_
  case hD19 => first | (go_simp; rfl) | (go_simp; done) | (go_simp; exact idx_ok (by omega) (by omega)) | (go_simp; exact wi64' (by omega) (by omega) (by omega)) | (go_simp; intro hh; exfalso; omega)
  simp only [List.setIfInBounds_toArray, List.set_cons_zero, List.set_cons_succ]
  refine lx_rd 20 (.bool true) (by kernel_rfl) (fun _ _ d _ _ h => by cases d <;> exact h) (by kernel_rfl) hb8 rfl rfl rfl (fun w' hS => ?hD20) ?_
  case hD20 => first | (go_simp; rfl) | (go_simp; done) | (go_simp; exact idx_ok (by omega) (by omega)) | (go_simp; exact wi64' (by omega) (by omega) (by omega)) | (go_simp; intro hh; exfalso; omega)
  simp only [List.setIfInBounds_toArray, List.set_cons_zero, List.set_cons_succ]
  refine lx_rd 21 ?vD21 (by kernel_rfl) (fun _ _ d _ _ h => by cases d <;> exact h) (by kernel_rfl) hb8 rfl rfl rfl (fun w' hS => ?hD21) ?_
  case hD21 => first | (go_simp; rfl) | (go_simp; done) | (go_simp; exact idx_ok (by omega) (by omega)) | (go_simp; exact wi64' (by omega) (by omega) (by omega)) | (go_simp; intro hh; exfalso; omega)
  simp only [List.setIfInBounds_toArray, List.set_cons_zero, List.set_cons_succ]
  refine lx_rd 22 (.bool false) (by kernel_rfl) (fun _ _ d _ _ h => by cases d <;> exact h) (by kernel_rfl) hb8 rfl rfl rfl (fun w' hS => ?hD22) ?_
  case hD22 => first | (go_simp; rfl) | (go_simp; done) | (go_simp; exact idx_ok (by omega) (by omega)) | (go_simp; exact wi64' (by omega) (by omega) (by omega)) | (go_simp; intro hh; exfalso; omega)
  simp only [List.setIfInBounds_toArray, List.set_cons_zero, List.set_cons_succ]
  refine lx_rd 23 (.bool false) (by kernel_rfl) (fun _ _ d _ _ h => by cases d <;> exact h) (by kernel_rfl) hb8 rfl rfl rfl (fun w' hS => ?hD23) ?_
  case hD23 => first | (go_simp; rfl) | (go_simp; done) | (go_simp; exact idx_ok (by omega) (by omega)) | (go_simp; exact wi64' (by omega) (by omega) (by omega)) | (go_simp; intro hh; exfalso; omega)
  simp only [List.setIfInBounds_toArray, List.set_cons_zero, List.set_cons_succ]
  refine lx_rd 24 ?vD24 (by kernel_rfl) (fun _ _ d _ _ h => by cases d <;> exact h) (by kernel_rfl) hb8 rfl rfl rfl (fun w' hS => ?hD24) ?_
  case hD24 => first | (go_simp; rfl) | (go_simp; done) | (go_simp; exact idx_ok (by omega) (by omega)) | (go_simp; exact wi64' (by omega) (by omega) (by omega)) | (go_simp; intro hh; exfalso; omega)
  simp only [List.setIfInBounds_toArray, List.set_cons_zero, List.set_cons_succ]
  refine lx_rd 25 (.int .i64 0) (by kernel_rfl) (fun _ _ d _ _ h => by cases d <;> exact h) (by kernel_rfl) hb8 rfl rfl rfl (fun w' hS => ?hD25) ?_
  case hD25 => first | (go_simp; rfl) | (go_simp; done) | (go_simp; exact idx_ok (by omega) (by omega)) | (go_simp; exact wi64' (by omega) (by omega) (by omega)) | (go_simp; intro hh; exfalso; omega)
  simp only [List.setIfInBounds_toArray, List.set_cons_zero, List.set_cons_succ]
  refine lx_rd 26 (.bool false) (by kernel_rfl) (fun _ _ d _ _ h => by cases d <;> exact h) (by kernel_rfl) hb8 rfl rfl rfl (fun w' hS => ?hD26) ?_
  case hD26 => first | (go_simp; rfl) | (go_simp; done) | (go_simp; exact idx_ok (by omega) (by omega)) | (go_simp; exact wi64' (by omega) (by omega) (by omega)) | (go_simp; intro hh; exfalso; omega)
  simp only [List.setIfInBounds_toArray, List.set_cons_zero, List.set_cons_succ]
  refine lx_rd 27 (.bool false) (by kernel_rfl) (fun _ _ d _ _ h => by cases d <;> exact h) (by kernel_rfl) hb8 rfl rfl rfl (fun w' hS => ?hD27) ?_
  case hD27 => first | (go_simp; rfl) | (go_simp; done) | (go_simp; exact idx_ok (by omega) (by omega)) | (go_simp; exact wi64' (by omega) (by omega) (by omega)) | (go_simp; intro hh; exfalso; omega)
  simp only [List.setIfInBounds_toArray, List.set_cons_zero, List.set_cons_succ]
  refine lx_rd 28 (.bool false) (by kernel_rfl) (fun _ _ d _ _ h => by cases d <;> exact h) (by kernel_rfl) hb8 rfl rfl rfl (fun w' hS => ?hD28) ?_
  case hD28 => first | (go_simp; rfl) | (go_simp; done) | (go_simp; exact idx_ok (by omega) (by omega)) | (go_simp; exact wi64' (by omega) (by omega) (by omega)) | (go_simp; intro hh; exfalso; omega)
  simp only [List.setIfInBounds_toArray, List.set_cons_zero, List.set_cons_succ]
  refine lx_rd 29 (.bool false) (by kernel_rfl) (fun _ _ d _ _ h => by cases d <;> exact h) (by kernel_rfl) hb8 rfl rfl rfl (fun w' hS => ?hD29) ?_
  case hD29 => first | (go_simp; rfl) | (go_simp; done) | (go_simp; exact idx_ok (by omega) (by omega)) | (go_simp; exact wi64' (by omega) (by omega) (by omega)) | (go_simp; intro hh; exfalso; omega)
  simp only [List.setIfInBounds_toArray, List.set_cons_zero, List.set_cons_succ]
  refine lx_nil (by kernel_rfl) ?_
  have bq := b6'.trans (hb8.mono b6'.size)
  clear hb8 HS0 b6' G6' R46'
  have Yq := hY.carry (Nat.le_refl _) bq
  have h2r := h2
  rw [← rOk_rec _ (hY.bytes.take 200)] at h2r
  go_upto_region 6 with (first
    | (go_at_call 17; refine (few8_any b m d ys _ Yq).mono ?_; rintro e v1 ⟨a11, n11, c11, rfl, R11, hb11⟩; have b11 := bq.trans (hb11.mono bq.size); have n11l : n11 ≤ 200 := by (rw [← R11.len, List.length_take]; omega))
    | (go_at_call 16; refine (read_no a11 n11 c11 (ys.take 200) v1 R11 (by omega) (Nm.tabs_below hT b11) (hB.carry b11) h2).mono ?_; rintro e v2 ⟨rfl, hb12⟩; have b12 := b11.trans (hb12.mono b11.size))
    | (refine wp_alloc_row rfl 28 rfl rec0 67 zero_rec ?_; intro g10 v3 G13 hg10 hb13)
    | (refine wp_store_rec rfl (.tmp 8) (.tmp 53) rfl g10 rfl _ rfl _ G13 rec0_len rec0_len (rec_one _ _ _ _ _ _ _) ?_; intro v4 G14 k14))
  have b13 := b12.trans (hb13.mono b12.size)
  have b14 := b13.trans ((k14.mono (fun _ e => (show w.heap.size ≤ _ by have := b12.size; omega))).below b13.size (fun _ h => h))
  have Y14 := hY.carry (Nat.le_refl _) b14
  clear Yq G13 k14 hb13 hb12 hb11 R11
  go_upto_region 7 with (first
    | (go_at_call 17; refine (few8_any b m d ys _ Y14).mono ?_; rintro e v21 ⟨a21, n21, c21, rfl, R21, hb21⟩; have b21 := b14.trans (hb21.mono b14.size); have n21l : n21 ≤ 200 := by (rw [← R21.len, List.length_take]; omega))
    | (go_at_call 18; refine (refCRead_no a21 n21 c21 (ys.take 200) v21 R21 (by omega) h2r).mono ?_; rintro e v22 ⟨rfl, hb22⟩; have b22 := b21.trans (hb22.mono b21.size))
    | (refine wp_alloc_row rfl 28 rfl rec0 67 zero_rec ?_; intro g20 v23 G23 hg20 hb23)
    | (refine wp_store_rec rfl (.tmp 9) (.tmp 59) rfl g20 rfl _ rfl _ G23 rec0_len rec0_len (rec_one _ _ _ _ _ _ _) ?_; intro v24 G24 k24))
  have b23 := b22.trans (hb23.mono b22.size)
  have b24 := b23.trans ((k24.mono (fun _ e => (show w.heap.size ≤ _ by have := b22.size; omega))).below b23.size (fun _ h => h))
  have g10l := G14.lt
  have G14' := (((G14.below hb21).below hb22).below hb23).keep k24 (fun e => by have := hb21.size; have := hb22.size; omega)
  have Z14 : Rd v24 none 0 0 [] := ⟨rfl, Nat.le_refl _, by unfold maxLen; omega, fun _ => rfl, Bd.nil, fun _ _ j hj => by omega⟩
  clear hb21 hb22 hb23 G14 G23 k24 R21
  go_wp2_with (first
    | (refine wp_load_rec rfl (.tmp 8) rfl g10 rfl _ G14' rec0_len ?_)
    | (refine wp_load_rec rfl (.tmp 9) rfl g20 rfl _ G24 rec0_len ?_)
    | (go_at_call 10; refine (same_true ⟨#[]⟩ none none 0 0 0 0 [] 0 Z32 Z32 _ Z14 Z14 (by simp [Z32]) (by simp [Z32])).mono ?_; rintro e v5 ⟨rfl, hb25⟩; have b25 := b24.trans (hb25.mono b24.size))
    | (go_at_call 11; refine (wakes_any _).mono ?_; rintro e v6 ⟨rfl, hb26⟩; have b26 := b25.trans (hb26.mono b25.size)))
  go_ret
  exact ⟨rfl, b26⟩

set_option maxRecDepth 100000 in
set_option maxHeartbeats 3200000 in
theorem codes_01 (U : ByteArray) (a : Option Addr) (n c : Nat) (ss : List Int) (z : Int) (K V : List Int) (b : Option Addr) (m d : Nat) (ys : List Int) (w : World) (hU : U.size ≤ 9223372036854775807) (hR : Rd w a n c ss) (hK : K.length = 32) (hV : V.length = 32) (_ : Bd K) (_ : Bd V) (hY : Rd w b m d ys) (hT : Lib.Utf8Tabs 0 1 w) (hB : Tabs w) (h1 : rightB (twU U) (ss.take 40).length z = false) (h2 : recOk (ys.take 200) = true) :
    Calls Tryd.prog 4 #[.agg (recL (.string U) (.slice a n c) (.int .i64 z) K V).toArray, .slice b m d] w fun e w' => e = .returned (.bool true) ∧ Below w.heap.size w w' := by
  have h67 := rec_len (.string U) (.slice a n c) (.int .i64 z) hK hV
  have h67' := fun a2 n2 c2 => rec_len (.string (twU U)) (.slice a2 n2 c2) (.int .i64 z) hK hV
  go_enter Tryd.func4, Tryd.ntmps4
  go_upto_region 1 with (refine wp_box_row rfl 28 (.tmp 0) rfl (recL (.string U) (.slice a n c) (.int .i64 z) K V) rfl ?_; intro g2 w1 G1 hg1 hb1)
  have G1 : RcAt w1 g2 _ := G1
  have R1 := hR.carry (Nat.le_refl _) hb1
  go_upto_region 2 with (first
    | (refine wp_load_rec rfl (.tmp 2) rfl g2 rfl _ G1 h67 ?_)
    | (go_at_call 12; refine (rtwin_any U a n c ss z K V w1 hU R1 hK hV).mono ?_; rintro e w2 ⟨⟨a2, n2, c2, rfl, R2⟩, hb2⟩)
    | (refine wp_alloc_row rfl 28 rfl rec0 67 zero_rec ?_; intro g5 w3 G3 hg5 hb3)
    | (refine wp_store_rec rfl (.tmp 5) (.tmp 12) rfl g5 rfl _ rfl _ G3 rec0_len (h67' a2 n2 c2) (rec_one _ _ _ _ _ _ _) ?_; intro w4 G4 k4))
  have b2 := hb1.trans (hb2.mono hb1.size)
  have b3 := b2.trans (hb3.mono b2.size)
  have b4 := b3.trans ((k4.mono (fun _ e => (show w.heap.size ≤ _ by have := b2.size; omega))).below b3.size (fun _ h => h))
  have R4 := (R2.carry (Nat.le_refl _) hb3).apart k4 (fun ad had h0 e => by have := R2.blk h0 had; omega)
  have hT4 := Nm.tabs_below hT b4
  have hB4 := hB.carry b4
  have n2l := R4.len
  have cT2 := rtwin_any (twU U) a2 n2 c2 (ss.take 40) z K V w4 (by have := tw_size U; omega) R4 hK hV
  rw [tw_tw, tk_tk] at cT2
  have tws := tw_size U
  clear h67 G1 R1 hb1 hb2 hb3 G3 k4 b2 b3 R2
  generalize twU U = u at *
  generalize ss.take 40 = sl at *
  go_upto_region 3 with (first
    | (refine wp_load_rec rfl (.tmp 5) rfl g5 rfl _ G4 (h67' a2 n2 c2) ?_)
    | (go_at_call 12; refine cT2.mono ?_; rintro e w5 ⟨⟨a5, n5, c5, rfl, R5⟩, hb5⟩; have b5 := b4.trans (hb5.mono b4.size))
    | (go_at_call 13; refine (write_bad u a5 n5 c5 z K V w5 (by omega) (Nm.tabs_below hT b5) (by rw [← R5.len]; exact h1)).mono ?_; rintro e w6 ⟨rfl, hb6⟩; have b6 := b5.trans (hb6.mono b5.size)))
  have R46 := (R4.carry (Nat.le_refl _) hb5).carry (Nat.le_refl _) hb6
  have G6 := (G4.below hb5).below hb6
  have hsz : ∀ cs : List Value, cs.length = 67 → (Tryd.prog.info? 28).map (·.size) = some cs.toArray.size := fun cs h => by
    rw [show (Tryd.prog.info? 28).map (·.size) = some 67 from by kernel_rfl]; simp [h]
  have e5 := h67' a2 n2 c2
  refine wp_region_lx (fun w' => Below w6.drew.heap.size w6.drew w') [] 30 (by kernel_rfl) (by kernel_rfl) ?_
  have G6' : RcAt w6.drew g5 (recL (.string u) (.slice a2 n2 c2) (.int .i64 z) K V) := G6
  have b6' := b6.drew
  have R46' := R46.carry (Nat.le_refl _) (Below.refl _ w6).drew
  obtain ⟨W, HW⟩ : ∃ W, Hid (w6.drew = W) := ⟨_, rfl⟩
  rw [HW.out] at G6' b6' R46' ⊢
  clear cT2 G4 R4 G6 R46 R5 hb5 hb6 b5 b6
  have HS0 : Below W.heap.size W W := Below.refl _ _
  refine lx_rd 0 (.agg (recL (.string u) (.slice a2 n2 c2) (.int .i64 z) K V).toArray) (by kernel_rfl) (fun _ _ d _ _ h => by cases d <;> exact h) (by kernel_rfl) HS0 rfl rfl rfl (fun w' hS => ?hA0) ?_
  case hA0 => exact exec_load_row 28 (.tmp 5) rfl g5 rfl 28 _ _ (G6'.below hS) Tryd.underlying28 (hsz _ e5)
  simp only [List.setIfInBounds_toArray, List.set_cons_zero, List.set_cons_succ]
  refine lx_rd 2 ?vA2 (by kernel_rfl) (fun _ _ d _ _ h => by cases d <;> exact h) (by kernel_rfl) HS0 rfl rfl rfl (fun w' hS => ?hA2) ?_
  case hA2 => first | (go_simp; rfl) | (go_simp; done) | (go_simp; exact idx_ok (by omega) (by omega)) | (go_simp; exact wi64' (by omega) (by omega) (by omega)) | (go_simp; intro hh; exfalso; omega)
  simp only [List.setIfInBounds_toArray, List.set_cons_zero, List.set_cons_succ]
  refine lx_rd 3 (.bool false) (by kernel_rfl) (fun _ _ d _ _ h => by cases d <;> exact h) (by kernel_rfl) HS0 rfl rfl rfl (fun w' hS => ?hA3) ?_
  case hA3 => first | (go_simp; rfl) | (go_simp; done) | (go_simp; exact idx_ok (by omega) (by omega)) | (go_simp; exact wi64' (by omega) (by omega) (by omega)) | (go_simp; intro hh; exfalso; omega)
  simp only [List.setIfInBounds_toArray, List.set_cons_zero, List.set_cons_succ]
  refine lx_one 1 (by kernel_rfl) (stepT_call 14 #[.agg (recL (.string u) (.slice a2 n2 c2) (.int .i64 z) K V).toArray] rfl rfl rfl ?r1 ?_)
  case r1 => first | (go_simp; rfl) | go_simp
  refine (refRight_any u a2 n2 c2 z K V _ (by omega)).mono ?_
  rintro e w8 ⟨rfl, hb8⟩
  rw [show rightB u n2 z = false from by rw [← R46'.len]; exact h1]
  refine ⟨_, rfl, fun _ => hb8, ?_⟩
  simp only [List.setIfInBounds_toArray, List.set_cons_zero, List.set_cons_succ]
  refine lx_rd 4 (.bool false) (by kernel_rfl) (fun _ _ d _ _ h => by cases d <;> exact h) (by kernel_rfl) hb8 rfl rfl rfl (fun w' hS => ?hB4) ?_
  case hB4 => first | (go_simp; rfl) | (go_simp; done) | (go_simp; exact idx_ok (by omega) (by omega)) | (go_simp; exact wi64' (by omega) (by omega) (by omega)) | (go_simp; intro hh; exfalso; omega)
  simp only [List.setIfInBounds_toArray, List.set_cons_zero, List.set_cons_succ]
  refine lx_rd 5 (.bool false) (by kernel_rfl) (fun _ _ d _ _ h => by cases d <;> exact h) (by kernel_rfl) hb8 rfl rfl rfl (fun w' hS => ?hB5) ?_
  case hB5 => first | (go_simp; rfl) | (go_simp; done) | (go_simp; exact idx_ok (by omega) (by omega)) | (go_simp; exact wi64' (by omega) (by omega) (by omega)) | (go_simp; intro hh; exfalso; omega)
  simp only [List.setIfInBounds_toArray, List.set_cons_zero, List.set_cons_succ]
  refine lx_rd 6 ?vB6 (by kernel_rfl) (fun _ _ d _ _ h => by cases d <;> exact h) (by kernel_rfl) hb8 rfl rfl rfl (fun w' hS => ?hB6) ?_
  case hB6 => first | (go_simp; rfl) | (go_simp; done) | (go_simp; exact idx_ok (by omega) (by omega)) | (go_simp; exact wi64' (by omega) (by omega) (by omega)) | (go_simp; intro hh; exfalso; omega)
  simp only [List.setIfInBounds_toArray, List.set_cons_zero, List.set_cons_succ]
  refine lx_rd 7 (.bool false) (by kernel_rfl) (fun _ _ d _ _ h => by cases d <;> exact h) (by kernel_rfl) hb8 rfl rfl rfl (fun w' hS => ?hB7) ?_
  case hB7 => first | (go_simp; rfl) | (go_simp; done) | (go_simp; exact idx_ok (by omega) (by omega)) | (go_simp; exact wi64' (by omega) (by omega) (by omega)) | (go_simp; intro hh; exfalso; omega)
  simp only [List.setIfInBounds_toArray, List.set_cons_zero, List.set_cons_succ]
  refine lx_rd 8 (.bool false) (by kernel_rfl) (fun _ _ d _ _ h => by cases d <;> exact h) (by kernel_rfl) hb8 rfl rfl rfl (fun w' hS => ?hB8) ?_
  case hB8 => first | (go_simp; rfl) | (go_simp; done) | (go_simp; exact idx_ok (by omega) (by omega)) | (go_simp; exact wi64' (by omega) (by omega) (by omega)) | (go_simp; intro hh; exfalso; omega)
  simp only [List.setIfInBounds_toArray, List.set_cons_zero, List.set_cons_succ]
  refine lx_skip 9 (by kernel_rfl) (fun _ _ d _ _ h => by cases d <;> exact h) (by kernel_rfl) hb8 rfl rfl rfl ?_
  simp only [List.setIfInBounds_toArray, List.set_cons_zero, List.set_cons_succ]
  refine lx_skip 10 (by kernel_rfl) (fun _ _ d _ _ h => by cases d <;> exact h) (by kernel_rfl) hb8 rfl rfl rfl ?_
  simp only [List.setIfInBounds_toArray, List.set_cons_zero, List.set_cons_succ]
  refine lx_skip 11 (by kernel_rfl) (fun _ _ d _ _ h => by cases d <;> exact h) (by kernel_rfl) hb8 rfl rfl rfl ?_
  simp only [List.setIfInBounds_toArray, List.set_cons_zero, List.set_cons_succ]
  refine lx_skip 12 (by kernel_rfl) (fun _ _ d _ _ h => by cases d <;> exact h) (by kernel_rfl) hb8 rfl rfl rfl ?_
  simp only [List.setIfInBounds_toArray, List.set_cons_zero, List.set_cons_succ]
  refine lx_skip 13 (by kernel_rfl) (fun _ _ d _ _ h => by cases d <;> exact h) (by kernel_rfl) hb8 rfl rfl rfl ?_
  simp only [List.setIfInBounds_toArray, List.set_cons_zero, List.set_cons_succ]
  refine lx_skip 14 (by kernel_rfl) (fun _ _ d _ _ h => by cases d <;> exact h) (by kernel_rfl) hb8 rfl rfl rfl ?_
  simp only [List.setIfInBounds_toArray, List.set_cons_zero, List.set_cons_succ]
  refine lx_rd 15 (.bool false) (by kernel_rfl) (fun _ _ d _ _ h => by cases d <;> exact h) (by kernel_rfl) hb8 rfl rfl rfl (fun w' hS => ?hD15) ?_
  case hD15 => first | (go_simp; rfl) | (go_simp; done) | (go_simp; exact idx_ok (by omega) (by omega)) | (go_simp; exact wi64' (by omega) (by omega) (by omega)) | (go_simp; intro hh; exfalso; omega)
  simp only [List.setIfInBounds_toArray, List.set_cons_zero, List.set_cons_succ]
  refine lx_rd 16 (.bool false) (by kernel_rfl) (fun _ _ d _ _ h => by cases d <;> exact h) (by kernel_rfl) hb8 rfl rfl rfl (fun w' hS => ?hD16) ?_
  case hD16 => first | (go_simp; rfl) | (go_simp; done) | (go_simp; exact idx_ok (by omega) (by omega)) | (go_simp; exact wi64' (by omega) (by omega) (by omega)) | (go_simp; intro hh; exfalso; omega)
  simp only [List.setIfInBounds_toArray, List.set_cons_zero, List.set_cons_succ]
  refine lx_rd 17 (.bool false) (by kernel_rfl) (fun _ _ d _ _ h => by cases d <;> exact h) (by kernel_rfl) hb8 rfl rfl rfl (fun w' hS => ?hD17) ?_
  case hD17 => first | (go_simp; rfl) | (go_simp; done) | (go_simp; exact idx_ok (by omega) (by omega)) | (go_simp; exact wi64' (by omega) (by omega) (by omega)) | (go_simp; intro hh; exfalso; omega)
  simp only [List.setIfInBounds_toArray, List.set_cons_zero, List.set_cons_succ]
  refine lx_rd 18 ?vD18 (by kernel_rfl) (fun _ _ d _ _ h => by cases d <;> exact h) (by kernel_rfl) hb8 rfl rfl rfl (fun w' hS => ?hD18) ?_
  case hD18 => first | (go_simp; rfl) | (go_simp; done) | (go_simp; exact idx_ok (by omega) (by omega)) | (go_simp; exact wi64' (by omega) (by omega) (by omega)) | (go_simp; intro hh; exfalso; omega)
  simp only [List.setIfInBounds_toArray, List.set_cons_zero, List.set_cons_succ]
  refine lx_rd 19 (.bool true) (by kernel_rfl) (fun _ _ d _ _ h => by cases d <;> exact h) (by kernel_rfl) hb8 rfl rfl rfl (fun w' hS => ?hD19) ?_
  case hD19 => first | (go_simp; rfl) | (go_simp; done) | (go_simp; exact idx_ok (by omega) (by omega)) | (go_simp; exact wi64' (by omega) (by omega) (by omega)) | (go_simp; intro hh; exfalso; omega)
  simp only [List.setIfInBounds_toArray, List.set_cons_zero, List.set_cons_succ]
  refine lx_rd 20 (.bool true) (by kernel_rfl) (fun _ _ d _ _ h => by cases d <;> exact h) (by kernel_rfl) hb8 rfl rfl rfl (fun w' hS => ?hD20) ?_
  case hD20 => first | (go_simp; rfl) | (go_simp; done) | (go_simp; exact idx_ok (by omega) (by omega)) | (go_simp; exact wi64' (by omega) (by omega) (by omega)) | (go_simp; intro hh; exfalso; omega)
  simp only [List.setIfInBounds_toArray, List.set_cons_zero, List.set_cons_succ]
  refine lx_rd 21 ?vD21 (by kernel_rfl) (fun _ _ d _ _ h => by cases d <;> exact h) (by kernel_rfl) hb8 rfl rfl rfl (fun w' hS => ?hD21) ?_
  case hD21 => first | (go_simp; rfl) | (go_simp; done) | (go_simp; exact idx_ok (by omega) (by omega)) | (go_simp; exact wi64' (by omega) (by omega) (by omega)) | (go_simp; intro hh; exfalso; omega)
  simp only [List.setIfInBounds_toArray, List.set_cons_zero, List.set_cons_succ]
  refine lx_rd 22 (.bool false) (by kernel_rfl) (fun _ _ d _ _ h => by cases d <;> exact h) (by kernel_rfl) hb8 rfl rfl rfl (fun w' hS => ?hD22) ?_
  case hD22 => first | (go_simp; rfl) | (go_simp; done) | (go_simp; exact idx_ok (by omega) (by omega)) | (go_simp; exact wi64' (by omega) (by omega) (by omega)) | (go_simp; intro hh; exfalso; omega)
  simp only [List.setIfInBounds_toArray, List.set_cons_zero, List.set_cons_succ]
  refine lx_rd 23 (.bool false) (by kernel_rfl) (fun _ _ d _ _ h => by cases d <;> exact h) (by kernel_rfl) hb8 rfl rfl rfl (fun w' hS => ?hD23) ?_
  case hD23 => first | (go_simp; rfl) | (go_simp; done) | (go_simp; exact idx_ok (by omega) (by omega)) | (go_simp; exact wi64' (by omega) (by omega) (by omega)) | (go_simp; intro hh; exfalso; omega)
  simp only [List.setIfInBounds_toArray, List.set_cons_zero, List.set_cons_succ]
  refine lx_rd 24 ?vD24 (by kernel_rfl) (fun _ _ d _ _ h => by cases d <;> exact h) (by kernel_rfl) hb8 rfl rfl rfl (fun w' hS => ?hD24) ?_
  case hD24 => first | (go_simp; rfl) | (go_simp; done) | (go_simp; exact idx_ok (by omega) (by omega)) | (go_simp; exact wi64' (by omega) (by omega) (by omega)) | (go_simp; intro hh; exfalso; omega)
  simp only [List.setIfInBounds_toArray, List.set_cons_zero, List.set_cons_succ]
  refine lx_rd 25 (.int .i64 0) (by kernel_rfl) (fun _ _ d _ _ h => by cases d <;> exact h) (by kernel_rfl) hb8 rfl rfl rfl (fun w' hS => ?hD25) ?_
  case hD25 => first | (go_simp; rfl) | (go_simp; done) | (go_simp; exact idx_ok (by omega) (by omega)) | (go_simp; exact wi64' (by omega) (by omega) (by omega)) | (go_simp; intro hh; exfalso; omega)
  simp only [List.setIfInBounds_toArray, List.set_cons_zero, List.set_cons_succ]
  refine lx_rd 26 (.bool false) (by kernel_rfl) (fun _ _ d _ _ h => by cases d <;> exact h) (by kernel_rfl) hb8 rfl rfl rfl (fun w' hS => ?hD26) ?_
  case hD26 => first | (go_simp; rfl) | (go_simp; done) | (go_simp; exact idx_ok (by omega) (by omega)) | (go_simp; exact wi64' (by omega) (by omega) (by omega)) | (go_simp; intro hh; exfalso; omega)
  simp only [List.setIfInBounds_toArray, List.set_cons_zero, List.set_cons_succ]
  refine lx_rd 27 (.bool false) (by kernel_rfl) (fun _ _ d _ _ h => by cases d <;> exact h) (by kernel_rfl) hb8 rfl rfl rfl (fun w' hS => ?hD27) ?_
  case hD27 => first | (go_simp; rfl) | (go_simp; done) | (go_simp; exact idx_ok (by omega) (by omega)) | (go_simp; exact wi64' (by omega) (by omega) (by omega)) | (go_simp; intro hh; exfalso; omega)
  simp only [List.setIfInBounds_toArray, List.set_cons_zero, List.set_cons_succ]
  refine lx_rd 28 (.bool false) (by kernel_rfl) (fun _ _ d _ _ h => by cases d <;> exact h) (by kernel_rfl) hb8 rfl rfl rfl (fun w' hS => ?hD28) ?_
  case hD28 => first | (go_simp; rfl) | (go_simp; done) | (go_simp; exact idx_ok (by omega) (by omega)) | (go_simp; exact wi64' (by omega) (by omega) (by omega)) | (go_simp; intro hh; exfalso; omega)
  simp only [List.setIfInBounds_toArray, List.set_cons_zero, List.set_cons_succ]
  refine lx_rd 29 (.bool false) (by kernel_rfl) (fun _ _ d _ _ h => by cases d <;> exact h) (by kernel_rfl) hb8 rfl rfl rfl (fun w' hS => ?hD29) ?_
  case hD29 => first | (go_simp; rfl) | (go_simp; done) | (go_simp; exact idx_ok (by omega) (by omega)) | (go_simp; exact wi64' (by omega) (by omega) (by omega)) | (go_simp; intro hh; exfalso; omega)
  simp only [List.setIfInBounds_toArray, List.set_cons_zero, List.set_cons_succ]
  refine lx_nil (by kernel_rfl) ?_
  have bq := b6'.trans (hb8.mono b6'.size)
  clear hb8 HS0 b6' G6' R46'
  have Yq := hY.carry (Nat.le_refl _) bq
  have q3 : 32 ≤ (rx3 (ys.take 200)).length ∧ 32 ≤ (rx4 (ys.take 200)).length := by
    have h2' := h2
    unfold recOk usrOk at h2'
    simp only [Bool.and_eq_true, decide_eq_true_eq] at h2'
    exact ⟨h2'.2.2.2.2.1, h2'.2.2.2.2.2.1⟩
  have l3 : ((rx3 (ys.take 200)).take 32).length = 32 := by rw [List.length_take]; omega
  have l4 : ((rx4 (ys.take 200)).take 32).length = 32 := by rw [List.length_take]; omega
  have h2r := h2
  rw [← rOk_rec _ (hY.bytes.take 200)] at h2r
  go_upto_region 6 with (first
    | (go_at_call 17; refine (few8_any b m d ys _ Yq).mono ?_; rintro e v1 ⟨a11, n11, c11, rfl, R11, hb11⟩; have b11 := bq.trans (hb11.mono bq.size); have n11l : n11 ≤ 200 := by (rw [← R11.len, List.length_take]; omega))
    | (go_at_call 16; refine (read_ok a11 n11 c11 (ys.take 200) v1 R11 (by omega) (Nm.tabs_below hT b11) (hB.carry b11) h2).mono ?_; rintro e v2 ⟨⟨a12, n12, c12, rfl, R12, _⟩, hb12⟩; have b12 := b11.trans (hb12.mono b11.size))
    | (refine wp_alloc_row rfl 28 rfl rec0 67 zero_rec ?_; intro g10 v3 G13 hg10 hb13)
    | (refine wp_store_rec rfl (.tmp 8) (.tmp 53) rfl g10 rfl _ rfl _ G13 rec0_len (rec_len _ _ _ l3 l4) (rec_one _ _ _ _ _ _ _) ?_; intro v4 G14 k14))
  have b13 := b12.trans (hb13.mono b12.size)
  have b14 := b13.trans ((k14.mono (fun _ e => (show w.heap.size ≤ _ by have := b12.size; omega))).below b13.size (fun _ h => h))
  have Y14 := hY.carry (Nat.le_refl _) b14
  have R14 := (R12.carry (Nat.le_refl _) hb13).apart k14 (fun ad had h0 e => by have := R12.blk h0 had; omega)
  clear Yq G13 k14 hb13 hb12 hb11 R11
  go_upto_region 7 with (first
    | (go_at_call 17; refine (few8_any b m d ys _ Y14).mono ?_; rintro e v21 ⟨a21, n21, c21, rfl, R21, hb21⟩; have b21 := b14.trans (hb21.mono b14.size); have n21l : n21 ≤ 200 := by (rw [← R21.len, List.length_take]; omega))
    | (go_at_call 18; refine (refCRead_ok a21 n21 c21 (ys.take 200) v21 R21 (by omega) h2r).mono ?_; rintro e v22 ⟨⟨a22, n22, c22, rfl, R22⟩, hb22⟩; have b22 := b21.trans (hb22.mono b21.size))
    | (refine wp_alloc_row rfl 28 rfl rec0 67 zero_rec ?_; intro g20 v23 G23 hg20 hb23)
    | (refine wp_store_rec rfl (.tmp 9) (.tmp 59) rfl g20 rfl _ rfl _ G23 rec0_len (rec_len _ _ _ l3 l4) (rec_one _ _ _ _ _ _ _) ?_; intro v24 G24 k24))
  have b23 := b22.trans (hb23.mono b22.size)
  have b24 := b23.trans ((k24.mono (fun _ e => (show w.heap.size ≤ _ by have := b22.size; omega))).below b23.size (fun _ h => h))
  have g10l := G14.lt
  have G14' := (((G14.below hb21).below hb22).below hb23).keep k24 (fun e => by have := hb21.size; have := hb22.size; omega)
  have R22' := (R22.carry (Nat.le_refl _) hb23).apart k24 (fun ad had h0 e => by have := R22.blk h0 had; omega)
  have R14a := (R14.carry (Nat.le_refl _) hb21).carry (Nat.le_refl _) hb22
  have R14' := (R14a.carry (Nat.le_refl _) hb23).apart k24 (fun ad had h0 e => by have := R14a.blk h0 had; omega)
  have e67 := fun p q r => rec_len (.string (usrT (ys.take 200))) (.slice p q r) (.int .i64 ((scan (rx2 (ys.take 200)) 0 0).1 : Nat)) l3 l4
  clear R14 R14a R22 R12 hb21 hb22 hb23 G14 G23 k24 R21
  go_wp2_with (first
    | (refine wp_load_rec rfl (.tmp 8) rfl g10 rfl _ G14' (e67 _ _ _) ?_)
    | (refine wp_load_rec rfl (.tmp 9) rfl g20 rfl _ G24 (e67 _ _ _) ?_)
    | (go_at_call 10; refine (same_true _ _ _ _ _ _ _ _ _ _ _ _ R14' R22' l3 l4).mono ?_; rintro e v5 ⟨rfl, hb25⟩; have b25 := b24.trans (hb25.mono b24.size))
    | (go_at_call 11; refine (wakes_any _).mono ?_; rintro e v6 ⟨rfl, hb26⟩; have b26 := b25.trans (hb26.mono b25.size)))
  go_ret
  exact ⟨rfl, b26⟩

set_option maxRecDepth 100000 in
set_option maxHeartbeats 3200000 in
theorem codes_10 (U : ByteArray) (a : Option Addr) (n c : Nat) (ss : List Int) (z : Int) (K V : List Int) (b : Option Addr) (m d : Nat) (ys : List Int) (w : World) (hU : U.size ≤ 9223372036854775807) (hR : Rd w a n c ss) (hK : K.length = 32) (hV : V.length = 32) (bK : Bd K) (bV : Bd V) (hY : Rd w b m d ys) (hT : Lib.Utf8Tabs 0 1 w) (hB : Tabs w) (h1 : rightB (twU U) (ss.take 40).length z = true) (h2 : recOk (ys.take 200) = false) :
    Calls Tryd.prog 4 #[.agg (recL (.string U) (.slice a n c) (.int .i64 z) K V).toArray, .slice b m d] w fun e w' => e = .returned (.bool true) ∧ Below w.heap.size w w' := by
  have h67 := rec_len (.string U) (.slice a n c) (.int .i64 z) hK hV
  have h67' := fun a2 n2 c2 => rec_len (.string (twU U)) (.slice a2 n2 c2) (.int .i64 z) hK hV
  go_enter Tryd.func4, Tryd.ntmps4
  go_upto_region 1 with (refine wp_box_row rfl 28 (.tmp 0) rfl (recL (.string U) (.slice a n c) (.int .i64 z) K V) rfl ?_; intro g2 w1 G1 hg1 hb1)
  have G1 : RcAt w1 g2 _ := G1
  have R1 := hR.carry (Nat.le_refl _) hb1
  go_upto_region 2 with (first
    | (refine wp_load_rec rfl (.tmp 2) rfl g2 rfl _ G1 h67 ?_)
    | (go_at_call 12; refine (rtwin_any U a n c ss z K V w1 hU R1 hK hV).mono ?_; rintro e w2 ⟨⟨a2, n2, c2, rfl, R2⟩, hb2⟩)
    | (refine wp_alloc_row rfl 28 rfl rec0 67 zero_rec ?_; intro g5 w3 G3 hg5 hb3)
    | (refine wp_store_rec rfl (.tmp 5) (.tmp 12) rfl g5 rfl _ rfl _ G3 rec0_len (h67' a2 n2 c2) (rec_one _ _ _ _ _ _ _) ?_; intro w4 G4 k4))
  have b2 := hb1.trans (hb2.mono hb1.size)
  have b3 := b2.trans (hb3.mono b2.size)
  have b4 := b3.trans ((k4.mono (fun _ e => (show w.heap.size ≤ _ by have := b2.size; omega))).below b3.size (fun _ h => h))
  have R4 := (R2.carry (Nat.le_refl _) hb3).apart k4 (fun ad had h0 e => by have := R2.blk h0 had; omega)
  have hT4 := Nm.tabs_below hT b4
  have hB4 := hB.carry b4
  have n2l := R4.len
  have cT2 := rtwin_any (twU U) a2 n2 c2 (ss.take 40) z K V w4 (by have := tw_size U; omega) R4 hK hV
  rw [tw_tw, tk_tk] at cT2
  have tws := tw_size U
  clear h67 G1 R1 hb1 hb2 hb3 G3 k4 b2 b3 R2
  generalize twU U = u at *
  generalize ss.take 40 = sl at *
  obtain ⟨zn, rfl⟩ : ∃ zn : Nat, z = (zn : Int) := by
    unfold rightB at h1
    simp only [Bool.and_eq_true, decide_eq_true_eq] at h1
    exact ⟨z.toNat, by omega⟩
  have hr3 : sl.length ≤ 32 ∧ zn ≤ 4096 := by
    unfold rightB at h1
    simp only [Bool.and_eq_true, decide_eq_true_eq] at h1
    omega
  go_upto_region 3 with (first
    | (refine wp_load_rec rfl (.tmp 5) rfl g5 rfl _ G4 (h67' a2 n2 c2) ?_)
    | (go_at_call 12; refine cT2.mono ?_; rintro e w5 ⟨⟨a5, n5, c5, rfl, R5⟩, hb5⟩; have b5 := b4.trans (hb5.mono b4.size))
    | (go_at_call 13; refine (write_ok u a5 n5 c5 sl zn K V w5 (by omega) R5 hK hV bK bV (Nm.tabs_below hT b5) (by rw [← R5.len]; exact h1)).mono ?_; rintro e w6 ⟨a6, m6, c6, rfl, R6, hb6⟩; have b6 := b5.trans (hb6.mono b5.size)))
  have R46 := (R4.carry (Nat.le_refl _) hb5).carry (Nat.le_refl _) hb6
  have G6 := (G4.below hb5).below hb6
  have hsz : ∀ cs : List Value, cs.length = 67 → (Tryd.prog.info? 28).map (·.size) = some cs.toArray.size := fun cs h => by
    rw [show (Tryd.prog.info? 28).map (·.size) = some 67 from by kernel_rfl]; simp [h]
  have e5 := h67' a2 n2 c2
  refine wp_region_lx (fun w' => Below w6.drew.heap.size w6.drew w') [] 30 (by kernel_rfl) (by kernel_rfl) ?_
  have G6' : RcAt w6.drew g5 (recL (.string u) (.slice a2 n2 c2) (.int .i64 zn) K V) := G6
  have b6' := b6.drew
  have R46' := R46.carry (Nat.le_refl _) (Below.refl _ w6).drew
  have R6' := R6.carry (Nat.le_refl _) (Below.refl _ w6).drew
  obtain ⟨W, HW⟩ : ∃ W, Hid (w6.drew = W) := ⟨_, rfl⟩
  rw [HW.out] at G6' b6' R46' R6' ⊢
  clear cT2 G4 R4 G6 R46 R5 hb5 hb6 b5 b6 R6
  have HS0 : Below W.heap.size W W := Below.refl _ _
  have lX : (recForm u sl zn K V).length = m6 := R6'.len
  obtain ⟨X, HX⟩ : ∃ X, Hid (strOfNums (recForm u sl zn K V) = X) := ⟨_, rfl⟩
  refine lx_rd 0 (.agg (recL (.string u) (.slice a2 n2 c2) (.int .i64 zn) K V).toArray) (by kernel_rfl) (fun _ _ d _ _ h => by cases d <;> exact h) (by kernel_rfl) HS0 rfl rfl rfl (fun w' hS => ?hA0) ?_
  case hA0 => exact exec_load_row 28 (.tmp 5) rfl g5 rfl 28 _ _ (G6'.below hS) Tryd.underlying28 (hsz _ e5)
  simp only [List.setIfInBounds_toArray, List.set_cons_zero, List.set_cons_succ]
  refine lx_rd 2 ?vA2 (by kernel_rfl) (fun _ _ d _ _ h => by cases d <;> exact h) (by kernel_rfl) HS0 rfl rfl rfl (fun w' hS => ?hA2) ?_
  case hA2 => first | (go_simp; rfl) | (go_simp; done) | (go_simp; exact idx_ok (by omega) (by omega)) | (go_simp; exact wi64' (by omega) (by omega) (by omega)) | (go_simp; intro hh; exfalso; omega)
  simp only [List.setIfInBounds_toArray, List.set_cons_zero, List.set_cons_succ]
  refine lx_rd 3 (.bool true) (by kernel_rfl) (fun _ _ d _ _ h => by cases d <;> exact h) (by kernel_rfl) HS0 rfl rfl rfl (fun w' hS => ?hA3) ?_
  case hA3 => first | (go_simp; rfl) | (go_simp; done) | (go_simp; exact idx_ok (by omega) (by omega)) | (go_simp; exact wi64' (by omega) (by omega) (by omega)) | (go_simp; intro hh; exfalso; omega)
  simp only [List.setIfInBounds_toArray, List.set_cons_zero, List.set_cons_succ]
  refine lx_one 1 (by kernel_rfl) (stepT_call 14 #[.agg (recL (.string u) (.slice a2 n2 c2) (.int .i64 zn) K V).toArray] rfl rfl rfl ?r1 ?_)
  case r1 => first | (go_simp; rfl) | go_simp
  refine (refRight_any u a2 n2 c2 zn K V _ (by omega)).mono ?_
  rintro e w8 ⟨rfl, hb8⟩
  rw [show rightB u n2 zn = true from by rw [← R46'.len]; exact h1]
  refine ⟨_, rfl, fun _ => hb8, ?_⟩
  simp only [List.setIfInBounds_toArray, List.set_cons_zero, List.set_cons_succ]
  refine lx_rd 4 (.bool false) (by kernel_rfl) (fun _ _ d _ _ h => by cases d <;> exact h) (by kernel_rfl) hb8 rfl rfl rfl (fun w' hS => ?hB4) ?_
  case hB4 => first | (go_simp; rfl) | (go_simp; done) | (go_simp; exact idx_ok (by omega) (by omega)) | (go_simp; exact wi64' (by omega) (by omega) (by omega)) | (go_simp; intro hh; exfalso; omega)
  simp only [List.setIfInBounds_toArray, List.set_cons_zero, List.set_cons_succ]
  refine lx_rd 5 (.bool false) (by kernel_rfl) (fun _ _ d _ _ h => by cases d <;> exact h) (by kernel_rfl) hb8 rfl rfl rfl (fun w' hS => ?hB5) ?_
  case hB5 => first | (go_simp; rfl) | (go_simp; done) | (go_simp; exact idx_ok (by omega) (by omega)) | (go_simp; exact wi64' (by omega) (by omega) (by omega)) | (go_simp; intro hh; exfalso; omega)
  simp only [List.setIfInBounds_toArray, List.set_cons_zero, List.set_cons_succ]
  refine lx_rd 6 ?vB6 (by kernel_rfl) (fun _ _ d _ _ h => by cases d <;> exact h) (by kernel_rfl) hb8 rfl rfl rfl (fun w' hS => ?hB6) ?_
  case hB6 => first | (go_simp; rfl) | (go_simp; done) | (go_simp; exact idx_ok (by omega) (by omega)) | (go_simp; exact wi64' (by omega) (by omega) (by omega)) | (go_simp; intro hh; exfalso; omega)
  simp only [List.setIfInBounds_toArray, List.set_cons_zero, List.set_cons_succ]
  refine lx_rd 7 (.bool true) (by kernel_rfl) (fun _ _ d _ _ h => by cases d <;> exact h) (by kernel_rfl) hb8 rfl rfl rfl (fun w' hS => ?hB7) ?_
  case hB7 => first | (go_simp; rfl) | (go_simp; done) | (go_simp; exact idx_ok (by omega) (by omega)) | (go_simp; exact wi64' (by omega) (by omega) (by omega)) | (go_simp; intro hh; exfalso; omega)
  simp only [List.setIfInBounds_toArray, List.set_cons_zero, List.set_cons_succ]
  refine lx_rd 8 (.bool true) (by kernel_rfl) (fun _ _ d _ _ h => by cases d <;> exact h) (by kernel_rfl) hb8 rfl rfl rfl (fun w' hS => ?hB8) ?_
  case hB8 => first | (go_simp; rfl) | (go_simp; done) | (go_simp; exact idx_ok (by omega) (by omega)) | (go_simp; exact wi64' (by omega) (by omega) (by omega)) | (go_simp; intro hh; exfalso; omega)
  simp only [List.setIfInBounds_toArray, List.set_cons_zero, List.set_cons_succ]
  refine lx_rd 9 ?vB9 (by kernel_rfl) (fun _ _ d _ _ h => by cases d <;> exact h) (by kernel_rfl) hb8 rfl rfl rfl (fun w' hS => ?hB9) ?_
  case hB9 => first | (go_simp; rfl) | (go_simp; done) | (go_simp; exact idx_ok (by omega) (by omega)) | (go_simp; exact wi64' (by omega) (by omega) (by omega)) | (go_simp; intro hh; exfalso; omega)
  simp only [List.setIfInBounds_toArray, List.set_cons_zero, List.set_cons_succ]
  refine lx_rd 10 (.string X) (by kernel_rfl) (fun _ _ d _ _ h => by cases d <;> exact h) (by kernel_rfl) hb8 rfl rfl rfl (fun w' hS => ?hB10) ?_
  case hB10 => have hq := (R6'.carry (Nat.le_refl _) hS).string; rw [HX.out] at hq; first | (go_simp; rfl) | (go_simp; done) | (go_simp; exact idx_ok (by omega) (by omega)) | (go_simp; exact wi64' (by omega) (by omega) (by omega)) | (go_simp; intro hh; exfalso; omega)
  simp only [List.setIfInBounds_toArray, List.set_cons_zero, List.set_cons_succ]
  refine lx_rd 11 (.agg (recL (.string u) (.slice a2 n2 c2) (.int .i64 zn) K V).toArray) (by kernel_rfl) (fun _ _ d _ _ h => by cases d <;> exact h) (by kernel_rfl) hb8 rfl rfl rfl (fun w' hS => ?hB11) ?_
  case hB11 => exact exec_load_row 28 (.tmp 5) rfl g5 rfl 28 _ _ (G6'.below hS) Tryd.underlying28 (hsz _ e5)
  simp only [List.setIfInBounds_toArray, List.set_cons_zero, List.set_cons_succ]
  refine lx_one 12 (by kernel_rfl) (stepT_call 15 #[.agg (recL (.string u) (.slice a2 n2 c2) (.int .i64 zn) K V).toArray] rfl rfl rfl ?r12 ?_)
  case r12 => first | (go_simp; rfl) | go_simp
  have R48 := R46'.carry (Nat.le_refl _) hb8
  refine (refCWrite_any u a2 n2 c2 sl zn K V _ (by omega) (by have := R46'.len; omega) (by omega) R48 hK hV bK bV).mono ?_
  rintro e w9 ⟨a9, m9, c9, rfl, R9, hb9⟩
  have hb9' := hb8.trans (hb9.mono hb8.size)
  have hq9 := R9.string
  rw [HX.out] at hq9
  refine ⟨_, rfl, fun _ => hb9', ?_⟩
  simp only [List.setIfInBounds_toArray, List.set_cons_zero, List.set_cons_succ]
  refine lx_one 13 (by kernel_rfl) (stepT_val (w' := w9) (.string X) rfl rfl rfl ?r13 (fun _ => hb9') ?_)
  case r13 => first | (go_simp; rfl) | go_simp
  simp only [List.setIfInBounds_toArray, List.set_cons_zero, List.set_cons_succ]
  have hc9 := hb9'
  refine lx_rd 14 (.bool false) (by kernel_rfl) (fun _ _ d _ _ h => by cases d <;> exact h) (by kernel_rfl) hc9 rfl rfl rfl (fun w' hS => ?hD14) ?_
  case hD14 => first | (go_simp; rfl) | (go_simp; done) | (go_simp; exact idx_ok (by omega) (by omega)) | (go_simp; exact wi64' (by omega) (by omega) (by omega)) | (go_simp; intro hh; exfalso; omega)
  simp only [List.setIfInBounds_toArray, List.set_cons_zero, List.set_cons_succ]
  refine lx_rd 15 (.bool false) (by kernel_rfl) (fun _ _ d _ _ h => by cases d <;> exact h) (by kernel_rfl) hc9 rfl rfl rfl (fun w' hS => ?hD15) ?_
  case hD15 => first | (go_simp; rfl) | (go_simp; done) | (go_simp; exact idx_ok (by omega) (by omega)) | (go_simp; exact wi64' (by omega) (by omega) (by omega)) | (go_simp; intro hh; exfalso; omega)
  simp only [List.setIfInBounds_toArray, List.set_cons_zero, List.set_cons_succ]
  refine lx_rd 16 (.bool false) (by kernel_rfl) (fun _ _ d _ _ h => by cases d <;> exact h) (by kernel_rfl) hc9 rfl rfl rfl (fun w' hS => ?hD16) ?_
  case hD16 => first | (go_simp; rfl) | (go_simp; done) | (go_simp; exact idx_ok (by omega) (by omega)) | (go_simp; exact wi64' (by omega) (by omega) (by omega)) | (go_simp; intro hh; exfalso; omega)
  simp only [List.setIfInBounds_toArray, List.set_cons_zero, List.set_cons_succ]
  refine lx_rd 17 (.bool false) (by kernel_rfl) (fun _ _ d _ _ h => by cases d <;> exact h) (by kernel_rfl) hc9 rfl rfl rfl (fun w' hS => ?hD17) ?_
  case hD17 => first | (go_simp; rfl) | (go_simp; done) | (go_simp; exact idx_ok (by omega) (by omega)) | (go_simp; exact wi64' (by omega) (by omega) (by omega)) | (go_simp; intro hh; exfalso; omega)
  simp only [List.setIfInBounds_toArray, List.set_cons_zero, List.set_cons_succ]
  refine lx_rd 18 ?vD18 (by kernel_rfl) (fun _ _ d _ _ h => by cases d <;> exact h) (by kernel_rfl) hc9 rfl rfl rfl (fun w' hS => ?hD18) ?_
  case hD18 => first | (go_simp; rfl) | (go_simp; done) | (go_simp; exact idx_ok (by omega) (by omega)) | (go_simp; exact wi64' (by omega) (by omega) (by omega)) | (go_simp; intro hh; exfalso; omega)
  simp only [List.setIfInBounds_toArray, List.set_cons_zero, List.set_cons_succ]
  refine lx_rd 19 (.bool false) (by kernel_rfl) (fun _ _ d _ _ h => by cases d <;> exact h) (by kernel_rfl) hc9 rfl rfl rfl (fun w' hS => ?hD19) ?_
  case hD19 => first | (go_simp; rfl) | (go_simp; done) | (go_simp; exact idx_ok (by omega) (by omega)) | (go_simp; exact wi64' (by omega) (by omega) (by omega)) | (go_simp; intro hh; exfalso; omega)
  simp only [List.setIfInBounds_toArray, List.set_cons_zero, List.set_cons_succ]
  refine lx_rd 20 (.bool false) (by kernel_rfl) (fun _ _ d _ _ h => by cases d <;> exact h) (by kernel_rfl) hc9 rfl rfl rfl (fun w' hS => ?hD20) ?_
  case hD20 => first | (go_simp; rfl) | (go_simp; done) | (go_simp; exact idx_ok (by omega) (by omega)) | (go_simp; exact wi64' (by omega) (by omega) (by omega)) | (go_simp; intro hh; exfalso; omega)
  simp only [List.setIfInBounds_toArray, List.set_cons_zero, List.set_cons_succ]
  refine lx_skip 21 (by kernel_rfl) (fun _ _ d _ _ h => by cases d <;> exact h) (by kernel_rfl) hc9 rfl rfl rfl ?_
  simp only [List.setIfInBounds_toArray, List.set_cons_zero, List.set_cons_succ]
  refine lx_skip 22 (by kernel_rfl) (fun _ _ d _ _ h => by cases d <;> exact h) (by kernel_rfl) hc9 rfl rfl rfl ?_
  simp only [List.setIfInBounds_toArray, List.set_cons_zero, List.set_cons_succ]
  refine lx_skip 23 (by kernel_rfl) (fun _ _ d _ _ h => by cases d <;> exact h) (by kernel_rfl) hc9 rfl rfl rfl ?_
  simp only [List.setIfInBounds_toArray, List.set_cons_zero, List.set_cons_succ]
  refine lx_skip 24 (by kernel_rfl) (fun _ _ d _ _ h => by cases d <;> exact h) (by kernel_rfl) hc9 rfl rfl rfl ?_
  simp only [List.setIfInBounds_toArray, List.set_cons_zero, List.set_cons_succ]
  refine lx_skip 25 (by kernel_rfl) (fun _ _ d _ _ h => by cases d <;> exact h) (by kernel_rfl) hc9 rfl rfl rfl ?_
  simp only [List.setIfInBounds_toArray, List.set_cons_zero, List.set_cons_succ]
  refine lx_skip 26 (by kernel_rfl) (fun _ _ d _ _ h => by cases d <;> exact h) (by kernel_rfl) hc9 rfl rfl rfl ?_
  simp only [List.setIfInBounds_toArray, List.set_cons_zero, List.set_cons_succ]
  refine lx_skip 27 (by kernel_rfl) (fun _ _ d _ _ h => by cases d <;> exact h) (by kernel_rfl) hc9 rfl rfl rfl ?_
  simp only [List.setIfInBounds_toArray, List.set_cons_zero, List.set_cons_succ]
  refine lx_rd 28 (.bool false) (by kernel_rfl) (fun _ _ d _ _ h => by cases d <;> exact h) (by kernel_rfl) hc9 rfl rfl rfl (fun w' hS => ?hF28) ?_
  case hF28 => first | (go_simp; rfl) | (go_simp; done) | (go_simp; exact idx_ok (by omega) (by omega)) | (go_simp; exact wi64' (by omega) (by omega) (by omega)) | (go_simp; intro hh; exfalso; omega)
  simp only [List.setIfInBounds_toArray, List.set_cons_zero, List.set_cons_succ]
  refine lx_rd 29 (.bool false) (by kernel_rfl) (fun _ _ d _ _ h => by cases d <;> exact h) (by kernel_rfl) hc9 rfl rfl rfl (fun w' hS => ?hF29) ?_
  case hF29 => first | (go_simp; rfl) | (go_simp; done) | (go_simp; exact idx_ok (by omega) (by omega)) | (go_simp; exact wi64' (by omega) (by omega) (by omega)) | (go_simp; intro hh; exfalso; omega)
  simp only [List.setIfInBounds_toArray, List.set_cons_zero, List.set_cons_succ]
  refine lx_nil (by kernel_rfl) ?_
  have bq := b6'.trans (hb9'.mono b6'.size)
  clear hb8 HS0 b6' G6' R46' R6' R48 hb9 hb9' hc9 R9 hq9
  have Yq := hY.carry (Nat.le_refl _) bq
  have h2r := h2
  rw [← rOk_rec _ (hY.bytes.take 200)] at h2r
  go_upto_region 6 with (first
    | (go_at_call 17; refine (few8_any b m d ys _ Yq).mono ?_; rintro e v1 ⟨a11, n11, c11, rfl, R11, hb11⟩; have b11 := bq.trans (hb11.mono bq.size); have n11l : n11 ≤ 200 := by (rw [← R11.len, List.length_take]; omega))
    | (go_at_call 16; refine (read_no a11 n11 c11 (ys.take 200) v1 R11 (by omega) (Nm.tabs_below hT b11) (hB.carry b11) h2).mono ?_; rintro e v2 ⟨rfl, hb12⟩; have b12 := b11.trans (hb12.mono b11.size))
    | (refine wp_alloc_row rfl 28 rfl rec0 67 zero_rec ?_; intro g10 v3 G13 hg10 hb13)
    | (refine wp_store_rec rfl (.tmp 8) (.tmp 53) rfl g10 rfl _ rfl _ G13 rec0_len rec0_len (rec_one _ _ _ _ _ _ _) ?_; intro v4 G14 k14))
  have b13 := b12.trans (hb13.mono b12.size)
  have b14 := b13.trans ((k14.mono (fun _ e => (show w.heap.size ≤ _ by have := b12.size; omega))).below b13.size (fun _ h => h))
  have Y14 := hY.carry (Nat.le_refl _) b14
  clear Yq G13 k14 hb13 hb12 hb11 R11
  go_upto_region 7 with (first
    | (go_at_call 17; refine (few8_any b m d ys _ Y14).mono ?_; rintro e v21 ⟨a21, n21, c21, rfl, R21, hb21⟩; have b21 := b14.trans (hb21.mono b14.size); have n21l : n21 ≤ 200 := by (rw [← R21.len, List.length_take]; omega))
    | (go_at_call 18; refine (refCRead_no a21 n21 c21 (ys.take 200) v21 R21 (by omega) h2r).mono ?_; rintro e v22 ⟨rfl, hb22⟩; have b22 := b21.trans (hb22.mono b21.size))
    | (refine wp_alloc_row rfl 28 rfl rec0 67 zero_rec ?_; intro g20 v23 G23 hg20 hb23)
    | (refine wp_store_rec rfl (.tmp 9) (.tmp 59) rfl g20 rfl _ rfl _ G23 rec0_len rec0_len (rec_one _ _ _ _ _ _ _) ?_; intro v24 G24 k24))
  have b23 := b22.trans (hb23.mono b22.size)
  have b24 := b23.trans ((k24.mono (fun _ e => (show w.heap.size ≤ _ by have := b22.size; omega))).below b23.size (fun _ h => h))
  have g10l := G14.lt
  have G14' := (((G14.below hb21).below hb22).below hb23).keep k24 (fun e => by have := hb21.size; have := hb22.size; omega)
  have Z14 : Rd v24 none 0 0 [] := ⟨rfl, Nat.le_refl _, by unfold maxLen; omega, fun _ => rfl, Bd.nil, fun _ _ j hj => by omega⟩
  clear hb21 hb22 hb23 G14 G23 k24 R21
  go_wp2_with (first
    | (refine wp_load_rec rfl (.tmp 8) rfl g10 rfl _ G14' rec0_len ?_)
    | (refine wp_load_rec rfl (.tmp 9) rfl g20 rfl _ G24 rec0_len ?_)
    | (go_at_call 10; refine (same_true ⟨#[]⟩ none none 0 0 0 0 [] 0 Z32 Z32 _ Z14 Z14 (by simp [Z32]) (by simp [Z32])).mono ?_; rintro e v5 ⟨rfl, hb25⟩; have b25 := b24.trans (hb25.mono b24.size))
    | (go_at_call 11; refine (wakes_any _).mono ?_; rintro e v6 ⟨rfl, hb26⟩; have b26 := b25.trans (hb26.mono b25.size)))
  go_ret
  exact ⟨rfl, b26⟩

set_option maxRecDepth 100000 in
set_option maxHeartbeats 3200000 in
theorem codes_11 (U : ByteArray) (a : Option Addr) (n c : Nat) (ss : List Int) (z : Int) (K V : List Int) (b : Option Addr) (m d : Nat) (ys : List Int) (w : World) (hU : U.size ≤ 9223372036854775807) (hR : Rd w a n c ss) (hK : K.length = 32) (hV : V.length = 32) (bK : Bd K) (bV : Bd V) (hY : Rd w b m d ys) (hT : Lib.Utf8Tabs 0 1 w) (hB : Tabs w) (h1 : rightB (twU U) (ss.take 40).length z = true) (h2 : recOk (ys.take 200) = true) :
    Calls Tryd.prog 4 #[.agg (recL (.string U) (.slice a n c) (.int .i64 z) K V).toArray, .slice b m d] w fun e w' => e = .returned (.bool true) ∧ Below w.heap.size w w' := by
  have h67 := rec_len (.string U) (.slice a n c) (.int .i64 z) hK hV
  have h67' := fun a2 n2 c2 => rec_len (.string (twU U)) (.slice a2 n2 c2) (.int .i64 z) hK hV
  go_enter Tryd.func4, Tryd.ntmps4
  go_upto_region 1 with (refine wp_box_row rfl 28 (.tmp 0) rfl (recL (.string U) (.slice a n c) (.int .i64 z) K V) rfl ?_; intro g2 w1 G1 hg1 hb1)
  have G1 : RcAt w1 g2 _ := G1
  have R1 := hR.carry (Nat.le_refl _) hb1
  go_upto_region 2 with (first
    | (refine wp_load_rec rfl (.tmp 2) rfl g2 rfl _ G1 h67 ?_)
    | (go_at_call 12; refine (rtwin_any U a n c ss z K V w1 hU R1 hK hV).mono ?_; rintro e w2 ⟨⟨a2, n2, c2, rfl, R2⟩, hb2⟩)
    | (refine wp_alloc_row rfl 28 rfl rec0 67 zero_rec ?_; intro g5 w3 G3 hg5 hb3)
    | (refine wp_store_rec rfl (.tmp 5) (.tmp 12) rfl g5 rfl _ rfl _ G3 rec0_len (h67' a2 n2 c2) (rec_one _ _ _ _ _ _ _) ?_; intro w4 G4 k4))
  have b2 := hb1.trans (hb2.mono hb1.size)
  have b3 := b2.trans (hb3.mono b2.size)
  have b4 := b3.trans ((k4.mono (fun _ e => (show w.heap.size ≤ _ by have := b2.size; omega))).below b3.size (fun _ h => h))
  have R4 := (R2.carry (Nat.le_refl _) hb3).apart k4 (fun ad had h0 e => by have := R2.blk h0 had; omega)
  have hT4 := Nm.tabs_below hT b4
  have hB4 := hB.carry b4
  have n2l := R4.len
  have cT2 := rtwin_any (twU U) a2 n2 c2 (ss.take 40) z K V w4 (by have := tw_size U; omega) R4 hK hV
  rw [tw_tw, tk_tk] at cT2
  have tws := tw_size U
  clear h67 G1 R1 hb1 hb2 hb3 G3 k4 b2 b3 R2
  generalize twU U = u at *
  generalize ss.take 40 = sl at *
  obtain ⟨zn, rfl⟩ : ∃ zn : Nat, z = (zn : Int) := by
    unfold rightB at h1
    simp only [Bool.and_eq_true, decide_eq_true_eq] at h1
    exact ⟨z.toNat, by omega⟩
  have hr3 : sl.length ≤ 32 ∧ zn ≤ 4096 := by
    unfold rightB at h1
    simp only [Bool.and_eq_true, decide_eq_true_eq] at h1
    omega
  go_upto_region 3 with (first
    | (refine wp_load_rec rfl (.tmp 5) rfl g5 rfl _ G4 (h67' a2 n2 c2) ?_)
    | (go_at_call 12; refine cT2.mono ?_; rintro e w5 ⟨⟨a5, n5, c5, rfl, R5⟩, hb5⟩; have b5 := b4.trans (hb5.mono b4.size))
    | (go_at_call 13; refine (write_ok u a5 n5 c5 sl zn K V w5 (by omega) R5 hK hV bK bV (Nm.tabs_below hT b5) (by rw [← R5.len]; exact h1)).mono ?_; rintro e w6 ⟨a6, m6, c6, rfl, R6, hb6⟩; have b6 := b5.trans (hb6.mono b5.size)))
  have R46 := (R4.carry (Nat.le_refl _) hb5).carry (Nat.le_refl _) hb6
  have G6 := (G4.below hb5).below hb6
  have hsz : ∀ cs : List Value, cs.length = 67 → (Tryd.prog.info? 28).map (·.size) = some cs.toArray.size := fun cs h => by
    rw [show (Tryd.prog.info? 28).map (·.size) = some 67 from by kernel_rfl]; simp [h]
  have e5 := h67' a2 n2 c2
  refine wp_region_lx (fun w' => Below w6.drew.heap.size w6.drew w') [] 30 (by kernel_rfl) (by kernel_rfl) ?_
  have G6' : RcAt w6.drew g5 (recL (.string u) (.slice a2 n2 c2) (.int .i64 zn) K V) := G6
  have b6' := b6.drew
  have R46' := R46.carry (Nat.le_refl _) (Below.refl _ w6).drew
  have R6' := R6.carry (Nat.le_refl _) (Below.refl _ w6).drew
  obtain ⟨W, HW⟩ : ∃ W, Hid (w6.drew = W) := ⟨_, rfl⟩
  rw [HW.out] at G6' b6' R46' R6' ⊢
  clear cT2 G4 R4 G6 R46 R5 hb5 hb6 b5 b6 R6
  have HS0 : Below W.heap.size W W := Below.refl _ _
  have lX : (recForm u sl zn K V).length = m6 := R6'.len
  obtain ⟨X, HX⟩ : ∃ X, Hid (strOfNums (recForm u sl zn K V) = X) := ⟨_, rfl⟩
  refine lx_rd 0 (.agg (recL (.string u) (.slice a2 n2 c2) (.int .i64 zn) K V).toArray) (by kernel_rfl) (fun _ _ d _ _ h => by cases d <;> exact h) (by kernel_rfl) HS0 rfl rfl rfl (fun w' hS => ?hA0) ?_
  case hA0 => exact exec_load_row 28 (.tmp 5) rfl g5 rfl 28 _ _ (G6'.below hS) Tryd.underlying28 (hsz _ e5)
  simp only [List.setIfInBounds_toArray, List.set_cons_zero, List.set_cons_succ]
  refine lx_rd 2 ?vA2 (by kernel_rfl) (fun _ _ d _ _ h => by cases d <;> exact h) (by kernel_rfl) HS0 rfl rfl rfl (fun w' hS => ?hA2) ?_
  case hA2 => first | (go_simp; rfl) | (go_simp; done) | (go_simp; exact idx_ok (by omega) (by omega)) | (go_simp; exact wi64' (by omega) (by omega) (by omega)) | (go_simp; intro hh; exfalso; omega)
  simp only [List.setIfInBounds_toArray, List.set_cons_zero, List.set_cons_succ]
  refine lx_rd 3 (.bool true) (by kernel_rfl) (fun _ _ d _ _ h => by cases d <;> exact h) (by kernel_rfl) HS0 rfl rfl rfl (fun w' hS => ?hA3) ?_
  case hA3 => first | (go_simp; rfl) | (go_simp; done) | (go_simp; exact idx_ok (by omega) (by omega)) | (go_simp; exact wi64' (by omega) (by omega) (by omega)) | (go_simp; intro hh; exfalso; omega)
  simp only [List.setIfInBounds_toArray, List.set_cons_zero, List.set_cons_succ]
  refine lx_one 1 (by kernel_rfl) (stepT_call 14 #[.agg (recL (.string u) (.slice a2 n2 c2) (.int .i64 zn) K V).toArray] rfl rfl rfl ?r1 ?_)
  case r1 => first | (go_simp; rfl) | go_simp
  refine (refRight_any u a2 n2 c2 zn K V _ (by omega)).mono ?_
  rintro e w8 ⟨rfl, hb8⟩
  rw [show rightB u n2 zn = true from by rw [← R46'.len]; exact h1]
  refine ⟨_, rfl, fun _ => hb8, ?_⟩
  simp only [List.setIfInBounds_toArray, List.set_cons_zero, List.set_cons_succ]
  refine lx_rd 4 (.bool false) (by kernel_rfl) (fun _ _ d _ _ h => by cases d <;> exact h) (by kernel_rfl) hb8 rfl rfl rfl (fun w' hS => ?hB4) ?_
  case hB4 => first | (go_simp; rfl) | (go_simp; done) | (go_simp; exact idx_ok (by omega) (by omega)) | (go_simp; exact wi64' (by omega) (by omega) (by omega)) | (go_simp; intro hh; exfalso; omega)
  simp only [List.setIfInBounds_toArray, List.set_cons_zero, List.set_cons_succ]
  refine lx_rd 5 (.bool false) (by kernel_rfl) (fun _ _ d _ _ h => by cases d <;> exact h) (by kernel_rfl) hb8 rfl rfl rfl (fun w' hS => ?hB5) ?_
  case hB5 => first | (go_simp; rfl) | (go_simp; done) | (go_simp; exact idx_ok (by omega) (by omega)) | (go_simp; exact wi64' (by omega) (by omega) (by omega)) | (go_simp; intro hh; exfalso; omega)
  simp only [List.setIfInBounds_toArray, List.set_cons_zero, List.set_cons_succ]
  refine lx_rd 6 ?vB6 (by kernel_rfl) (fun _ _ d _ _ h => by cases d <;> exact h) (by kernel_rfl) hb8 rfl rfl rfl (fun w' hS => ?hB6) ?_
  case hB6 => first | (go_simp; rfl) | (go_simp; done) | (go_simp; exact idx_ok (by omega) (by omega)) | (go_simp; exact wi64' (by omega) (by omega) (by omega)) | (go_simp; intro hh; exfalso; omega)
  simp only [List.setIfInBounds_toArray, List.set_cons_zero, List.set_cons_succ]
  refine lx_rd 7 (.bool true) (by kernel_rfl) (fun _ _ d _ _ h => by cases d <;> exact h) (by kernel_rfl) hb8 rfl rfl rfl (fun w' hS => ?hB7) ?_
  case hB7 => first | (go_simp; rfl) | (go_simp; done) | (go_simp; exact idx_ok (by omega) (by omega)) | (go_simp; exact wi64' (by omega) (by omega) (by omega)) | (go_simp; intro hh; exfalso; omega)
  simp only [List.setIfInBounds_toArray, List.set_cons_zero, List.set_cons_succ]
  refine lx_rd 8 (.bool true) (by kernel_rfl) (fun _ _ d _ _ h => by cases d <;> exact h) (by kernel_rfl) hb8 rfl rfl rfl (fun w' hS => ?hB8) ?_
  case hB8 => first | (go_simp; rfl) | (go_simp; done) | (go_simp; exact idx_ok (by omega) (by omega)) | (go_simp; exact wi64' (by omega) (by omega) (by omega)) | (go_simp; intro hh; exfalso; omega)
  simp only [List.setIfInBounds_toArray, List.set_cons_zero, List.set_cons_succ]
  refine lx_rd 9 ?vB9 (by kernel_rfl) (fun _ _ d _ _ h => by cases d <;> exact h) (by kernel_rfl) hb8 rfl rfl rfl (fun w' hS => ?hB9) ?_
  case hB9 => first | (go_simp; rfl) | (go_simp; done) | (go_simp; exact idx_ok (by omega) (by omega)) | (go_simp; exact wi64' (by omega) (by omega) (by omega)) | (go_simp; intro hh; exfalso; omega)
  simp only [List.setIfInBounds_toArray, List.set_cons_zero, List.set_cons_succ]
  refine lx_rd 10 (.string X) (by kernel_rfl) (fun _ _ d _ _ h => by cases d <;> exact h) (by kernel_rfl) hb8 rfl rfl rfl (fun w' hS => ?hB10) ?_
  case hB10 => have hq := (R6'.carry (Nat.le_refl _) hS).string; rw [HX.out] at hq; first | (go_simp; rfl) | (go_simp; done) | (go_simp; exact idx_ok (by omega) (by omega)) | (go_simp; exact wi64' (by omega) (by omega) (by omega)) | (go_simp; intro hh; exfalso; omega)
  simp only [List.setIfInBounds_toArray, List.set_cons_zero, List.set_cons_succ]
  refine lx_rd 11 (.agg (recL (.string u) (.slice a2 n2 c2) (.int .i64 zn) K V).toArray) (by kernel_rfl) (fun _ _ d _ _ h => by cases d <;> exact h) (by kernel_rfl) hb8 rfl rfl rfl (fun w' hS => ?hB11) ?_
  case hB11 => exact exec_load_row 28 (.tmp 5) rfl g5 rfl 28 _ _ (G6'.below hS) Tryd.underlying28 (hsz _ e5)
  simp only [List.setIfInBounds_toArray, List.set_cons_zero, List.set_cons_succ]
  refine lx_one 12 (by kernel_rfl) (stepT_call 15 #[.agg (recL (.string u) (.slice a2 n2 c2) (.int .i64 zn) K V).toArray] rfl rfl rfl ?r12 ?_)
  case r12 => first | (go_simp; rfl) | go_simp
  have R48 := R46'.carry (Nat.le_refl _) hb8
  refine (refCWrite_any u a2 n2 c2 sl zn K V _ (by omega) (by have := R46'.len; omega) (by omega) R48 hK hV bK bV).mono ?_
  rintro e w9 ⟨a9, m9, c9, rfl, R9, hb9⟩
  have hb9' := hb8.trans (hb9.mono hb8.size)
  have hq9 := R9.string
  rw [HX.out] at hq9
  refine ⟨_, rfl, fun _ => hb9', ?_⟩
  simp only [List.setIfInBounds_toArray, List.set_cons_zero, List.set_cons_succ]
  refine lx_one 13 (by kernel_rfl) (stepT_val (w' := w9) (.string X) rfl rfl rfl ?r13 (fun _ => hb9') ?_)
  case r13 => first | (go_simp; rfl) | go_simp
  simp only [List.setIfInBounds_toArray, List.set_cons_zero, List.set_cons_succ]
  have hc9 := hb9'
  refine lx_rd 14 (.bool false) (by kernel_rfl) (fun _ _ d _ _ h => by cases d <;> exact h) (by kernel_rfl) hc9 rfl rfl rfl (fun w' hS => ?hD14) ?_
  case hD14 => first | (go_simp; rfl) | (go_simp; done) | (go_simp; exact idx_ok (by omega) (by omega)) | (go_simp; exact wi64' (by omega) (by omega) (by omega)) | (go_simp; intro hh; exfalso; omega)
  simp only [List.setIfInBounds_toArray, List.set_cons_zero, List.set_cons_succ]
  refine lx_rd 15 (.bool false) (by kernel_rfl) (fun _ _ d _ _ h => by cases d <;> exact h) (by kernel_rfl) hc9 rfl rfl rfl (fun w' hS => ?hD15) ?_
  case hD15 => first | (go_simp; rfl) | (go_simp; done) | (go_simp; exact idx_ok (by omega) (by omega)) | (go_simp; exact wi64' (by omega) (by omega) (by omega)) | (go_simp; intro hh; exfalso; omega)
  simp only [List.setIfInBounds_toArray, List.set_cons_zero, List.set_cons_succ]
  refine lx_rd 16 (.bool false) (by kernel_rfl) (fun _ _ d _ _ h => by cases d <;> exact h) (by kernel_rfl) hc9 rfl rfl rfl (fun w' hS => ?hD16) ?_
  case hD16 => first | (go_simp; rfl) | (go_simp; done) | (go_simp; exact idx_ok (by omega) (by omega)) | (go_simp; exact wi64' (by omega) (by omega) (by omega)) | (go_simp; intro hh; exfalso; omega)
  simp only [List.setIfInBounds_toArray, List.set_cons_zero, List.set_cons_succ]
  refine lx_rd 17 (.bool false) (by kernel_rfl) (fun _ _ d _ _ h => by cases d <;> exact h) (by kernel_rfl) hc9 rfl rfl rfl (fun w' hS => ?hD17) ?_
  case hD17 => first | (go_simp; rfl) | (go_simp; done) | (go_simp; exact idx_ok (by omega) (by omega)) | (go_simp; exact wi64' (by omega) (by omega) (by omega)) | (go_simp; intro hh; exfalso; omega)
  simp only [List.setIfInBounds_toArray, List.set_cons_zero, List.set_cons_succ]
  refine lx_rd 18 ?vD18 (by kernel_rfl) (fun _ _ d _ _ h => by cases d <;> exact h) (by kernel_rfl) hc9 rfl rfl rfl (fun w' hS => ?hD18) ?_
  case hD18 => first | (go_simp; rfl) | (go_simp; done) | (go_simp; exact idx_ok (by omega) (by omega)) | (go_simp; exact wi64' (by omega) (by omega) (by omega)) | (go_simp; intro hh; exfalso; omega)
  simp only [List.setIfInBounds_toArray, List.set_cons_zero, List.set_cons_succ]
  refine lx_rd 19 (.bool false) (by kernel_rfl) (fun _ _ d _ _ h => by cases d <;> exact h) (by kernel_rfl) hc9 rfl rfl rfl (fun w' hS => ?hD19) ?_
  case hD19 => first | (go_simp; rfl) | (go_simp; done) | (go_simp; exact idx_ok (by omega) (by omega)) | (go_simp; exact wi64' (by omega) (by omega) (by omega)) | (go_simp; intro hh; exfalso; omega)
  simp only [List.setIfInBounds_toArray, List.set_cons_zero, List.set_cons_succ]
  refine lx_rd 20 (.bool false) (by kernel_rfl) (fun _ _ d _ _ h => by cases d <;> exact h) (by kernel_rfl) hc9 rfl rfl rfl (fun w' hS => ?hD20) ?_
  case hD20 => first | (go_simp; rfl) | (go_simp; done) | (go_simp; exact idx_ok (by omega) (by omega)) | (go_simp; exact wi64' (by omega) (by omega) (by omega)) | (go_simp; intro hh; exfalso; omega)
  simp only [List.setIfInBounds_toArray, List.set_cons_zero, List.set_cons_succ]
  refine lx_skip 21 (by kernel_rfl) (fun _ _ d _ _ h => by cases d <;> exact h) (by kernel_rfl) hc9 rfl rfl rfl ?_
  simp only [List.setIfInBounds_toArray, List.set_cons_zero, List.set_cons_succ]
  refine lx_skip 22 (by kernel_rfl) (fun _ _ d _ _ h => by cases d <;> exact h) (by kernel_rfl) hc9 rfl rfl rfl ?_
  simp only [List.setIfInBounds_toArray, List.set_cons_zero, List.set_cons_succ]
  refine lx_skip 23 (by kernel_rfl) (fun _ _ d _ _ h => by cases d <;> exact h) (by kernel_rfl) hc9 rfl rfl rfl ?_
  simp only [List.setIfInBounds_toArray, List.set_cons_zero, List.set_cons_succ]
  refine lx_skip 24 (by kernel_rfl) (fun _ _ d _ _ h => by cases d <;> exact h) (by kernel_rfl) hc9 rfl rfl rfl ?_
  simp only [List.setIfInBounds_toArray, List.set_cons_zero, List.set_cons_succ]
  refine lx_skip 25 (by kernel_rfl) (fun _ _ d _ _ h => by cases d <;> exact h) (by kernel_rfl) hc9 rfl rfl rfl ?_
  simp only [List.setIfInBounds_toArray, List.set_cons_zero, List.set_cons_succ]
  refine lx_skip 26 (by kernel_rfl) (fun _ _ d _ _ h => by cases d <;> exact h) (by kernel_rfl) hc9 rfl rfl rfl ?_
  simp only [List.setIfInBounds_toArray, List.set_cons_zero, List.set_cons_succ]
  refine lx_skip 27 (by kernel_rfl) (fun _ _ d _ _ h => by cases d <;> exact h) (by kernel_rfl) hc9 rfl rfl rfl ?_
  simp only [List.setIfInBounds_toArray, List.set_cons_zero, List.set_cons_succ]
  refine lx_rd 28 (.bool false) (by kernel_rfl) (fun _ _ d _ _ h => by cases d <;> exact h) (by kernel_rfl) hc9 rfl rfl rfl (fun w' hS => ?hF28) ?_
  case hF28 => first | (go_simp; rfl) | (go_simp; done) | (go_simp; exact idx_ok (by omega) (by omega)) | (go_simp; exact wi64' (by omega) (by omega) (by omega)) | (go_simp; intro hh; exfalso; omega)
  simp only [List.setIfInBounds_toArray, List.set_cons_zero, List.set_cons_succ]
  refine lx_rd 29 (.bool false) (by kernel_rfl) (fun _ _ d _ _ h => by cases d <;> exact h) (by kernel_rfl) hc9 rfl rfl rfl (fun w' hS => ?hF29) ?_
  case hF29 => first | (go_simp; rfl) | (go_simp; done) | (go_simp; exact idx_ok (by omega) (by omega)) | (go_simp; exact wi64' (by omega) (by omega) (by omega)) | (go_simp; intro hh; exfalso; omega)
  simp only [List.setIfInBounds_toArray, List.set_cons_zero, List.set_cons_succ]
  refine lx_nil (by kernel_rfl) ?_
  have bq := b6'.trans (hb9'.mono b6'.size)
  clear hb8 HS0 b6' G6' R46' R6' R48 hb9 hb9' hc9 R9 hq9
  have Yq := hY.carry (Nat.le_refl _) bq
  have q3 : 32 ≤ (rx3 (ys.take 200)).length ∧ 32 ≤ (rx4 (ys.take 200)).length := by
    have h2' := h2
    unfold recOk usrOk at h2'
    simp only [Bool.and_eq_true, decide_eq_true_eq] at h2'
    exact ⟨h2'.2.2.2.2.1, h2'.2.2.2.2.2.1⟩
  have l3 : ((rx3 (ys.take 200)).take 32).length = 32 := by rw [List.length_take]; omega
  have l4 : ((rx4 (ys.take 200)).take 32).length = 32 := by rw [List.length_take]; omega
  have h2r := h2
  rw [← rOk_rec _ (hY.bytes.take 200)] at h2r
  go_upto_region 6 with (first
    | (go_at_call 17; refine (few8_any b m d ys _ Yq).mono ?_; rintro e v1 ⟨a11, n11, c11, rfl, R11, hb11⟩; have b11 := bq.trans (hb11.mono bq.size); have n11l : n11 ≤ 200 := by (rw [← R11.len, List.length_take]; omega))
    | (go_at_call 16; refine (read_ok a11 n11 c11 (ys.take 200) v1 R11 (by omega) (Nm.tabs_below hT b11) (hB.carry b11) h2).mono ?_; rintro e v2 ⟨⟨a12, n12, c12, rfl, R12, _⟩, hb12⟩; have b12 := b11.trans (hb12.mono b11.size))
    | (refine wp_alloc_row rfl 28 rfl rec0 67 zero_rec ?_; intro g10 v3 G13 hg10 hb13)
    | (refine wp_store_rec rfl (.tmp 8) (.tmp 53) rfl g10 rfl _ rfl _ G13 rec0_len (rec_len _ _ _ l3 l4) (rec_one _ _ _ _ _ _ _) ?_; intro v4 G14 k14))
  have b13 := b12.trans (hb13.mono b12.size)
  have b14 := b13.trans ((k14.mono (fun _ e => (show w.heap.size ≤ _ by have := b12.size; omega))).below b13.size (fun _ h => h))
  have Y14 := hY.carry (Nat.le_refl _) b14
  have R14 := (R12.carry (Nat.le_refl _) hb13).apart k14 (fun ad had h0 e => by have := R12.blk h0 had; omega)
  clear Yq G13 k14 hb13 hb12 hb11 R11
  go_upto_region 7 with (first
    | (go_at_call 17; refine (few8_any b m d ys _ Y14).mono ?_; rintro e v21 ⟨a21, n21, c21, rfl, R21, hb21⟩; have b21 := b14.trans (hb21.mono b14.size); have n21l : n21 ≤ 200 := by (rw [← R21.len, List.length_take]; omega))
    | (go_at_call 18; refine (refCRead_ok a21 n21 c21 (ys.take 200) v21 R21 (by omega) h2r).mono ?_; rintro e v22 ⟨⟨a22, n22, c22, rfl, R22⟩, hb22⟩; have b22 := b21.trans (hb22.mono b21.size))
    | (refine wp_alloc_row rfl 28 rfl rec0 67 zero_rec ?_; intro g20 v23 G23 hg20 hb23)
    | (refine wp_store_rec rfl (.tmp 9) (.tmp 59) rfl g20 rfl _ rfl _ G23 rec0_len (rec_len _ _ _ l3 l4) (rec_one _ _ _ _ _ _ _) ?_; intro v24 G24 k24))
  have b23 := b22.trans (hb23.mono b22.size)
  have b24 := b23.trans ((k24.mono (fun _ e => (show w.heap.size ≤ _ by have := b22.size; omega))).below b23.size (fun _ h => h))
  have g10l := G14.lt
  have G14' := (((G14.below hb21).below hb22).below hb23).keep k24 (fun e => by have := hb21.size; have := hb22.size; omega)
  have R22' := (R22.carry (Nat.le_refl _) hb23).apart k24 (fun ad had h0 e => by have := R22.blk h0 had; omega)
  have R14a := (R14.carry (Nat.le_refl _) hb21).carry (Nat.le_refl _) hb22
  have R14' := (R14a.carry (Nat.le_refl _) hb23).apart k24 (fun ad had h0 e => by have := R14a.blk h0 had; omega)
  have e67 := fun p q r => rec_len (.string (usrT (ys.take 200))) (.slice p q r) (.int .i64 ((scan (rx2 (ys.take 200)) 0 0).1 : Nat)) l3 l4
  clear R14 R14a R22 R12 hb21 hb22 hb23 G14 G23 k24 R21
  go_wp2_with (first
    | (refine wp_load_rec rfl (.tmp 8) rfl g10 rfl _ G14' (e67 _ _ _) ?_)
    | (refine wp_load_rec rfl (.tmp 9) rfl g20 rfl _ G24 (e67 _ _ _) ?_)
    | (go_at_call 10; refine (same_true _ _ _ _ _ _ _ _ _ _ _ _ R14' R22' l3 l4).mono ?_; rintro e v5 ⟨rfl, hb25⟩; have b25 := b24.trans (hb25.mono b24.size))
    | (go_at_call 11; refine (wakes_any _).mono ?_; rintro e v6 ⟨rfl, hb26⟩; have b26 := b25.trans (hb26.mono b25.size)))
  go_ret
  exact ⟨rfl, b26⟩

theorem credsCodes_any (U : ByteArray) (a : Option Addr) (n c : Nat) (ss : List Int) (z : Int) (K V : List Int) (b : Option Addr) (m d : Nat) (ys : List Int) (w : World) (hU : U.size ≤ 9223372036854775807) (hR : Rd w a n c ss) (hK : K.length = 32) (hV : V.length = 32) (bK : Bd K) (bV : Bd V) (hY : Rd w b m d ys) (hT : Lib.Utf8Tabs 0 1 w) (hB : Tabs w) :
    Calls Tryd.prog 4 #[.agg (recL (.string U) (.slice a n c) (.int .i64 z) K V).toArray, .slice b m d] w fun e w' => e = .returned (.bool true) ∧ Below w.heap.size w w' := by
  cases h1 : rightB (twU U) (ss.take 40).length z with
  | false =>
    cases h2 : recOk (ys.take 200) with
    | false => exact codes_00 U a n c ss z K V b m d ys w hU hR hK hV bK bV hY hT hB h1 h2
    | true => exact codes_01 U a n c ss z K V b m d ys w hU hR hK hV bK bV hY hT hB h1 h2
  | true =>
    cases h2 : recOk (ys.take 200) with
    | false => exact codes_10 U a n c ss z K V b m d ys w hU hR hK hV bK bV hY hT hB h1 h2
    | true => exact codes_11 U a n c ss z K V b m d ys w hU hR hK hV bK bV hY hT hB h1 h2

end Go.Proofs.YtiidjdedeenijaaDoor
