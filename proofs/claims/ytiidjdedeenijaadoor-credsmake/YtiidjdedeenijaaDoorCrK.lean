/- CredsMake's walk. -/
import Derived.Test.YtiidjdedeenijaaDoorCrL
namespace Go.Proofs.YtiidjdedeenijaaDoor
open Go.RowKit

theorem text_tx (T : Tx) (m : Nat) (w : World) (hT : T.length ≤ 9223372036854775807) (hm : m ≤ 100000) : Calls Tryd.prog 6 #[.string ⟨T.toArray⟩, .int .i64 m] w fun e w' => e = .returned (.string ⟨(T.take m).toArray⟩) ∧ w' = w := by
  have c := text_any ⟨T.toArray⟩ m w (by rw [size_tx]; exact hT) hm
  have e1 : strOfNums ((nums ⟨T.toArray⟩).take m) = ⟨(T.take m).toArray⟩ := by
    show strOfNums ((il T).take m) = _
    rw [show (il T).take m = il (T.take m) by simp [il, List.map_take], str_il]
  rw [e1] at c
  exact c
theorem twinR (a : Option Addr) (n c : Nat) (xs : List Int) (most : Nat) (w : World) (hR : Rd w a n c xs) (hm : most ≤ 100000) :
    Calls Tryd.prog 8 #[.slice a n c, .int .i64 most] w fun e w' => ∃ a' n' c', e = .returned (.slice a' n' c') ∧ n' ≤ most ∧ Rd w' a' n' c' (xs.take most) ∧ Below w.heap.size w w' := by
  refine (twin_any a n c xs most w hR hm).mono ?_
  rintro e w1 ⟨v1, rfl, ho1, hb1⟩
  obtain ⟨a1, c1, rfl, hr1⟩ := Rd.ofOwn ho1 (hR.bytes.take most)
  exact ⟨a1, _, c1, rfl, by rw [List.length_take]; omega, hr1, hb1⟩

theorem rem15 {N : Int} (h1 : 15 < N) : wrap64 (N.tmod 15 + 1) = N.tmod 15 + 1 := by
  have h3 : N.tmod 15 < 15 := Int.tmod_lt_of_pos N (by omega)
  have h4 : 0 ≤ N.tmod 15 := Int.tmod_nonneg _ (by omega)
  unfold wrap64; omega

set_option maxRecDepth 100000 in
set_option maxHeartbeats 3200000 in
theorem cmake_1 (U P : Tx) (a : Option Addr) (n c : Nat) (ss : List Int) (N : Int) (w : World) (hU : U.length ≤ 9223372036854775807) (hP : P.length ≤ 9223372036854775807) (hR : Rd w a n c ss) (hK : Kt w) (hT : Lib.Utf8Tabs 0 1 w) (h1 : 15 < N) (h2 : N ≤ 4096) :
    Calls Tryd.prog 3 #[.agg #[.string ⟨U.toArray⟩, .string ⟨P.toArray⟩, .slice a n c, .int .i64 N]] w fun e w' => e = .returned (.bool true) ∧ Below w.heap.size w w' := by
  obtain ⟨M, hM⟩ : ∃ M, N % 15 + 1 = M := ⟨_, rfl⟩
  have htm : N.tmod 15 = N % 15 := Int.tmod_eq_emod_of_nonneg (by omega)
  have hrem : wrap64 (N.tmod 15 + 1) = M := by rw [rem15 h1, htm, hM]
  have hrem2 : wrap64 (N % 15 + 1) = M := by rw [← htm]; exact hrem
  obtain ⟨u, sl, z, A, B, E, hA, hB, cM, cR⟩ := make_both (U.take 100) (P.take 200) (ss.take 40) (M) (by rw [List.length_take]; omega) (by rw [List.length_take]; omega)
  have cU := fun w => text_tx U 100 w hU (by omega)
  have cP := fun w => text_tx P 200 w hP (by omega)
  generalize (⟨(U.take 100).toArray⟩ : ByteArray) = U1 at cM cR cU
  generalize (⟨(P.take 200).toArray⟩ : ByteArray) = P1 at cM cR cP
  generalize (⟨U.toArray⟩ : ByteArray) = U0 at cU ⊢
  generalize (⟨P.toArray⟩ : ByteArray) = P0 at cP ⊢
  have hE : (E == E) = true := by simp
  have tk1 : True := trivial
  have tk2 : True := trivial
  have tk3 : True := trivial
  have tk4 : True := trivial
  go_enter Tryd.func3, Tryd.ntmps3
  go_wp2
  go_quiet (fail)
  have e0 : Below w.heap.size w ((w.alloc (Obj.cells #[.string U0, .string P0, .slice a n c, .int .i64 N] 24)).drewN nq) := (((Keep.refl (fun _ => False) _).alloc _).drewN _).below (Nat.le_refl _) (fun _ h => h.elim)
  generalize hW0 : (w.alloc (Obj.cells #[.string U0, .string P0, .slice a n c, .int .i64 N] 24)).drewN nq = W0 at e0 ⊢
  clear hW0
  go_wp2_with (first
    | (clear tk1; go_at_call 6; refine (cU _).mono ?_; rintro e wa ⟨rfl, rfl⟩)
    | (go_at_call 6; refine (cP _).mono ?_; rintro e wb ⟨rfl, rfl⟩)
    | (clear tk2; go_at_call 8; refine (twinR a n c ss 40 _ (hR.carry (Nat.le_refl _) e0) (by omega)).mono ?_; rintro e w1 ⟨a1, n1, c1, rfl, hn1, hR1, hb1⟩; have e1 := e0.trans (hb1.mono e0.size))
    | (go_at_call 7; refine (cM a1 n1 c1 _ hR1 (by omega) (hK.below (Nat.le_refl _) e1) (tabs_below hT e1)).mono ?_; rintro e w2 ⟨a2, n2, c2, rfl, hR2, hb2⟩; have e2 := e1.trans (hb2.mono e1.size))
    | (clear tk3; refine wp_alloc_row rfl 28 rfl rec0 67 zero_rec ?_; intro g10 w3 R10 hg10 hb3)
    | (clear tk4; refine wp_store_rec rfl (.tmp 10) (.tmp 43) rfl g10 rfl (recL (.string u) (.slice a2 n2 c2) (.int .i64 z) A B) rfl rec0 R10 rec0_len (rec_len _ _ _ hA hB) (rec_one _ _ _ _ _ _ _) ?_; intro w4 R10a hk4; have b4 : Below w2.heap.size w2 w4 := hb3.trans (hk4.below hb3.size (fun q hq => by omega)); have e4 := e2.trans (b4.mono e2.size); have hR4 := hR2.carry (Nat.le_refl _) b4)
    | (go_at_call 8; refine (twinR a n c ss 40 _ (hR.carry (Nat.le_refl _) e4) (by omega)).mono ?_; rintro e w5 ⟨a5, n5, c5, rfl, hn5, hR5, hb5⟩; have e5 := e4.trans (hb5.mono e4.size))
    | (go_at_call 9; refine (cR a5 n5 c5 _ hR5 (by omega)).mono ?_; rintro e w6 ⟨a6, n6, c6, rfl, hR6, hb6⟩; have e6 := e5.trans (hb6.mono e5.size); have b6 := hb5.trans (hb6.mono hb5.size))
    | (refine wp_alloc_row rfl 28 rfl rec0 67 zero_rec ?_; intro g12 w7 R12 hg12 hb7)
    | (refine wp_store_rec rfl (.tmp 12) (.tmp 52) rfl g12 rfl (recL (.string u) (.slice a6 n6 c6) (.int .i64 z) A B) rfl rec0 R12 rec0_len (rec_len _ _ _ hA hB) (rec_one _ _ _ _ _ _ _) ?_; intro w8 R12a hk8; have b8 : Below w6.heap.size w6 w8 := hb7.trans (hk8.below hb7.size (fun q hq => by omega)); have e8 := e6.trans (b8.mono e6.size); have b48 := b6.trans (b8.mono b6.size); have R10b := R10a.below b48; have hR8 := hR4.carry (Nat.le_refl _) b48; have hR8' := hR6.carry (Nat.le_refl _) b8)
    | (refine wp_load_rec rfl (.tmp 10) rfl g10 rfl _ R10b (rec_len _ _ _ hA hB) ?_)
    | (refine wp_load_rec rfl (.tmp 12) rfl g12 rfl _ R12a (rec_len _ _ _ hA hB) ?_)
    | (go_at_call 10; refine (same_true u a2 a6 n2 n6 c2 c6 sl z A B _ hR8 hR8' hA hB).mono ?_; rintro e w9 ⟨rfl, hb9⟩; have e9 := e8.trans (hb9.mono e8.size))
    | (go_at_call 11; refine (wakes_any _).mono ?_; rintro e w10 ⟨rfl, hb10⟩; have e10 := e9.trans (hb10.mono e9.size)))
  go_ret
  exact ⟨rfl, e10⟩

set_option maxRecDepth 100000 in
set_option maxHeartbeats 3200000 in
theorem cmake_2 (U P : Tx) (a : Option Addr) (n c : Nat) (ss : List Int) (N : Int) (w : World) (hU : U.length ≤ 9223372036854775807) (hP : P.length ≤ 9223372036854775807) (hR : Rd w a n c ss) (hK : Kt w) (hT : Lib.Utf8Tabs 0 1 w) (h1 : 15 < N) (h2 : ¬ N ≤ 4096) :
    Calls Tryd.prog 3 #[.agg #[.string ⟨U.toArray⟩, .string ⟨P.toArray⟩, .slice a n c, .int .i64 N]] w fun e w' => e = .returned (.bool true) ∧ Below w.heap.size w w' := by
  obtain ⟨u, sl, z, A, B, E, hA, hB, cM, cR⟩ := make_both (U.take 100) (P.take 200) (ss.take 40) (N) (by rw [List.length_take]; omega) (by rw [List.length_take]; omega)
  have cU := fun w => text_tx U 100 w hU (by omega)
  have cP := fun w => text_tx P 200 w hP (by omega)
  generalize (⟨(U.take 100).toArray⟩ : ByteArray) = U1 at cM cR cU
  generalize (⟨(P.take 200).toArray⟩ : ByteArray) = P1 at cM cR cP
  generalize (⟨U.toArray⟩ : ByteArray) = U0 at cU ⊢
  generalize (⟨P.toArray⟩ : ByteArray) = P0 at cP ⊢
  have hE : (E == E) = true := by simp
  have tk1 : True := trivial
  have tk2 : True := trivial
  have tk3 : True := trivial
  have tk4 : True := trivial
  go_enter Tryd.func3, Tryd.ntmps3
  go_wp2
  go_quiet (fail)
  have e0 : Below w.heap.size w ((w.alloc (Obj.cells #[.string U0, .string P0, .slice a n c, .int .i64 N] 24)).drewN nq) := (((Keep.refl (fun _ => False) _).alloc _).drewN _).below (Nat.le_refl _) (fun _ h => h.elim)
  generalize hW0 : (w.alloc (Obj.cells #[.string U0, .string P0, .slice a n c, .int .i64 N] 24)).drewN nq = W0 at e0 ⊢
  clear hW0
  go_wp2_with (first
    | (clear tk1; go_at_call 6; refine (cU _).mono ?_; rintro e wa ⟨rfl, rfl⟩)
    | (go_at_call 6; refine (cP _).mono ?_; rintro e wb ⟨rfl, rfl⟩)
    | (clear tk2; go_at_call 8; refine (twinR a n c ss 40 _ (hR.carry (Nat.le_refl _) e0) (by omega)).mono ?_; rintro e w1 ⟨a1, n1, c1, rfl, hn1, hR1, hb1⟩; have e1 := e0.trans (hb1.mono e0.size))
    | (go_at_call 7; refine (cM a1 n1 c1 _ hR1 (by omega) (hK.below (Nat.le_refl _) e1) (tabs_below hT e1)).mono ?_; rintro e w2 ⟨a2, n2, c2, rfl, hR2, hb2⟩; have e2 := e1.trans (hb2.mono e1.size))
    | (clear tk3; refine wp_alloc_row rfl 28 rfl rec0 67 zero_rec ?_; intro g10 w3 R10 hg10 hb3)
    | (clear tk4; refine wp_store_rec rfl (.tmp 10) (.tmp 43) rfl g10 rfl (recL (.string u) (.slice a2 n2 c2) (.int .i64 z) A B) rfl rec0 R10 rec0_len (rec_len _ _ _ hA hB) (rec_one _ _ _ _ _ _ _) ?_; intro w4 R10a hk4; have b4 : Below w2.heap.size w2 w4 := hb3.trans (hk4.below hb3.size (fun q hq => by omega)); have e4 := e2.trans (b4.mono e2.size); have hR4 := hR2.carry (Nat.le_refl _) b4)
    | (go_at_call 8; refine (twinR a n c ss 40 _ (hR.carry (Nat.le_refl _) e4) (by omega)).mono ?_; rintro e w5 ⟨a5, n5, c5, rfl, hn5, hR5, hb5⟩; have e5 := e4.trans (hb5.mono e4.size))
    | (go_at_call 9; refine (cR a5 n5 c5 _ hR5 (by omega)).mono ?_; rintro e w6 ⟨a6, n6, c6, rfl, hR6, hb6⟩; have e6 := e5.trans (hb6.mono e5.size); have b6 := hb5.trans (hb6.mono hb5.size))
    | (refine wp_alloc_row rfl 28 rfl rec0 67 zero_rec ?_; intro g12 w7 R12 hg12 hb7)
    | (refine wp_store_rec rfl (.tmp 12) (.tmp 52) rfl g12 rfl (recL (.string u) (.slice a6 n6 c6) (.int .i64 z) A B) rfl rec0 R12 rec0_len (rec_len _ _ _ hA hB) (rec_one _ _ _ _ _ _ _) ?_; intro w8 R12a hk8; have b8 : Below w6.heap.size w6 w8 := hb7.trans (hk8.below hb7.size (fun q hq => by omega)); have e8 := e6.trans (b8.mono e6.size); have b48 := b6.trans (b8.mono b6.size); have R10b := R10a.below b48; have hR8 := hR4.carry (Nat.le_refl _) b48; have hR8' := hR6.carry (Nat.le_refl _) b8)
    | (refine wp_load_rec rfl (.tmp 10) rfl g10 rfl _ R10b (rec_len _ _ _ hA hB) ?_)
    | (refine wp_load_rec rfl (.tmp 12) rfl g12 rfl _ R12a (rec_len _ _ _ hA hB) ?_)
    | (go_at_call 10; refine (same_true u a2 a6 n2 n6 c2 c6 sl z A B _ hR8 hR8' hA hB).mono ?_; rintro e w9 ⟨rfl, hb9⟩; have e9 := e8.trans (hb9.mono e8.size))
    | (go_at_call 11; refine (wakes_any _).mono ?_; rintro e w10 ⟨rfl, hb10⟩; have e10 := e9.trans (hb10.mono e9.size)))
  go_ret
  exact ⟨rfl, e10⟩

set_option maxRecDepth 100000 in
set_option maxHeartbeats 3200000 in
theorem cmake_3 (U P : Tx) (a : Option Addr) (n c : Nat) (ss : List Int) (N : Int) (w : World) (hU : U.length ≤ 9223372036854775807) (hP : P.length ≤ 9223372036854775807) (hR : Rd w a n c ss) (hK : Kt w) (hT : Lib.Utf8Tabs 0 1 w) (h1 : ¬ 15 < N) :
    Calls Tryd.prog 3 #[.agg #[.string ⟨U.toArray⟩, .string ⟨P.toArray⟩, .slice a n c, .int .i64 N]] w fun e w' => e = .returned (.bool true) ∧ Below w.heap.size w w' := by
  obtain ⟨u, sl, z, A, B, E, hA, hB, cM, cR⟩ := make_both (U.take 100) (P.take 200) (ss.take 40) (N) (by rw [List.length_take]; omega) (by rw [List.length_take]; omega)
  have cU := fun w => text_tx U 100 w hU (by omega)
  have cP := fun w => text_tx P 200 w hP (by omega)
  generalize (⟨(U.take 100).toArray⟩ : ByteArray) = U1 at cM cR cU
  generalize (⟨(P.take 200).toArray⟩ : ByteArray) = P1 at cM cR cP
  generalize (⟨U.toArray⟩ : ByteArray) = U0 at cU ⊢
  generalize (⟨P.toArray⟩ : ByteArray) = P0 at cP ⊢
  have hE : (E == E) = true := by simp
  have tk1 : True := trivial
  have tk2 : True := trivial
  have tk3 : True := trivial
  have tk4 : True := trivial
  go_enter Tryd.func3, Tryd.ntmps3
  go_wp2
  go_quiet (fail)
  have e0 : Below w.heap.size w ((w.alloc (Obj.cells #[.string U0, .string P0, .slice a n c, .int .i64 N] 24)).drewN nq) := (((Keep.refl (fun _ => False) _).alloc _).drewN _).below (Nat.le_refl _) (fun _ h => h.elim)
  generalize hW0 : (w.alloc (Obj.cells #[.string U0, .string P0, .slice a n c, .int .i64 N] 24)).drewN nq = W0 at e0 ⊢
  clear hW0
  go_wp2_with (first
    | (clear tk1; go_at_call 6; refine (cU _).mono ?_; rintro e wa ⟨rfl, rfl⟩)
    | (go_at_call 6; refine (cP _).mono ?_; rintro e wb ⟨rfl, rfl⟩)
    | (clear tk2; go_at_call 8; refine (twinR a n c ss 40 _ (hR.carry (Nat.le_refl _) e0) (by omega)).mono ?_; rintro e w1 ⟨a1, n1, c1, rfl, hn1, hR1, hb1⟩; have e1 := e0.trans (hb1.mono e0.size))
    | (go_at_call 7; refine (cM a1 n1 c1 _ hR1 (by omega) (hK.below (Nat.le_refl _) e1) (tabs_below hT e1)).mono ?_; rintro e w2 ⟨a2, n2, c2, rfl, hR2, hb2⟩; have e2 := e1.trans (hb2.mono e1.size))
    | (clear tk3; refine wp_alloc_row rfl 28 rfl rec0 67 zero_rec ?_; intro g10 w3 R10 hg10 hb3)
    | (clear tk4; refine wp_store_rec rfl (.tmp 10) (.tmp 43) rfl g10 rfl (recL (.string u) (.slice a2 n2 c2) (.int .i64 z) A B) rfl rec0 R10 rec0_len (rec_len _ _ _ hA hB) (rec_one _ _ _ _ _ _ _) ?_; intro w4 R10a hk4; have b4 : Below w2.heap.size w2 w4 := hb3.trans (hk4.below hb3.size (fun q hq => by omega)); have e4 := e2.trans (b4.mono e2.size); have hR4 := hR2.carry (Nat.le_refl _) b4)
    | (go_at_call 8; refine (twinR a n c ss 40 _ (hR.carry (Nat.le_refl _) e4) (by omega)).mono ?_; rintro e w5 ⟨a5, n5, c5, rfl, hn5, hR5, hb5⟩; have e5 := e4.trans (hb5.mono e4.size))
    | (go_at_call 9; refine (cR a5 n5 c5 _ hR5 (by omega)).mono ?_; rintro e w6 ⟨a6, n6, c6, rfl, hR6, hb6⟩; have e6 := e5.trans (hb6.mono e5.size); have b6 := hb5.trans (hb6.mono hb5.size))
    | (refine wp_alloc_row rfl 28 rfl rec0 67 zero_rec ?_; intro g12 w7 R12 hg12 hb7)
    | (refine wp_store_rec rfl (.tmp 12) (.tmp 52) rfl g12 rfl (recL (.string u) (.slice a6 n6 c6) (.int .i64 z) A B) rfl rec0 R12 rec0_len (rec_len _ _ _ hA hB) (rec_one _ _ _ _ _ _ _) ?_; intro w8 R12a hk8; have b8 : Below w6.heap.size w6 w8 := hb7.trans (hk8.below hb7.size (fun q hq => by omega)); have e8 := e6.trans (b8.mono e6.size); have b48 := b6.trans (b8.mono b6.size); have R10b := R10a.below b48; have hR8 := hR4.carry (Nat.le_refl _) b48; have hR8' := hR6.carry (Nat.le_refl _) b8)
    | (refine wp_load_rec rfl (.tmp 10) rfl g10 rfl _ R10b (rec_len _ _ _ hA hB) ?_)
    | (refine wp_load_rec rfl (.tmp 12) rfl g12 rfl _ R12a (rec_len _ _ _ hA hB) ?_)
    | (go_at_call 10; refine (same_true u a2 a6 n2 n6 c2 c6 sl z A B _ hR8 hR8' hA hB).mono ?_; rintro e w9 ⟨rfl, hb9⟩; have e9 := e8.trans (hb9.mono e8.size))
    | (go_at_call 11; refine (wakes_any _).mono ?_; rintro e w10 ⟨rfl, hb10⟩; have e10 := e9.trans (hb10.mono e9.size)))
  go_ret
  exact ⟨rfl, e10⟩

theorem credsMake_any (U P : Tx) (a : Option Addr) (n c : Nat) (ss : List Int) (N : Int) (w : World) (hU : U.length ≤ 9223372036854775807) (hP : P.length ≤ 9223372036854775807) (hR : Rd w a n c ss) (hK : Kt w) (hT : Lib.Utf8Tabs 0 1 w) :
    Calls Tryd.prog 3 #[.agg #[.string ⟨U.toArray⟩, .string ⟨P.toArray⟩, .slice a n c, .int .i64 N]] w fun e w' => e = .returned (.bool true) ∧ Below w.heap.size w w' := by
  by_cases h1 : 15 < N
  · by_cases h2 : N ≤ 4096
    · exact cmake_1 U P a n c ss N w hU hP hR hK hT h1 h2
    · exact cmake_2 U P a n c ss N w hU hP hR hK hT h1 h2
  · exact cmake_3 U P a n c ss N w hU hP hR hK hT h1

end Go.Proofs.YtiidjdedeenijaaDoor
