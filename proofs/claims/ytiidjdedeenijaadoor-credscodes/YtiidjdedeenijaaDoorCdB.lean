/- The document's Right of a record. -/
import Derived.Test.YtiidjdedeenijaaDoorCwA
import Derived.Test.YtiidjdedeenijaaDoorNmRefL
import Derived.Test.YtiidjdedeenijaaDoorRefT
import Derived.Test.YtiidjdedeenijaaDoorLate
namespace Go.Proofs.YtiidjdedeenijaaDoor
open Go.RowKit


set_option maxRecDepth 100000 in
set_option maxHeartbeats 1600000 in
theorem refRight_1 (u : ByteArray) (a : Option Addr) (n c : Nat) (z : Int) (K V : List Int) (w : World) (L : ByteArray) (X : Int) (hc : ∀ v : World, Calls Tryd.prog 24 #[.string u] v fun e w' => e = .returned (.tuple #[.string L, .int .i64 X]) ∧ Below v.heap.size v w') (h1 : (X == 0) = false) :
    Calls Tryd.prog 14 #[.agg (recL (.string u) (.slice a n c) (.int .i64 z) K V).toArray] w fun e w' => e = .returned (.bool false) ∧ Below w.heap.size w w' := by
  go_enter Tryd.func14, Tryd.ntmps14
  go_wp2_with (first
    | (refine wp_box_row rfl 28 (.tmp 0) rfl (recL (.string u) (.slice a n c) (.int .i64 z) K V) rfl ?_; intro g1 w1 R1 hg1 hb1; have A1 : RcAt w1 g1 _ := R1; have p0 := A1.cell 0; change _ = some _ at p0)
    | (go_at_call 24; refine (hc _).mono ?_; rintro e w2 ⟨rfl, hb2⟩; have e2 := hb1.trans (hb2.mono hb1.size); have A2 := A1.below hb2; have p1 := A2.cell 1; change _ = some _ at p1; have p2 := A2.cell 2; change _ = some _ at p2; have p02 := A2.cell 0; change _ = some _ at p02; clear p0 A1 A2 R1))
  go_ret
  exact ⟨rfl, e2⟩

set_option maxRecDepth 100000 in
set_option maxHeartbeats 1600000 in
theorem refRight_2 (u : ByteArray) (a : Option Addr) (n c : Nat) (z : Int) (K V : List Int) (w : World) (L : ByteArray) (X : Int) (hc : ∀ v : World, Calls Tryd.prog 24 #[.string u] v fun e w' => e = .returned (.tuple #[.string L, .int .i64 X]) ∧ Below v.heap.size v w') (h1 : X = 0) (h2 : (L.toList == u.toList) = false) :
    Calls Tryd.prog 14 #[.agg (recL (.string u) (.slice a n c) (.int .i64 z) K V).toArray] w fun e w' => e = .returned (.bool false) ∧ Below w.heap.size w w' := by
  go_enter Tryd.func14, Tryd.ntmps14
  go_wp2_with (first
    | (refine wp_box_row rfl 28 (.tmp 0) rfl (recL (.string u) (.slice a n c) (.int .i64 z) K V) rfl ?_; intro g1 w1 R1 hg1 hb1; have A1 : RcAt w1 g1 _ := R1; have p0 := A1.cell 0; change _ = some _ at p0)
    | (go_at_call 24; refine (hc _).mono ?_; rintro e w2 ⟨rfl, hb2⟩; have e2 := hb1.trans (hb2.mono hb1.size); have A2 := A1.below hb2; have p1 := A2.cell 1; change _ = some _ at p1; have p2 := A2.cell 2; change _ = some _ at p2; have p02 := A2.cell 0; change _ = some _ at p02; clear p0 A1 A2 R1))
  go_ret
  exact ⟨rfl, e2⟩

set_option maxRecDepth 100000 in
set_option maxHeartbeats 1600000 in
theorem refRight_3 (u : ByteArray) (a : Option Addr) (n c : Nat) (z : Int) (K V : List Int) (w : World) (L : ByteArray) (X : Int) (hc : ∀ v : World, Calls Tryd.prog 24 #[.string u] v fun e w' => e = .returned (.tuple #[.string L, .int .i64 X]) ∧ Below v.heap.size v w') (h1 : X = 0) (h2 : (L.toList == u.toList) = true) (h3 : ¬ (1 : Int) ≤ (n : Int)) :
    Calls Tryd.prog 14 #[.agg (recL (.string u) (.slice a n c) (.int .i64 z) K V).toArray] w fun e w' => e = .returned (.bool false) ∧ Below w.heap.size w w' := by
  go_enter Tryd.func14, Tryd.ntmps14
  go_wp2_with (first
    | (refine wp_box_row rfl 28 (.tmp 0) rfl (recL (.string u) (.slice a n c) (.int .i64 z) K V) rfl ?_; intro g1 w1 R1 hg1 hb1; have A1 : RcAt w1 g1 _ := R1; have p0 := A1.cell 0; change _ = some _ at p0)
    | (go_at_call 24; refine (hc _).mono ?_; rintro e w2 ⟨rfl, hb2⟩; have e2 := hb1.trans (hb2.mono hb1.size); have A2 := A1.below hb2; have p1 := A2.cell 1; change _ = some _ at p1; have p2 := A2.cell 2; change _ = some _ at p2; have p02 := A2.cell 0; change _ = some _ at p02; clear p0 A1 A2 R1))
  go_ret
  exact ⟨rfl, e2⟩

set_option maxRecDepth 100000 in
set_option maxHeartbeats 1600000 in
theorem refRight_4 (u : ByteArray) (a : Option Addr) (n c : Nat) (z : Int) (K V : List Int) (w : World) (L : ByteArray) (X : Int) (hc : ∀ v : World, Calls Tryd.prog 24 #[.string u] v fun e w' => e = .returned (.tuple #[.string L, .int .i64 X]) ∧ Below v.heap.size v w') (h1 : X = 0) (h2 : (L.toList == u.toList) = true) (h3 : (1 : Int) ≤ (n : Int)) (h4 : ¬ (n : Int) ≤ 32) :
    Calls Tryd.prog 14 #[.agg (recL (.string u) (.slice a n c) (.int .i64 z) K V).toArray] w fun e w' => e = .returned (.bool false) ∧ Below w.heap.size w w' := by
  go_enter Tryd.func14, Tryd.ntmps14
  go_wp2_with (first
    | (refine wp_box_row rfl 28 (.tmp 0) rfl (recL (.string u) (.slice a n c) (.int .i64 z) K V) rfl ?_; intro g1 w1 R1 hg1 hb1; have A1 : RcAt w1 g1 _ := R1; have p0 := A1.cell 0; change _ = some _ at p0)
    | (go_at_call 24; refine (hc _).mono ?_; rintro e w2 ⟨rfl, hb2⟩; have e2 := hb1.trans (hb2.mono hb1.size); have A2 := A1.below hb2; have p1 := A2.cell 1; change _ = some _ at p1; have p2 := A2.cell 2; change _ = some _ at p2; have p02 := A2.cell 0; change _ = some _ at p02; clear p0 A1 A2 R1))
  go_ret
  exact ⟨rfl, e2⟩

set_option maxRecDepth 100000 in
set_option maxHeartbeats 1600000 in
theorem refRight_5 (u : ByteArray) (a : Option Addr) (n c : Nat) (z : Int) (K V : List Int) (w : World) (L : ByteArray) (X : Int) (hc : ∀ v : World, Calls Tryd.prog 24 #[.string u] v fun e w' => e = .returned (.tuple #[.string L, .int .i64 X]) ∧ Below v.heap.size v w') (h1 : X = 0) (h2 : (L.toList == u.toList) = true) (h3 : (1 : Int) ≤ (n : Int)) (h4 : (n : Int) ≤ 32) (h5 : ¬ 1 ≤ z) :
    Calls Tryd.prog 14 #[.agg (recL (.string u) (.slice a n c) (.int .i64 z) K V).toArray] w fun e w' => e = .returned (.bool false) ∧ Below w.heap.size w w' := by
  go_enter Tryd.func14, Tryd.ntmps14
  go_wp2_with (first
    | (refine wp_box_row rfl 28 (.tmp 0) rfl (recL (.string u) (.slice a n c) (.int .i64 z) K V) rfl ?_; intro g1 w1 R1 hg1 hb1; have A1 : RcAt w1 g1 _ := R1; have p0 := A1.cell 0; change _ = some _ at p0)
    | (go_at_call 24; refine (hc _).mono ?_; rintro e w2 ⟨rfl, hb2⟩; have e2 := hb1.trans (hb2.mono hb1.size); have A2 := A1.below hb2; have p1 := A2.cell 1; change _ = some _ at p1; have p2 := A2.cell 2; change _ = some _ at p2; have p02 := A2.cell 0; change _ = some _ at p02; clear p0 A1 A2 R1))
  go_ret
  exact ⟨rfl, e2⟩

set_option maxRecDepth 100000 in
set_option maxHeartbeats 1600000 in
theorem refRight_6 (u : ByteArray) (a : Option Addr) (n c : Nat) (z : Int) (K V : List Int) (w : World) (L : ByteArray) (X : Int) (hc : ∀ v : World, Calls Tryd.prog 24 #[.string u] v fun e w' => e = .returned (.tuple #[.string L, .int .i64 X]) ∧ Below v.heap.size v w') (h1 : X = 0) (h2 : (L.toList == u.toList) = true) (h3 : (1 : Int) ≤ (n : Int)) (h4 : (n : Int) ≤ 32) (h5 : 1 ≤ z) (h6 : ¬ z ≤ 4096) :
    Calls Tryd.prog 14 #[.agg (recL (.string u) (.slice a n c) (.int .i64 z) K V).toArray] w fun e w' => e = .returned (.bool false) ∧ Below w.heap.size w w' := by
  go_enter Tryd.func14, Tryd.ntmps14
  go_wp2_with (first
    | (refine wp_box_row rfl 28 (.tmp 0) rfl (recL (.string u) (.slice a n c) (.int .i64 z) K V) rfl ?_; intro g1 w1 R1 hg1 hb1; have A1 : RcAt w1 g1 _ := R1; have p0 := A1.cell 0; change _ = some _ at p0)
    | (go_at_call 24; refine (hc _).mono ?_; rintro e w2 ⟨rfl, hb2⟩; have e2 := hb1.trans (hb2.mono hb1.size); have A2 := A1.below hb2; have p1 := A2.cell 1; change _ = some _ at p1; have p2 := A2.cell 2; change _ = some _ at p2; have p02 := A2.cell 0; change _ = some _ at p02; clear p0 A1 A2 R1))
  go_ret
  exact ⟨congrArg (fun b => Ending.returned (.bool b)) (decide_eq_false (by omega)), e2⟩

set_option maxRecDepth 100000 in
set_option maxHeartbeats 1600000 in
theorem refRight_7 (u : ByteArray) (a : Option Addr) (n c : Nat) (z : Int) (K V : List Int) (w : World) (L : ByteArray) (X : Int) (hc : ∀ v : World, Calls Tryd.prog 24 #[.string u] v fun e w' => e = .returned (.tuple #[.string L, .int .i64 X]) ∧ Below v.heap.size v w') (h1 : X = 0) (h2 : (L.toList == u.toList) = true) (h3 : (1 : Int) ≤ (n : Int)) (h4 : (n : Int) ≤ 32) (h5 : 1 ≤ z) (h6 : z ≤ 4096) :
    Calls Tryd.prog 14 #[.agg (recL (.string u) (.slice a n c) (.int .i64 z) K V).toArray] w fun e w' => e = .returned (.bool true) ∧ Below w.heap.size w w' := by
  go_enter Tryd.func14, Tryd.ntmps14
  go_wp2_with (first
    | (refine wp_box_row rfl 28 (.tmp 0) rfl (recL (.string u) (.slice a n c) (.int .i64 z) K V) rfl ?_; intro g1 w1 R1 hg1 hb1; have A1 : RcAt w1 g1 _ := R1; have p0 := A1.cell 0; change _ = some _ at p0)
    | (go_at_call 24; refine (hc _).mono ?_; rintro e w2 ⟨rfl, hb2⟩; have e2 := hb1.trans (hb2.mono hb1.size); have A2 := A1.below hb2; have p1 := A2.cell 1; change _ = some _ at p1; have p2 := A2.cell 2; change _ = some _ at p2; have p02 := A2.cell 0; change _ = some _ at p02; clear p0 A1 A2 R1))
  go_ret
  exact ⟨rfl, e2⟩

theorem refRight_any (u : ByteArray) (a : Option Addr) (n c : Nat) (z : Int) (K V : List Int) (w : World) (hu : u.size ≤ 9223372036854775807) :
    Calls Tryd.prog 14 #[.agg (recL (.string u) (.slice a n c) (.int .i64 z) K V).toArray] w fun e w' => e = .returned (.bool (rightB u n z)) ∧ Below w.heap.size w w' := by
  have hc := fun v => Nm.refLocal_any u v hu
  obtain ⟨l, x, hl⟩ : ∃ l x, Nm.localN u.data.toList = (l, x) := ⟨_, _, rfl⟩
  have hE : prepB u = decide (x = 0 ∧ l = u.data.toList) := by unfold prepB; rw [hl]
  rw [hl] at hc
  dsimp only at hc
  have hq := @str_eq_tx l u
  unfold rightB
  rw [hE]
  by_cases h1 : x = 0
  · subst h1
    by_cases h2 : l = u.data.toList
    · rw [decide_eq_true h2] at hq
      rw [decide_eq_true ⟨rfl, h2⟩, Bool.true_and]
      by_cases h3 : 1 ≤ n
      · by_cases h4 : n ≤ 32
        · rw [decide_eq_true ⟨h3, h4⟩, Bool.true_and]
          by_cases h5 : 1 ≤ z
          · by_cases h6 : z ≤ 4096
            · rw [decide_eq_true ⟨h5, h6⟩]
              exact refRight_7 u a n c z K V w _ _ hc rfl hq (by omega) (by omega) h5 h6
            · rw [decide_eq_false (fun h => h6 h.2)]
              exact refRight_6 u a n c z K V w _ _ hc rfl hq (by omega) (by omega) h5 h6
          · rw [decide_eq_false (fun h => h5 h.1)]
            exact refRight_5 u a n c z K V w _ _ hc rfl hq (by omega) (by omega) h5
        · rw [decide_eq_false (fun h => h4 h.2), Bool.false_and]
          exact refRight_4 u a n c z K V w _ _ hc rfl hq (by omega) (by omega)
      · rw [decide_eq_false (fun h => h3 h.1), Bool.false_and]
        exact refRight_3 u a n c z K V w _ _ hc rfl hq (by omega)
    · rw [decide_eq_false h2] at hq
      rw [decide_eq_false (fun h => h2 h.2), Bool.false_and, Bool.false_and]
      exact refRight_2 u a n c z K V w _ _ hc rfl hq
  · rw [decide_eq_false (fun h => h1 h.1), Bool.false_and, Bool.false_and]
    exact refRight_1 u a n c z K V w _ _ hc (by simpa using h1)
end Go.Proofs.YtiidjdedeenijaaDoor

/- The document's Write of a record. -/
namespace Go.Proofs.YtiidjdedeenijaaDoor
open Go.RowKit

theorem run_appOwn {w : World} (ty : TypeId) {base : Nat} {v : Value} {n : Nat} {xs : List Int} (hown : w.ownsRow base 5 1 v n (bc xs)) {ao : Option Addr} {m c : Nat} {ys : List Int} (hr : Rd w ao m c ys) (hb : n + m ≤ 1000000000) (hbase : base ≤ w.heap.size) :
    ∃ v' w', (Builtin.append_ #[22, 22] ty #[v, .slice ao m c]).run Tryd.prog w = .ok v' w' ∧ w'.ownsRow base 5 1 v' (n + m) (bc (xs ++ ys)) ∧ Below base w w' := by
  obtain ⟨i0, hi, hz0, hz1, hz2⟩ := info_parts Tryd.info5
  cases ao with
  | none =>
    obtain ⟨rfl, rfl⟩ := rd_noneK hr rfl
    have hys : ys = [] := List.eq_nil_of_length_eq_zero hr.len
    subst hys
    exact ⟨v, w, run_append_owned_none w base 22 ty 5 i0 1 Tryd.underlying22 hi v n (bc xs) hown, by simpa using hown, Below.refl _ _⟩
  | some ad =>
    obtain ⟨v', w', hrun, h2, h3, _⟩ := run_append_own (P := Tryd.prog) w base 22 ty 5 i0 (.int .u8 0) 1 1 Tryd.underlying22 hi hz0 hz1 hz2 rfl (by decide) v n (bc xs) hown ad m c (bc ys) (by rw [bc_len, hr.len]; omega) (hr.news rfl) (bc_one ys) (by unfold maxLen; omega) (by omega) hbase
    rw [← bc_append] at h2
    exact ⟨v', w', hrun, h2, (Below.refl _ _).grown h3 hbase (fun k hk => (hown.lt k hk).1)⟩

set_option maxRecDepth 100000 in
set_option maxHeartbeats 3200000 in
theorem refCWrite_any (u : ByteArray) (a : Option Addr) (n c : Nat) (ss : List Int) (z : Nat) (K V : List Int) (w : World) (hu : u.size ≤ 1000) (hn : n ≤ 1000) (hz : z ≤ 100000) (hR : Rd w a n c ss) (hK : K.length = 32) (hV : V.length = 32) (bK : Bd K) (bV : Bd V) :
    Calls Tryd.prog 15 #[.agg (recL (.string u) (.slice a n c) (.int .i64 z) K V).toArray] w fun e w' => ∃ a' m' c', e = .returned (.slice a' m' c') ∧ Rd w' a' m' c' (recForm u ss z K V) ∧ Below w.heap.size w w' := by
  have hnl := hR.len
  have hfu := form_le10 u.size (by omega)
  have hfn := form_le10 n (by omega)
  have hfz := form_le10 z (by omega)
  have hnu := nums_len u
  have hbu := nums_bd u
  have bs := hR.bytes
  have bfu := form_bd u.size
  have bfn := form_bd n
  have bfz := form_bd z
  obtain ⟨X1, HX1⟩ : ∃ X, Hid (form u.size ++ nums u = X) := ⟨_, rfl⟩
  have l1 : X1.length ≤ 1010 := by rw [← HX1.out, List.length_append]; omega
  have b1 : Bd X1 := by rw [← HX1.out]; exact bfu.append hbu
  go_enter Tryd.func15, Tryd.ntmps15
  go_upto_region 2 with (first
    | (refine wp_box_row rfl 28 (.tmp 0) rfl (recL (.string u) (.slice a n c) (.int .i64 z) K V) rfl ?_; intro g1 w1 R1 hg1 hb1; have A1 : RcAt w1 g1 _ := R1; have p0 := A1.cell 0; change _ = some _ at p0)
    | (go_at_call 34; refine (refPutText_any none 0 0 [] u _ (rd_nilK _) (by omega) (by omega)).mono ?_; rintro e w5 ⟨v5, rfl, ho5, hb5⟩))
  simp only [List.nil_append] at ho5
  rw [HX1.out] at ho5
  have n5 : 0 + (form u.size).length + u.size = X1.length := by rw [← HX1.out, List.length_append]; omega
  rw [n5] at ho5
  obtain ⟨a5, c5, rfl, hR5⟩ := Rd.ofOwn ho5 b1
  have e5 := hb1.trans (hb5.mono hb1.size)
  have A5 := A1.below hb5
  clear A1 p0 hb5 ho5 n5 R1
  have A5' : RcAt w5.drew g1 (recL (.string u) (.slice a n c) (.int .i64 z) K V) := A5
  have e5' := e5.drew
  have hR5' : Rd w5.drew a5 X1.length c5 X1 := ⟨hR5.len, hR5.cap, hR5.most, hR5.nil, hR5.bytes, hR5.cells⟩
  refine wp_region_lx (fun w' => Below w5.drew.heap.size w5.drew w') [] 10 (by kernel_rfl) (by kernel_rfl) ?_
  obtain ⟨W, HW⟩ : ∃ W, Hid (w5.drew = W) := ⟨_, rfl⟩
  rw [HW.out] at A5' e5' hR5' ⊢
  clear A5 e5 hR5
  have HS0 : Below W.heap.size W W := Below.refl _ _
  have wn : IntKind.u64.wrap (n : Int) = (n : Int) := by rw [IntKind.wrap_u64]; omega
  refine lx_rd 0 ?vA0 (by kernel_rfl) (fun _ _ d _ _ h => by cases d <;> exact h) (by kernel_rfl) HS0 rfl rfl rfl (fun w' hS => ?hA0) ?_
  case hA0 => first | (go_simp; rfl) | (go_simp; done) | (go_simp; exact idx_ok (by omega) (by omega)) | (go_simp; exact wi64' (by omega) (by omega) (by omega)) | (go_simp; intro hh; exfalso; omega)
  simp only [List.setIfInBounds_toArray, List.set_cons_zero, List.set_cons_succ]
  refine lx_rd 1 ?vA1 (by kernel_rfl) (fun _ _ d _ _ h => by cases d <;> exact h) (by kernel_rfl) HS0 rfl rfl rfl (fun w' hS => ?hA1) ?_
  case hA1 => first | (go_simp; rfl) | (go_simp; done) | (go_simp; exact idx_ok (by omega) (by omega)) | (go_simp; exact wi64' (by omega) (by omega) (by omega)) | (go_simp; intro hh; exfalso; omega)
  simp only [List.setIfInBounds_toArray, List.set_cons_zero, List.set_cons_succ]
  refine lx_rd 2 (.slice a n c) (by kernel_rfl) (fun _ _ d _ _ h => by cases d <;> exact h) (by kernel_rfl) HS0 rfl rfl rfl (fun w' hS => ?hA2) ?_
  case hA2 => have q := (A5'.below hS).cell 1; change _ = some _ at q; first | (go_simp; rfl) | (go_simp; done) | (go_simp; exact idx_ok (by omega) (by omega)) | (go_simp; exact wi64' (by omega) (by omega) (by omega)) | (go_simp; intro hh; exfalso; omega)
  simp only [List.setIfInBounds_toArray, List.set_cons_zero, List.set_cons_succ]
  refine lx_rd 3 ?vA3 (by kernel_rfl) (fun _ _ d _ _ h => by cases d <;> exact h) (by kernel_rfl) HS0 rfl rfl rfl (fun w' hS => ?hA3) ?_
  case hA3 => first | (go_simp; rfl) | (go_simp; done) | (go_simp; exact idx_ok (by omega) (by omega)) | (go_simp; exact wi64' (by omega) (by omega) (by omega)) | (go_simp; intro hh; exfalso; omega)
  simp only [List.setIfInBounds_toArray, List.set_cons_zero, List.set_cons_succ]
  refine lx_rd 4 (.int .u64 n) (by kernel_rfl) (fun _ _ d _ _ h => by cases d <;> exact h) (by kernel_rfl) HS0 rfl rfl rfl (fun w' hS => ?hA4) ?_
  case hA4 => first | (go_simp; rfl) | (go_simp; done) | (go_simp; exact idx_ok (by omega) (by omega)) | (go_simp; exact wi64' (by omega) (by omega) (by omega)) | (go_simp; intro hh; exfalso; omega)
  simp only [List.setIfInBounds_toArray, List.set_cons_zero, List.set_cons_succ]
  refine lx_rd 6 ?vA6 (by kernel_rfl) (fun _ _ d _ _ h => by cases d <;> exact h) (by kernel_rfl) HS0 rfl rfl rfl (fun w' hS => ?hA6) ?_
  case hA6 => first | (go_simp; rfl) | (go_simp; done) | (go_simp; exact idx_ok (by omega) (by omega)) | (go_simp; exact wi64' (by omega) (by omega) (by omega)) | (go_simp; intro hh; exfalso; omega)
  simp only [List.setIfInBounds_toArray, List.set_cons_zero, List.set_cons_succ]
  refine lx_rd 7 (.slice a n c) (by kernel_rfl) (fun _ _ d _ _ h => by cases d <;> exact h) (by kernel_rfl) HS0 rfl rfl rfl (fun w' hS => ?hA7) ?_
  case hA7 => have q := (A5'.below hS).cell 1; change _ = some _ at q; first | (go_simp; rfl) | (go_simp; done) | (go_simp; exact idx_ok (by omega) (by omega)) | (go_simp; exact wi64' (by omega) (by omega) (by omega)) | (go_simp; intro hh; exfalso; omega)
  simp only [List.setIfInBounds_toArray, List.set_cons_zero, List.set_cons_succ]
  obtain ⟨X2, HX2⟩ : ∃ X, Hid (X1 ++ form n = X) := ⟨_, rfl⟩
  have l2 : Hid (X2.length = X1.length + (form n).length) := by show X2.length = X1.length + (form n).length; rw [← HX2.out, List.length_append]
  have m2 : X2.length ≤ 1100 := by have := l2.out; omega
  have b2 : Bd X2 := by rw [← HX2.out]; exact b1.append bfn
  refine lx_one 5 (by kernel_rfl) (stepT_call 35 #[.slice a5 X1.length c5, .int .u64 n] rfl rfl rfl ?rA5 ?_)
  case rA5 => first | (go_simp; rfl) | go_simp
  refine (refPutUint_any a5 _ c5 X1 n _ hR5' (by omega) (by omega)).mono ?_
  rintro e w6 ⟨v6, rfl, ho6, hb6⟩
  rw [HX2.out, ← l2.out] at ho6
  refine ⟨_, rfl, fun _ => hb6, ?_⟩
  simp only [List.setIfInBounds_toArray, List.set_cons_zero, List.set_cons_succ]
  have hR6 := hR.carry (Nat.le_refl _) (e5'.trans (hb6.mono e5'.size))
  obtain ⟨v7, w7, hrun7, ho7, hb7⟩ := run_appOwn 22 ho6 hR6 (by omega) hb6.size
  have hc7 := hb6.trans hb7
  refine lx_one 8 (by kernel_rfl) (stepT_val (w' := w7) v7 rfl rfl rfl (exec_app rfl rfl rfl hrun7) (fun _ => hc7) ?_)
  simp only [List.setIfInBounds_toArray, List.set_cons_zero, List.set_cons_succ]
  obtain ⟨X3, HX3⟩ : ∃ X, Hid (X2 ++ ss = X) := ⟨_, rfl⟩
  have l3 : Hid (X3.length = X2.length + n) := by show X3.length = X2.length + n; rw [← HX3.out, List.length_append, hnl]
  have m3 : X3.length ≤ 2200 := by have := l3.out; omega
  have b3 : Bd X3 := by rw [← HX3.out]; exact b2.append bs
  rw [HX3.out, ← l3.out] at ho7
  obtain ⟨a7, c7, rfl, hR7⟩ := Rd.ofOwn ho7 b3
  refine lx_rd 9 (.slice a7 X3.length c7) (by kernel_rfl) (fun _ _ d _ _ h => by cases d <;> exact h) (by kernel_rfl) hc7 rfl rfl rfl (fun w' hS => ?hB9) ?_
  case hB9 => first | (go_simp; rfl) | (go_simp; done) | (go_simp; exact idx_ok (by omega) (by omega)) | (go_simp; exact wi64' (by omega) (by omega) (by omega)) | (go_simp; intro hh; exfalso; omega)
  simp only [List.setIfInBounds_toArray, List.set_cons_zero, List.set_cons_succ]
  refine lx_nil (by kernel_rfl) ?_
  have e7 := e5'.trans (hc7.mono e5'.size)
  have A7 := A5'.below hc7
  have p27 := A7.cell 2
  change _ = some _ at p27
  obtain ⟨X4, HX4⟩ : ∃ X, Hid (X3 ++ form z = X) := ⟨_, rfl⟩
  have l4 : Hid (X4.length = X3.length + (form z).length) := by show X4.length = X3.length + (form z).length; rw [← HX4.out, List.length_append]
  have m4 : X4.length ≤ 2300 := by have := l4.out; omega
  have b4 : Bd X4 := by rw [← HX4.out]; exact b3.append bfz
  have cU := refPutUint_any a7 _ c7 X3 z _ hR7 (by omega) (by omega)
  clear ho6 hb6 ho7 hR6 A5' e5' hrun7 hb7 hc7 hR5' HW HS0
  go_upto_region 4 with (first
    | (go_at_call 35; refine cU.mono ?_; rintro e w8 ⟨v8, rfl, ho8, hb8⟩))
  rw [HX4.out, ← l4.out] at ho8
  have e8 := (e7.trans (hb8.mono e7.size)).drew
  have A8 : RcAt w8.drew g1 (recL (.string u) (.slice a n c) (.int .i64 z) K V) := A7.below hb8.drew
  have ho8' : w8.drew.ownsRow w7.heap.size 5 1 v8 X4.length (bc X4) := ho8
  have hb8' : Below w7.heap.size w7 w8.drew := hb8.drew
  have g7 := A7.lt
  clear ho8 hb8 A7 cU hR7 p27
  refine wp_region_lx (fun w' => Below w7.heap.size w8.drew w') [] 8 (by kernel_rfl) (by kernel_rfl) ?_
  obtain ⟨W, HW⟩ : ∃ W, Hid (w8.drew = W) := ⟨_, rfl⟩
  rw [HW.out] at A8 e8 ho8' hb8' ⊢
  have HS0 : Below w7.heap.size W W := Below.refl _ _
  refine lx_rd 0 ?vC0 (by kernel_rfl) (fun _ _ d _ _ h => by cases d <;> exact h) (by kernel_rfl) HS0 rfl rfl rfl (fun w' hS => ?hC0) ?_
  case hC0 => first | (go_simp; rfl) | (go_simp; done) | (go_simp; exact idx_ok (by omega) (by omega)) | (go_simp; exact wi64' (by omega) (by omega) (by omega)) | (go_simp; intro hh; exfalso; omega)
  simp only [List.setIfInBounds_toArray, List.set_cons_zero, List.set_cons_succ]
  refine lx_rd 1 ?vC1 (by kernel_rfl) (fun _ _ d _ _ h => by cases d <;> exact h) (by kernel_rfl) HS0 rfl rfl rfl (fun w' hS => ?hC1) ?_
  case hC1 => first | (go_simp; rfl) | (go_simp; done) | (go_simp; exact idx_ok (by omega) (by omega)) | (go_simp; exact wi64' (by omega) (by omega) (by omega)) | (go_simp; intro hh; exfalso; omega)
  simp only [List.setIfInBounds_toArray, List.set_cons_zero, List.set_cons_succ]
  refine lx_rd 2 (.slice (some ⟨g1, 3, none⟩) 32 32) (by kernel_rfl) (fun _ _ d _ _ h => by cases d <;> exact h) (by kernel_rfl) HS0 rfl rfl rfl (fun w' hS => ?hC2) ?_
  case hC2 => first | (go_simp; rfl) | (go_simp; done) | (go_simp; exact idx_ok (by omega) (by omega)) | (go_simp; exact wi64' (by omega) (by omega) (by omega)) | (go_simp; intro hh; exfalso; omega)
  simp only [List.setIfInBounds_toArray, List.set_cons_zero, List.set_cons_succ]
  refine lx_rd 4 ?vC4 (by kernel_rfl) (fun _ _ d _ _ h => by cases d <;> exact h) (by kernel_rfl) HS0 rfl rfl rfl (fun w' hS => ?hC4) ?_
  case hC4 => first | (go_simp; rfl) | (go_simp; done) | (go_simp; exact idx_ok (by omega) (by omega)) | (go_simp; exact wi64' (by omega) (by omega) (by omega)) | (go_simp; intro hh; exfalso; omega)
  simp only [List.setIfInBounds_toArray, List.set_cons_zero, List.set_cons_succ]
  refine lx_rd 5 (.slice (some ⟨g1, 35, none⟩) 32 32) (by kernel_rfl) (fun _ _ d _ _ h => by cases d <;> exact h) (by kernel_rfl) HS0 rfl rfl rfl (fun w' hS => ?hC5) ?_
  case hC5 => first | (go_simp; rfl) | (go_simp; done) | (go_simp; exact idx_ok (by omega) (by omega)) | (go_simp; exact wi64' (by omega) (by omega) (by omega)) | (go_simp; intro hh; exfalso; omega)
  simp only [List.setIfInBounds_toArray, List.set_cons_zero, List.set_cons_succ]
  have hRK := rec_rdK A8 hK bK
  obtain ⟨v9, w9, hrun9, ho9, hb9⟩ := run_appOwn 22 ho8' hRK (by omega) hb8'.size
  obtain ⟨X5, HX5⟩ : ∃ X, Hid (X4 ++ K = X) := ⟨_, rfl⟩
  have l5 : Hid (X5.length = X4.length + 32) := by show X5.length = X4.length + 32; rw [← HX5.out, List.length_append, hK]
  have m5 : X5.length ≤ 2400 := by have := l5.out; omega
  have b5 : Bd X5 := by rw [← HX5.out]; exact b4.append bK
  rw [HX5.out, ← l5.out] at ho9
  refine lx_one 3 (by kernel_rfl) (stepT_val (w' := w9) v9 rfl rfl rfl (exec_app rfl rfl rfl hrun9) (fun _ => hb9) ?_)
  simp only [List.setIfInBounds_toArray, List.set_cons_zero, List.set_cons_succ]
  have A9 : RcAt w9 g1 (recL (.string u) (.slice a n c) (.int .i64 z) K V) := (hb9.block g1 g7).trans A8
  have hRV := rec_rdV A9 hK hV bV
  have s9 : w7.heap.size ≤ w9.heap.size := Nat.le_trans hb8'.size hb9.size
  obtain ⟨v10, w10, hrun10, ho10, hb10⟩ := run_appOwn 22 ho9 hRV (by omega) s9
  obtain ⟨X6, HX6⟩ : ∃ X, Hid (X5 ++ V = X) := ⟨_, rfl⟩
  have l6 : Hid (X6.length = X5.length + 32) := by show X6.length = X5.length + 32; rw [← HX6.out, List.length_append, hV]
  have b6 : Bd X6 := by rw [← HX6.out]; exact b5.append bV
  rw [HX6.out, ← l6.out] at ho10
  have hc10 := hb9.trans hb10
  refine lx_one 6 (by kernel_rfl) (stepT_val (w' := w10) v10 rfl rfl rfl (exec_app rfl rfl rfl hrun10) (fun _ => hc10) ?_)
  simp only [List.setIfInBounds_toArray, List.set_cons_zero, List.set_cons_succ]
  obtain ⟨a10, c10, rfl, hR10⟩ := Rd.ofOwn ho10 b6
  refine lx_rd 7 (.slice a10 X6.length c10) (by kernel_rfl) (fun _ _ d _ _ h => by cases d <;> exact h) (by kernel_rfl) hc10 rfl rfl rfl (fun w' hS => ?hD7) ?_
  case hD7 => first | (go_simp; rfl) | (go_simp; done) | (go_simp; exact idx_ok (by omega) (by omega)) | (go_simp; exact wi64' (by omega) (by omega) (by omega)) | (go_simp; intro hh; exfalso; omega)
  simp only [List.setIfInBounds_toArray, List.set_cons_zero, List.set_cons_succ]
  refine lx_nil (by kernel_rfl) ?_
  go_wp2_with fail
  go_ret
  refine ⟨a10, X6.length, c10, rfl, ?_, ?_⟩
  · have : recForm u ss z K V = X6 := by unfold recForm; rw [hnl, HX1.out, HX2.out, HX3.out, HX4.out, HX5.out, HX6.out]
    rw [this]; exact hR10
  · exact e8.trans (hc10.mono (Nat.le_trans e7.size (Nat.le_refl _)))

end Go.Proofs.YtiidjdedeenijaaDoor
