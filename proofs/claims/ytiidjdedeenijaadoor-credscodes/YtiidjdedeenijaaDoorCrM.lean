/- creds.Make, by its callees' contracts. -/
import Derived.Test.YtiidjdedeenijaaDoorCrS
import Derived.Test.YtiidjdedeenijaaDoorLate
namespace Go.Proofs.YtiidjdedeenijaaDoor
open Go.RowKit

theorem rec0_len : rec0.length = 67 := rec_len _ _ _ (by simp [Z32]) (by simp [Z32])
theorem rec0_one : rec0.toArray.all (·.oneCell') = true := rec_one _ _ _ _ _ _ _
theorem exec_build_rec {o : Oper} {ρ : Operand → Value} {w : World} (x0 x1 x2 x3 x4 : Operand) (ho : o.op = .build 28 #[(0, x0), (1, x1), (2, x2), (3, x3), (4, x4)]) (u : ByteArray) (a : Option Addr) (n c : Nat) (z : Int) (K V : List Int) (hK : K.length = 32) (hV : V.length = 32)
    (h0 : ρ x0 = .string u) (h1 : ρ x1 = .slice a n c) (h2 : ρ x2 = .int .i64 z) (h3 : ρ x3 = .agg (ic .u8 K).toArray) (h4 : ρ x4 = .agg (ic .u8 V).toArray) :
    (execOp ρ o).run Tryd.prog w = .ok (.value (.agg (recL (.string u) (.slice a n c) (.int .i64 z) K V).toArray)) w := by
  unfold execOp
  have hr := run_build w 28 #[(0, .string u), (1, .slice a n c), (2, .int .i64 z), (3, .agg (ic .u8 K).toArray), (4, .agg (ic .u8 V).toArray)] _ (built_rec u a n c z K V hK hV)
  simp only [ho, List.map_toArray, List.map_cons, List.map_nil, h0, h1, h2, h3, h4, Sem.run_bind, hr, Result.andThen_ok, Sem.run_pure]
theorem exec_store_rec {o : Oper} {ρ : Operand → Value} {w : World} (x y : Operand) (ho : o.op = .store 28 x y) (g : Nat) (hx : ρ x = .pointer (some ⟨g, 0, none⟩)) (ys : List Value) (hy : ρ y = .agg ys.toArray) (xs : List Value) (hg : RcAt w g xs) (hl : xs.length = 67) (hl' : ys.length = 67) (h1 : ys.toArray.all (·.oneCell') = true) :
    (execOp ρ o).run Tryd.prog w = .ok .skip (w.setRow g ys.toArray) := by
  unfold execOp
  have hi : (Tryd.prog.info? 28).map (·.size) = some 67 := by kernel_rfl
  simp only [ho, hx, hy, Instr.storeAt, Instr.sureAddr, Sem.run_bind, Sem.run_pure, Result.andThen_ok, run_storeVar_row w g 28 28 _ ys.toArray hg (by rw [hi]; simp [hl']) (by simp [hl, hl']) h1]
/-- A call that answers so, and only makes. -/
def AnsC (f : Nat) (args : Array Value) (w : World) (v : Value) : Prop := ∀ u, Below w.heap.size w u → Calls Tryd.prog f args u fun e w' => e = .returned v ∧ Below u.heap.size u w'
theorem RcAt.keep {S : Nat → Prop} {w w' : World} {g : Nat} {cs : List Value} (h : RcAt w g cs) (hk : Keep S w w') (hs : ¬ S g) : RcAt w' g cs := (hk.block g h.lt hs).trans h

set_option maxHeartbeats 800000 in
theorem isSalt_any (a : Option Addr) (n c : Nat) (w : World) : Calls Tryd.prog 21 #[.slice a n c] w fun e w' => e = .returned (.bool (decide (1 ≤ n ∧ n ≤ 32))) ∧ w' = w := by
  by_cases h1 : 1 ≤ n
  · have hz : (1 : Int) ≤ (n : Int) := by omega
    by_cases h2 : n ≤ 32
    · have hz2 : (n : Int) ≤ 32 := by omega
      rw [decide_eq_true ⟨h1, h2⟩]
      go_enter Tryd.func21, Tryd.ntmps21
      go_wp2
      go_ret
      exact ⟨rfl, rfl⟩
    · have hz2 : ¬ (n : Int) ≤ 32 := by omega
      rw [decide_eq_false (fun h => h2 h.2)]
      go_enter Tryd.func21, Tryd.ntmps21
      go_wp2
      go_ret
      exact ⟨rfl, rfl⟩
  · have hz : ¬ (1 : Int) ≤ (n : Int) := by omega
    rw [decide_eq_false (fun h => h1 h.1)]
    go_enter Tryd.func21, Tryd.ntmps21
    go_wp2
    go_ret
    exact ⟨rfl, rfl⟩

set_option maxRecDepth 100000 in
set_option maxHeartbeats 1600000 in
theorem make_1 (U P l : ByteArray) (a : Option Addr) (n c : Nat) (M : Int) (w : World) (E : Int) (cL : AnsC 19 #[.string U] w (.tuple #[.string l, .int .i64 E])) (hE : E ≠ 0) :
    Calls Tryd.prog 7 #[.string U, .string P, .slice a n c, .int .i64 M] w fun e w' => e = .returned (.tuple #[.agg rec0.toArray, .int .i64 E]) ∧ Below w.heap.size w w' := by
  have hne : (E != 0) = true := by simpa using hE
  clear hE
  go_enter Tryd.func7, Tryd.ntmps7
  go_wp2_with (first
    | (refine wp_alloc_row rfl 28 rfl rec0 67 zero_rec ?_; intro g8 w1 R8 hg8 hb1)
    | (go_at_call 19; refine (cL _ hb1).mono ?_; rintro e w2 ⟨rfl, hb2⟩; have e2 := hb1.trans (hb2.mono hb1.size); have R2 : RcAt w2 g8 rec0 := RcAt.below (w := w1) R8 hb2)
    | (refine wp_build_rec0 rfl rfl ?_)
    | (refine wp_store_rec rfl (.tmp 8) (.tmp 22) rfl g8 rfl rec0 rfl rec0 R2 rec0_len rec0_len rec0_one ?_; intro w9 R9 hk9))
  have e9 : Below w.heap.size w w9 := e2.trans (hk9.below e2.size (fun q hq => by omega))
  exact bodyPost_ret (results_rec Tryd.results7 _ _ g8 rec0 (.int .i64 E) rfl rfl R9 rec0_len) rfl ⟨rfl, e9⟩

set_option maxRecDepth 100000 in
set_option maxHeartbeats 1600000 in
theorem make_2 (U P l : ByteArray) (a : Option Addr) (n c : Nat) (M : Int) (w : World) (E : Int) (cL : AnsC 19 #[.string U] w (.tuple #[.string l, .int .i64 0])) (cP : AnsC 20 #[.string P] w (.int .i64 E)) (hE : E ≠ 0) :
    Calls Tryd.prog 7 #[.string U, .string P, .slice a n c, .int .i64 M] w fun e w' => e = .returned (.tuple #[.agg rec0.toArray, .int .i64 E]) ∧ Below w.heap.size w w' := by
  have hne : (E != 0) = true := by simpa using hE
  clear hE
  go_enter Tryd.func7, Tryd.ntmps7
  go_wp2_with (first
    | (refine wp_alloc_row rfl 28 rfl rec0 67 zero_rec ?_; intro g8 w1 R8 hg8 hb1)
    | (go_at_call 19; refine (cL _ hb1).mono ?_; rintro e w2 ⟨rfl, hb2⟩; have e2 := hb1.trans (hb2.mono hb1.size); have R2 : RcAt w2 g8 rec0 := RcAt.below (w := w1) R8 hb2)
    | (go_at_call 20; refine (cP _ e2).mono ?_; rintro e w3 ⟨rfl, hb3⟩; have e3 := e2.trans (hb3.mono e2.size); have R3 := R2.below hb3)
    | (refine wp_build_rec0 rfl rfl ?_)
    | (refine wp_store_rec rfl (.tmp 8) (.tmp 28) rfl g8 rfl rec0 rfl rec0 R3 rec0_len rec0_len rec0_one ?_; intro w9 R9 hk9))
  have e9 : Below w.heap.size w w9 := e3.trans (hk9.below e3.size (fun q hq => by omega))
  exact bodyPost_ret (results_rec Tryd.results7 _ _ g8 rec0 (.int .i64 E) rfl rfl R9 rec0_len) rfl ⟨rfl, e9⟩

set_option maxRecDepth 100000 in
set_option maxHeartbeats 1600000 in
theorem make_3 (U P l : ByteArray) (a : Option Addr) (n c : Nat) (M : Int) (w : World) (cL : AnsC 19 #[.string U] w (.tuple #[.string l, .int .i64 0])) (cP : AnsC 20 #[.string P] w (.int .i64 0)) (hs : decide (1 ≤ n ∧ n ≤ 32) = false) :
    Calls Tryd.prog 7 #[.string U, .string P, .slice a n c, .int .i64 M] w fun e w' => e = .returned (.tuple #[.agg rec0.toArray, .int .i64 1]) ∧ Below w.heap.size w w' := by
  go_enter Tryd.func7, Tryd.ntmps7
  go_wp2_with (first
    | (refine wp_alloc_row rfl 28 rfl rec0 67 zero_rec ?_; intro g8 w1 R8 hg8 hb1)
    | (go_at_call 19; refine (cL _ hb1).mono ?_; rintro e w2 ⟨rfl, hb2⟩; have e2 := hb1.trans (hb2.mono hb1.size); have R2 : RcAt w2 g8 rec0 := RcAt.below (w := w1) R8 hb2)
    | (go_at_call 20; refine (cP _ e2).mono ?_; rintro e w3 ⟨rfl, hb3⟩; have e3 := e2.trans (hb3.mono e2.size); have R3 := R2.below hb3)
    | (go_at_call 21; refine (isSalt_any a n c _).mono ?_; rw [hs]; rintro e w3x ⟨rfl, rfl⟩)
    | (refine wp_build_rec0 rfl rfl ?_)
    | (refine wp_store_rec rfl (.tmp 8) (.tmp 33) rfl g8 rfl rec0 rfl rec0 R3 rec0_len rec0_len rec0_one ?_; intro w9 R9 hk9))
  have e9 : Below w.heap.size w w9 := e3.trans (hk9.below e3.size (fun q hq => by omega))
  exact bodyPost_ret (results_rec Tryd.results7 _ _ g8 rec0 (.int .i64 1) rfl rfl R9 rec0_len) rfl ⟨rfl, e9⟩

set_option maxRecDepth 100000 in
set_option maxHeartbeats 1600000 in
theorem make_4 (U P l : ByteArray) (a : Option Addr) (n c : Nat) (M : Int) (w : World) (E : Int) (cL : AnsC 19 #[.string U] w (.tuple #[.string l, .int .i64 0])) (cP : AnsC 20 #[.string P] w (.int .i64 0)) (hs : decide (1 ≤ n ∧ n ≤ 32) = true) (A B : List Int) (hA : A.length = 32) (hB : B.length = 32) (cK : AnsC 22 #[.string P, .slice a n c, .int .i64 M] w (.tuple #[.agg (ic .u8 A).toArray, .agg (ic .u8 B).toArray, .int .i64 E])) (hE : E ≠ 0) :
    Calls Tryd.prog 7 #[.string U, .string P, .slice a n c, .int .i64 M] w fun e w' => e = .returned (.tuple #[.agg rec0.toArray, .int .i64 E]) ∧ Below w.heap.size w w' := by
  have hne : (E != 0) = true := by simpa using hE
  clear hE
  have tk1 : True := trivial
  have tk2 : True := trivial
  have hi23 := (size_of Tryd.u23).2
  go_enter Tryd.func7, Tryd.ntmps7
  go_wp2_with (first
    | (refine wp_alloc_row rfl 28 rfl rec0 67 zero_rec ?_; intro g8 w1 R8 hg8 hb1)
    | (go_at_call 19; refine (cL _ hb1).mono ?_; rintro e w2 ⟨rfl, hb2⟩; have e2 := hb1.trans (hb2.mono hb1.size); have R2 : RcAt w2 g8 rec0 := RcAt.below (w := w1) R8 hb2)
    | (go_at_call 20; refine (cP _ e2).mono ?_; rintro e w3 ⟨rfl, hb3⟩; have e3 := e2.trans (hb3.mono e2.size); have R3 := R2.below hb3)
    | (go_at_call 21; refine (isSalt_any a n c _).mono ?_; rw [hs]; rintro e w3x ⟨rfl, rfl⟩)
    | (go_at_call 22; refine (cK _ e3).mono ?_; rintro e w4 ⟨rfl, hb4⟩; have e4 := e3.trans (hb4.mono e3.size); have R4 := R3.below hb4)
    | (clear tk1; refine wp_alloc_ar rfl 26 rfl .u8 (List.replicate 32 0) 32 Tryd.z23 ?_; intro g13 w5 A13 hg13 hb5; have e5 := e4.trans (hb5.mono e4.size); have R5 := R4.below hb5)
    | (refine wp_alloc_ar rfl 26 rfl .u8 (List.replicate 32 0) 32 Tryd.z23 ?_; intro g14 w6 A14 hg14 hb6; have e6 := e5.trans (hb6.mono e5.size); have R6 := R5.below hb6; have A13a := A13.below hb6 A13.lt; have l5 := R5.lt; have l13 := A13.lt; have s4 := e4.size; have s5 := hb5.size; have l4 := R4.lt)
    | (clear tk2; refine wp_store_ar rfl 26 (.tmp 13) (.tmp 39) rfl g13 rfl .u8 A rfl 26 _ A13a (by rw [hA]; rfl) (by rw [hA]; exact hi23) ?_; intro w7 A13b hk7 hs7; clear hs7; have e7 : Below w.heap.size w w7 := e6.trans (hk7.below e6.size (fun q hq => by omega)); have R7 := R6.keep hk7 (by omega); have A14a := A14.keep hk7 (by omega))
    | (refine wp_store_ar rfl 26 (.tmp 14) (.tmp 40) rfl g14 rfl .u8 B rfl 26 _ A14a (by rw [hB]; rfl) (by rw [hB]; exact hi23) ?_; intro w8 A14b hk8 hs8; clear hs8; have e8 : Below w.heap.size w w8 := e7.trans (hk8.below e7.size (fun q hq => by omega)); have R8a := R7.keep hk8 (by omega); have A13c := A13b.keep hk8 (by omega))
    | (refine wp_build_rec0 rfl rfl ?_)
    | (refine wp_store_rec rfl (.tmp 8) (.tmp 44) rfl g8 rfl rec0 rfl rec0 R8a rec0_len rec0_len rec0_one ?_; intro w9 R9 hk9))
  have e9 : Below w.heap.size w w9 := e8.trans (hk9.below e8.size (fun q hq => by omega))
  exact bodyPost_ret (results_rec Tryd.results7 _ _ g8 rec0 (.int .i64 E) rfl rfl R9 rec0_len) rfl ⟨rfl, e9⟩

set_option maxRecDepth 100000 in
set_option maxHeartbeats 1600000 in
theorem make_5 (U P l : ByteArray) (a : Option Addr) (n c : Nat) (M : Int) (w : World) (ss : List Int) (hR : Rd w a n c ss) (cL : AnsC 19 #[.string U] w (.tuple #[.string l, .int .i64 0])) (cP : AnsC 20 #[.string P] w (.int .i64 0)) (hs : decide (1 ≤ n ∧ n ≤ 32) = true) (A B : List Int) (hA : A.length = 32) (hB : B.length = 32) (cK : AnsC 22 #[.string P, .slice a n c, .int .i64 M] w (.tuple #[.agg (ic .u8 A).toArray, .agg (ic .u8 B).toArray, .int .i64 0])) :
    Calls Tryd.prog 7 #[.string U, .string P, .slice a n c, .int .i64 M] w fun e w' => ∃ a' c', e = .returned (.tuple #[.agg (recL (.string l) (.slice a' n c') (.int .i64 M) A B).toArray, .int .i64 0]) ∧ Rd w' a' n c' ss ∧ Below w.heap.size w w' := by
  have tk1 : True := trivial
  have tk2 : True := trivial
  have hi23 := (size_of Tryd.u23).2
  have hn32 : n ≤ 32 := by simpa using (of_decide_eq_true hs).2
  go_enter Tryd.func7, Tryd.ntmps7
  go_upto_region 12 with (first
    | (refine wp_alloc_row rfl 28 rfl rec0 67 zero_rec ?_; intro g8 w1 R8 hg8 hb1)
    | (go_at_call 19; refine (cL _ hb1).mono ?_; rintro e w2 ⟨rfl, hb2⟩; have e2 := hb1.trans (hb2.mono hb1.size); have R2 : RcAt w2 g8 rec0 := RcAt.below (w := w1) R8 hb2)
    | (go_at_call 20; refine (cP _ e2).mono ?_; rintro e w3 ⟨rfl, hb3⟩; have e3 := e2.trans (hb3.mono e2.size); have R3 := R2.below hb3)
    | (go_at_call 21; refine (isSalt_any a n c _).mono ?_; rw [hs]; rintro e w3x ⟨rfl, rfl⟩)
    | (go_at_call 22; refine (cK _ e3).mono ?_; rintro e w4 ⟨rfl, hb4⟩; have e4 := e3.trans (hb4.mono e3.size); have R4 := R3.below hb4)
    | (clear tk1; refine wp_alloc_ar rfl 26 rfl .u8 (List.replicate 32 0) 32 Tryd.z23 ?_; intro g13 w5 A13 hg13 hb5; have e5 := e4.trans (hb5.mono e4.size); have R5 := R4.below hb5)
    | (refine wp_alloc_ar rfl 26 rfl .u8 (List.replicate 32 0) 32 Tryd.z23 ?_; intro g14 w6 A14 hg14 hb6; have e6 := e5.trans (hb6.mono e5.size); have R6 := R5.below hb6; have A13a := A13.below hb6 A13.lt; have l5 := R5.lt; have l13 := A13.lt; have s4 := e4.size; have s5 := hb5.size; have l4 := R4.lt)
    | (clear tk2; refine wp_store_ar rfl 26 (.tmp 13) (.tmp 39) rfl g13 rfl .u8 A rfl 26 _ A13a (by rw [hA]; rfl) (by rw [hA]; exact hi23) ?_; intro w7 A13b hk7 hs7; clear hs7; have e7 : Below w.heap.size w w7 := e6.trans (hk7.below e6.size (fun q hq => by omega)); have R7 := R6.keep hk7 (by omega); have A14a := A14.keep hk7 (by omega))
    | (refine wp_store_ar rfl 26 (.tmp 14) (.tmp 40) rfl g14 rfl .u8 B rfl 26 _ A14a (by rw [hB]; rfl) (by rw [hB]; exact hi23) ?_; intro w8 A14b hk8 hs8; clear hs8; have e8 : Below w.heap.size w w8 := e7.trans (hk8.below e7.size (fun q hq => by omega)); have R8a := R7.keep hk8 (by omega); have A13c := A13b.keep hk8 (by omega)))
  clear cL cP cK A13 A13a A13b A14 A14a
  refine wp_region_lx (fun w' => Ar w' g13 26 .u8 A ∧ Ar w' g14 26 .u8 B) [7] 9 (by kernel_rfl) (by kernel_rfl) ?_
  have HS : Ar w8.drew g13 26 .u8 A ∧ Ar w8.drew g14 26 .u8 B := ⟨A13c.drewN 1, A14b.drewN 1⟩
  have e8d := e8.drew
  have R8d : RcAt w8.drew g8 rec0 := R8a
  have hRd : Rd w8.drew a n c ss := hR.carry (Nat.le_refl _) e8d
  clear A13c A14b R8a e8
  generalize w8.drew = W at HS e8d R8d hRd ⊢
  refine lx_rd 0 ?vR0 (by kernel_rfl) (fun _ _ d _ _ h => by cases d <;> exact h) (by kernel_rfl) HS rfl rfl rfl (fun w' hS => ?hR0) ?_
  case hR0 => first | (go_simp; rfl) | go_simp
  simp only [List.setIfInBounds_toArray, List.set_cons_zero, List.set_cons_succ]
  refine lx_rd 1 ?vR1 (by kernel_rfl) (fun _ _ d _ _ h => by cases d <;> exact h) (by kernel_rfl) HS rfl rfl rfl (fun w' hS => ?hR1) ?_
  case hR1 => first | (go_simp; rfl) | go_simp
  simp only [List.setIfInBounds_toArray, List.set_cons_zero, List.set_cons_succ]
  refine lx_rd 3 ?vR3 (by kernel_rfl) (fun _ _ d _ _ h => by cases d <;> exact h) (by kernel_rfl) HS rfl rfl rfl (fun w' hS => ?hR3) ?_
  case hR3 => first | (go_simp; rfl) | go_simp
  simp only [List.setIfInBounds_toArray, List.set_cons_zero, List.set_cons_succ]
  refine lx_rd 4 (.agg (ic .u8 A).toArray) (by kernel_rfl) (fun _ _ d _ _ h => by cases d <;> exact h) (by kernel_rfl) HS rfl rfl rfl (fun w' hS => ?hR4) ?_
  case hR4 => exact exec_load_ar 26 (.tmp 13) rfl g13 rfl 26 .u8 A 5 32 hS.1 Tryd.u23 hA
  simp only [List.setIfInBounds_toArray, List.set_cons_zero, List.set_cons_succ]
  refine lx_rd 5 (.agg (ic .u8 B).toArray) (by kernel_rfl) (fun _ _ d _ _ h => by cases d <;> exact h) (by kernel_rfl) HS rfl rfl rfl (fun w' hS => ?hR5) ?_
  case hR5 => exact exec_load_ar 26 (.tmp 14) rfl g14 rfl 26 .u8 B 5 32 hS.2 Tryd.u23 hB
  simp only [List.setIfInBounds_toArray, List.set_cons_zero, List.set_cons_succ]
  refine lx_one 2 (by kernel_rfl) (stepT_call 23 ?aR2 rfl rfl rfl ?rR2 ?_)
  case rR2 => first | (go_simp; rfl) | go_simp
  refine (bclone_any a n c ss W hRd (by omega)).mono ?_
  rintro e w9 ⟨a9, c9, rfl, hR9, hb9, hl9⟩
  have HS9 : Ar w9 g13 26 .u8 A ∧ Ar w9 g14 26 .u8 B := ⟨HS.1.below hb9 HS.1.lt, HS.2.below hb9 HS.2.lt⟩
  have R9 := R8d.below hb9
  have e9 := e8d.trans (hb9.mono e8d.size)
  refine ⟨_, rfl, fun _ => HS9, ?_⟩
  simp only [List.setIfInBounds_toArray, List.set_cons_zero, List.set_cons_succ]
  refine lx_one 6 (by kernel_rfl) (stepT_val (w' := w9) (.agg (recL (.string l) (.slice a9 n c9) (.int .i64 M) A B).toArray) rfl rfl rfl ?rR6 (fun _ => HS9) ?_)
  case rR6 => exact exec_build_rec (.tmp 46) (.tmp 48) (.tmp 49) (.tmp 50) (.tmp 51) rfl l a9 n c9 M A B hA hB rfl rfl rfl rfl rfl
  simp only [List.setIfInBounds_toArray, List.set_cons_zero, List.set_cons_succ]
  have hl10 := rec_len (.string l) (.slice a9 n c9) (.int .i64 M) hA hB
  have hk10 : Keep (fun j => j = g8) w9 (w9.setRow g8 (recL (.string l) (.slice a9 n c9) (.int .i64 M) A B).toArray) := ⟨rfl, rfl, rfl, by simp, fun j _ hj => setRow_other w9 g8 j _ hj⟩
  have R10 : RcAt (w9.setRow g8 (recL (.string l) (.slice a9 n c9) (.int .i64 M) A B).toArray) g8 (recL (.string l) (.slice a9 n c9) (.int .i64 M) A B) := setRow_heap w9 g8 _ _ 28 (0, 0) R9
  have HS10 : Ar (w9.setRow g8 (recL (.string l) (.slice a9 n c9) (.int .i64 M) A B).toArray) g13 26 .u8 A ∧ Ar (w9.setRow g8 (recL (.string l) (.slice a9 n c9) (.int .i64 M) A B).toArray) g14 26 .u8 B := ⟨HS9.1.keep hk10 (by omega), HS9.2.keep hk10 (by omega)⟩
  refine lx_one 7 (by kernel_rfl) (stepT_store (w' := w9.setRow g8 (recL (.string l) (.slice a9 n c9) (.int .i64 M) A B).toArray) rfl rfl rfl ?rR7 (fun _ => HS10) ?_)
  case rR7 => exact exec_store_rec (.tmp 8) (.tmp 52) rfl g8 rfl _ rfl rec0 R9 rec0_len hl10 (rec_one _ _ _ _ _ _ _)
  have e10 : Below w.heap.size w (w9.setRow g8 (recL (.string l) (.slice a9 n c9) (.int .i64 M) A B).toArray) := e9.trans (hk10.below e9.size (fun q hq => by omega))
  have hR10 : Rd (w9.setRow g8 (recL (.string l) (.slice a9 n c9) (.int .i64 M) A B).toArray) a9 n c9 ss := hR9.keep hk10 (fun ad had hg => by have := hl9 ad had; have := R8d.lt; omega)
  refine lx_one 8 (by kernel_rfl) (stepT_val (w' := w9.setRow g8 (recL (.string l) (.slice a9 n c9) (.int .i64 M) A B).toArray) (.int .i64 0) rfl rfl rfl ?rR8 (fun _ => HS10) ?_)
  case rR8 => first | (go_simp; done) | (go_simp; rfl)
  simp only [List.setIfInBounds_toArray, List.set_cons_zero, List.set_cons_succ]
  refine lx_nil (by kernel_rfl) ?_
  generalize w9.setRow g8 (recL (.string l) (.slice a9 n c9) (.int .i64 M) A B).toArray = WX at *
  go_wp2
  exact bodyPost_ret (results_rec Tryd.results7 _ _ g8 _ (.int .i64 0) rfl rfl R10 hl10) rfl ⟨a9, c9, rfl, hR10, e10⟩

end Go.Proofs.YtiidjdedeenijaaDoor
