/- The document's Make, by its callees' contracts. -/
import Derived.Test.YtiidjdedeenijaaDoorCrM
namespace Go.Proofs.YtiidjdedeenijaaDoor
open Go.RowKit

set_option maxRecDepth 100000 in
set_option maxHeartbeats 1600000 in
theorem rmake_1 (U P l : ByteArray) (a : Option Addr) (n c : Nat) (M : Int) (w : World) (E : Int) (cL : AnsC 24 #[.string U] w (.tuple #[.string l, .int .i64 E])) (hE : E ≠ 0) :
    Calls Tryd.prog 9 #[.string U, .string P, .slice a n c, .int .i64 M] w fun e w' => e = .returned (.tuple #[.agg rec0.toArray, .int .i64 E]) ∧ Below w.heap.size w w' := by
  have hne : (E != 0) = true := by simpa using hE
  clear hE
  go_enter Tryd.func9, Tryd.ntmps9
  go_wp2_with (first
    | (refine wp_alloc_row rfl 28 rfl rec0 67 zero_rec ?_; intro g8 w1 R8 hg8 hb1)
    | (go_at_call 24; refine (cL _ hb1).mono ?_; rintro e w2 ⟨rfl, hb2⟩; have e2 := hb1.trans (hb2.mono hb1.size); have R2 : RcAt w2 g8 rec0 := RcAt.below (w := w1) R8 hb2)
    | (refine wp_build_rec0 rfl rfl ?_)
    | (refine wp_store_rec rfl (.tmp 8) (.tmp 22) rfl g8 rfl rec0 rfl rec0 R2 rec0_len rec0_len rec0_one ?_; intro wz Rz hkz))
  have ez : Below w.heap.size w wz := e2.trans (hkz.below e2.size (fun q hq => by omega))
  exact bodyPost_ret (results_rec Tryd.results9 _ _ g8 rec0 (.int .i64 E) rfl rfl Rz rec0_len) rfl ⟨rfl, ez⟩

set_option maxRecDepth 100000 in
set_option maxHeartbeats 1600000 in
theorem rmake_2 (U P l : ByteArray) (a : Option Addr) (n c : Nat) (M : Int) (w : World) (cL : AnsC 24 #[.string U] w (.tuple #[.string l, .int .i64 0])) (hp : (128 : Int) < (P.size : Int)) :
    Calls Tryd.prog 9 #[.string U, .string P, .slice a n c, .int .i64 M] w fun e w' => e = .returned (.tuple #[.agg rec0.toArray, .int .i64 5]) ∧ Below w.heap.size w w' := by
  go_enter Tryd.func9, Tryd.ntmps9
  go_wp2_with (first
    | (refine wp_alloc_row rfl 28 rfl rec0 67 zero_rec ?_; intro g8 w1 R8 hg8 hb1)
    | (go_at_call 24; refine (cL _ hb1).mono ?_; rintro e w2 ⟨rfl, hb2⟩; have e2 := hb1.trans (hb2.mono hb1.size); have R2 : RcAt w2 g8 rec0 := RcAt.below (w := w1) R8 hb2)
    | (refine wp_build_rec0 rfl rfl ?_)
    | (refine wp_store_rec rfl (.tmp 8) (.tmp 27) rfl g8 rfl rec0 rfl rec0 R2 rec0_len rec0_len rec0_one ?_; intro wz Rz hkz))
  have ez : Below w.heap.size w wz := e2.trans (hkz.below e2.size (fun q hq => by omega))
  exact bodyPost_ret (results_rec Tryd.results9 _ _ g8 rec0 (.int .i64 5) rfl rfl Rz rec0_len) rfl ⟨rfl, ez⟩

set_option maxRecDepth 100000 in
set_option maxHeartbeats 1600000 in
theorem rmake_3 (U P l : ByteArray) (a : Option Addr) (n c : Nat) (M : Int) (w : World) (cL : AnsC 24 #[.string U] w (.tuple #[.string l, .int .i64 0])) (hp : (P.size : Int) ≤ 128) (hq : (P.toList == []) = true) :
    Calls Tryd.prog 9 #[.string U, .string P, .slice a n c, .int .i64 M] w fun e w' => e = .returned (.tuple #[.agg rec0.toArray, .int .i64 4]) ∧ Below w.heap.size w w' := by
  have zp : ¬ (128 : Int) < (P.size : Int) := by omega
  go_enter Tryd.func9, Tryd.ntmps9
  go_wp2_with (first
    | (refine wp_alloc_row rfl 28 rfl rec0 67 zero_rec ?_; intro g8 w1 R8 hg8 hb1)
    | (go_at_call 24; refine (cL _ hb1).mono ?_; rintro e w2 ⟨rfl, hb2⟩; have e2 := hb1.trans (hb2.mono hb1.size); have R2 : RcAt w2 g8 rec0 := RcAt.below (w := w1) R8 hb2)
    | (refine wp_build_rec0 rfl rfl ?_)
    | (refine wp_store_rec rfl (.tmp 8) (.tmp 35) rfl g8 rfl rec0 rfl rec0 R2 rec0_len rec0_len rec0_one ?_; intro wz Rz hkz))
  have ez : Below w.heap.size w wz := e2.trans (hkz.below e2.size (fun q hq => by omega))
  exact bodyPost_ret (results_rec Tryd.results9 _ _ g8 rec0 (.int .i64 4) rfl rfl Rz rec0_len) rfl ⟨rfl, ez⟩

set_option maxRecDepth 100000 in
set_option maxHeartbeats 1600000 in
theorem rmake_4 (U P l : ByteArray) (a : Option Addr) (n c : Nat) (M : Int) (w : World) (cL : AnsC 24 #[.string U] w (.tuple #[.string l, .int .i64 0])) (hp : (P.size : Int) ≤ 128) (hq : (P.toList == []) = false) (cV : AnsC 25 #[.string P] w (.bool false)) :
    Calls Tryd.prog 9 #[.string U, .string P, .slice a n c, .int .i64 M] w fun e w' => e = .returned (.tuple #[.agg rec0.toArray, .int .i64 4]) ∧ Below w.heap.size w w' := by
  have zp : ¬ (128 : Int) < (P.size : Int) := by omega
  go_enter Tryd.func9, Tryd.ntmps9
  go_wp2_with (first
    | (refine wp_alloc_row rfl 28 rfl rec0 67 zero_rec ?_; intro g8 w1 R8 hg8 hb1)
    | (go_at_call 24; refine (cL _ hb1).mono ?_; rintro e w2 ⟨rfl, hb2⟩; have e2 := hb1.trans (hb2.mono hb1.size); have R2 : RcAt w2 g8 rec0 := RcAt.below (w := w1) R8 hb2)
    | (go_at_call 25; refine (cV _ e2).mono ?_; rintro e w3 ⟨rfl, hb3⟩; have e3 := e2.trans (hb3.mono e2.size); have R3 := R2.below hb3)
    | (refine wp_build_rec0 rfl rfl ?_)
    | (refine wp_store_rec rfl (.tmp 8) (.tmp 35) rfl g8 rfl rec0 rfl rec0 R3 rec0_len rec0_len rec0_one ?_; intro wz Rz hkz))
  have ez : Below w.heap.size w wz := e3.trans (hkz.below e3.size (fun q hq => by omega))
  exact bodyPost_ret (results_rec Tryd.results9 _ _ g8 rec0 (.int .i64 4) rfl rfl Rz rec0_len) rfl ⟨rfl, ez⟩

set_option maxRecDepth 100000 in
set_option maxHeartbeats 1600000 in
theorem rmake_5 (U P l : ByteArray) (a : Option Addr) (n c : Nat) (M : Int) (w : World) (cL : AnsC 24 #[.string U] w (.tuple #[.string l, .int .i64 0])) (hp : (P.size : Int) ≤ 128) (hq : (P.toList == []) = false) (cV : AnsC 25 #[.string P] w (.bool true)) (hn : n < 1 ∨ 32 < n) :
    Calls Tryd.prog 9 #[.string U, .string P, .slice a n c, .int .i64 M] w fun e w' => e = .returned (.tuple #[.agg rec0.toArray, .int .i64 1]) ∧ Below w.heap.size w w' := by
  have zp : ¬ (128 : Int) < (P.size : Int) := by omega
  by_cases h1 : n < 1
  · have z1 : (n : Int) < 1 := by omega
    clear hn
    go_enter Tryd.func9, Tryd.ntmps9
    go_wp2_with (first
      | (refine wp_alloc_row rfl 28 rfl rec0 67 zero_rec ?_; intro g8 w1 R8 hg8 hb1)
      | (go_at_call 24; refine (cL _ hb1).mono ?_; rintro e w2 ⟨rfl, hb2⟩; have e2 := hb1.trans (hb2.mono hb1.size); have R2 : RcAt w2 g8 rec0 := RcAt.below (w := w1) R8 hb2)
      | (go_at_call 25; refine (cV _ e2).mono ?_; rintro e w3 ⟨rfl, hb3⟩; have e3 := e2.trans (hb3.mono e2.size); have R3 := R2.below hb3)
      | (refine wp_build_rec0 rfl rfl ?_)
      | (refine wp_store_rec rfl (.tmp 8) (.tmp 44) rfl g8 rfl rec0 rfl rec0 R3 rec0_len rec0_len rec0_one ?_; intro wz Rz hkz))
    have ez : Below w.heap.size w wz := e3.trans (hkz.below e3.size (fun q hq => by omega))
    exact bodyPost_ret (results_rec Tryd.results9 _ _ g8 rec0 (.int .i64 1) rfl rfl Rz rec0_len) rfl ⟨rfl, ez⟩
  · have z1 : ¬ (n : Int) < 1 := by omega
    have z2 : (32 : Int) < (n : Int) := by omega
    clear hn
    go_enter Tryd.func9, Tryd.ntmps9
    go_wp2_with (first
      | (refine wp_alloc_row rfl 28 rfl rec0 67 zero_rec ?_; intro g8 w1 R8 hg8 hb1)
      | (go_at_call 24; refine (cL _ hb1).mono ?_; rintro e w2 ⟨rfl, hb2⟩; have e2 := hb1.trans (hb2.mono hb1.size); have R2 : RcAt w2 g8 rec0 := RcAt.below (w := w1) R8 hb2)
      | (go_at_call 25; refine (cV _ e2).mono ?_; rintro e w3 ⟨rfl, hb3⟩; have e3 := e2.trans (hb3.mono e2.size); have R3 := R2.below hb3)
      | (refine wp_build_rec0 rfl rfl ?_)
      | (refine wp_store_rec rfl (.tmp 8) (.tmp 44) rfl g8 rfl rec0 rfl rec0 R3 rec0_len rec0_len rec0_one ?_; intro wz Rz hkz))
    have ez : Below w.heap.size w wz := e3.trans (hkz.below e3.size (fun q hq => by omega))
    exact bodyPost_ret (results_rec Tryd.results9 _ _ g8 rec0 (.int .i64 1) rfl rfl Rz rec0_len) rfl ⟨rfl, ez⟩

set_option maxRecDepth 100000 in
set_option maxHeartbeats 1600000 in
theorem rmake_6 (U P l : ByteArray) (a : Option Addr) (n c : Nat) (M : Int) (w : World) (E : Int) (cL : AnsC 24 #[.string U] w (.tuple #[.string l, .int .i64 0])) (hp : (P.size : Int) ≤ 128) (hq : (P.toList == []) = false) (cV : AnsC 25 #[.string P] w (.bool true)) (h1 : 1 ≤ n) (h2 : n ≤ 32) (A B C : List Int) (hA : A.length = 32) (hB : B.length = 32) (hC : C.length = 32) (cK : AnsC 26 #[.string P, .slice a n c, .int .i64 M] w (.tuple #[.agg (ic .u8 A).toArray, .agg (ic .u8 B).toArray, .agg (ic .u8 C).toArray, .int .i64 E])) (hE : E ≠ 0) :
    Calls Tryd.prog 9 #[.string U, .string P, .slice a n c, .int .i64 M] w fun e w' => e = .returned (.tuple #[.agg rec0.toArray, .int .i64 E]) ∧ Below w.heap.size w w' := by
  have hne : (E != 0) = true := by simpa using hE
  clear hE
  have zp : ¬ (128 : Int) < (P.size : Int) := by omega
  have z1 : ¬ (n : Int) < 1 := by omega
  have z2 : ¬ (32 : Int) < (n : Int) := by omega
  have tk1 : True := trivial
  have tk2 : True := trivial
  have tk3 : True := trivial
  have tk4 : True := trivial
  have hi23 := (size_of Tryd.u23).2
  go_enter Tryd.func9, Tryd.ntmps9
  go_wp2_with (first
    | (refine wp_alloc_row rfl 28 rfl rec0 67 zero_rec ?_; intro g8 w1 R8 hg8 hb1)
    | (go_at_call 24; refine (cL _ hb1).mono ?_; rintro e w2 ⟨rfl, hb2⟩; have e2 := hb1.trans (hb2.mono hb1.size); have R2 : RcAt w2 g8 rec0 := RcAt.below (w := w1) R8 hb2)
    | (go_at_call 25; refine (cV _ e2).mono ?_; rintro e w3 ⟨rfl, hb3⟩; have e3 := e2.trans (hb3.mono e2.size); have R3 := R2.below hb3)
    | (go_at_call 26; refine (cK _ e3).mono ?_; rintro e w4 ⟨rfl, hb4⟩; have e4 := e3.trans (hb4.mono e3.size); have R4 := R3.below hb4)
    | (clear tk1; refine wp_alloc_ar rfl 26 rfl .u8 (List.replicate 32 0) 32 Tryd.z23 ?_; intro g12 w5 A12 hg12 hb5; have e5 := e4.trans (hb5.mono e4.size); have R5 := R4.below hb5)
    | (clear tk2; refine wp_alloc_ar rfl 26 rfl .u8 (List.replicate 32 0) 32 Tryd.z23 ?_; intro g13 w6 A13 hg13 hb6; have e6 := e5.trans (hb6.mono e5.size); have R6 := R5.below hb6; have A12a := A12.below hb6 A12.lt; have l12 := A12.lt)
    | (refine wp_alloc_ar rfl 26 rfl .u8 (List.replicate 32 0) 32 Tryd.z23 ?_; intro g14 w7 A14 hg14 hb7; have e7 := e6.trans (hb7.mono e6.size); have R7 := R6.below hb7; have A12b := A12a.below hb7 A12a.lt; have A13a := A13.below hb7 A13.lt; have l13 := A13.lt; have s4 := e4.size; have s5 := hb5.size; have s6 := hb6.size; have l4 := R4.lt)
    | (clear tk3; refine wp_store_ar rfl 26 (.tmp 12) (.tmp 50) rfl g12 rfl .u8 A rfl 26 _ A12b (by rw [hA]; rfl) (by rw [hA]; exact hi23) ?_; intro w8 A12c hk8 hs8; clear hs8; have e8 : Below w.heap.size w w8 := e7.trans (hk8.below e7.size (fun q hq => by omega)); have R8a := R7.keep hk8 (by omega); have A13b := A13a.keep hk8 (by omega); have A14a := A14.keep hk8 (by omega))
    | (clear tk4; refine wp_store_ar rfl 26 (.tmp 13) (.tmp 51) rfl g13 rfl .u8 B rfl 26 _ A13b (by rw [hB]; rfl) (by rw [hB]; exact hi23) ?_; intro w9 A13c hk9 hs9; clear hs9; have e9 : Below w.heap.size w w9 := e8.trans (hk9.below e8.size (fun q hq => by omega)); have R9 := R8a.keep hk9 (by omega); have A12d := A12c.keep hk9 (by omega); have A14b := A14a.keep hk9 (by omega))
    | (refine wp_store_ar rfl 26 (.tmp 14) (.tmp 52) rfl g14 rfl .u8 C rfl 26 _ A14b (by rw [hC]; rfl) (by rw [hC]; exact hi23) ?_; intro w10 A14c hk10 hs10; clear hs10; have e10 : Below w.heap.size w w10 := e9.trans (hk10.below e9.size (fun q hq => by omega)); have R10 := R9.keep hk10 (by omega); have A12e := A12d.keep hk10 (by omega); have A13d := A13c.keep hk10 (by omega))
    | (refine wp_build_rec0 rfl rfl ?_)
    | (refine wp_store_rec rfl (.tmp 8) (.tmp 56) rfl g8 rfl rec0 rfl rec0 R10 rec0_len rec0_len rec0_one ?_; intro wz Rz hkz))
  have ez : Below w.heap.size w wz := e10.trans (hkz.below e10.size (fun q hq => by omega))
  exact bodyPost_ret (results_rec Tryd.results9 _ _ g8 rec0 (.int .i64 E) rfl rfl Rz rec0_len) rfl ⟨rfl, ez⟩

set_option maxRecDepth 100000 in
set_option maxHeartbeats 1600000 in
theorem rmake_7 (U P l : ByteArray) (a : Option Addr) (n c : Nat) (M : Int) (w : World) (ss : List Int) (hR : Rd w a n c ss) (cL : AnsC 24 #[.string U] w (.tuple #[.string l, .int .i64 0])) (hp : (P.size : Int) ≤ 128) (hq : (P.toList == []) = false) (cV : AnsC 25 #[.string P] w (.bool true)) (h1 : 1 ≤ n) (h2 : n ≤ 32) (A B C : List Int) (hA : A.length = 32) (hB : B.length = 32) (hC : C.length = 32) (cK : AnsC 26 #[.string P, .slice a n c, .int .i64 M] w (.tuple #[.agg (ic .u8 A).toArray, .agg (ic .u8 B).toArray, .agg (ic .u8 C).toArray, .int .i64 0])) :
    Calls Tryd.prog 9 #[.string U, .string P, .slice a n c, .int .i64 M] w fun e w' => ∃ a' c', e = .returned (.tuple #[.agg (recL (.string l) (.slice a' n c') (.int .i64 M) A B).toArray, .int .i64 0]) ∧ Rd w' a' n c' ss ∧ Below w.heap.size w w' := by
  have zp : ¬ (128 : Int) < (P.size : Int) := by omega
  have z1 : ¬ (n : Int) < 1 := by omega
  have z2 : ¬ (32 : Int) < (n : Int) := by omega
  have tk1 : True := trivial
  have tk2 : True := trivial
  have tk3 : True := trivial
  have tk4 : True := trivial
  have hi23 := (size_of Tryd.u23).2
  go_enter Tryd.func9, Tryd.ntmps9
  go_upto_region 13 with (first
    | (refine wp_alloc_row rfl 28 rfl rec0 67 zero_rec ?_; intro g8 w1 R8 hg8 hb1)
    | (go_at_call 24; refine (cL _ hb1).mono ?_; rintro e w2 ⟨rfl, hb2⟩; have e2 := hb1.trans (hb2.mono hb1.size); have R2 : RcAt w2 g8 rec0 := RcAt.below (w := w1) R8 hb2)
    | (go_at_call 25; refine (cV _ e2).mono ?_; rintro e w3 ⟨rfl, hb3⟩; have e3 := e2.trans (hb3.mono e2.size); have R3 := R2.below hb3)
    | (go_at_call 26; refine (cK _ e3).mono ?_; rintro e w4 ⟨rfl, hb4⟩; have e4 := e3.trans (hb4.mono e3.size); have R4 := R3.below hb4)
    | (clear tk1; refine wp_alloc_ar rfl 26 rfl .u8 (List.replicate 32 0) 32 Tryd.z23 ?_; intro g12 w5 A12 hg12 hb5; have e5 := e4.trans (hb5.mono e4.size); have R5 := R4.below hb5)
    | (clear tk2; refine wp_alloc_ar rfl 26 rfl .u8 (List.replicate 32 0) 32 Tryd.z23 ?_; intro g13 w6 A13 hg13 hb6; have e6 := e5.trans (hb6.mono e5.size); have R6 := R5.below hb6; have A12a := A12.below hb6 A12.lt; have l12 := A12.lt)
    | (refine wp_alloc_ar rfl 26 rfl .u8 (List.replicate 32 0) 32 Tryd.z23 ?_; intro g14 w7 A14 hg14 hb7; have e7 := e6.trans (hb7.mono e6.size); have R7 := R6.below hb7; have A12b := A12a.below hb7 A12a.lt; have A13a := A13.below hb7 A13.lt; have l13 := A13.lt; have s4 := e4.size; have s5 := hb5.size; have s6 := hb6.size; have l4 := R4.lt)
    | (clear tk3; refine wp_store_ar rfl 26 (.tmp 12) (.tmp 50) rfl g12 rfl .u8 A rfl 26 _ A12b (by rw [hA]; rfl) (by rw [hA]; exact hi23) ?_; intro w8 A12c hk8 hs8; clear hs8; have e8 : Below w.heap.size w w8 := e7.trans (hk8.below e7.size (fun q hq => by omega)); have R8a := R7.keep hk8 (by omega); have A13b := A13a.keep hk8 (by omega); have A14a := A14.keep hk8 (by omega))
    | (clear tk4; refine wp_store_ar rfl 26 (.tmp 13) (.tmp 51) rfl g13 rfl .u8 B rfl 26 _ A13b (by rw [hB]; rfl) (by rw [hB]; exact hi23) ?_; intro w9 A13c hk9 hs9; clear hs9; have e9 : Below w.heap.size w w9 := e8.trans (hk9.below e8.size (fun q hq => by omega)); have R9 := R8a.keep hk9 (by omega); have A12d := A12c.keep hk9 (by omega); have A14b := A14a.keep hk9 (by omega))
    | (refine wp_store_ar rfl 26 (.tmp 14) (.tmp 52) rfl g14 rfl .u8 C rfl 26 _ A14b (by rw [hC]; rfl) (by rw [hC]; exact hi23) ?_; intro w10 A14c hk10 hs10; clear hs10; have e10 : Below w.heap.size w w10 := e9.trans (hk10.below e9.size (fun q hq => by omega)); have R10 := R9.keep hk10 (by omega); have A12e := A12d.keep hk10 (by omega); have A13d := A13c.keep hk10 (by omega)))
  clear cL cV cK A12 A12a A12b A12c A12d A13 A13a A13b A13c A14 A14a A14b A14c
  refine wp_region_lx (fun w' => Ar w' g12 26 .u8 A ∧ Ar w' g13 26 .u8 B) [8] 10 (by kernel_rfl) (by kernel_rfl) ?_
  have HS : Ar w10.drew g12 26 .u8 A ∧ Ar w10.drew g13 26 .u8 B := ⟨A12e.drewN 1, A13d.drewN 1⟩
  have ed := e10.drew
  have Rd0 : RcAt w10.drew g8 rec0 := R10
  have hRd : Rd w10.drew a n c ss := hR.carry (Nat.le_refl _) ed
  clear A12e A13d R10 e10
  generalize w10.drew = W at HS ed Rd0 hRd ⊢
  refine lx_rd 0 ?vR0 (by kernel_rfl) (fun _ _ d _ _ h => by cases d <;> exact h) (by kernel_rfl) HS rfl rfl rfl (fun w' hS => ?hR0) ?_
  case hR0 => first | (go_simp; rfl) | go_simp
  simp only [List.setIfInBounds_toArray, List.set_cons_zero, List.set_cons_succ]
  refine lx_rd 2 ?vR2 (by kernel_rfl) (fun _ _ d _ _ h => by cases d <;> exact h) (by kernel_rfl) HS rfl rfl rfl (fun w' hS => ?hR2) ?_
  case hR2 => first | (go_simp; rfl) | go_simp
  simp only [List.setIfInBounds_toArray, List.set_cons_zero, List.set_cons_succ]
  refine lx_rd 4 ?vR4 (by kernel_rfl) (fun _ _ d _ _ h => by cases d <;> exact h) (by kernel_rfl) HS rfl rfl rfl (fun w' hS => ?hR4) ?_
  case hR4 => first | (go_simp; rfl) | go_simp
  simp only [List.setIfInBounds_toArray, List.set_cons_zero, List.set_cons_succ]
  refine lx_rd 5 (.agg (ic .u8 A).toArray) (by kernel_rfl) (fun _ _ d _ _ h => by cases d <;> exact h) (by kernel_rfl) HS rfl rfl rfl (fun w' hS => ?hR5) ?_
  case hR5 => exact exec_load_ar 26 (.tmp 12) rfl g12 rfl 26 .u8 A 5 32 hS.1 Tryd.u23 hA
  simp only [List.setIfInBounds_toArray, List.set_cons_zero, List.set_cons_succ]
  refine lx_rd 6 (.agg (ic .u8 B).toArray) (by kernel_rfl) (fun _ _ d _ _ h => by cases d <;> exact h) (by kernel_rfl) HS rfl rfl rfl (fun w' hS => ?hR6) ?_
  case hR6 => exact exec_load_ar 26 (.tmp 13) rfl g13 rfl 26 .u8 B 5 32 hS.2 Tryd.u23 hB
  simp only [List.setIfInBounds_toArray, List.set_cons_zero, List.set_cons_succ]
  have ha := (Below.refl W.heap.size W).alloc (Nat.le_refl _) (.cells #[] 5)
  have HSa : Ar (W.alloc (.cells #[] 5)) g12 26 .u8 A ∧ Ar (W.alloc (.cells #[] 5)) g13 26 .u8 B := ⟨HS.1.below ha HS.1.lt, HS.2.below ha HS.2.lt⟩
  refine lx_one 1 (by kernel_rfl) (stepT_val (w' := W.alloc (.cells #[] 5)) (.slice (some ⟨W.heap.size, 0, none⟩) 0 0) rfl rfl rfl ?rR1 (fun _ => HSa) ?_)
  case rR1 => exact exec_emp rfl
  simp only [List.setIfInBounds_toArray, List.set_cons_zero, List.set_cons_succ]
  obtain ⟨a9, c9, w9, hrun, hR9, hb, hl9⟩ := run_appB (W.alloc (.cells #[] 5)) 22 W.heap.size W.heap.size (Nat.le_refl _) (by simp) (World.alloc_heap_new _ _) a n c ss (hRd.carry (Nat.le_refl _) ha) (by omega)
  have hb9 : Below W.heap.size W w9 := ha.trans (hb.mono ha.size)
  have HS9 : Ar w9 g12 26 .u8 A ∧ Ar w9 g13 26 .u8 B := ⟨HS.1.below hb9 HS.1.lt, HS.2.below hb9 HS.2.lt⟩
  have R9x := Rd0.below hb9
  have e9x := ed.trans (hb9.mono ed.size)
  refine lx_one 3 (by kernel_rfl) (stepT_val (w' := w9) (.slice a9 n c9) rfl rfl rfl ?rR3 (fun _ => HS9) ?_)
  case rR3 => exact exec_app rfl rfl rfl hrun
  simp only [List.setIfInBounds_toArray, List.set_cons_zero, List.set_cons_succ]
  refine lx_one 7 (by kernel_rfl) (stepT_val (w' := w9) (.agg (recL (.string l) (.slice a9 n c9) (.int .i64 M) A B).toArray) rfl rfl rfl ?rR7 (fun _ => HS9) ?_)
  case rR7 => exact exec_build_rec (.tmp 58) (.tmp 61) (.tmp 62) (.tmp 63) (.tmp 64) rfl l a9 n c9 M A B hA hB rfl rfl rfl rfl rfl
  simp only [List.setIfInBounds_toArray, List.set_cons_zero, List.set_cons_succ]
  have hlX := rec_len (.string l) (.slice a9 n c9) (.int .i64 M) hA hB
  have hkX : Keep (fun j => j = g8) w9 (w9.setRow g8 (recL (.string l) (.slice a9 n c9) (.int .i64 M) A B).toArray) := ⟨rfl, rfl, rfl, by simp, fun j _ hj => setRow_other w9 g8 j _ hj⟩
  have RX : RcAt (w9.setRow g8 (recL (.string l) (.slice a9 n c9) (.int .i64 M) A B).toArray) g8 (recL (.string l) (.slice a9 n c9) (.int .i64 M) A B) := setRow_heap w9 g8 _ _ 28 (0, 0) R9x
  have HSX : Ar (w9.setRow g8 (recL (.string l) (.slice a9 n c9) (.int .i64 M) A B).toArray) g12 26 .u8 A ∧ Ar (w9.setRow g8 (recL (.string l) (.slice a9 n c9) (.int .i64 M) A B).toArray) g13 26 .u8 B := ⟨HS9.1.keep hkX (by omega), HS9.2.keep hkX (by omega)⟩
  refine lx_one 8 (by kernel_rfl) (stepT_store (w' := w9.setRow g8 (recL (.string l) (.slice a9 n c9) (.int .i64 M) A B).toArray) rfl rfl rfl ?rR8 (fun _ => HSX) ?_)
  case rR8 => exact exec_store_rec (.tmp 8) (.tmp 65) rfl g8 rfl _ rfl rec0 R9x rec0_len hlX (rec_one _ _ _ _ _ _ _)
  have eX : Below w.heap.size w (w9.setRow g8 (recL (.string l) (.slice a9 n c9) (.int .i64 M) A B).toArray) := e9x.trans (hkX.below e9x.size (fun q hq => by omega))
  have hRX : Rd (w9.setRow g8 (recL (.string l) (.slice a9 n c9) (.int .i64 M) A B).toArray) a9 n c9 ss := hR9.keep hkX (fun ad had hg => by have := hl9 ad had; have := Rd0.lt; omega)
  refine lx_one 9 (by kernel_rfl) (stepT_val (w' := w9.setRow g8 (recL (.string l) (.slice a9 n c9) (.int .i64 M) A B).toArray) (.int .i64 0) rfl rfl rfl ?rR9 (fun _ => HSX) ?_)
  case rR9 => first | (go_simp; done) | (go_simp; rfl)
  simp only [List.setIfInBounds_toArray, List.set_cons_zero, List.set_cons_succ]
  refine lx_nil (by kernel_rfl) ?_
  generalize w9.setRow g8 (recL (.string l) (.slice a9 n c9) (.int .i64 M) A B).toArray = WX at *
  go_wp2
  exact bodyPost_ret (results_rec Tryd.results9 _ _ g8 _ (.int .i64 0) rfl rfl RX hlX) rfl ⟨a9, c9, rfl, hRX, eX⟩

end Go.Proofs.YtiidjdedeenijaaDoor
