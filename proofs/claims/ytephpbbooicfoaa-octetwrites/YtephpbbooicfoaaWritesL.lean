/- OctetWrites: whatever bytes ahead, number, number with a sign, float and text, PutUint, PutInt, PutFloat and PutText lay behind the bytes just what the document's own forms are; the law returns true and nothing that was there is written. For every input, no condition. -/
import Derived.Test.YtephpbbooicfoaaRows
import Derived.Test.YtephpbbooicfoaaAnyArg
import Derived.Test.YtephpbbooicfoaaRefT
import Derived.Test.YtephpbbooicfoaaRs
namespace Go.Proofs.Ytephpbbooicfoaa.octetWrites
open Go.ChangeShapes Go.WideShapes Go.ChangeAt Go.RowKit
open Go.Proofs.Ytephpbbooicfoaa

theorem refPutR (a : Option Addr) (n c : Nat) (xs : List Int) (k : Nat) (w : World) (h : Rd w a n c xs) (hn : n ≤ 100000) (hk : k < 18446744073709551616) :
    Calls Try.prog 10 #[.slice a n c, .int .u64 k] w fun e w' => ∃ a' n' c', e = .returned (.slice a' n' c') ∧ Rd w' a' n' c' (xs ++ form k) ∧ Ext w w' :=
  (refPutUint_any a n c xs k w h hn hk).mono fun _ _ => toR (h.bytes.append (form_bd k))
theorem refPutIntR (a : Option Addr) (n c : Nat) (xs : List Int) (k : Int) (w : World) (h : Rd w a n c xs) (hn : n ≤ 100000) (h0 : -9223372036854775808 ≤ k) (h1 : k ≤ 9223372036854775807) :
    Calls Try.prog 12 #[.slice a n c, .int .i64 k] w fun e w' => ∃ a' n' c', e = .returned (.slice a' n' c') ∧ Rd w' a' n' c' (xs ++ form (foldv k)) ∧ Ext w w' :=
  (refPutInt_any a n c xs k w h hn h0 h1).mono fun _ _ => toR (h.bytes.append (form_bd _))
theorem refPutFloatR (a : Option Addr) (n c : Nat) (xs : List Int) (x : Nat) (w : World) (h : Rd w a n c xs) (hn : n ≤ 100000) (hx : x < 18446744073709551616) :
    Calls Try.prog 14 #[.slice a n c, .float .f64 x] w fun e w' => ∃ a' n' c', e = .returned (.slice a' n' c') ∧ Rd w' a' n' c' (xs ++ fbl (bitsv x) 8) ∧ Ext w w' :=
  (refPutFloat_any a n c xs x w h hn hx).mono fun _ _ => toR (h.bytes.append (fbl_bd _ 8))
theorem refPutTextR (a : Option Addr) (n c : Nat) (xs : List Int) (s : ByteArray) (w : World) (h : Rd w a n c xs) (hn : n ≤ 100000) (hs : s.size ≤ 100000) :
    Calls Try.prog 16 #[.slice a n c, .string s] w fun e w' => ∃ a' n' c', e = .returned (.slice a' n' c') ∧ Rd w' a' n' c' (xs ++ form s.size ++ nums s) ∧ Ext w w' :=
  (refPutText_any a n c xs s w h hn hs).mono fun _ _ => toR ((h.bytes.append (form_bd _)).append (nums_bd s))

/-- The argument, as it lies in the call's own variable. -/
structure Box (w : World) (B : Nat) (N : Nat) (I : Int) (F : Nat) (S : ByteArray) : Prop where
  c1 : w.cell? ⟨B, 1, none⟩ = some (.int .u64 N)
  c2 : w.cell? ⟨B, 2, none⟩ = some (.int .i64 I)
  c3 : w.cell? ⟨B, 3, none⟩ = some (.int .u64 F)
  c4 : w.cell? ⟨B, 4, none⟩ = some (.string S)

theorem Box.lt {w : World} {B N : Nat} {I : Int} {F : Nat} {S : ByteArray} (h : Box w B N I F S) : B < w.heap.size := World.block_lt_of_cell? w _ h.c1
theorem Box.carry {w w' : World} {B N : Nat} {I : Int} {F : Nat} {S : ByteArray} (h : Box w B N I F S) (k : Ext w w') : Box w' B N I F S :=
  ⟨(Below.cell k (p := ⟨B, 1, none⟩) h.lt).trans h.c1, (Below.cell k (p := ⟨B, 2, none⟩) h.lt).trans h.c2, (Below.cell k (p := ⟨B, 3, none⟩) h.lt).trans h.c3, (Below.cell k (p := ⟨B, 4, none⟩) h.lt).trans h.c4⟩
theorem Box.new (w : World) (v : Value) (N : Nat) (I : Int) (F : Nat) (S : ByteArray) (t : TypeId) : Box (w.alloc (.cells #[v, .int .u64 N, .int .i64 I, .int .u64 F, .string S] t)) w.heap.size N I F S :=
  ⟨by simp, by simp, by simp, by simp⟩

set_option maxHeartbeats 6400000 in
theorem walkN (ao : Option Addr) (n c : Nat) (xs : List Int) (N : Nat) (I : Int) (F : Nat) (S : ByteArray) (w : World) (hR : Rd w ao n c xs) (hN : N < 18446744073709551616) (hI0 : -9223372036854775808 ≤ I) (hI1 : I ≤ 9223372036854775807) (hF : F < 18446744073709551616) (hS : S.size ≤ 9223372036854775807) :
    Calls Try.prog 3 #[.agg #[.slice ao n c, .int .u64 N, .int .i64 I, .int .u64 F, .string S]] w fun e w' => e = .returned (.bool true) ∧ Below w.heap.size w w' := by
  have hfr := run_from
  have hx0 : Ext w (w.alloc (.cells #[.slice ao n c, .int .u64 N, .int .i64 I, .int .u64 F, .string S] 25)) := (Below.refl _ _).alloc (Nat.le_refl _) _
  have hbx := Box.new w (.slice ao n c) N I F S 25
  go_enter Try.func3, Try.ntmps3
  go_wp2_with (first
    | (go_at_call 6; refine (fewR ao n c xs _ (hR.carry (Nat.le_refl _) hx0)).mono ?_; rintro e w1 ⟨a1, n1, c1, rfl, hn1, hr1, hb1⟩; obtain ⟨X, hXe⟩ : ∃ X, xs.take 2000 = X := ⟨_, rfl⟩; rw [hXe] at hr1; have hX : X.length ≤ 2000 := (by rw [← hXe, List.length_take]; omega); clear hXe; have hbx1 := hbx.carry hb1; have hx1 := hx0.trans hb1; clear hbx hb1 hx0 hR; have q1 := hbx1.c1; have q2 := hbx1.c2; have q3 := hbx1.c3; have q4 := hbx1.c4)
    | (go_at_call 8; refine (text_any S 500 _ (by omega) (by omega)).mono ?_; rintro e w2 ⟨T, rfl, hT, rfl⟩))
  have hr1R := hr1.carry (Nat.le_refl _) (Ext.refl _).drew
  have hbR := hbx1.carry (Ext.refl _).drew
  have hwR := hx1.drew
  clear hr1 hbx1 hx1 q1 q2 q3 q4
  refine wp_region_seq [(0, true), (2, true), (3, true), (6, true), (7, true), (8, true), (1, false), (4, false), (5, true), (9, false), (10, true), (11, true), (12, true), (13, true), (15, true), (16, true), (19, true), (20, true), (21, true), (14, false), (17, false), (18, true), (22, false), (23, true), (24, true), (25, true), (26, true), (27, true), (29, true), (32, true), (33, true), (28, false), (30, false), (31, true), (34, false), (35, true), (36, true), (37, true), (38, true), (39, true), (41, true), (44, true), (45, true), (40, false), (42, false), (43, true), (46, false), (47, true), (48, true), (49, true), (50, true), (51, false), (52, true), (53, true)] (by kernel_rfl) (by kernel_rfl) (by kernel_rfl) (by kernel_rfl) (fun _ _ d _ _ h => by cases d <;> exact h) ?_
  refine seqX_read ?v0 rfl rfl rfl (fun w' hE => ?h0) ?_
  case h0 => first | (go_simp; rfl) | go_simp
  simp only [List.setIfInBounds_toArray, List.set_cons_zero, List.set_cons_succ]
  refine seqX_read ?v2 rfl rfl rfl (fun w' hE => ?h2) ?_
  case h2 => first | (go_simp; rfl) | go_simp
  simp only [List.setIfInBounds_toArray, List.set_cons_zero, List.set_cons_succ]
  refine seqX_read ?v3 rfl rfl rfl (fun w' hE => ?h3) ?_
  case h3 => have q := (hbR.carry hE).c1; first | (go_simp; rfl) | go_simp
  simp only [List.setIfInBounds_toArray, List.set_cons_zero, List.set_cons_succ]
  refine seqX_read ?v6 rfl rfl rfl (fun w' hE => ?h6) ?_
  case h6 => first | (go_simp; rfl) | go_simp
  simp only [List.setIfInBounds_toArray, List.set_cons_zero, List.set_cons_succ]
  refine seqX_read ?v7 rfl rfl rfl (fun w' hE => ?h7) ?_
  case h7 => first | (go_simp; rfl) | go_simp
  simp only [List.setIfInBounds_toArray, List.set_cons_zero, List.set_cons_succ]
  refine seqX_read ?v8 rfl rfl rfl (fun w' hE => ?h8) ?_
  case h8 => have q := (hbR.carry hE).c1; first | (go_simp; rfl) | go_simp
  simp only [List.setIfInBounds_toArray, List.set_cons_zero, List.set_cons_succ]
  refine seqX_call 6 ?a1 rfl rfl rfl ?r1 ?_
  case r1 => first | (go_simp; rfl) | go_simp
  refine (fewS _ _ _ X _ hr1R hX).mono ?_
  rintro e w1 ⟨a1, n1, c1, rfl, hn1, hr1, hx1⟩
  refine ⟨_, rfl, hx1, ?_⟩
  have hr11 := hr1R.carry (Nat.le_refl _) hx1
  have hb1 := hbR.carry hx1
  have hw1 := hwR.trans hx1
  clear hr1R hbR hwR
  simp only [List.setIfInBounds_toArray, List.set_cons_zero, List.set_cons_succ]
  refine seqX_call 9 ?a4 rfl rfl rfl ?r4 ?_
  case r4 => first | (go_simp; rfl) | go_simp
  refine (putR _ _ _ X N _ hr1 (by omega) hN).mono ?_
  rintro e w4 ⟨a4, n4, c4, rfl, hr4, hx4⟩
  refine ⟨_, rfl, hx4, ?_⟩
  have hr14 := hr11.carry (Nat.le_refl _) hx4
  have hb4 := hb1.carry hx4
  have hw4 := hw1.trans hx4
  clear hr11 hb1 hw1
  simp only [List.setIfInBounds_toArray, List.set_cons_zero, List.set_cons_succ]
  refine seqX_read ?v5 rfl rfl rfl (fun w' hE => ?h5) ?_
  case h5 => have q := (hr4.carry (Nat.le_refl _) hE).string; first | (go_simp; rfl) | go_simp
  simp only [List.setIfInBounds_toArray, List.set_cons_zero, List.set_cons_succ]
  refine seqX_call 10 ?a9 rfl rfl rfl ?r9 ?_
  case r9 => first | (go_simp; rfl) | go_simp
  refine (refPutR _ _ _ X N _ hr14 (by omega) hN).mono ?_
  rintro e w9 ⟨a9, n9, c9, rfl, hr9, hx9⟩
  refine ⟨_, rfl, hx9, ?_⟩
  have hr19 := hr14.carry (Nat.le_refl _) hx9
  have hb9 := hb4.carry hx9
  have hw9 := hw4.trans hx9
  clear hr14 hb4 hw4
  simp only [List.setIfInBounds_toArray, List.set_cons_zero, List.set_cons_succ]
  refine seqX_read ?v10 rfl rfl rfl (fun w' hE => ?h10) ?_
  case h10 => have q := (hr9.carry (Nat.le_refl _) hE).string; first | (go_simp; rfl) | go_simp
  simp only [List.setIfInBounds_toArray, List.set_cons_zero, List.set_cons_succ]
  refine seqX_read ?v11 rfl rfl rfl (fun w' hE => ?h11) ?_
  case h11 => first | (go_simp; rfl) | go_simp
  simp only [List.setIfInBounds_toArray, List.set_cons_zero, List.set_cons_succ]
  refine seqX_read ?v12 rfl rfl rfl (fun w' hE => ?h12) ?_
  case h12 => first | (go_simp; rfl) | go_simp
  simp only [List.setIfInBounds_toArray, List.set_cons_zero, List.set_cons_succ]
  refine seqX_read ?v13 rfl rfl rfl (fun w' hE => ?h13) ?_
  case h13 => first | (go_simp; rfl) | go_simp
  simp only [List.setIfInBounds_toArray, List.set_cons_zero, List.set_cons_succ]
  refine seqX_read ?v15 rfl rfl rfl (fun w' hE => ?h15) ?_
  case h15 => first | (go_simp; rfl) | go_simp
  simp only [List.setIfInBounds_toArray, List.set_cons_zero, List.set_cons_succ]
  refine seqX_read ?v16 rfl rfl rfl (fun w' hE => ?h16) ?_
  case h16 => have q := (hb9.carry hE).c2; first | (go_simp; rfl) | go_simp
  simp only [List.setIfInBounds_toArray, List.set_cons_zero, List.set_cons_succ]
  refine seqX_read ?v19 rfl rfl rfl (fun w' hE => ?h19) ?_
  case h19 => first | (go_simp; rfl) | go_simp
  simp only [List.setIfInBounds_toArray, List.set_cons_zero, List.set_cons_succ]
  refine seqX_read ?v20 rfl rfl rfl (fun w' hE => ?h20) ?_
  case h20 => first | (go_simp; rfl) | go_simp
  simp only [List.setIfInBounds_toArray, List.set_cons_zero, List.set_cons_succ]
  refine seqX_read ?v21 rfl rfl rfl (fun w' hE => ?h21) ?_
  case h21 => have q := (hb9.carry hE).c2; first | (go_simp; rfl) | go_simp
  simp only [List.setIfInBounds_toArray, List.set_cons_zero, List.set_cons_succ]
  refine seqX_call 6 ?a14 rfl rfl rfl ?r14 ?_
  case r14 => first | (go_simp; rfl) | go_simp
  refine (fewS _ _ _ X _ hr19 hX).mono ?_
  rintro e w14 ⟨a14, n14, c14, rfl, hn14, hr14, hx14⟩
  refine ⟨_, rfl, hx14, ?_⟩
  have hr114 := hr19.carry (Nat.le_refl _) hx14
  have hb14 := hb9.carry hx14
  have hw14 := hw9.trans hx14
  clear hr19 hb9 hw9
  simp only [List.setIfInBounds_toArray, List.set_cons_zero, List.set_cons_succ]
  refine seqX_call 11 ?a17 rfl rfl rfl ?r17 ?_
  case r17 => first | (go_simp; rfl) | go_simp
  refine (putIntR _ _ _ X I _ hr14 (by omega) hI0 hI1).mono ?_
  rintro e w17 ⟨a17, n17, c17, rfl, hr17, hx17⟩
  refine ⟨_, rfl, hx17, ?_⟩
  have hr117 := hr114.carry (Nat.le_refl _) hx17
  have hb17 := hb14.carry hx17
  have hw17 := hw14.trans hx17
  clear hr114 hb14 hw14
  simp only [List.setIfInBounds_toArray, List.set_cons_zero, List.set_cons_succ]
  refine seqX_read ?v18 rfl rfl rfl (fun w' hE => ?h18) ?_
  case h18 => have q := (hr17.carry (Nat.le_refl _) hE).string; first | (go_simp; rfl) | go_simp
  simp only [List.setIfInBounds_toArray, List.set_cons_zero, List.set_cons_succ]
  refine seqX_call 12 ?a22 rfl rfl rfl ?r22 ?_
  case r22 => first | (go_simp; rfl) | go_simp
  refine (refPutIntR _ _ _ X I _ hr117 (by omega) hI0 hI1).mono ?_
  rintro e w22 ⟨a22, n22, c22, rfl, hr22, hx22⟩
  refine ⟨_, rfl, hx22, ?_⟩
  have hr122 := hr117.carry (Nat.le_refl _) hx22
  have hb22 := hb17.carry hx22
  have hw22 := hw17.trans hx22
  clear hr117 hb17 hw17
  simp only [List.setIfInBounds_toArray, List.set_cons_zero, List.set_cons_succ]
  refine seqX_read ?v23 rfl rfl rfl (fun w' hE => ?h23) ?_
  case h23 => have q := (hr22.carry (Nat.le_refl _) hE).string; first | (go_simp; rfl) | go_simp
  simp only [List.setIfInBounds_toArray, List.set_cons_zero, List.set_cons_succ]
  refine seqX_read ?v24 rfl rfl rfl (fun w' hE => ?h24) ?_
  case h24 => first | (go_simp; rfl) | go_simp
  simp only [List.setIfInBounds_toArray, List.set_cons_zero, List.set_cons_succ]
  refine seqX_read ?v25 rfl rfl rfl (fun w' hE => ?h25) ?_
  case h25 => first | (go_simp; rfl) | go_simp
  simp only [List.setIfInBounds_toArray, List.set_cons_zero, List.set_cons_succ]
  refine seqX_read ?v26 rfl rfl rfl (fun w' hE => ?h26) ?_
  case h26 => first | (go_simp; rfl) | go_simp
  simp only [List.setIfInBounds_toArray, List.set_cons_zero, List.set_cons_succ]
  refine seqX_read ?v27 rfl rfl rfl (fun w' hE => ?h27) ?_
  case h27 => first | (go_simp; rfl) | go_simp
  simp only [List.setIfInBounds_toArray, List.set_cons_zero, List.set_cons_succ]
  refine seqX_read ?v29 rfl rfl rfl (fun w' hE => ?h29) ?_
  case h29 => first | (go_simp; rfl) | go_simp
  simp only [List.setIfInBounds_toArray, List.set_cons_zero, List.set_cons_succ]
  refine seqX_read ?v32 rfl rfl rfl (fun w' hE => ?h32) ?_
  case h32 => first | (go_simp; rfl) | go_simp
  simp only [List.setIfInBounds_toArray, List.set_cons_zero, List.set_cons_succ]
  refine seqX_read ?v33 rfl rfl rfl (fun w' hE => ?h33) ?_
  case h33 => first | (go_simp; rfl) | go_simp
  simp only [List.setIfInBounds_toArray, List.set_cons_zero, List.set_cons_succ]
  refine seqX_call 6 ?a28 rfl rfl rfl ?r28 ?_
  case r28 => first | (go_simp; rfl) | go_simp
  refine (fewS _ _ _ X _ hr122 hX).mono ?_
  rintro e w28 ⟨a28, n28, c28, rfl, hn28, hr28, hx28⟩
  refine ⟨_, rfl, hx28, ?_⟩
  have hr128 := hr122.carry (Nat.le_refl _) hx28
  have hb28 := hb22.carry hx28
  have hw28 := hw22.trans hx28
  clear hr122 hb22 hw22
  simp only [List.setIfInBounds_toArray, List.set_cons_zero, List.set_cons_succ]
  refine seqX_call 13 ?a30 rfl rfl rfl ?r30 ?_
  case r30 => first | (go_simp; rfl) | go_simp
  refine (putFloatR _ _ _ X F _ hr28 (by omega) hF).mono ?_
  rintro e w30 ⟨a30, n30, c30, rfl, hr30, hx30⟩
  refine ⟨_, rfl, hx30, ?_⟩
  have hr130 := hr128.carry (Nat.le_refl _) hx30
  have hb30 := hb28.carry hx30
  have hw30 := hw28.trans hx30
  clear hr128 hb28 hw28
  simp only [List.setIfInBounds_toArray, List.set_cons_zero, List.set_cons_succ]
  refine seqX_read ?v31 rfl rfl rfl (fun w' hE => ?h31) ?_
  case h31 => have q := (hr30.carry (Nat.le_refl _) hE).string; first | (go_simp; rfl) | go_simp
  simp only [List.setIfInBounds_toArray, List.set_cons_zero, List.set_cons_succ]
  refine seqX_call 14 ?a34 rfl rfl rfl ?r34 ?_
  case r34 => first | (go_simp; rfl) | go_simp
  refine (refPutFloatR _ _ _ X F _ hr130 (by omega) hF).mono ?_
  rintro e w34 ⟨a34, n34, c34, rfl, hr34, hx34⟩
  refine ⟨_, rfl, hx34, ?_⟩
  have hr134 := hr130.carry (Nat.le_refl _) hx34
  have hb34 := hb30.carry hx34
  have hw34 := hw30.trans hx34
  clear hr130 hb30 hw30
  simp only [List.setIfInBounds_toArray, List.set_cons_zero, List.set_cons_succ]
  refine seqX_read ?v35 rfl rfl rfl (fun w' hE => ?h35) ?_
  case h35 => have q := (hr34.carry (Nat.le_refl _) hE).string; first | (go_simp; rfl) | go_simp
  simp only [List.setIfInBounds_toArray, List.set_cons_zero, List.set_cons_succ]
  refine seqX_read ?v36 rfl rfl rfl (fun w' hE => ?h36) ?_
  case h36 => first | (go_simp; rfl) | go_simp
  simp only [List.setIfInBounds_toArray, List.set_cons_zero, List.set_cons_succ]
  refine seqX_read ?v37 rfl rfl rfl (fun w' hE => ?h37) ?_
  case h37 => first | (go_simp; rfl) | go_simp
  simp only [List.setIfInBounds_toArray, List.set_cons_zero, List.set_cons_succ]
  refine seqX_read ?v38 rfl rfl rfl (fun w' hE => ?h38) ?_
  case h38 => first | (go_simp; rfl) | go_simp
  simp only [List.setIfInBounds_toArray, List.set_cons_zero, List.set_cons_succ]
  refine seqX_read ?v39 rfl rfl rfl (fun w' hE => ?h39) ?_
  case h39 => first | (go_simp; rfl) | go_simp
  simp only [List.setIfInBounds_toArray, List.set_cons_zero, List.set_cons_succ]
  refine seqX_read ?v41 rfl rfl rfl (fun w' hE => ?h41) ?_
  case h41 => first | (go_simp; rfl) | go_simp
  simp only [List.setIfInBounds_toArray, List.set_cons_zero, List.set_cons_succ]
  refine seqX_read ?v44 rfl rfl rfl (fun w' hE => ?h44) ?_
  case h44 => first | (go_simp; rfl) | go_simp
  simp only [List.setIfInBounds_toArray, List.set_cons_zero, List.set_cons_succ]
  refine seqX_read ?v45 rfl rfl rfl (fun w' hE => ?h45) ?_
  case h45 => first | (go_simp; rfl) | go_simp
  simp only [List.setIfInBounds_toArray, List.set_cons_zero, List.set_cons_succ]
  refine seqX_call 6 ?a40 rfl rfl rfl ?r40 ?_
  case r40 => first | (go_simp; rfl) | go_simp
  refine (fewS _ _ _ X _ hr134 hX).mono ?_
  rintro e w40 ⟨a40, n40, c40, rfl, hn40, hr40, hx40⟩
  refine ⟨_, rfl, hx40, ?_⟩
  have hr140 := hr134.carry (Nat.le_refl _) hx40
  have hb40 := hb34.carry hx40
  have hw40 := hw34.trans hx40
  clear hr134 hb34 hw34
  simp only [List.setIfInBounds_toArray, List.set_cons_zero, List.set_cons_succ]
  refine seqX_call 15 ?a42 rfl rfl rfl ?r42 ?_
  case r42 => first | (go_simp; rfl) | go_simp
  refine (putTextR _ _ _ X T _ hr40 (by omega) (by omega)).mono ?_
  rintro e w42 ⟨a42, n42, c42, rfl, hr42, hx42⟩
  refine ⟨_, rfl, hx42, ?_⟩
  have hr142 := hr140.carry (Nat.le_refl _) hx42
  have hb42 := hb40.carry hx42
  have hw42 := hw40.trans hx42
  clear hr140 hb40 hw40
  simp only [List.setIfInBounds_toArray, List.set_cons_zero, List.set_cons_succ]
  refine seqX_read ?v43 rfl rfl rfl (fun w' hE => ?h43) ?_
  case h43 => have q := (hr42.carry (Nat.le_refl _) hE).string; first | (go_simp; rfl) | go_simp
  simp only [List.setIfInBounds_toArray, List.set_cons_zero, List.set_cons_succ]
  refine seqX_call 16 ?a46 rfl rfl rfl ?r46 ?_
  case r46 => first | (go_simp; rfl) | go_simp
  refine (refPutTextR _ _ _ X T _ hr142 (by omega) (by omega)).mono ?_
  rintro e w46 ⟨a46, n46, c46, rfl, hr46, hx46⟩
  refine ⟨_, rfl, hx46, ?_⟩
  have hr146 := hr142.carry (Nat.le_refl _) hx46
  have hb46 := hb42.carry hx46
  have hw46 := hw42.trans hx46
  clear hr142 hb42 hw42
  simp only [List.setIfInBounds_toArray, List.set_cons_zero, List.set_cons_succ]
  refine seqX_read ?v47 rfl rfl rfl (fun w' hE => ?h47) ?_
  case h47 => have q := (hr46.carry (Nat.le_refl _) hE).string; first | (go_simp; rfl) | go_simp
  simp only [List.setIfInBounds_toArray, List.set_cons_zero, List.set_cons_succ]
  refine seqX_read ?v48 rfl rfl rfl (fun w' hE => ?h48) ?_
  case h48 => first | (go_simp; rfl) | go_simp
  simp only [List.setIfInBounds_toArray, List.set_cons_zero, List.set_cons_succ]
  refine seqX_read ?v49 rfl rfl rfl (fun w' hE => ?h49) ?_
  case h49 => first | (go_simp; rfl) | go_simp
  simp only [List.setIfInBounds_toArray, List.set_cons_zero, List.set_cons_succ]
  refine seqX_read ?v50 rfl rfl rfl (fun w' hE => ?h50) ?_
  case h50 => first | (go_simp; rfl) | go_simp
  simp only [List.setIfInBounds_toArray, List.set_cons_zero, List.set_cons_succ]
  refine seqX_call 17 ?a51 rfl rfl rfl ?r51 ?_
  case r51 => first | (go_simp; rfl) | go_simp
  refine (wakes_any _).mono ?_
  rintro e w51 ⟨rfl, hx51⟩
  refine ⟨_, rfl, hx51, ?_⟩
  have hw51 := hw46.trans hx51
  simp only [List.setIfInBounds_toArray, List.set_cons_zero, List.set_cons_succ]
  refine seqX_read ?v52 rfl rfl rfl (fun w' hE => ?h52) ?_
  case h52 => first | (go_simp; rfl) | go_simp
  simp only [List.setIfInBounds_toArray, List.set_cons_zero, List.set_cons_succ]
  refine seqX_read ?v53 rfl rfl rfl (fun w' hE => ?h53) ?_
  case h53 => first | (go_simp; rfl) | go_simp
  simp only [List.setIfInBounds_toArray, List.set_cons_zero, List.set_cons_succ]
  refine seqX_done ?_
  go_wp2
  go_ret
  exact ⟨rfl, hw51⟩

theorem own : ownKnob Try.prog.godebug = none := by kernel_rfl
theorem laidOut : laidOutB Try.prog = true := by kernel_rfl

set_option maxRecDepth 100000 in
theorem lifted (os : Os) (started : os.Started) (H : Type) (enc : TypeId × Value → H) :
    ReturnsInHanded {} Try.checked os 3 .any (Rows.octetWritesSpec.pre6 enc Try.prog Try.f3 Rows.octetWritesRow.domain false) (Rows.octetWritesSpec.post enc Try.prog Try.f3 false true false false) := by
  refine returnsInHanded_of_change (C := Try.checked) own started (by kernel_rfl) Try.func3
    (ChangeSpec.witness6 (enc := enc) (C := Try.checked) false ⟨#[], #[.agg #[.slice none 0 0, .int .u64 0, .int .i64 0, .int .u64 0, .string ByteArray.empty]], []⟩ 8 (by kernel_rfl) (by kernel_rfl) (by kernel_rfl) (by kernel_rfl)) ?_
  intro W base args ds gs before hval0 hW hcnd _
  have hval : ∀ (j : Nat) t v, Try.f3.params[j]? = some t → args[j]? = some v → Value.okWide Try.prog W .any base t v := hval0
  have hW' := hW
  obtain ⟨p, q, hA0, hV, rfl, hfz, hnd⟩ := hW
  have hA : DataW.TrodAll enc Try.prog W 0 (fun _ => true) true Try.f3.params.toList args.toList ds p := hA0
  rw [Try.params3] at hA hval
  obtain ⟨v0, vs0, d0, ds0, p0, q0, hargs, rfl, rfl, h0, r0⟩ := trodAll_cons hA
  obtain ⟨rfl, rfl, rfl⟩ := trodAll_nil r0
  obtain rfl : args = #[v0] := by cases args; simp_all
  obtain ⟨rfl, rfl⟩ := trodVars_none hV
  have lt0 : ∀ x ∈ p0, x.block < W.heap.size := by obtain ⟨m, hm⟩ := h0; exact DataW.trod_lt m _ _ _ hm
  obtain ⟨ao, n, c, xs, N, I, F, S, rfl, hR, hN, hI0, hI1, hF, hS⟩ := open_any (hval 0 25 v0 rfl rfl) h0
  clear hA0 hval0
  refine (walkN ao n c xs N I F S W hR hN hI0 hI1 hF hS).mono fun e W' ⟨he, bel⟩ => ?_
  subst he
  exact ⟨_, rfl, _, _, _, [], _, [], hW', trodAll_mk1 (shut_bool Try.underlying4 _), (trodAll_cons_mk (Below.trod laidOut (by kernel_rfl) (of_decide_eq_true (by kernel_rfl)) h0 bel lt0) trodAll_mk0), rfl, bel.frame _, fun h => by cases h⟩

end Go.Proofs.Ytephpbbooicfoaa.octetWrites

namespace Go.Proofs.Ytephpbbooicfoaa
theorem octetWrites_holds : Rows.OctetWritesSaid :=
  OpenClaim.holds_of_wide 3 Try.f3 rfl rfl rfl rfl rfl rfl rfl ⟨rfl, rfl, rfl, rfl, rfl⟩ rfl rfl rfl rfl rfl (by kernel_rfl) Try.func3 (by kernel_rfl)
    (of_decide_eq_true (by kernel_rfl)) (by unfold Func.isWrapper; first | (rw [if_pos (by decide +kernel)]; kernel_rfl) | (rw [if_neg (by decide +kernel)]; exact ⟨rfl, rfl⟩))
    (fun os started H enc _ => octetWrites.lifted os started H enc)
#print axioms octetWrites_holds
end Go.Proofs.Ytephpbbooicfoaa
