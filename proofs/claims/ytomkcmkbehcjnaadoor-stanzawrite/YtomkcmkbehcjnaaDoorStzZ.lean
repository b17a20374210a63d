/- StanzaWrite: any stanza is written as the document writes it, or refused for what it refuses. -/
import Derived.Test.YtomkcmkbehcjnaaDoorStzW
import Derived.Test.YtomkcmkbehcjnaaDoorStzY
import Derived.Test.YtomkcmkbehcjnaaDoorStzM
namespace Go.Proofs.YtomkcmkbehcjnaaDoor
open Go.RowKit

/-- A stanza that is cut already: Twin's answer reads as it. -/
theorem stwin_id (K : Int) (I : Nat) (A B T : ByteArray) (la : Option Addr) (ln lc : Nat) (N : Int) (F : Nat) (L : List ByteArray) (w : World) (hR : SRd w la ln lc L) (hA : A.size ≤ 1100) (hB : B.size ≤ 1100) (hT : T.size ≤ 1100) (hl : L.length ≤ 70) (hs : ∀ s ∈ L, s.size ≤ 1100) :
    Calls Tryd.prog 8 #[.agg #[.int .i64 K, .int .u64 I, .string A, .string B, .string T, .slice la ln lc, .int .i64 N, .float .f64 F]] w fun e w' => ∃ la' ln' lc', e = .returned (.agg #[.int .i64 K, .int .u64 I, .string A, .string B, .string T, .slice la' ln' lc', .int .i64 N, .float .f64 F]) ∧ SRd w' la' ln' lc' L ∧ Below w.heap.size w w' := by
  have h := stwin_any K I A B T la ln lc N F L w hR (by omega) (by omega) (by omega)
  rw [cutS_id hA, cutS_id hB, cutS_id hT, cutL_id hl hs] at h
  exact h.mono fun _ _ ⟨a, n, c, he, _, hr, hb⟩ => ⟨a, n, c, he, hr, hb⟩

theorem wpt_bd {bs : List Bool} {p : Nat → List Int} (h : ∀ k, Bd (p k)) : ∀ k, Bd (wpt bs p k)
  | 0 => Bd.nil
  | k + 1 => by
    rw [wpt]
    refine (wpt_bd h k).append ?_
    split
    · exact h k
    · exact Bd.nil
theorem pf_bd (A B T : ByteArray) (L : List ByteArray) (N : Int) (F : Nat) : ∀ k, Bd (pf A B T L N F k)
  | 0 => tform_bd A
  | 1 => tform_bd B
  | 2 => tform_bd T
  | 3 => lform_bd L
  | 4 => form_bd _
  | _ + 5 => fbl_bd _ _
theorem wform_bd (K : Int) (I : Nat) (A B T : ByteArray) (L : List ByteArray) (N : Int) (F : Nat) : Bd (wform K I A B T L N F) := by
  unfold wform
  refine ((((form_bd _).append (form_bd _)).append ?_).append (wpt_bd (pf_bd A B T L N F) 6))
  intro x hx
  have := thr_lt A B T L.length N F
  simp at hx
  omega

/-- Write, either way. -/
theorem write_any (K : Int) (I : Nat) (A B T : ByteArray) (la : Option Addr) (ln lc : Nat) (N : Int) (F : Nat) (L : List ByteArray) (w : World) (hL : Lays w) (hR : SRd w la ln lc L) (hA : A.size ≤ 1100) (hB : B.size ≤ 1100) (hT : T.size ≤ 1100) (hI : I < 18446744073709551616) (hN0 : -9223372036854775808 ≤ N) (hN1 : N ≤ 9223372036854775807) (hF : F < 18446744073709551616) :
    Calls Tryd.prog 9 #[.agg #[.int .i64 K, .int .u64 I, .string A, .string B, .string T, .slice la ln lc, .int .i64 N, .float .f64 F]] w fun e w' => ∃ a n c, e = .returned (.tuple #[.slice a n c, .int .i64 ((chk K A B T L N F : Nat) : Int)]) ∧ (chk K A B T L N F ≠ 0 → n = 0) ∧ (chk K A B T L N F = 0 → Rd w' a n c (wform K I A B T L N F)) ∧ Below w.heap.size w w' := by
  by_cases hc : chk K A B T L N F = 0
  · rw [hc]
    refine (write_ok K I A B T la ln lc N F L w hL hR hI hN0 hN1 hF hc).mono ?_
    rintro e w' ⟨v, rfl, ho, hb⟩
    obtain ⟨a, c, rfl, hr⟩ := Rd.ofOwn ho (wform_bd K I A B T L N F)
    exact ⟨a, _, c, rfl, fun h => absurd rfl h, fun _ => hr, hb⟩
  · refine (write_bad K I A B T la ln lc N F L w hL hR (by omega) (by omega) (by omega) hc).mono ?_
    rintro e w' ⟨rfl, hb⟩
    exact ⟨none, 0, 0, rfl, fun _ => rfl, fun h => absurd h hc, hb⟩

end Go.Proofs.YtomkcmkbehcjnaaDoor

namespace Go.Proofs.YtomkcmkbehcjnaaDoor.stanzaWrite
open Go.RowKit
open Go.Proofs.YtomkcmkbehcjnaaDoor

set_option maxHeartbeats 3200000 in
set_option maxRecDepth 100000 in
theorem walkN (K : Int) (I : Nat) (A B T : ByteArray) (la : Option Addr) (ln lc : Nat) (N : Int) (F : Nat) (L : List ByteArray) (w : World) (hR : SRd w la ln lc L) (hL : Lays w) (hA : A.size ≤ 9223372036854775807) (hB : B.size ≤ 9223372036854775807) (hT : T.size ≤ 9223372036854775807) (hI : I < 18446744073709551616) (hN0 : -9223372036854775808 ≤ N) (hN1 : N ≤ 9223372036854775807) (hF : F < 18446744073709551616) :
    Calls Tryd.prog 3 #[.agg #[.int .i64 K, .int .u64 I, .string A, .string B, .string T, .slice la ln lc, .int .i64 N, .float .f64 F]] w fun e w' => e = .returned (.bool true) ∧ Below w.heap.size w w' := by
  have hsf := run_store_float
  have hb1 : Below w.heap.size w (w.alloc (.cells #[.int .i64 K, .int .u64 I, .string A, .string B, .string T, .slice la ln lc, .int .i64 N, .float .f64 F] 26)) := (Below.refl _ _).alloc (Nat.le_refl _) _
  have cT := stwin_any K I A B T la ln lc N F L _ (hR.carry hb1) hA hB hT
  have hA' := cutS_size A 1100
  have hB' := cutS_size B 1100
  have hT' := cutS_size T 1100
  have hl' := cutL_len L 70 1100
  have hs' := cutL_size L 70 1100
  have hL1 := hL.carry hb1
  go_enter Tryd.func3, Tryd.ntmps3
  generalize cutS A 1100 = A2 at cT hA'
  generalize cutS B 1100 = B2 at cT hB'
  generalize cutS T 1100 = T2 at cT hT'
  generalize cutL L 70 1100 = L2 at cT hl' hs'
  clear hA hB hT hR hL
  have HTW : Hid (∀ (a : Option Addr) (n c : Nat) (w : World), SRd w a n c L2 → Calls Tryd.prog 8 #[.agg #[.int .i64 K, .int .u64 I, .string A2, .string B2, .string T2, .slice a n c, .int .i64 N, .float .f64 F]] w fun e w' => ∃ la' ln' lc', e = .returned (.agg #[.int .i64 K, .int .u64 I, .string A2, .string B2, .string T2, .slice la' ln' lc', .int .i64 N, .float .f64 F]) ∧ SRd w' la' ln' lc' L2 ∧ Below w.heap.size w w') := fun a n c w h => stwin_id K I A2 B2 T2 a n c N F L2 w h hA' hB' hT' hl' hs'
  have HWR : Hid (∀ (a : Option Addr) (n c : Nat) (w : World), SRd w a n c L2 → Lays w → Calls Tryd.prog 9 #[.agg #[.int .i64 K, .int .u64 I, .string A2, .string B2, .string T2, .slice a n c, .int .i64 N, .float .f64 F]] w fun e w' => ∃ a n c, e = .returned (.tuple #[.slice a n c, .int .i64 ((chk K A2 B2 T2 L2 N F : Nat) : Int)]) ∧ (chk K A2 B2 T2 L2 N F ≠ 0 → n = 0) ∧ (chk K A2 B2 T2 L2 N F = 0 → Rd w' a n c (wform K I A2 B2 T2 L2 N F)) ∧ Below w.heap.size w w') := fun a n c w h hL => write_any K I A2 B2 T2 a n c N F L2 w hL h hA' hB' hT' hI hN0 hN1 hF
  have HRC : Hid (∀ (a : Option Addr) (n c : Nat) (w : World), SRd w a n c L2 → Calls Tryd.prog 10 #[.agg #[.int .i64 K, .int .u64 I, .string A2, .string B2, .string T2, .slice a n c, .int .i64 N, .float .f64 F]] w fun e w' => e = .returned (.int .i64 ((chk K A2 B2 T2 L2 N F : Nat) : Int)) ∧ Below w.heap.size w w') := fun a n c w h => refCheck_any K I A2 B2 T2 a n c N F L2 w h (by omega) (by omega) (by omega) (fun s hs => Nat.le_trans (hs' s hs) (by omega))
  have HCK : Hid (∀ (a : Option Addr) (n c : Nat) (w : World), SRd w a n c L2 → Lays w → Calls Tryd.prog 11 #[.agg #[.int .i64 K, .int .u64 I, .string A2, .string B2, .string T2, .slice a n c, .int .i64 N, .float .f64 F]] w fun e w' => e = .returned (.int .i64 ((chk K A2 B2 T2 L2 N F : Nat) : Int)) ∧ Below w.heap.size w w') := fun a n c w h hL => check_any K I A2 B2 T2 a n c N F L2 w hL h (by omega) (by omega) (by omega)
  have HRW : Hid (chk K A2 B2 T2 L2 N F = 0 → ∀ (a : Option Addr) (n c : Nat) (w : World), SRd w a n c L2 → Calls Tryd.prog 13 #[.agg #[.int .i64 K, .int .u64 I, .string A2, .string B2, .string T2, .slice a n c, .int .i64 N, .float .f64 F]] w fun e w' => ∃ v, e = .returned v ∧ Owr w w' (wform K I A2 B2 T2 L2 N F) v) := fun hc a n c w h => refWrite_any K I A2 B2 T2 a n c N F L2 w h hI hN0 hN1 hF hc
  generalize chk K A2 B2 T2 L2 N F = E at HWR HRC HCK HRW
  generalize wform K I A2 B2 T2 L2 N F = X at HWR HRW
  clear hA' hB' hT' hl' hs'
  have tok : True := trivial
  go_upto_region 2 with (go_at_call 8; refine cT.mono ?_; rintro e w1 ⟨la1, ln1, lc1, rfl, _, hs1, hbT⟩)
  have hb2 := hb1.trans (hbT.mono hb1.size)
  have hL2 := hL1.carry hbT
  have hb3 : Below w1.heap.size w1 (w1.alloc (.cells #[.int .i64 K, .int .u64 I, .string A2, .string B2, .string T2, .slice la1 ln1 lc1, .int .i64 N, .float .f64 F] 26)) := (Below.refl _ _).alloc (Nat.le_refl _) _
  have hz3 := SzAt.new (K := K) (I := I) (A := A2) (B := B2) (T := T2) (la := la1) (ln := ln1) (lc := lc1) (N := N) (F := F) w1
  have hs3 := hs1.carry hb3
  have hL3 := hL2.carry hb3
  have hbw := hb2.trans (hb3.mono hb2.size)
  clear hb1 hb2 hb3 hbT hs1 hL1 hL2 cT
  generalize w1.heap.size = b at hz3 ⊢
  generalize w1.alloc _ = W at hz3 hs3 hL3 hbw ⊢
  obtain ⟨q0, q1, q2, q3, q4, q5, q6, q7⟩ := id hz3
  go_upto_region 4 with (first
    | (go_at_call 8; refine (HTW.out _ _ _ _ hs3).mono ?_; rintro e w4 ⟨la4, ln4, lc4, rfl, hs4, hb4⟩; have hL4 := hL3.carry hb4)
    | (go_at_call 9; refine (HWR.out _ _ _ _ hs4 hL4).mono ?_; rintro e w5 ⟨a5, n5, c5, rfl, H5, H6, hb5⟩; have hb45 := hb4.trans (hb5.mono hb4.size); have hs5 := hs3.carry hb45; have hL5 := hL3.carry hb45; obtain ⟨r0, r1, r2, r3, r4, r5, r6, r7⟩ := hz3.carry hb45)
    | (go_at_call 10; refine (HRC.out _ _ _ _ hs5).mono ?_; rintro e w6 ⟨rfl, hb6⟩))
  have hb46 := hb45.trans (hb6.mono hb45.size)
  have hz6 := hz3.carry hb46
  have hs6 := hs3.carry hb46
  have hL6 := hL3.carry hb46
  have hbw6 := hbw.trans (hb46.mono hbw.size)
  have H7 : Hid (E = 0 → Rd w6 a5 n5 c5 X) := fun h => (H6 h).carry (Nat.le_refl _) hb6
  have H8 : Hid (E ≠ 0 → n5 = 0) := H5
  clear H5 H6 r0 r1 r2 r3 r4 r5 r6 r7 q0 q1 q2 q3 q4 q5 q6 q7 hs3 hs4 hs5 hL3 hL4 hL5 hz3 hb4 hb5 hb6 hb45 hb46 hbw HWR HRC tok
  go_cut [40] from 17 to 40 (fun v wx => v = .bool false ∧ Below w6.heap.size w6 wx)
  case first =>
    by_cases h1 : (1 : Int) ≤ K
    · refine wp_region_lx (fun w' => SzAt w' b K I A2 B2 T2 la1 ln1 lc1 N F) [] 24 (by kernel_rfl) (by kernel_rfl) ?_
      have hb7 : Below w6.heap.size w6 w6.drew := (Below.refl _ _).drew
      generalize World.drew w6 = W0 at hb7 ⊢
      have HS := hz6.carry hb7
      refine lx_rd 0 ?vAR0 (by kernel_rfl) (fun _ _ d _ _ h => by cases d <;> exact h) (by kernel_rfl) HS rfl rfl rfl (fun w' hS => ?hAR0) ?_
      case hAR0 => first | (go_simp; rfl) | go_simp
      simp only [List.setIfInBounds_toArray, List.set_cons_zero, List.set_cons_succ]
      refine lx_rd 1 ?vAR1 (by kernel_rfl) (fun _ _ d _ _ h => by cases d <;> exact h) (by kernel_rfl) HS rfl rfl rfl (fun w' hS => ?hAR1) ?_
      case hAR1 => first | (go_simp; rfl) | go_simp
      simp only [List.setIfInBounds_toArray, List.set_cons_zero, List.set_cons_succ]
      refine lx_rd 2 (.bool false) (by kernel_rfl) (fun _ _ d _ _ h => by cases d <;> exact h) (by kernel_rfl) HS rfl rfl rfl (fun w' hS => ?hAR2) ?_
      case hAR2 => first | (go_simp; rfl) | go_simp
      simp only [List.setIfInBounds_toArray, List.set_cons_zero, List.set_cons_succ]
      refine lx_rd 3 ?vAR3 (by kernel_rfl) (fun _ _ d _ _ h => by cases d <;> exact h) (by kernel_rfl) HS rfl rfl rfl (fun w' hS => ?hAR3) ?_
      case hAR3 => first | (go_simp; rfl) | go_simp
      simp only [List.setIfInBounds_toArray, List.set_cons_zero, List.set_cons_succ]
      refine lx_rd 4 (.agg #[.int .i64 K, .int .u64 I, .string A2, .string B2, .string T2, .slice la1 ln1 lc1, .int .i64 N, .float .f64 F]) (by kernel_rfl) (fun _ _ d _ _ h => by cases d <;> exact h) (by kernel_rfl) HS rfl rfl rfl (fun w' hS => ?hAR4) ?_
      case hAR4 => obtain ⟨q0, q1, q2, q3, q4, q5, q6, q7⟩ := hS; first | (go_simp; rfl) | go_simp
      simp only [List.setIfInBounds_toArray, List.set_cons_zero, List.set_cons_succ]
      refine lx_rd 7 ?vAR7 (by kernel_rfl) (fun _ _ d _ _ h => by cases d <;> exact h) (by kernel_rfl) HS rfl rfl rfl (fun w' hS => ?hAR7) ?_
      case hAR7 => first | (go_simp; rfl) | go_simp
      simp only [List.setIfInBounds_toArray, List.set_cons_zero, List.set_cons_succ]
      refine lx_one 5 (by kernel_rfl) (stepT_call 8 ?a5R rfl rfl rfl ?r5R ?_)
      case r5R => first | (go_simp; rfl) | go_simp
      refine (HTW.out _ _ _ _ (hs6.carry hb7)).mono ?_
      rintro e w8 ⟨la8, ln8, lc8, rfl, hs8, hb8⟩
      have hb78 := hb7.trans (hb8.mono hb7.size)
      refine ⟨_, rfl, fun _ => hz6.carry hb78, ?_⟩
      simp only [List.setIfInBounds_toArray, List.set_cons_zero, List.set_cons_succ]
      refine lx_one 6 (by kernel_rfl) (stepT_call 11 ?a6R rfl rfl rfl ?r6R ?_)
      case r6R => first | (go_simp; rfl) | go_simp
      refine (HCK.out _ _ _ _ hs8 (hL6.carry hb78)).mono ?_
      rintro e w9 ⟨rfl, hb9⟩
      have hb79 := hb78.trans (hb9.mono hb78.size)
      have HS9 := hz6.carry hb79
      refine ⟨_, rfl, fun _ => HS9, ?_⟩
      simp only [List.setIfInBounds_toArray, List.set_cons_zero, List.set_cons_succ]
      refine lx_rd 8 (.bool false) (by kernel_rfl) (fun _ _ d _ _ h => by cases d <;> exact h) (by kernel_rfl) HS9 rfl rfl rfl (fun w' hS => ?hBR8) ?_
      case hBR8 => first | (go_simp; rfl) | go_simp
      simp only [List.setIfInBounds_toArray, List.set_cons_zero, List.set_cons_succ]
      refine lx_rd 9 ?vBR9 (by kernel_rfl) (fun _ _ d _ _ h => by cases d <;> exact h) (by kernel_rfl) HS9 rfl rfl rfl (fun w' hS => ?hBR9) ?_
      case hBR9 => first | (go_simp; rfl) | go_simp
      simp only [List.setIfInBounds_toArray, List.set_cons_zero, List.set_cons_succ]
      refine lx_rd 10 ?vBR10 (by kernel_rfl) (fun _ _ d _ _ h => by cases d <;> exact h) (by kernel_rfl) HS9 rfl rfl rfl (fun w' hS => ?hBR10) ?_
      case hBR10 => first | (go_simp; rfl) | go_simp
      simp only [List.setIfInBounds_toArray, List.set_cons_zero, List.set_cons_succ]
      refine lx_rd 11 ?vBR11 (by kernel_rfl) (fun _ _ d _ _ h => by cases d <;> exact h) (by kernel_rfl) HS9 rfl rfl rfl (fun w' hS => ?hBR11) ?_
      case hBR11 => first | (go_simp; rfl) | go_simp
      simp only [List.setIfInBounds_toArray, List.set_cons_zero, List.set_cons_succ]
      refine lx_rd 12 (.int .i64 K) (by kernel_rfl) (fun _ _ d _ _ h => by cases d <;> exact h) (by kernel_rfl) HS9 rfl rfl rfl (fun w' hS => ?hBR12) ?_
      case hBR12 => have hq := hS.c0; first | (go_simp; rfl) | go_simp
      simp only [List.setIfInBounds_toArray, List.set_cons_zero, List.set_cons_succ]
      refine lx_rd 14 ?vBR14 (by kernel_rfl) (fun _ _ d _ _ h => by cases d <;> exact h) (by kernel_rfl) HS9 rfl rfl rfl (fun w' hS => ?hBR14) ?_
      case hBR14 => first | (go_simp; rfl) | go_simp
      simp only [List.setIfInBounds_toArray, List.set_cons_zero, List.set_cons_succ]
      refine lx_rd 15 (.int .i64 K) (by kernel_rfl) (fun _ _ d _ _ h => by cases d <;> exact h) (by kernel_rfl) HS9 rfl rfl rfl (fun w' hS => ?hBR15) ?_
      case hBR15 => have hq := hS.c0; first | (go_simp; rfl) | go_simp
      simp only [List.setIfInBounds_toArray, List.set_cons_zero, List.set_cons_succ]
      refine lx_rd 16 (.bool true) (by kernel_rfl) (fun _ _ d _ _ h => by cases d <;> exact h) (by kernel_rfl) HS9 rfl rfl rfl (fun w' hS => ?hBR16) ?_
      case hBR16 => first | (go_simp; rfl) | go_simp
      simp only [List.setIfInBounds_toArray, List.set_cons_zero, List.set_cons_succ]
      refine lx_one 13 (by kernel_rfl) (stepT_call 12 ?a13R rfl rfl rfl ?r13R ?_)
      case r13R => first | (go_simp; rfl) | go_simp
      refine (client_any K _).mono ?_
      rintro e w10 ⟨rfl, hw10⟩
      replace hw10 := hw10.symm
      subst hw10
      refine ⟨_, rfl, fun _ => HS9, ?_⟩
      simp only [List.setIfInBounds_toArray, List.set_cons_zero, List.set_cons_succ]
      refine lx_rd 17 ?vXR17 (by kernel_rfl) (fun _ _ d _ _ h => by cases d <;> exact h) (by kernel_rfl) HS9 rfl rfl rfl (fun w' hS => ?hXR17) ?_
      case hXR17 => first | (go_simp; rfl) | go_simp
      simp only [List.setIfInBounds_toArray, List.set_cons_zero, List.set_cons_succ]
      refine lx_rd 18 ?vCR18 (by kernel_rfl) (fun _ _ d _ _ h => by cases d <;> exact h) (by kernel_rfl) HS9 rfl rfl rfl (fun w' hS => ?hCR18) ?_
      case hCR18 => first | (go_simp; rfl) | go_simp
      simp only [List.setIfInBounds_toArray, List.set_cons_zero, List.set_cons_succ]
      refine lx_rd 19 (.int .i64 K) (by kernel_rfl) (fun _ _ d _ _ h => by cases d <;> exact h) (by kernel_rfl) HS9 rfl rfl rfl (fun w' hS => ?hCR19) ?_
      case hCR19 => have hq := hS.c0; first | (go_simp; rfl) | go_simp
      simp only [List.setIfInBounds_toArray, List.set_cons_zero, List.set_cons_succ]
      refine lx_rd 20 (.bool (decide (K ≤ 19))) (by kernel_rfl) (fun _ _ d _ _ h => by cases d <;> exact h) (by kernel_rfl) HS9 rfl rfl rfl (fun w' hS => ?hCR20) ?_
      case hCR20 => first | (go_simp; rfl) | go_simp
      simp only [List.setIfInBounds_toArray, List.set_cons_zero, List.set_cons_succ]
      refine lx_rd 21 ?vDR21 (by kernel_rfl) (fun _ _ d _ _ h => by cases d <;> exact h) (by kernel_rfl) HS9 rfl rfl rfl (fun w' hS => ?hDR21) ?_
      case hDR21 => first | (go_simp; rfl) | go_simp
      simp only [List.setIfInBounds_toArray, List.set_cons_zero, List.set_cons_succ]
      refine lx_rd 22 (.bool false) (by kernel_rfl) (fun _ _ d _ _ h => by cases d <;> exact h) (by kernel_rfl) HS9 rfl rfl rfl (fun w' hS => ?hER22) ?_
      case hER22 => first | (go_simp; rfl) | go_simp
      simp only [List.setIfInBounds_toArray, List.set_cons_zero, List.set_cons_succ]
      refine lx_rd 23 ?vER23 (by kernel_rfl) (fun _ _ d _ _ h => by cases d <;> exact h) (by kernel_rfl) HS9 rfl rfl rfl (fun w' hS => ?hER23) ?_
      case hER23 => first | (go_simp; rfl) | go_simp
      simp only [List.setIfInBounds_toArray, List.set_cons_zero, List.set_cons_succ]
      refine lx_nil (by kernel_rfl) ?_
      go_wp2
      go_meet
      case rel => exact ⟨rfl, hb79⟩
    · refine wp_region_lx (fun w' => SzAt w' b K I A2 B2 T2 la1 ln1 lc1 N F) [] 24 (by kernel_rfl) (by kernel_rfl) ?_
      have hb7 : Below w6.heap.size w6 w6.drew := (Below.refl _ _).drew
      generalize World.drew w6 = W0 at hb7 ⊢
      have HS := hz6.carry hb7
      refine lx_rd 0 ?vAN0 (by kernel_rfl) (fun _ _ d _ _ h => by cases d <;> exact h) (by kernel_rfl) HS rfl rfl rfl (fun w' hS => ?hAN0) ?_
      case hAN0 => first | (go_simp; rfl) | go_simp
      simp only [List.setIfInBounds_toArray, List.set_cons_zero, List.set_cons_succ]
      refine lx_rd 1 ?vAN1 (by kernel_rfl) (fun _ _ d _ _ h => by cases d <;> exact h) (by kernel_rfl) HS rfl rfl rfl (fun w' hS => ?hAN1) ?_
      case hAN1 => first | (go_simp; rfl) | go_simp
      simp only [List.setIfInBounds_toArray, List.set_cons_zero, List.set_cons_succ]
      refine lx_rd 2 (.bool false) (by kernel_rfl) (fun _ _ d _ _ h => by cases d <;> exact h) (by kernel_rfl) HS rfl rfl rfl (fun w' hS => ?hAN2) ?_
      case hAN2 => first | (go_simp; rfl) | go_simp
      simp only [List.setIfInBounds_toArray, List.set_cons_zero, List.set_cons_succ]
      refine lx_rd 3 ?vAN3 (by kernel_rfl) (fun _ _ d _ _ h => by cases d <;> exact h) (by kernel_rfl) HS rfl rfl rfl (fun w' hS => ?hAN3) ?_
      case hAN3 => first | (go_simp; rfl) | go_simp
      simp only [List.setIfInBounds_toArray, List.set_cons_zero, List.set_cons_succ]
      refine lx_rd 4 (.agg #[.int .i64 K, .int .u64 I, .string A2, .string B2, .string T2, .slice la1 ln1 lc1, .int .i64 N, .float .f64 F]) (by kernel_rfl) (fun _ _ d _ _ h => by cases d <;> exact h) (by kernel_rfl) HS rfl rfl rfl (fun w' hS => ?hAN4) ?_
      case hAN4 => obtain ⟨q0, q1, q2, q3, q4, q5, q6, q7⟩ := hS; first | (go_simp; rfl) | go_simp
      simp only [List.setIfInBounds_toArray, List.set_cons_zero, List.set_cons_succ]
      refine lx_rd 7 ?vAN7 (by kernel_rfl) (fun _ _ d _ _ h => by cases d <;> exact h) (by kernel_rfl) HS rfl rfl rfl (fun w' hS => ?hAN7) ?_
      case hAN7 => first | (go_simp; rfl) | go_simp
      simp only [List.setIfInBounds_toArray, List.set_cons_zero, List.set_cons_succ]
      refine lx_one 5 (by kernel_rfl) (stepT_call 8 ?a5N rfl rfl rfl ?r5N ?_)
      case r5N => first | (go_simp; rfl) | go_simp
      refine (HTW.out _ _ _ _ (hs6.carry hb7)).mono ?_
      rintro e w8 ⟨la8, ln8, lc8, rfl, hs8, hb8⟩
      have hb78 := hb7.trans (hb8.mono hb7.size)
      refine ⟨_, rfl, fun _ => hz6.carry hb78, ?_⟩
      simp only [List.setIfInBounds_toArray, List.set_cons_zero, List.set_cons_succ]
      refine lx_one 6 (by kernel_rfl) (stepT_call 11 ?a6N rfl rfl rfl ?r6N ?_)
      case r6N => first | (go_simp; rfl) | go_simp
      refine (HCK.out _ _ _ _ hs8 (hL6.carry hb78)).mono ?_
      rintro e w9 ⟨rfl, hb9⟩
      have hb79 := hb78.trans (hb9.mono hb78.size)
      have HS9 := hz6.carry hb79
      refine ⟨_, rfl, fun _ => HS9, ?_⟩
      simp only [List.setIfInBounds_toArray, List.set_cons_zero, List.set_cons_succ]
      refine lx_rd 8 (.bool false) (by kernel_rfl) (fun _ _ d _ _ h => by cases d <;> exact h) (by kernel_rfl) HS9 rfl rfl rfl (fun w' hS => ?hBN8) ?_
      case hBN8 => first | (go_simp; rfl) | go_simp
      simp only [List.setIfInBounds_toArray, List.set_cons_zero, List.set_cons_succ]
      refine lx_rd 9 ?vBN9 (by kernel_rfl) (fun _ _ d _ _ h => by cases d <;> exact h) (by kernel_rfl) HS9 rfl rfl rfl (fun w' hS => ?hBN9) ?_
      case hBN9 => first | (go_simp; rfl) | go_simp
      simp only [List.setIfInBounds_toArray, List.set_cons_zero, List.set_cons_succ]
      refine lx_rd 10 ?vBN10 (by kernel_rfl) (fun _ _ d _ _ h => by cases d <;> exact h) (by kernel_rfl) HS9 rfl rfl rfl (fun w' hS => ?hBN10) ?_
      case hBN10 => first | (go_simp; rfl) | go_simp
      simp only [List.setIfInBounds_toArray, List.set_cons_zero, List.set_cons_succ]
      refine lx_rd 11 ?vBN11 (by kernel_rfl) (fun _ _ d _ _ h => by cases d <;> exact h) (by kernel_rfl) HS9 rfl rfl rfl (fun w' hS => ?hBN11) ?_
      case hBN11 => first | (go_simp; rfl) | go_simp
      simp only [List.setIfInBounds_toArray, List.set_cons_zero, List.set_cons_succ]
      refine lx_rd 12 (.int .i64 K) (by kernel_rfl) (fun _ _ d _ _ h => by cases d <;> exact h) (by kernel_rfl) HS9 rfl rfl rfl (fun w' hS => ?hBN12) ?_
      case hBN12 => have hq := hS.c0; first | (go_simp; rfl) | go_simp
      simp only [List.setIfInBounds_toArray, List.set_cons_zero, List.set_cons_succ]
      refine lx_rd 14 ?vBN14 (by kernel_rfl) (fun _ _ d _ _ h => by cases d <;> exact h) (by kernel_rfl) HS9 rfl rfl rfl (fun w' hS => ?hBN14) ?_
      case hBN14 => first | (go_simp; rfl) | go_simp
      simp only [List.setIfInBounds_toArray, List.set_cons_zero, List.set_cons_succ]
      refine lx_rd 15 (.int .i64 K) (by kernel_rfl) (fun _ _ d _ _ h => by cases d <;> exact h) (by kernel_rfl) HS9 rfl rfl rfl (fun w' hS => ?hBN15) ?_
      case hBN15 => have hq := hS.c0; first | (go_simp; rfl) | go_simp
      simp only [List.setIfInBounds_toArray, List.set_cons_zero, List.set_cons_succ]
      refine lx_rd 16 (.bool false) (by kernel_rfl) (fun _ _ d _ _ h => by cases d <;> exact h) (by kernel_rfl) HS9 rfl rfl rfl (fun w' hS => ?hBN16) ?_
      case hBN16 => first | (go_simp; rfl) | go_simp
      simp only [List.setIfInBounds_toArray, List.set_cons_zero, List.set_cons_succ]
      refine lx_one 13 (by kernel_rfl) (stepT_call 12 ?a13N rfl rfl rfl ?r13N ?_)
      case r13N => first | (go_simp; rfl) | go_simp
      refine (client_any K _).mono ?_
      rintro e w10 ⟨rfl, hw10⟩
      replace hw10 := hw10.symm
      subst hw10
      refine ⟨_, rfl, fun _ => HS9, ?_⟩
      simp only [List.setIfInBounds_toArray, List.set_cons_zero, List.set_cons_succ]
      refine lx_rd 17 ?vXN17 (by kernel_rfl) (fun _ _ d _ _ h => by cases d <;> exact h) (by kernel_rfl) HS9 rfl rfl rfl (fun w' hS => ?hXN17) ?_
      case hXN17 => first | (go_simp; rfl) | go_simp
      simp only [List.setIfInBounds_toArray, List.set_cons_zero, List.set_cons_succ]
      refine lx_skip 18 (by kernel_rfl) (fun _ _ d _ _ h => by cases d <;> exact h) (by kernel_rfl) HS9 rfl rfl rfl ?_
      simp only [List.setIfInBounds_toArray, List.set_cons_zero, List.set_cons_succ]
      refine lx_skip 19 (by kernel_rfl) (fun _ _ d _ _ h => by cases d <;> exact h) (by kernel_rfl) HS9 rfl rfl rfl ?_
      simp only [List.setIfInBounds_toArray, List.set_cons_zero, List.set_cons_succ]
      refine lx_skip 20 (by kernel_rfl) (fun _ _ d _ _ h => by cases d <;> exact h) (by kernel_rfl) HS9 rfl rfl rfl ?_
      simp only [List.setIfInBounds_toArray, List.set_cons_zero, List.set_cons_succ]
      refine lx_rd 21 ?vDN21 (by kernel_rfl) (fun _ _ d _ _ h => by cases d <;> exact h) (by kernel_rfl) HS9 rfl rfl rfl (fun w' hS => ?hDN21) ?_
      case hDN21 => first | (go_simp; rfl) | go_simp
      simp only [List.setIfInBounds_toArray, List.set_cons_zero, List.set_cons_succ]
      refine lx_rd 22 (.bool false) (by kernel_rfl) (fun _ _ d _ _ h => by cases d <;> exact h) (by kernel_rfl) HS9 rfl rfl rfl (fun w' hS => ?hEN22) ?_
      case hEN22 => first | (go_simp; rfl) | go_simp
      simp only [List.setIfInBounds_toArray, List.set_cons_zero, List.set_cons_succ]
      refine lx_rd 23 ?vEN23 (by kernel_rfl) (fun _ _ d _ _ h => by cases d <;> exact h) (by kernel_rfl) HS9 rfl rfl rfl (fun w' hS => ?hEN23) ?_
      case hEN23 => first | (go_simp; rfl) | go_simp
      simp only [List.setIfInBounds_toArray, List.set_cons_zero, List.set_cons_succ]
      refine lx_nil (by kernel_rfl) ?_
      go_wp2
      go_meet
      case rel => exact ⟨rfl, hb79⟩
  obtain ⟨rfl, hb10⟩ := hcut
  have hz10 := hz6.carry hb10
  have hs10 := hs6.carry hb10
  have hL10 := hL6.carry hb10
  have hbw10 := hbw6.trans (hb10.mono hbw6.size)
  have H9 : Hid (E = 0 → Rd wc a5 n5 c5 X) := fun h => (H7.out h).carry (Nat.le_refl _) hb10
  clear hz6 hs6 hL6 hbw6 hb10 H7 HTW HCK
  go_upto_region 6 with fail
  by_cases hE : E = 0
  · subst hE
    have hr := H9.out rfl
    clear H9
    have HRW2 := HRW.out rfl
    clear HRW
    refine wp_region_lx (fun w' => SzAt w' b K I A2 B2 T2 la1 ln1 lc1 N F ∧ Rd w' a5 n5 c5 X) [] 23 (by kernel_rfl) (by kernel_rfl) ?_
    have hb11 : Below wc.heap.size wc wc.drew := (Below.refl _ _).drew
    generalize World.drew wc = W0 at hb11 ⊢
    have HS := And.intro (hz10.carry hb11) (hr.carry (Nat.le_refl _) hb11)
    refine lx_rd 0 ?vA0 (by kernel_rfl) (fun _ _ d _ _ h => by cases d <;> exact h) (by kernel_rfl) HS rfl rfl rfl (fun w' hS => ?hA0) ?_
    case hA0 => first | (go_simp; rfl) | go_simp
    simp only [List.setIfInBounds_toArray, List.set_cons_zero, List.set_cons_succ]
    refine lx_rd 1 (.bool false) (by kernel_rfl) (fun _ _ d _ _ h => by cases d <;> exact h) (by kernel_rfl) HS rfl rfl rfl (fun w' hS => ?hA1) ?_
    case hA1 => first | (go_simp; rfl) | go_simp
    simp only [List.setIfInBounds_toArray, List.set_cons_zero, List.set_cons_succ]
    refine lx_rd 2 ?vA2 (by kernel_rfl) (fun _ _ d _ _ h => by cases d <;> exact h) (by kernel_rfl) HS rfl rfl rfl (fun w' hS => ?hA2) ?_
    case hA2 => first | (go_simp; rfl) | go_simp
    simp only [List.setIfInBounds_toArray, List.set_cons_zero, List.set_cons_succ]
    refine lx_skip 3 (by kernel_rfl) (fun _ _ d _ _ h => by cases d <;> exact h) (by kernel_rfl) HS rfl rfl rfl ?_
    simp only [List.setIfInBounds_toArray, List.set_cons_zero, List.set_cons_succ]
    refine lx_skip 4 (by kernel_rfl) (fun _ _ d _ _ h => by cases d <;> exact h) (by kernel_rfl) HS rfl rfl rfl ?_
    simp only [List.setIfInBounds_toArray, List.set_cons_zero, List.set_cons_succ]
    refine lx_skip 5 (by kernel_rfl) (fun _ _ d _ _ h => by cases d <;> exact h) (by kernel_rfl) HS rfl rfl rfl ?_
    simp only [List.setIfInBounds_toArray, List.set_cons_zero, List.set_cons_succ]
    refine lx_rd 6 (.bool false) (by kernel_rfl) (fun _ _ d _ _ h => by cases d <;> exact h) (by kernel_rfl) HS rfl rfl rfl (fun w' hS => ?hC6) ?_
    case hC6 => first | (go_simp; rfl) | go_simp
    simp only [List.setIfInBounds_toArray, List.set_cons_zero, List.set_cons_succ]
    refine lx_rd 7 ?vC7 (by kernel_rfl) (fun _ _ d _ _ h => by cases d <;> exact h) (by kernel_rfl) HS rfl rfl rfl (fun w' hS => ?hC7) ?_
    case hC7 => first | (go_simp; rfl) | go_simp
    simp only [List.setIfInBounds_toArray, List.set_cons_zero, List.set_cons_succ]
    refine lx_rd 8 ?vC8 (by kernel_rfl) (fun _ _ d _ _ h => by cases d <;> exact h) (by kernel_rfl) HS rfl rfl rfl (fun w' hS => ?hC8) ?_
    case hC8 => first | (go_simp; rfl) | go_simp
    simp only [List.setIfInBounds_toArray, List.set_cons_zero, List.set_cons_succ]
    refine lx_rd 9 (.bool true) (by kernel_rfl) (fun _ _ d _ _ h => by cases d <;> exact h) (by kernel_rfl) HS rfl rfl rfl (fun w' hS => ?hC9) ?_
    case hC9 => first | (go_simp; rfl) | go_simp
    simp only [List.setIfInBounds_toArray, List.set_cons_zero, List.set_cons_succ]
    refine lx_rd 10 ?vC10 (by kernel_rfl) (fun _ _ d _ _ h => by cases d <;> exact h) (by kernel_rfl) HS rfl rfl rfl (fun w' hS => ?hC10) ?_
    case hC10 => first | (go_simp; rfl) | go_simp
    simp only [List.setIfInBounds_toArray, List.set_cons_zero, List.set_cons_succ]
    refine lx_rd 11 ?vC11 (by kernel_rfl) (fun _ _ d _ _ h => by cases d <;> exact h) (by kernel_rfl) HS rfl rfl rfl (fun w' hS => ?hC11) ?_
    case hC11 => first | (go_simp; rfl) | go_simp
    simp only [List.setIfInBounds_toArray, List.set_cons_zero, List.set_cons_succ]
    refine lx_rd 12 (.string (strOfNums X)) (by kernel_rfl) (fun _ _ d _ _ h => by cases d <;> exact h) (by kernel_rfl) HS rfl rfl rfl (fun w' hS => ?hC12) ?_
    case hC12 => have hq := hS.2.string; first | (go_simp; rfl) | go_simp
    simp only [List.setIfInBounds_toArray, List.set_cons_zero, List.set_cons_succ]
    refine lx_rd 13 (.agg #[.int .i64 K, .int .u64 I, .string A2, .string B2, .string T2, .slice la1 ln1 lc1, .int .i64 N, .float .f64 F]) (by kernel_rfl) (fun _ _ d _ _ h => by cases d <;> exact h) (by kernel_rfl) HS rfl rfl rfl (fun w' hS => ?hC13) ?_
    case hC13 => obtain ⟨q0, q1, q2, q3, q4, q5, q6, q7⟩ := hS.1; first | (go_simp; rfl) | go_simp
    simp only [List.setIfInBounds_toArray, List.set_cons_zero, List.set_cons_succ]
    refine lx_one 14 (by kernel_rfl) (stepT_call 13 ?a14 rfl rfl rfl ?r14 ?_)
    case r14 => first | (go_simp; rfl) | go_simp
    refine (HRW2 _ _ _ _ (hs10.carry hb11)).mono ?_
    rintro e w12 ⟨v12, rfl, a12, n12, c12, rfl, hr12, _, hb12⟩
    have hb13 := hb11.trans (hb12.mono hb11.size)
    have HS12 := And.intro (hz10.carry hb13) (hr.carry (Nat.le_refl _) hb13)
    refine ⟨_, rfl, fun _ => HS12, ?_⟩
    simp only [List.setIfInBounds_toArray, List.set_cons_zero, List.set_cons_succ]
    have hq12 := hr12.string
    refine lx_one 15 (by kernel_rfl) (stepT_val (w' := w12) (.string (strOfNums X)) rfl rfl rfl ?r15 (fun _ => HS12) ?_)
    case r15 => first | (go_simp; rfl) | go_simp
    simp only [List.setIfInBounds_toArray, List.set_cons_zero, List.set_cons_succ]
    refine lx_rd 16 (.bool true) (by kernel_rfl) (fun _ _ d _ _ h => by cases d <;> exact h) (by kernel_rfl) HS12 rfl rfl rfl (fun w' hS => ?hD16) ?_
    case hD16 => first | (go_simp; rfl) | go_simp
    simp only [List.setIfInBounds_toArray, List.set_cons_zero, List.set_cons_succ]
    refine lx_rd 17 ?vD17 (by kernel_rfl) (fun _ _ d _ _ h => by cases d <;> exact h) (by kernel_rfl) HS12 rfl rfl rfl (fun w' hS => ?hD17) ?_
    case hD17 => first | (go_simp; rfl) | go_simp
    simp only [List.setIfInBounds_toArray, List.set_cons_zero, List.set_cons_succ]
    refine lx_rd 18 ?vD18 (by kernel_rfl) (fun _ _ d _ _ h => by cases d <;> exact h) (by kernel_rfl) HS12 rfl rfl rfl (fun w' hS => ?hD18) ?_
    case hD18 => first | (go_simp; rfl) | go_simp
    simp only [List.setIfInBounds_toArray, List.set_cons_zero, List.set_cons_succ]
    refine lx_rd 19 ?vD19 (by kernel_rfl) (fun _ _ d _ _ h => by cases d <;> exact h) (by kernel_rfl) HS12 rfl rfl rfl (fun w' hS => ?hD19) ?_
    case hD19 => first | (go_simp; rfl) | go_simp
    simp only [List.setIfInBounds_toArray, List.set_cons_zero, List.set_cons_succ]
    refine lx_one 20 (by kernel_rfl) (stepT_call 14 ?a20 rfl rfl rfl ?r20 ?_)
    case r20 => first | (go_simp; rfl) | go_simp
    refine (wakes_any _ (hL10.carry hb13)).mono ?_
    rintro e w14 ⟨rfl, hb14⟩
    have hb15 := hb13.trans (hb14.mono hb13.size)
    have HS14 := And.intro (hz10.carry hb15) (hr.carry (Nat.le_refl _) hb15)
    refine ⟨_, rfl, fun _ => HS14, ?_⟩
    simp only [List.setIfInBounds_toArray, List.set_cons_zero, List.set_cons_succ]
    refine lx_rd 21 ?vE21 (by kernel_rfl) (fun _ _ d _ _ h => by cases d <;> exact h) (by kernel_rfl) HS14 rfl rfl rfl (fun w' hS => ?hE21) ?_
    case hE21 => first | (go_simp; rfl) | go_simp
    simp only [List.setIfInBounds_toArray, List.set_cons_zero, List.set_cons_succ]
    refine lx_rd 22 ?vE22 (by kernel_rfl) (fun _ _ d _ _ h => by cases d <;> exact h) (by kernel_rfl) HS14 rfl rfl rfl (fun w' hS => ?hE22) ?_
    case hE22 => first | (go_simp; rfl) | go_simp
    simp only [List.setIfInBounds_toArray, List.set_cons_zero, List.set_cons_succ]
    refine lx_nil (by kernel_rfl) ?_
    go_wp2
    go_ret
    exact ⟨rfl, hbw10.trans (hb15.mono hbw10.size)⟩
  · have hn5 := H8.out hE
    subst hn5
    have hE' : ((E : Int) != 0) = true := by simp; omega
    clear HRW H9
    refine wp_region_lx (fun _ => True) [] 23 (by kernel_rfl) (by kernel_rfl) ?_
    have hb11 : Below wc.heap.size wc wc.drew := (Below.refl _ _).drew
    generalize World.drew wc = W0 at hb11 ⊢
    have HS : True := trivial
    refine lx_rd 0 ?vF0 (by kernel_rfl) (fun _ _ d _ _ h => by cases d <;> exact h) (by kernel_rfl) HS rfl rfl rfl (fun w' hS => ?hF0) ?_
    case hF0 => first | (go_simp; rfl) | go_simp
    simp only [List.setIfInBounds_toArray, List.set_cons_zero, List.set_cons_succ]
    refine lx_rd 1 (.bool true) (by kernel_rfl) (fun _ _ d _ _ h => by cases d <;> exact h) (by kernel_rfl) HS rfl rfl rfl (fun w' hS => ?hF1) ?_
    case hF1 => first | (go_simp; rfl) | go_simp
    simp only [List.setIfInBounds_toArray, List.set_cons_zero, List.set_cons_succ]
    refine lx_rd 2 ?vF2 (by kernel_rfl) (fun _ _ d _ _ h => by cases d <;> exact h) (by kernel_rfl) HS rfl rfl rfl (fun w' hS => ?hF2) ?_
    case hF2 => first | (go_simp; rfl) | go_simp
    simp only [List.setIfInBounds_toArray, List.set_cons_zero, List.set_cons_succ]
    refine lx_rd 3 ?vF3 (by kernel_rfl) (fun _ _ d _ _ h => by cases d <;> exact h) (by kernel_rfl) HS rfl rfl rfl (fun w' hS => ?hF3) ?_
    case hF3 => first | (go_simp; rfl) | go_simp
    simp only [List.setIfInBounds_toArray, List.set_cons_zero, List.set_cons_succ]
    refine lx_rd 4 (.int .i64 0) (by kernel_rfl) (fun _ _ d _ _ h => by cases d <;> exact h) (by kernel_rfl) HS rfl rfl rfl (fun w' hS => ?hF4) ?_
    case hF4 => first | (go_simp; rfl) | go_simp
    simp only [List.setIfInBounds_toArray, List.set_cons_zero, List.set_cons_succ]
    refine lx_rd 5 (.bool true) (by kernel_rfl) (fun _ _ d _ _ h => by cases d <;> exact h) (by kernel_rfl) HS rfl rfl rfl (fun w' hS => ?hF5) ?_
    case hF5 => first | (go_simp; rfl) | go_simp
    simp only [List.setIfInBounds_toArray, List.set_cons_zero, List.set_cons_succ]
    refine lx_rd 6 (.bool true) (by kernel_rfl) (fun _ _ d _ _ h => by cases d <;> exact h) (by kernel_rfl) HS rfl rfl rfl (fun w' hS => ?hF6) ?_
    case hF6 => first | (go_simp; rfl) | go_simp
    simp only [List.setIfInBounds_toArray, List.set_cons_zero, List.set_cons_succ]
    refine lx_rd 7 ?vF7 (by kernel_rfl) (fun _ _ d _ _ h => by cases d <;> exact h) (by kernel_rfl) HS rfl rfl rfl (fun w' hS => ?hF7) ?_
    case hF7 => first | (go_simp; rfl) | go_simp
    simp only [List.setIfInBounds_toArray, List.set_cons_zero, List.set_cons_succ]
    refine lx_skip 8 (by kernel_rfl) (fun _ _ d _ _ h => by cases d <;> exact h) (by kernel_rfl) HS rfl rfl rfl ?_
    simp only [List.setIfInBounds_toArray, List.set_cons_zero, List.set_cons_succ]
    refine lx_skip 9 (by kernel_rfl) (fun _ _ d _ _ h => by cases d <;> exact h) (by kernel_rfl) HS rfl rfl rfl ?_
    simp only [List.setIfInBounds_toArray, List.set_cons_zero, List.set_cons_succ]
    refine lx_skip 10 (by kernel_rfl) (fun _ _ d _ _ h => by cases d <;> exact h) (by kernel_rfl) HS rfl rfl rfl ?_
    simp only [List.setIfInBounds_toArray, List.set_cons_zero, List.set_cons_succ]
    refine lx_skip 11 (by kernel_rfl) (fun _ _ d _ _ h => by cases d <;> exact h) (by kernel_rfl) HS rfl rfl rfl ?_
    simp only [List.setIfInBounds_toArray, List.set_cons_zero, List.set_cons_succ]
    refine lx_skip 12 (by kernel_rfl) (fun _ _ d _ _ h => by cases d <;> exact h) (by kernel_rfl) HS rfl rfl rfl ?_
    simp only [List.setIfInBounds_toArray, List.set_cons_zero, List.set_cons_succ]
    refine lx_skip 13 (by kernel_rfl) (fun _ _ d _ _ h => by cases d <;> exact h) (by kernel_rfl) HS rfl rfl rfl ?_
    simp only [List.setIfInBounds_toArray, List.set_cons_zero, List.set_cons_succ]
    refine lx_skip 14 (by kernel_rfl) (fun _ _ d _ _ h => by cases d <;> exact h) (by kernel_rfl) HS rfl rfl rfl ?_
    simp only [List.setIfInBounds_toArray, List.set_cons_zero, List.set_cons_succ]
    refine lx_skip 15 (by kernel_rfl) (fun _ _ d _ _ h => by cases d <;> exact h) (by kernel_rfl) HS rfl rfl rfl ?_
    simp only [List.setIfInBounds_toArray, List.set_cons_zero, List.set_cons_succ]
    refine lx_skip 16 (by kernel_rfl) (fun _ _ d _ _ h => by cases d <;> exact h) (by kernel_rfl) HS rfl rfl rfl ?_
    simp only [List.setIfInBounds_toArray, List.set_cons_zero, List.set_cons_succ]
    refine lx_skip 17 (by kernel_rfl) (fun _ _ d _ _ h => by cases d <;> exact h) (by kernel_rfl) HS rfl rfl rfl ?_
    simp only [List.setIfInBounds_toArray, List.set_cons_zero, List.set_cons_succ]
    refine lx_rd 18 (.bool true) (by kernel_rfl) (fun _ _ d _ _ h => by cases d <;> exact h) (by kernel_rfl) HS rfl rfl rfl (fun w' hS => ?hH18) ?_
    case hH18 => first | (go_simp; rfl) | go_simp
    simp only [List.setIfInBounds_toArray, List.set_cons_zero, List.set_cons_succ]
    refine lx_rd 19 ?vH19 (by kernel_rfl) (fun _ _ d _ _ h => by cases d <;> exact h) (by kernel_rfl) HS rfl rfl rfl (fun w' hS => ?hH19) ?_
    case hH19 => first | (go_simp; rfl) | go_simp
    simp only [List.setIfInBounds_toArray, List.set_cons_zero, List.set_cons_succ]
    refine lx_one 20 (by kernel_rfl) (stepT_call 14 ?a20b rfl rfl rfl ?r20b ?_)
    case r20b => first | (go_simp; rfl) | go_simp
    refine (wakes_any _ (hL10.carry hb11)).mono ?_
    rintro e w14 ⟨rfl, hb14⟩
    have hb15 := hb11.trans (hb14.mono hb11.size)
    refine ⟨_, rfl, fun _ => trivial, ?_⟩
    simp only [List.setIfInBounds_toArray, List.set_cons_zero, List.set_cons_succ]
    refine lx_rd 21 ?vI21 (by kernel_rfl) (fun _ _ d _ _ h => by cases d <;> exact h) (by kernel_rfl) HS rfl rfl rfl (fun w' hS => ?hI21) ?_
    case hI21 => first | (go_simp; rfl) | go_simp
    simp only [List.setIfInBounds_toArray, List.set_cons_zero, List.set_cons_succ]
    refine lx_rd 22 ?vI22 (by kernel_rfl) (fun _ _ d _ _ h => by cases d <;> exact h) (by kernel_rfl) HS rfl rfl rfl (fun w' hS => ?hI22) ?_
    case hI22 => first | (go_simp; rfl) | go_simp
    simp only [List.setIfInBounds_toArray, List.set_cons_zero, List.set_cons_succ]
    refine lx_nil (by kernel_rfl) ?_
    go_wp2
    go_ret
    exact ⟨rfl, hbw10.trans (hb15.mono hbw10.size)⟩

end Go.Proofs.YtomkcmkbehcjnaaDoor.stanzaWrite
