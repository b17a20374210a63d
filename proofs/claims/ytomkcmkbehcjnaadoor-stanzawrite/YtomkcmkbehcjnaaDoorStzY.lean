/- The document's Write. -/
import Derived.Test.YtomkcmkbehcjnaaDoorStzX
import Derived.Test.YtomkcmkbehcjnaaDoorRefT
namespace Go.Proofs.YtomkcmkbehcjnaaDoor
open Go.RowKit

theorem and_l0 (a b c d e f : Bool) : (bits .and .i64 ((bsum [a, b, c, d, e, f] 1 : Nat) : Int) 1 != 0) = a := by revert a b c d e f; decide +kernel
theorem and_l1 (a b c d e f : Bool) : (bits .and .i64 ((bsum [a, b, c, d, e, f] 1 : Nat) : Int) 2 != 0) = b := by revert a b c d e f; decide +kernel
theorem and_l2 (a b c d e f : Bool) : (bits .and .i64 ((bsum [a, b, c, d, e, f] 1 : Nat) : Int) 4 != 0) = c := by revert a b c d e f; decide +kernel
theorem and_l3 (a b c d e f : Bool) : (bits .and .i64 ((bsum [a, b, c, d, e, f] 1 : Nat) : Int) 8 != 0) = d := by revert a b c d e f; decide +kernel
theorem and_l4 (a b c d e f : Bool) : (bits .and .i64 ((bsum [a, b, c, d, e, f] 1 : Nat) : Int) 16 != 0) = e := by revert a b c d e f; decide +kernel
theorem and_l5 (a b c d e f : Bool) : (bits .and .i64 ((bsum [a, b, c, d, e, f] 1 : Nat) : Int) 32 != 0) = f := by revert a b c d e f; decide +kernel

/-- A row of bytes of one's own, as a slice. -/
abbrev Owr (W w : World) (X : List Int) (v : Value) : Prop := ∃ a n c, v = .slice a n c ∧ Rd w a n c X ∧ w.ownsRow W.heap.size 5 1 v n (bc X) ∧ Below W.heap.size W w
theorem Owr.of {W w w' : World} {X : List Int} {v : Value} {n : Nat} (hX : Bd X) (hb : Below W.heap.size W w) (ho : w'.ownsRow w.heap.size 5 1 v n (bc X)) (hb' : Below w.heap.size w w') : Owr W w' X v := by
  obtain ⟨a, c, rfl, hr⟩ := Rd.ofOwn ho hX
  exact ⟨a, n, c, rfl, hr, own_weaken ho hb.size, hb.trans (hb'.mono hb.size)⟩
theorem refPutUintO {W w : World} {X : List Int} {a : Option Addr} {n c : Nat} (hr : Rd w a n c X) (hb : Below W.heap.size W w) (hX : n ≤ 100000) (k : Nat) (hk : k < 18446744073709551616) : Calls Tryd.prog 33 #[.slice a n c, .int .u64 k] w fun e w' => ∃ v, e = .returned v ∧ Owr W w' (X ++ form k) v ∧ Below w.heap.size w w' :=
  (refPutUint_any a n c X k w hr hX hk).mono fun _ _ ⟨v, he, ho, hb'⟩ => ⟨v, he, Owr.of (hr.bytes.append (form_bd k)) hb ho hb', hb'⟩
theorem refPutTextO {W w : World} {X : List Int} {a : Option Addr} {n c : Nat} (hr : Rd w a n c X) (hb : Below W.heap.size W w) (hX : n ≤ 100000) (s : ByteArray) (hs : s.size ≤ 1024) : Calls Tryd.prog 34 #[.slice a n c, .string s] w fun e w' => ∃ v, e = .returned v ∧ Owr W w' (X ++ tform s) v ∧ Below w.heap.size w w' :=
  (refPutText_any a n c X s w hr hX (by omega)).mono fun _ _ ⟨v, he, ho, hb'⟩ => ⟨v, he, by
    rw [List.append_assoc] at ho
    exact Owr.of (hr.bytes.append (tform_bd s)) hb ho hb', hb'⟩
theorem refPutIntO {W w : World} {X : List Int} {a : Option Addr} {n c : Nat} (hr : Rd w a n c X) (hb : Below W.heap.size W w) (hX : n ≤ 100000) (k : Int) (h0 : -9223372036854775808 ≤ k) (h1 : k ≤ 9223372036854775807) : Calls Tryd.prog 35 #[.slice a n c, .int .i64 k] w fun e w' => ∃ v, e = .returned v ∧ Owr W w' (X ++ form (foldv k)) v ∧ Below w.heap.size w w' :=
  (refPutInt_any a n c X k w hr hX h0 h1).mono fun _ _ ⟨v, he, ho, hb'⟩ => ⟨v, he, Owr.of (hr.bytes.append (form_bd _)) hb ho hb', hb'⟩
theorem refPutFloatO {W w : World} {X : List Int} {a : Option Addr} {n c : Nat} (hr : Rd w a n c X) (hb : Below W.heap.size W w) (hX : n ≤ 100000) (x : Nat) (hx : x < 18446744073709551616) : Calls Tryd.prog 36 #[.slice a n c, .float .f64 x] w fun e w' => ∃ v, e = .returned v ∧ Owr W w' (X ++ fbl (bitsv x) 8) v ∧ Below w.heap.size w w' :=
  (refPutFloat_any a n c X x w hr hX hx).mono fun _ _ ⟨v, he, ho, hb'⟩ => ⟨v, he, Owr.of (hr.bytes.append (fbl_bd _ _)) hb ho hb', hb'⟩

theorem run_app_opS {w w' : World} {o : Oper} {a : Act} {s x : Operand} {v u v' : Value} (ho : o.op = .call { callee := .builtin .append, args := #[s, x], argTypes := #[28, 28] }) (hs : a.eval s = v) (hx : a.eval x = u)
    (hrun : (Builtin.append_ #[28, 28] o.type #[v, u]).run Tryd.prog w = .ok v' w') : (execOp a.eval o).run Tryd.prog w = .ok (.value v') w' := by
  simp only [execOp, ho, resolve, invoke, builtin, Sem.run_bind, Sem.run_pure, Result.andThen_ok, List.map_toArray, List.map_cons, List.map_nil, hs, hx, hrun]
/-- append of one byte. -/
theorem run_one {W w : World} {X : List Int} {v : Value} (ty : TypeId) (h : Owr W w X v) (hX : X.length ≤ 100000) {ad : Addr} {x : Int} (hr : Rd w (some ad) 1 1 [x]) :
    ∃ v' w', (Builtin.append_ #[28, 28] ty #[v, .slice (some ad) 1 1]).run Tryd.prog w = .ok v' w' ∧ Owr W w' (X ++ [x]) v' := by
  obtain ⟨i0, hi, hz0, hz1, hz2⟩ := info_parts Tryd.info5
  obtain ⟨a, n, c, rfl, hr0, ho, hb⟩ := h
  have hn := hr0.len
  obtain ⟨v', w', hrun, h2, h3, _⟩ := run_append_own (P := Tryd.prog) w W.heap.size 28 ty 5 i0 (.int .u8 0) 1 1 Tryd.underlying28 hi hz0 hz1 hz2 rfl (by decide) _ n (bc X) ho ad 1 1 (bc [x]) (by rw [bc_len]; rfl) (hr.news rfl) (bc_one [x]) (by unfold maxLen; omega) (by omega) hb.size
  rw [← bc_append] at h2
  obtain ⟨a', c', rfl, hr'⟩ := Rd.ofOwn h2 (hr0.bytes.append hr.bytes)
  exact ⟨_, w', hrun, a', _, c', rfl, hr', h2, hb.grown h3 hb.size (fun q hq => (ho.lt q hq).1)⟩
theorem rd_one (w : World) (x : Int) (h0 : 0 ≤ x) (h1 : x < 256) : Rd (w.alloc (.cells #[.int .u8 x] 5)) (some ⟨w.heap.size, 0, none⟩) 1 1 [x] := by
  refine ⟨rfl, Nat.le_refl _, by unfold maxLen; omega, (fun h => by cases h), (fun y hy => by simp at hy; subst hy; exact ⟨h0, by omega⟩), fun ad had j hj => ?_⟩
  cases had
  obtain rfl : j = 0 := by omega
  rw [add_flat]
  simp

set_option maxHeartbeats 3200000 in
set_option maxRecDepth 100000 in
theorem refWrite_any (K : Int) (I : Nat) (A B T : ByteArray) (la : Option Addr) (ln lc : Nat) (N : Int) (F : Nat) (L : List ByteArray) (w : World) (hR : SRd w la ln lc L) (hI : I < 18446744073709551616) (hN0 : -9223372036854775808 ≤ N) (hN1 : N ≤ 9223372036854775807) (hF : F < 18446744073709551616) (hc : chk K A B T L N F = 0) :
    Calls Tryd.prog 13 #[.agg #[.int .i64 K, .int .u64 I, .string A, .string B, .string T, .slice la ln lc, .int .i64 N, .float .f64 F]] w fun e w' => ∃ v, e = .returned v ∧ Owr w w' (wform K I A B T L N F) v := by
  obtain ⟨hk, hA, hB, hT, hn, hs⟩ := chk_ok hc
  have hln := hR.len
  obtain ⟨kk, rfl, hkk⟩ : ∃ kk : Nat, K = (kk : Int) ∧ kk < 47 := ⟨K.toNat, by have := kn_bd hk; omega, by have := kn_bd hk; omega⟩
  have hw64 : IntKind.u64.wrap (kk : Int) = (kk : Int) := by rw [IntKind.wrap_u64]; omega
  have hb1 : Below w.heap.size w (w.alloc (.cells #[.int .i64 (kk : Int), .int .u64 I, .string A, .string B, .string T, .slice la ln lc, .int .i64 N, .float .f64 F] 26)) := (Below.refl _ _).alloc (Nat.le_refl _) _
  have hz1 := SzAt.new (K := (kk : Int)) (I := I) (A := A) (B := B) (T := T) (la := la) (ln := ln) (lc := lc) (N := N) (F := F) w
  clear hc hk
  go_enter Tryd.func13, Tryd.ntmps13
  go_upto_region 1 with fail
  generalize hW1 : w.alloc _ = W1 at hb1 hz1 ⊢
  clear hW1
  have cH := refThere_any (kk : Int) I A B T la ln lc N F W1
  have HT : Hid (thr A B T ln N F = bsum [!A.toList.isEmpty, !B.toList.isEmpty, !T.toList.isEmpty, decide (0 < ln), N != 0, F != 0] 1) := rfl
  have ht64 := thr_lt A B T ln N F
  have HW : Hid (wform (kk : Int) I A B T L N F = form kk ++ form I ++ [((thr A B T ln N F : Nat) : Int)] ++ wpt [!A.toList.isEmpty, !B.toList.isEmpty, !T.toList.isEmpty, decide (0 < ln), N != 0, F != 0] (pf A B T L N F) 6) := by
    unfold wform tbits; rw [Int.toNat_natCast, hln]; rfl
  generalize thr A B T ln N F = th at cH HT ht64 HW
  obtain ⟨q0, q1, q2, q3, q4, q5, q6, q7⟩ := id hz1
  go_upto_region 2 with (go_at_call 29; refine cH.mono ?_; rintro e w2 ⟨rfl, hb2⟩)
  have hR1 := hR.carry hb1
  clear q0 q1 q2 q3 q4 q5 q6 q7 cH hR
  generalize (!A.toList.isEmpty) = b0 at HT HW
  generalize (!B.toList.isEmpty) = b1 at HT HW
  generalize (!T.toList.isEmpty) = b2 at HT HW
  generalize (decide (0 < ln)) = b3 at HT HW
  generalize (N != 0) = b4 at HT HW
  generalize (F != 0) = b5 at HT HW
  have hfk := form_len10 kk (by omega)
  have hfI := form_len10 I hI
  go_cut [4] from 8 to 18 (fun v wx => Owr W1 wx (form kk ++ form I ++ [(th : Int)]) v)
  case first =>
    have hw8 : IntKind.u8.wrap (th : Int) = (th : Int) := by rw [IntKind.wrap_u8]; omega
    refine wp_region_lx (fun w' => SzAt w' w.heap.size (kk : Int) I A B T la ln lc N F) [] 12 (by kernel_rfl) (by kernel_rfl) ?_
    have hb3 := hb2.drew
    generalize World.drew w2 = W0 at hb3 ⊢
    have HS := hz1.carry hb3
    clear hb2
    refine lx_rd 0 ?vR0 (by kernel_rfl) (fun _ _ d _ _ h => by cases d <;> exact h) (by kernel_rfl) HS rfl rfl rfl (fun w' hS => ?hR0) ?_
    case hR0 => first | (go_simp; rfl) | go_simp
    simp only [List.setIfInBounds_toArray, List.set_cons_zero, List.set_cons_succ]
    refine lx_rd 1 (.int .i64 (kk : Int)) (by kernel_rfl) (fun _ _ d _ _ h => by cases d <;> exact h) (by kernel_rfl) HS rfl rfl rfl (fun w' hS => ?hR1) ?_
    case hR1 => have hq := hS.c0; first | (go_simp; rfl) | go_simp
    simp only [List.setIfInBounds_toArray, List.set_cons_zero, List.set_cons_succ]
    refine lx_rd 2 (.int .u64 (kk : Int)) (by kernel_rfl) (fun _ _ d _ _ h => by cases d <;> exact h) (by kernel_rfl) HS rfl rfl rfl (fun w' hS => ?hR2) ?_
    case hR2 => first | (go_simp; rfl) | go_simp
    simp only [List.setIfInBounds_toArray, List.set_cons_zero, List.set_cons_succ]
    refine lx_rd 4 ?vR4 (by kernel_rfl) (fun _ _ d _ _ h => by cases d <;> exact h) (by kernel_rfl) HS rfl rfl rfl (fun w' hS => ?hR4) ?_
    case hR4 => first | (go_simp; rfl) | go_simp
    simp only [List.setIfInBounds_toArray, List.set_cons_zero, List.set_cons_succ]
    refine lx_rd 5 (.int .u64 I) (by kernel_rfl) (fun _ _ d _ _ h => by cases d <;> exact h) (by kernel_rfl) HS rfl rfl rfl (fun w' hS => ?hR5) ?_
    case hR5 => have hq := hS.c1; first | (go_simp; rfl) | go_simp
    simp only [List.setIfInBounds_toArray, List.set_cons_zero, List.set_cons_succ]
    refine lx_rd 7 ?vR7 (by kernel_rfl) (fun _ _ d _ _ h => by cases d <;> exact h) (by kernel_rfl) HS rfl rfl rfl (fun w' hS => ?hR7) ?_
    case hR7 => first | (go_simp; rfl) | go_simp
    simp only [List.setIfInBounds_toArray, List.set_cons_zero, List.set_cons_succ]
    refine lx_rd 8 (.int .u8 (th : Int)) (by kernel_rfl) (fun _ _ d _ _ h => by cases d <;> exact h) (by kernel_rfl) HS rfl rfl rfl (fun w' hS => ?hR8) ?_
    case hR8 => first | (go_simp; rfl) | go_simp
    simp only [List.setIfInBounds_toArray, List.set_cons_zero, List.set_cons_succ]

    refine lx_two 3 9 (by kernel_rfl) ?call ?build
    case call =>
      refine (stepT_call 33 ?a3A rfl rfl rfl ?r3A ?_)
      case r3A => first | (go_simp; rfl) | go_simp
      refine (refPutUintO (rd_nil W0) hb3 (by omega) kk (by omega)).mono ?_
      rintro e w3 ⟨v3, rfl, h3, hx3⟩
      rw [List.nil_append] at h3
      obtain ⟨a3, n3, c3, rfl, hr3, _, hb4⟩ := h3
      refine ⟨_, rfl, fun _ => hz1.carry hb4, ?_⟩
      simp only [List.setIfInBounds_toArray, List.set_cons_zero, List.set_cons_succ]
      refine lx_two 6 9 (by kernel_rfl) ?callB ?buildB
      case callB =>
        refine (stepT_call 33 ?a6A rfl rfl rfl ?r6A ?_)
        case r6A => first | (go_simp; rfl) | go_simp
        refine (refPutUintO hr3 hb4 (by have := hr3.len; omega) I hI).mono ?_
        rintro e w6 ⟨v6, rfl, h6, hx6⟩
        obtain ⟨a6, n6, c6, rfl, hr6, ho6, hb6⟩ := h6
        refine ⟨_, rfl, fun _ => hz1.carry hb6, ?_⟩
        simp only [List.setIfInBounds_toArray, List.set_cons_zero, List.set_cons_succ]
        refine lx_one 9 (by kernel_rfl) (stepT_val (w' := w6.alloc (.cells #[.int .u8 (th : Int)] 5)) (.slice (some ⟨w6.heap.size, 0, none⟩) 1 1) rfl rfl rfl ?r9A ?s9A ?_)
        case r9A => first | (go_simp; rfl) | go_simp
        case s9A => exact fun _ => hz1.carry (hb6.alloc hb6.size _)
        simp only [List.setIfInBounds_toArray, List.set_cons_zero, List.set_cons_succ]
        have hbA := (Below.refl w6.heap.size w6).alloc (Nat.le_refl _) (.cells #[.int .u8 (th : Int)] 5)
        obtain ⟨v10, w10, hrun, h10⟩ := run_one (W := W1) (w := (w6.alloc (.cells #[.int .u8 (th : Int)] 5))) (X := form kk ++ form I) 28 ⟨a6, n6, c6, rfl, hr6.carry (Nat.le_refl _) hbA, own_bel ho6 hbA, hb6.alloc hb6.size _⟩ (by rw [List.length_append]; omega) (x := (th : Int)) (rd_one w6 (th : Int) (by omega) (by omega))
        have hb10 := h10.choose_spec.choose_spec.choose_spec.2.2.2
        refine lx_one 10 (by kernel_rfl) (stepT_val (w' := w10) v10 rfl rfl rfl (run_app_opS rfl rfl rfl hrun) (fun _ => hz1.carry hb10) ?_)
        simp only [List.setIfInBounds_toArray, List.set_cons_zero, List.set_cons_succ]
        refine lx_one 11 (by kernel_rfl) (stepT_val (w' := w10) v10 rfl rfl rfl (by first | (go_simp; rfl) | go_simp) (fun _ => hz1.carry hb10) ?_)
        simp only [List.setIfInBounds_toArray, List.set_cons_zero, List.set_cons_succ]
        refine lx_nil (by kernel_rfl) ?_
        go_wp2
        go_meet
        case rel => exact h10
      case buildB =>
        refine (stepT_val (w' := w3.alloc (.cells #[.int .u8 (th : Int)] 5)) (.slice (some ⟨w3.heap.size, 0, none⟩) 1 1) rfl rfl rfl ?r9B ?s9B ?_)
        case r9B => first | (go_simp; rfl) | go_simp
        case s9B => exact fun _ => hz1.carry (hb4.alloc hb4.size _)
        simp only [List.setIfInBounds_toArray, List.set_cons_zero, List.set_cons_succ]
        have hbA := (Below.refl w3.heap.size w3).alloc (Nat.le_refl _) (.cells #[.int .u8 (th : Int)] 5)
        have hr1 := rd_one w3 (th : Int) (by omega) (by omega)
        have hr3 := hr3.carry (Nat.le_refl _) hbA
        have hb5 := hb4.alloc hb4.size (.cells #[.int .u8 (th : Int)] 5)
        refine lx_one 6 (by kernel_rfl) (stepT_call 33 ?a6B rfl rfl rfl ?r6B ?_)
        case r6B => first | (go_simp; rfl) | go_simp
        refine (refPutUintO hr3 hb5 (by have := hr3.len; omega) I hI).mono ?_
        rintro e w6 ⟨v6, rfl, h6, hx6⟩
        obtain ⟨a6, n6, c6, rfl, hr6, ho6, hb6⟩ := h6
        refine ⟨_, rfl, fun _ => hz1.carry hb6, ?_⟩
        simp only [List.setIfInBounds_toArray, List.set_cons_zero, List.set_cons_succ]
        obtain ⟨v10, w10, hrun, h10⟩ := run_one (W := W1) (w := w6) (X := form kk ++ form I) 28 ⟨a6, n6, c6, rfl, hr6, ho6, hb6⟩ (by rw [List.length_append]; omega) (x := (th : Int)) (hr1.carry (Nat.le_refl _) hx6)
        have hb10 := h10.choose_spec.choose_spec.choose_spec.2.2.2
        refine lx_one 10 (by kernel_rfl) (stepT_val (w' := w10) v10 rfl rfl rfl (run_app_opS rfl rfl rfl hrun) (fun _ => hz1.carry hb10) ?_)
        simp only [List.setIfInBounds_toArray, List.set_cons_zero, List.set_cons_succ]
        refine lx_one 11 (by kernel_rfl) (stepT_val (w' := w10) v10 rfl rfl rfl (by first | (go_simp; rfl) | go_simp) (fun _ => hz1.carry hb10) ?_)
        simp only [List.setIfInBounds_toArray, List.set_cons_zero, List.set_cons_succ]
        refine lx_nil (by kernel_rfl) ?_
        go_wp2
        go_meet
        case rel => exact h10
    case build =>
      refine (stepT_val (w' := W0.alloc (.cells #[.int .u8 (th : Int)] 5)) (.slice (some ⟨W0.heap.size, 0, none⟩) 1 1) rfl rfl rfl ?r9C ?s9C ?_)
      case r9C => first | (go_simp; rfl) | go_simp
      case s9C => exact fun _ => hz1.carry (hb3.alloc hb3.size _)
      simp only [List.setIfInBounds_toArray, List.set_cons_zero, List.set_cons_succ]
      have hr1 := rd_one W0 (th : Int) (by omega) (by omega)
      have hb5 := hb3.alloc hb3.size (.cells #[.int .u8 (th : Int)] 5)
      refine lx_one 3 (by kernel_rfl) (stepT_call 33 ?a3C rfl rfl rfl ?r3C ?_)
      case r3C => first | (go_simp; rfl) | go_simp
      refine (refPutUintO (rd_nil _) hb5 (by omega) kk (by omega)).mono ?_
      rintro e w3 ⟨v3, rfl, h3, hx3⟩
      rw [List.nil_append] at h3
      obtain ⟨a3, n3, c3, rfl, hr3, _, hb4⟩ := h3
      refine ⟨_, rfl, fun _ => hz1.carry hb4, ?_⟩
      simp only [List.setIfInBounds_toArray, List.set_cons_zero, List.set_cons_succ]
      replace hr1 := hr1.carry (Nat.le_refl _) hx3
      refine lx_one 6 (by kernel_rfl) (stepT_call 33 ?a6C rfl rfl rfl ?r6C ?_)
      case r6C => first | (go_simp; rfl) | go_simp
      refine (refPutUintO hr3 hb4 (by have := hr3.len; omega) I hI).mono ?_
      rintro e w6 ⟨v6, rfl, h6, hx6⟩
      obtain ⟨a6, n6, c6, rfl, hr6, ho6, hb6⟩ := h6
      refine ⟨_, rfl, fun _ => hz1.carry hb6, ?_⟩
      simp only [List.setIfInBounds_toArray, List.set_cons_zero, List.set_cons_succ]
      obtain ⟨v10, w10, hrun, h10⟩ := run_one (W := W1) (w := w6) (X := form kk ++ form I) 28 ⟨a6, n6, c6, rfl, hr6, ho6, hb6⟩ (by rw [List.length_append]; omega) (x := (th : Int)) (hr1.carry (Nat.le_refl _) hx6)
      have hb10 := h10.choose_spec.choose_spec.choose_spec.2.2.2
      refine lx_one 10 (by kernel_rfl) (stepT_val (w' := w10) v10 rfl rfl rfl (run_app_opS rfl rfl rfl hrun) (fun _ => hz1.carry hb10) ?_)
      simp only [List.setIfInBounds_toArray, List.set_cons_zero, List.set_cons_succ]
      refine lx_one 11 (by kernel_rfl) (stepT_val (w' := w10) v10 rfl rfl rfl (by first | (go_simp; rfl) | go_simp) (fun _ => hz1.carry hb10) ?_)
      simp only [List.setIfInBounds_toArray, List.set_cons_zero, List.set_cons_succ]
      refine lx_nil (by kernel_rfl) ?_
      go_wp2
      go_meet
      case rel => exact h10
  have HX7 : Hid ((form kk ++ form I ++ [(th : Int)]).length ≤ 21) := (by rw [List.length_append, List.length_append]; simp; omega : (form kk ++ form I ++ [(th : Int)]).length ≤ 21)
  have hpl := @pf_len A B T L N F hA hB hT hn hs hN0 hN1
  have HP0 : Hid (pf A B T L N F 0 = tform A) := rfl
  have HP1 : Hid (pf A B T L N F 1 = tform B) := rfl
  have HP2 : Hid (pf A B T L N F 2 = tform T) := rfl
  have HP3 : Hid (pf A B T L N F 3 = lform L) := rfl
  have HP4 : Hid (pf A B T L N F 4 = form (foldv N)) := rfl
  have HP5 : Hid (pf A B T L N F 5 = fbl (bitsv F) 8) := rfl
  generalize form kk ++ form I ++ [(th : Int)] = X7 at hcut HW HX7
  generalize pf A B T L N F = p at HW HP0 HP1 HP2 HP3 HP4 HP5 hpl
  have HPL : Hid (∀ k, (p k).length ≤ if k = 3 then 66186 else 1034) := hpl
  clear hpl hfk hfI hw64 hb2
  have hw0 : X7 ++ wpt [b0, b1, b2, b3, b4, b5] p 0 = X7 := by simp [wpt]
  rw [← hw0] at hcut
  clear hw0
  obtain ⟨a8, n8, c8, rfl, hr8, ho8, hb8⟩ := hcut
  have hbit : (bits .and .i64 (th : Int) 1 != 0) = b0 := by rw [HT.out]; exact and_l0 ..
  have hn8 : n8 ≤ 3200 := by have h1 := hr8.len; have h2 := HX7.out; have h3 := wpt_len (bs := [b0, b1, b2, b3, b4, b5]) HPL.out 0; rw [List.length_append] at h1; rw [if_neg (by omega)] at h3; omega
  go_upto_if 21 with fail
  clear hbit
  go_cut [4] from 21 to 25 (fun v wx => Owr W1 wx (X7 ++ wpt [b0, b1, b2, b3, b4, b5] p 1) v)
  case first =>
    cases b0 with
    | true =>
      have HN : Hid (wpt ([true, b1, b2, b3, b4, b5]) p 1 = wpt ([true, b1, b2, b3, b4, b5]) p 0 ++ p 0) := rfl
      have HQ : Hid (∀ wx v, Owr W1 wx (X7 ++ wpt ([true, b1, b2, b3, b4, b5]) p 0 ++ p 0) v → Owr W1 wx (X7 ++ wpt ([true, b1, b2, b3, b4, b5]) p 1) v) := fun wx v h => by rw [HN.out, ← List.append_assoc]; exact h
      rw [HP0.out] at HQ
      generalize X7 ++ wpt ([true, b1, b2, b3, b4, b5]) p 0 = X8 at hr8 ho8 HQ
      clear HN
      have q := (hz1.carry hb8).c2
      go_wp2_with (go_at_call 34; refine (refPutTextO hr8 hb8 (by omega) A hA).mono ?_; rintro e w9 ⟨v9, rfl, h9, _⟩)
      go_meet
      case rel => exact HQ.out _ _ h9
    | false =>
      have HN : Hid (wpt ([false, b1, b2, b3, b4, b5]) p 1 = wpt ([false, b1, b2, b3, b4, b5]) p 0) := List.append_nil _
      go_wp2
      go_meet
      case rel => rw [HN.out]; exact ⟨a8, n8, c8, rfl, hr8, ho8, hb8⟩
  clear hr8 ho8 hb8 hn8
  obtain ⟨a8, n8, c8, rfl, hr8, ho8, hb8⟩ := hcut
  have hbit : (bits .and .i64 (th : Int) 2 != 0) = b1 := by rw [HT.out]; exact and_l1 ..
  have hn8 : n8 ≤ 3200 := by have h1 := hr8.len; have h2 := HX7.out; have h3 := wpt_len (bs := [b0, b1, b2, b3, b4, b5]) HPL.out 1; rw [List.length_append] at h1; rw [if_neg (by omega)] at h3; omega
  go_upto_if 28 with fail
  clear hbit
  go_cut [4] from 28 to 32 (fun v wx => Owr W1 wx (X7 ++ wpt [b0, b1, b2, b3, b4, b5] p 2) v)
  case first =>
    cases b1 with
    | true =>
      have HN : Hid (wpt ([b0, true, b2, b3, b4, b5]) p 2 = wpt ([b0, true, b2, b3, b4, b5]) p 1 ++ p 1) := rfl
      have HQ : Hid (∀ wx v, Owr W1 wx (X7 ++ wpt ([b0, true, b2, b3, b4, b5]) p 1 ++ p 1) v → Owr W1 wx (X7 ++ wpt ([b0, true, b2, b3, b4, b5]) p 2) v) := fun wx v h => by rw [HN.out, ← List.append_assoc]; exact h
      rw [HP1.out] at HQ
      generalize X7 ++ wpt ([b0, true, b2, b3, b4, b5]) p 1 = X8 at hr8 ho8 HQ
      clear HN
      have q := (hz1.carry hb8).c3
      go_wp2_with (go_at_call 34; refine (refPutTextO hr8 hb8 (by omega) B hB).mono ?_; rintro e w9 ⟨v9, rfl, h9, _⟩)
      go_meet
      case rel => exact HQ.out _ _ h9
    | false =>
      have HN : Hid (wpt ([b0, false, b2, b3, b4, b5]) p 2 = wpt ([b0, false, b2, b3, b4, b5]) p 1) := List.append_nil _
      go_wp2
      go_meet
      case rel => rw [HN.out]; exact ⟨a8, n8, c8, rfl, hr8, ho8, hb8⟩
  clear hr8 ho8 hb8 hn8
  obtain ⟨a8, n8, c8, rfl, hr8, ho8, hb8⟩ := hcut
  have hbit : (bits .and .i64 (th : Int) 4 != 0) = b2 := by rw [HT.out]; exact and_l2 ..
  have hn8 : n8 ≤ 3200 := by have h1 := hr8.len; have h2 := HX7.out; have h3 := wpt_len (bs := [b0, b1, b2, b3, b4, b5]) HPL.out 2; rw [List.length_append] at h1; rw [if_neg (by omega)] at h3; omega
  go_upto_if 35 with fail
  clear hbit
  go_cut [4] from 35 to 39 (fun v wx => Owr W1 wx (X7 ++ wpt [b0, b1, b2, b3, b4, b5] p 3) v)
  case first =>
    cases b2 with
    | true =>
      have HN : Hid (wpt ([b0, b1, true, b3, b4, b5]) p 3 = wpt ([b0, b1, true, b3, b4, b5]) p 2 ++ p 2) := rfl
      have HQ : Hid (∀ wx v, Owr W1 wx (X7 ++ wpt ([b0, b1, true, b3, b4, b5]) p 2 ++ p 2) v → Owr W1 wx (X7 ++ wpt ([b0, b1, true, b3, b4, b5]) p 3) v) := fun wx v h => by rw [HN.out, ← List.append_assoc]; exact h
      rw [HP2.out] at HQ
      generalize X7 ++ wpt ([b0, b1, true, b3, b4, b5]) p 2 = X8 at hr8 ho8 HQ
      clear HN
      have q := (hz1.carry hb8).c4
      go_wp2_with (go_at_call 34; refine (refPutTextO hr8 hb8 (by omega) T hT).mono ?_; rintro e w9 ⟨v9, rfl, h9, _⟩)
      go_meet
      case rel => exact HQ.out _ _ h9
    | false =>
      have HN : Hid (wpt ([b0, b1, false, b3, b4, b5]) p 3 = wpt ([b0, b1, false, b3, b4, b5]) p 2) := List.append_nil _
      go_wp2
      go_meet
      case rel => rw [HN.out]; exact ⟨a8, n8, c8, rfl, hr8, ho8, hb8⟩
  clear hr8 ho8 hb8 hn8
  obtain ⟨a8, n8, c8, rfl, hr8, ho8, hb8⟩ := hcut
  have hbit : (bits .and .i64 (th : Int) 8 != 0) = b3 := by rw [HT.out]; exact and_l3 ..
  have hn8 : n8 ≤ 3200 := by have h1 := hr8.len; have h2 := HX7.out; have h3 := wpt_len (bs := [b0, b1, b2, b3, b4, b5]) HPL.out 3; rw [List.length_append] at h1; rw [if_neg (by omega)] at h3; omega
  go_upto_if 42 with fail
  clear hbit
  go_cut [4, 5] from 42 to 62 (fun v _ wx => Owr W1 wx (X7 ++ wpt [b0, b1, b2, b3, b4, b5] p 4) v)
  case first =>
    cases b3 with
    | true =>
      have HN : Hid (wpt ([b0, b1, b2, true, b4, b5]) p 4 = wpt ([b0, b1, b2, true, b4, b5]) p 3 ++ p 3) := rfl
      have HQ : Hid (∀ wx v, Owr W1 wx (X7 ++ wpt ([b0, b1, b2, true, b4, b5]) p 3 ++ p 3) v → Owr W1 wx (X7 ++ wpt ([b0, b1, b2, true, b4, b5]) p 4) v) := fun wx v h => by rw [HN.out, ← List.append_assoc]; exact h
      rw [HP3.out] at HQ
      generalize X7 ++ wpt ([b0, b1, b2, true, b4, b5]) p 3 = X8 at hr8 ho8 HQ
      clear HN
      have q := (hz1.carry hb8).c5
      have hf10 := form_len10 ln (by omega)
      have hw64 : IntKind.u64.wrap (ln : Int) = (ln : Int) := by rw [IntKind.wrap_u64]; omega
      have hl8 : X8.length ≤ 3200 := by rw [hr8.len]; omega
      go_wp2_with (go_at_call 33; refine (refPutUintO hr8 hb8 (by omega) ln (by omega)).mono ?_; rintro e w9 ⟨v9, rfl, h9, _⟩)
      clear q hw64 hr8 ho8 hb8
      go_loopw [4, 5] (fun v i wr => ∃ k : Nat, k ≤ ln ∧ i = .int .i64 k ∧ Owr W1 wr (X8 ++ form ln ++ texts (L.take k)) v) (fun _ i _ => ln - (intOf i).toNat)
      case atStart => exact ⟨0, by omega, rfl, by simpa [texts] using h9⟩
      case round =>
        obtain ⟨k, hk, rfl, a2, n2, c2, rfl, hr2, ho2, hb2⟩ := hrel
        have q := (hz1.carry hb2).c5
        by_cases hkn : (k : Int) < (ln : Int)
        · have hkl : k < L.length := by omega
          have hRk := hR1.carry hb2
          have hcap := hRk.cap
          have hmost := hRk.most
          unfold maxLen at hmost
          obtain ⟨b, off, rfl, hcell⟩ := hRk.flat (by omega)
          have hc := hcell k (by omega)
          have hsm := hs _ (getD_mem' hkl)
          have HX : Hid (texts (L.take (k + 1)) = texts (L.take k) ++ tform (L.getD k ⟨#[]⟩)) := texts_snoc hkl
          have hl1 := texts_take_len hs (k := k) (by omega)
          have hn2 : n2 ≤ 100000 := by have h1 := hr2.len; rw [List.length_append, List.length_append] at h1; omega
          clear hcell hkl hl1 hRk
          generalize L.getD k ⟨#[]⟩ = s at hc hsm HX
          have HY : Hid (X8 ++ form ln ++ texts (L.take (k + 1)) = X8 ++ form ln ++ texts (L.take k) ++ tform s) := (by rw [HX.out, ← List.append_assoc] : X8 ++ form ln ++ texts (L.take (k + 1)) = X8 ++ form ln ++ texts (L.take k) ++ tform s)
          generalize X8 ++ form ln ++ texts (L.take k) = X9 at hr2 ho2 HY
          clear HX
          go_wp2_with (go_at_call 34; refine (refPutTextO hr2 hb2 hn2 s hsm).mono ?_; rintro e w3 ⟨v3, rfl, h3, _⟩)
          go_roundw
          case rel => exact ⟨k + 1, by omega, by go_num, by rw [HY.out]; exact h3⟩
          case measure => simp [intOf]; omega
        · have hke : k = ln := by omega
          subst hke
          have HL : Hid (X8 ++ lform L = X8 ++ form k ++ texts (L.take k)) := (by unfold lform; rw [hln, List.take_of_length_le (by rw [hln]; exact Nat.le_refl _), List.append_assoc] : X8 ++ lform L = X8 ++ form k ++ texts (L.take k))
          go_wp2
          go_meet
          case rel => exact HQ.out _ _ (by rw [HL.out]; exact ⟨a2, n2, c2, rfl, hr2, ho2, hb2⟩)
    | false =>
      have HN : Hid (wpt ([b0, b1, b2, false, b4, b5]) p 4 = wpt ([b0, b1, b2, false, b4, b5]) p 3) := List.append_nil _
      go_wp2
      go_meet
      case rel => rw [HN.out]; exact ⟨a8, n8, c8, rfl, hr8, ho8, hb8⟩
  clear hr8 ho8 hb8 hn8
  obtain ⟨a8, n8, c8, rfl, hr8, ho8, hb8⟩ := hcut
  have hbit : (bits .and .i64 (th : Int) 16 != 0) = b4 := by rw [HT.out]; exact and_l4 ..
  have hn8 : n8 ≤ 80000 := by have h1 := hr8.len; have h2 := HX7.out; have h3 := wpt_len (bs := [b0, b1, b2, b3, b4, b5]) HPL.out 4; rw [List.length_append] at h1; rw [if_pos (by omega)] at h3; omega
  go_upto_if 65 with fail
  clear hbit
  go_cut [4] from 65 to 69 (fun v wx => Owr W1 wx (X7 ++ wpt [b0, b1, b2, b3, b4, b5] p 5) v)
  case first =>
    cases b4 with
    | true =>
      have HN : Hid (wpt ([b0, b1, b2, b3, true, b5]) p 5 = wpt ([b0, b1, b2, b3, true, b5]) p 4 ++ p 4) := rfl
      have HQ : Hid (∀ wx v, Owr W1 wx (X7 ++ wpt ([b0, b1, b2, b3, true, b5]) p 4 ++ p 4) v → Owr W1 wx (X7 ++ wpt ([b0, b1, b2, b3, true, b5]) p 5) v) := fun wx v h => by rw [HN.out, ← List.append_assoc]; exact h
      rw [HP4.out] at HQ
      generalize X7 ++ wpt ([b0, b1, b2, b3, true, b5]) p 4 = X8 at hr8 ho8 HQ
      clear HN
      have q := (hz1.carry hb8).c6
      go_wp2_with (go_at_call 35; refine (refPutIntO hr8 hb8 (by omega) N hN0 hN1).mono ?_; rintro e w9 ⟨v9, rfl, h9, _⟩)
      go_meet
      case rel => exact HQ.out _ _ h9
    | false =>
      have HN : Hid (wpt ([b0, b1, b2, b3, false, b5]) p 5 = wpt ([b0, b1, b2, b3, false, b5]) p 4) := List.append_nil _
      go_wp2
      go_meet
      case rel => rw [HN.out]; exact ⟨a8, n8, c8, rfl, hr8, ho8, hb8⟩
  clear hr8 ho8 hb8 hn8
  obtain ⟨a8, n8, c8, rfl, hr8, ho8, hb8⟩ := hcut
  have hbit : (bits .and .i64 (th : Int) 32 != 0) = b5 := by rw [HT.out]; exact and_l5 ..
  have hn8 : n8 ≤ 80000 := by have h1 := hr8.len; have h2 := HX7.out; have h3 := wpt_len (bs := [b0, b1, b2, b3, b4, b5]) HPL.out 5; rw [List.length_append] at h1; rw [if_pos (by omega)] at h3; omega
  go_upto_if 72 with fail
  clear hbit
  go_cut [4] from 72 to 77 (fun v wx => Owr W1 wx (X7 ++ wpt [b0, b1, b2, b3, b4, b5] p 6) v)
  case first =>
    cases b5 with
    | true =>
      have HN : Hid (wpt ([b0, b1, b2, b3, b4, true]) p 6 = wpt ([b0, b1, b2, b3, b4, true]) p 5 ++ p 5) := rfl
      have HQ : Hid (∀ wx v, Owr W1 wx (X7 ++ wpt ([b0, b1, b2, b3, b4, true]) p 5 ++ p 5) v → Owr W1 wx (X7 ++ wpt ([b0, b1, b2, b3, b4, true]) p 6) v) := fun wx v h => by rw [HN.out, ← List.append_assoc]; exact h
      rw [HP5.out] at HQ
      generalize X7 ++ wpt ([b0, b1, b2, b3, b4, true]) p 5 = X8 at hr8 ho8 HQ
      clear HN
      have q := (hz1.carry hb8).c7
      go_wp2_with (go_at_call 36; refine (refPutFloatO hr8 hb8 (by omega) F hF).mono ?_; rintro e w9 ⟨v9, rfl, h9, _⟩)
      go_meet
      case rel => exact HQ.out _ _ h9
    | false =>
      have HN : Hid (wpt ([b0, b1, b2, b3, b4, false]) p 6 = wpt ([b0, b1, b2, b3, b4, false]) p 5) := List.append_nil _
      go_wp2
      go_meet
      case rel => rw [HN.out]; exact ⟨a8, n8, c8, rfl, hr8, ho8, hb8⟩
  clear hr8 ho8 hb8 hn8
  obtain ⟨a8, n8, c8, rfl, hr8, ho8, hb8⟩ := hcut
  go_wp2
  go_ret
  rw [HW.out]
  exact ⟨_, rfl, a8, n8, c8, rfl, hr8, own_weaken ho8 hb1.size, hb1.trans (hb8.mono hb1.size)⟩

end Go.Proofs.YtomkcmkbehcjnaaDoor
