/- stanza.Check. -/
import Derived.Test.YtomkcmkbehcjnaaDoorStzB
namespace Go.Proofs.YtomkcmkbehcjnaaDoor
open Go.RowKit

/-- A stanza in a block of its own. -/
structure SzAt (w : World) (b : Nat) (K : Int) (I : Nat) (A B T : ByteArray) (la : Option Addr) (ln lc : Nat) (N : Int) (F : Nat) : Prop where
  c0 : w.cell? ⟨b, 0, none⟩ = some (.int .i64 K)
  c1 : w.cell? ⟨b, 1, none⟩ = some (.int .u64 I)
  c2 : w.cell? ⟨b, 2, none⟩ = some (.string A)
  c3 : w.cell? ⟨b, 3, none⟩ = some (.string B)
  c4 : w.cell? ⟨b, 4, none⟩ = some (.string T)
  c5 : w.cell? ⟨b, 5, none⟩ = some (.slice la ln lc)
  c6 : w.cell? ⟨b, 6, none⟩ = some (.int .i64 N)
  c7 : w.cell? ⟨b, 7, none⟩ = some (.float .f64 F)

section
variable {w w' : World} {b : Nat} {K : Int} {I : Nat} {A B T : ByteArray} {la : Option Addr} {ln lc : Nat} {N : Int} {F : Nat}
theorem SzAt.carry (h : SzAt w b K I A B T la ln lc N F) (k : Below w.heap.size w w') : SzAt w' b K I A B T la ln lc N F :=
  ⟨(k.cell (World.block_lt_of_cell? w _ h.c0)).trans h.c0, (k.cell (World.block_lt_of_cell? w _ h.c1)).trans h.c1, (k.cell (World.block_lt_of_cell? w _ h.c2)).trans h.c2, (k.cell (World.block_lt_of_cell? w _ h.c3)).trans h.c3, (k.cell (World.block_lt_of_cell? w _ h.c4)).trans h.c4, (k.cell (World.block_lt_of_cell? w _ h.c5)).trans h.c5, (k.cell (World.block_lt_of_cell? w _ h.c6)).trans h.c6, (k.cell (World.block_lt_of_cell? w _ h.c7)).trans h.c7⟩
theorem SzAt.new (w : World) : SzAt (w.alloc (.cells #[.int .i64 K, .int .u64 I, .string A, .string B, .string T, .slice la ln lc, .int .i64 N, .float .f64 F] 26)) w.heap.size K I A B T la ln lc N F := by
  constructor <;> simp
theorem SzAt.lt (h : SzAt w b K I A B T la ln lc N F) : b < w.heap.size := World.block_lt_of_cell? w _ h.c0
theorem SzAt.load (h : SzAt w b K I A B T la ln lc N F) : (Instr.loadAt 26 (.pointer (some ⟨b, 0, none⟩))).run Tryd.prog w = .ok (.agg #[.int .i64 K, .int .u64 I, .string A, .string B, .string T, .slice la ln lc, .int .i64 N, .float .f64 F]) w := by
  have c0 := h.c0; have c1 := h.c1; have c2 := h.c2; have c3 := h.c3; have c4 := h.c4; have c5 := h.c5; have c6 := h.c6; have c7 := h.c7
  go_simp
end

/-- What Check says. -/
def chk (K : Int) (A B T : ByteArray) (L : List ByteArray) (N : Int) (F : Nat) : Nat :=
  if kn K = false then 3
  else if bits .andNot .u8 ((thr A B T L.length N F : Nat) : Int) ((kp K.toNat : Nat) : Int) ≠ 0 then 2
  else if terrs [A, B, T] ≠ 0 then terrs [A, B, T]
  else if 64 < L.length then 5
  else terrs L

theorem kn_bd {K : Int} (h : kn K = true) : 0 ≤ K ∧ K < 47 := by
  unfold kn at h; simp at h; omega

theorem srd_three (w : World) (A B T : ByteArray) (hA : A.size ≤ 9223372036854775807) (hB : B.size ≤ 9223372036854775807) (hT : T.size ≤ 9223372036854775807) : SRd (w.alloc (.cells #[.string A, .string B, .string T] 67)) (some ⟨w.heap.size, 0, none⟩) 3 3 [A, B, T] := by
  refine ⟨rfl, Nat.le_refl _, by unfold maxLen; omega, (fun h => by cases h), ?_, fun ad had j hj => ?_⟩
  · intro s hs; simp at hs; rcases hs with rfl | rfl | rfl <;> assumption
  · cases had
    rw [add_flat]
    match j, hj with
    | 0, _ => simp
    | 1, _ => simp
    | 2, _ => simp

set_option maxHeartbeats 1600000 in
theorem check_any (K : Int) (I : Nat) (A B T : ByteArray) (la : Option Addr) (ln lc : Nat) (N : Int) (F : Nat) (L : List ByteArray) (w : World) (hL : Lays w) (hR : SRd w la ln lc L) (hA : A.size ≤ 9223372036854775807) (hB : B.size ≤ 9223372036854775807) (hT : T.size ≤ 9223372036854775807) :
    Calls Tryd.prog 11 #[.agg #[.int .i64 K, .int .u64 I, .string A, .string B, .string T, .slice la ln lc, .int .i64 N, .float .f64 F]] w fun e w' => e = .returned (.int .i64 ((chk K A B T L N F : Nat) : Int)) ∧ Below w.heap.size w w' := by
  have hb1 : Below w.heap.size w (w.alloc (.cells #[.int .i64 K, .int .u64 I, .string A, .string B, .string T, .slice la ln lc, .int .i64 N, .float .f64 F] 26)) := (Below.refl _ _).alloc (Nat.le_refl _) _
  have hz1 := SzAt.new (K := K) (I := I) (A := A) (B := B) (T := T) (la := la) (ln := ln) (lc := lc) (N := N) (F := F) w
  go_enter Tryd.func11, Tryd.ntmps11
  cases hk : kn K with
  | false =>
    have HC : Hid (chk K A B T L N F = 3) := by unfold chk; rw [if_pos hk]; rfl
    go_wp2_with (go_at_call 31; refine (known_any K _).mono ?_; rw [hk]; rintro e w1 ⟨rfl, rfl⟩)
    go_ret
    rw [HC.out]
    exact ⟨rfl, hb1⟩
  | true =>
    go_upto_region 3 with (go_at_call 31; refine (known_any K _).mono ?_; rw [hk]; rintro e w1 ⟨rfl, rfl⟩)
    obtain ⟨k0, k1⟩ := kn_bd hk
    refine wp_region_lx (fun w' => SzAt w' w.heap.size K I A B T la ln lc N F ∧ Lays w') [] 8 (by kernel_rfl) (by kernel_rfl) ?_
    have hb2 : Below w.heap.size w (World.drew (w.alloc (.cells #[.int .i64 K, .int .u64 I, .string A, .string B, .string T, .slice la ln lc, .int .i64 N, .float .f64 F] 26))) := hb1.drew
    have HS : SzAt (World.drew (w.alloc (.cells #[.int .i64 K, .int .u64 I, .string A, .string B, .string T, .slice la ln lc, .int .i64 N, .float .f64 F] 26))) w.heap.size K I A B T la ln lc N F ∧ Lays (World.drew (w.alloc (.cells #[.int .i64 K, .int .u64 I, .string A, .string B, .string T, .slice la ln lc, .int .i64 N, .float .f64 F] 26))) := ⟨hz1.carry (Below.refl _ _).drew, hL.carry hb2⟩
    generalize World.drew _ = W0 at HS hb2 ⊢
    clear hb1 hz1
    refine lx_rd 0 (.agg #[.int .i64 K, .int .u64 I, .string A, .string B, .string T, .slice la ln lc, .int .i64 N, .float .f64 F]) (by kernel_rfl) (fun _ _ d _ _ h => by cases d <;> exact h) (by kernel_rfl) HS rfl rfl rfl (fun w' hS => ?hR0) ?_
    case hR0 => obtain ⟨q0, q1, q2, q3, q4, q5, q6, q7⟩ := hS.1; first | (go_simp; rfl) | go_simp
    simp only [List.setIfInBounds_toArray, List.set_cons_zero, List.set_cons_succ]
    refine lx_rd 2 ?vR2 (by kernel_rfl) (fun _ _ d _ _ h => by cases d <;> exact h) (by kernel_rfl) HS rfl rfl rfl (fun w' hS => ?hR2) ?_
    case hR2 => first | (go_simp; rfl) | go_simp
    simp only [List.setIfInBounds_toArray, List.set_cons_zero, List.set_cons_succ]
    refine lx_rd 3 (.int .i64 K) (by kernel_rfl) (fun _ _ d _ _ h => by cases d <;> exact h) (by kernel_rfl) HS rfl rfl rfl (fun w' hS => ?hR3) ?_
    case hR3 => have hq := hS.1.c0; first | (go_simp; rfl) | go_simp
    simp only [List.setIfInBounds_toArray, List.set_cons_zero, List.set_cons_succ]
    refine lx_rd 4 (.pointer (some ⟨1, K.toNat, none⟩)) (by kernel_rfl) (fun _ _ d _ _ h => by cases d <;> exact h) (by kernel_rfl) HS rfl rfl rfl (fun w' hS => ?hR4) ?_
    case hR4 => first | (go_simp; rfl) | go_simp
    simp only [List.setIfInBounds_toArray, List.set_cons_zero, List.set_cons_succ]
    refine lx_rd 5 (.int .u8 ((kp K.toNat : Nat) : Int)) (by kernel_rfl) (fun _ _ d _ _ h => by cases d <;> exact h) (by kernel_rfl) HS rfl rfl rfl (fun w' hS => ?hR5) ?_
    case hR5 => have hq := hS.2.kinds K.toNat (by omega); first | (go_simp; rfl) | go_simp
    simp only [List.setIfInBounds_toArray, List.set_cons_zero, List.set_cons_succ]
    refine lx_one 1 (by kernel_rfl) (stepT_call 25 ?a1 rfl rfl rfl ?r1 ?_)
    case r1 => first | (go_simp; rfl) | go_simp
    refine (there_any K I A B T la ln lc N F W0 HS.2).mono ?_
    rintro e w3 ⟨rfl, hb3⟩
    have HS3 : SzAt w3 w.heap.size K I A B T la ln lc N F ∧ Lays w3 := ⟨HS.1.carry hb3, HS.2.carry hb3⟩
    have hbw := hb2.trans (hb3.mono hb2.size)
    clear HS hb2 hb3
    refine ⟨_, rfl, fun _ => HS3, ?_⟩
    simp only [List.setIfInBounds_toArray, List.set_cons_zero, List.set_cons_succ]
    refine lx_rd 6 ?vQ6 (by kernel_rfl) (fun _ _ d _ _ h => by cases d <;> exact h) (by kernel_rfl) HS3 rfl rfl rfl (fun w' hS => ?hQ6) ?_
    case hQ6 => first | (go_simp; rfl) | go_simp
    simp only [List.setIfInBounds_toArray, List.set_cons_zero, List.set_cons_succ]
    refine lx_rd 7 ?vQ7 (by kernel_rfl) (fun _ _ d _ _ h => by cases d <;> exact h) (by kernel_rfl) HS3 rfl rfl rfl (fun w' hS => ?hQ7) ?_
    case hQ7 => first | (go_simp; rfl) | go_simp
    simp only [List.setIfInBounds_toArray, List.set_cons_zero, List.set_cons_succ]
    refine lx_nil (by kernel_rfl) ?_
    obtain ⟨⟨q0, q1, q2, q3, q4, q5, q6, q7⟩, hL3⟩ := HS3
    have hln := hR.len
    have hR3 := hR.carry hbw
    have hcap := hR.cap
    have hmost := hR.most
    unfold maxLen at hmost
    clear hR hL
    cases hx : (bits .andNot .u8 ((thr A B T ln N F : Nat) : Int) ((kp K.toNat : Nat) : Int) != 0) with
    | true =>
      have HC : Hid (chk K A B T L N F = 2) := by
        unfold chk; rw [if_neg (by rw [hk]; decide), if_pos (by rw [hln]; simpa using hx)]; rfl
      go_wp2
      go_ret
      rw [HC.out]
      exact ⟨rfl, hbw⟩
    | false =>
      have HC : Hid (chk K A B T L N F = if terrs [A, B, T] ≠ 0 then terrs [A, B, T] else if 64 < ln then 5 else terrs L) := by
        unfold chk; rw [if_neg (by rw [hk]; decide), if_neg (by rw [hln]; simpa using hx), hln]; rfl
      have hR4 := srd_three w3 A B T hA hB hT
      have hb4 : Below w3.heap.size w3 (w3.alloc (.cells #[.string A, .string B, .string T] 67)) := (Below.refl _ _).alloc (Nat.le_refl _) _
      have hlt : w.heap.size < w3.heap.size := World.block_lt_of_cell? w3 _ q0
      have r5 := cell_later (hb4) q5
      have cT := checkTexts_any _ _ _ _ _ hR4 (hL3.tabs.carry hb4)
      by_cases h3 : terrs [A, B, T] = 0
      · rw [h3] at cT
        have HC2 : Hid (chk K A B T L N F = if 64 < ln then 5 else terrs L) := by rw [HC.out, if_neg (by rw [h3]; decide)]; rfl
        clear HC h3
        by_cases h64 : (64 : Int) < (ln : Int)
        · go_wp2_with (go_at_call 32; refine cT.mono ?_; rintro e w5 ⟨rfl, hb5⟩; have r5' := cell_later hb5 r5)
          go_ret
          rw [HC2.out, if_pos (by omega)]
          exact ⟨rfl, hbw.trans ((hb4.trans (hb5.mono hb4.size)).mono hbw.size)⟩
        · have tok : True := trivial
          go_wp2_with (first
            | (go_at_call 32; clear tok; refine cT.mono ?_; rintro e w5 ⟨rfl, hb5⟩; have r5' := cell_later hb5 r5)
            | (go_at_call 32; refine (checkTexts_any la ln lc L _ ((hR3.carry hb4).carry hb5) ((hL3.tabs.carry hb4).carry hb5)).mono ?_; rintro e w6 ⟨rfl, hb6⟩))
          go_ret
          rw [HC2.out, if_neg (by omega)]
          exact ⟨rfl, hbw.trans (((hb4.trans (hb5.mono hb4.size)).trans (hb6.mono (Nat.le_trans hb4.size hb5.size))).mono hbw.size)⟩
      · have HC2 : Hid (chk K A B T L N F = terrs [A, B, T]) := by rw [HC.out, if_pos h3]; rfl
        clear HC
        generalize terrs [A, B, T] = x3 at cT h3 HC2
        have h3' : ((x3 : Int) != 0) = true := by simp; omega
        go_wp2_with (go_at_call 32; refine cT.mono ?_; rintro e w5 ⟨rfl, hb5⟩)
        go_ret
        rw [HC2.out]
        exact ⟨rfl, hbw.trans ((hb4.trans (hb5.mono hb4.size)).mono hbw.size)⟩

end Go.Proofs.YtomkcmkbehcjnaaDoor
