/- The same texts, the same stanzas. -/
import Derived.Test.YtomkcmkbehcjnaaDoorStzQ
namespace Go.Proofs.YtomkcmkbehcjnaaDoor
open Go.RowKit

theorem str_beq (s : ByteArray) : (s.toList == s.toList) = true := by simp

set_option maxHeartbeats 800000 in
theorem kSame_true (a : Option Addr) (n c : Nat) (b : Option Addr) (c' : Nat) (ss : List ByteArray) (w : World) (h : SRd w a n c ss) (h' : SRd w b n c' ss) :
    Calls Tryd.prog 44 #[.slice a n c, .slice b n c'] w fun e w' => e = .returned (.bool true) ∧ Below w.heap.size w w' := by
  have hcap := h.cap
  have hmost := h.most
  have hcap' := h'.cap
  have hmost' := h'.most
  unfold maxLen at hmost hmost'
  go_enter Tryd.func44, Tryd.ntmps44
  go_wp2
  go_loopw [5] (fun i wr => ∃ k : Nat, k ≤ n ∧ i = .int .i64 k ∧ Below w.heap.size w wr) (fun i _ => n - (intOf i).toNat)
  case atStart => exact ⟨0, by omega, rfl, Below.refl _ _⟩
  case round =>
    obtain ⟨k, hk, rfl, hb⟩ := hrel
    by_cases hkn : (k : Int) < (n : Int)
    · obtain ⟨b1, o1, rfl, hcell⟩ := (h.carry hb).flat (by omega)
      obtain ⟨b2, o2, rfl, hcell'⟩ := (h'.carry hb).flat (by omega)
      have hc := hcell k (by omega)
      have hc' := hcell' k (by omega)
      clear hcell hcell' h h'
      generalize ss.getD k ⟨#[]⟩ = s at hc hc'
      have hse := str_beq s
      go_upto_region 6 with fail
      refine wp_region_lx (fun w' => w'.cell? ⟨b1, o1 + k, none⟩ = some (.string s) ∧ w'.cell? ⟨b2, o2 + k, none⟩ = some (.string s)) [] 9 (by kernel_rfl) (by kernel_rfl) ?_
      have hbd := hb.drew
      have HS0 := And.intro (cell_later (Below.refl _ _).drew hc) (cell_later (Below.refl _ _).drew hc')
      clear hb hc hc'
      generalize World.drew _ = W5 at hbd HS0 ⊢
      have HS : W5.cell? ⟨b1, o1 + k, none⟩ = some (.string s) ∧ W5.cell? ⟨b2, o2 + k, none⟩ = some (.string s) := HS0
      refine lx_rd 0 ?vR0 (by kernel_rfl) (fun _ _ d _ _ h => by cases d <;> exact h) (by kernel_rfl) HS rfl rfl rfl (fun w' hS => ?hR0) ?_
      case hR0 => first | (go_simp; rfl) | go_simp
      simp only [List.setIfInBounds_toArray, List.set_cons_zero, List.set_cons_succ]
      refine lx_rd 1 ?vR1 (by kernel_rfl) (fun _ _ d _ _ h => by cases d <;> exact h) (by kernel_rfl) HS rfl rfl rfl (fun w' hS => ?hR1) ?_
      case hR1 => first | (go_simp; rfl) | go_simp
      simp only [List.setIfInBounds_toArray, List.set_cons_zero, List.set_cons_succ]
      refine lx_rd 2 ?vR2 (by kernel_rfl) (fun _ _ d _ _ h => by cases d <;> exact h) (by kernel_rfl) HS rfl rfl rfl (fun w' hS => ?hR2) ?_
      case hR2 => first | (go_simp; rfl) | go_simp
      simp only [List.setIfInBounds_toArray, List.set_cons_zero, List.set_cons_succ]
      refine lx_rd 3 (.string s) (by kernel_rfl) (fun _ _ d _ _ h => by cases d <;> exact h) (by kernel_rfl) HS rfl rfl rfl (fun w' hS => ?hR3) ?_
      case hR3 => have hq := hS.1; first | (go_simp; rfl) | go_simp
      simp only [List.setIfInBounds_toArray, List.set_cons_zero, List.set_cons_succ]
      refine lx_rd 4 ?vR4 (by kernel_rfl) (fun _ _ d _ _ h => by cases d <;> exact h) (by kernel_rfl) HS rfl rfl rfl (fun w' hS => ?hR4) ?_
      case hR4 => first | (go_simp; rfl) | go_simp
      simp only [List.setIfInBounds_toArray, List.set_cons_zero, List.set_cons_succ]
      refine lx_rd 5 ?vR5 (by kernel_rfl) (fun _ _ d _ _ h => by cases d <;> exact h) (by kernel_rfl) HS rfl rfl rfl (fun w' hS => ?hR5) ?_
      case hR5 => first | (go_simp; rfl) | go_simp
      simp only [List.setIfInBounds_toArray, List.set_cons_zero, List.set_cons_succ]
      refine lx_rd 6 ?vR6 (by kernel_rfl) (fun _ _ d _ _ h => by cases d <;> exact h) (by kernel_rfl) HS rfl rfl rfl (fun w' hS => ?hR6) ?_
      case hR6 => first | (go_simp; rfl) | go_simp
      simp only [List.setIfInBounds_toArray, List.set_cons_zero, List.set_cons_succ]
      refine lx_rd 7 (.string s) (by kernel_rfl) (fun _ _ d _ _ h => by cases d <;> exact h) (by kernel_rfl) HS rfl rfl rfl (fun w' hS => ?hR7) ?_
      case hR7 => have hq := hS.2; first | (go_simp; rfl) | go_simp
      simp only [List.setIfInBounds_toArray, List.set_cons_zero, List.set_cons_succ]
      refine lx_rd 8 ?vR8 (by kernel_rfl) (fun _ _ d _ _ h => by cases d <;> exact h) (by kernel_rfl) HS rfl rfl rfl (fun w' hS => ?hR8) ?_
      case hR8 => first | (go_simp; rfl) | go_simp
      simp only [List.setIfInBounds_toArray, List.set_cons_zero, List.set_cons_succ]
      refine lx_nil (by kernel_rfl) ?_
      go_wp2
      go_roundw
      case rel => exact ⟨k + 1, by omega, by go_num, hbd⟩
      case measure => simp [intOf]; omega
    · go_wp2
      go_ret
      exact ⟨rfl, hb⟩

theorem same64 (x y : Nat) (h : bitsv x = bitsv y) (w : World) : Calls Tryd.prog 45 #[.float .f64 x, .float .f64 y] w fun e w' => e = .returned (.bool true) ∧ w' = w := by
  have hx := refBits_any x
  have hy := refBits_any y
  rw [h] at hx
  generalize bitsv y = z at hx hy
  have tok : True := trivial
  go_enter Tryd.func45, Tryd.ntmps45
  go_wp2_with (first
    | (go_at_call 56; clear tok; refine (hx _).mono ?_; rintro e w1 ⟨rfl, rfl⟩)
    | (go_at_call 56; refine (hy _).mono ?_; rintro e w2 ⟨rfl, rfl⟩))
  go_ret
  simp

set_option maxHeartbeats 1600000 in
theorem same_true (K : Int) (I : Nat) (A B T : ByteArray) (la : Option Addr) (ln lc : Nat) (N : Int) (F F' : Nat) (la' : Option Addr) (lc' : Nat) (L : List ByteArray) (w : World) (h : SRd w la ln lc L) (h' : SRd w la' ln lc' L) (hF : bitsv F = bitsv F') :
    Calls Tryd.prog 18 #[.agg #[.int .i64 K, .int .u64 I, .string A, .string B, .string T, .slice la ln lc, .int .i64 N, .float .f64 F], .agg #[.int .i64 K, .int .u64 I, .string A, .string B, .string T, .slice la' ln lc', .int .i64 N, .float .f64 F']] w fun e w' => e = .returned (.bool true) ∧ Below w.heap.size w w' := by
  have hA := str_beq A
  have hB := str_beq B
  have hT := str_beq T
  have hb1 : Below w.heap.size w ((w.alloc (.cells #[.int .i64 K, .int .u64 I, .string A, .string B, .string T, .slice la ln lc, .int .i64 N, .float .f64 F] 26)).alloc (.cells #[.int .i64 K, .int .u64 I, .string A, .string B, .string T, .slice la' ln lc', .int .i64 N, .float .f64 F'] 26)) := ((Below.refl _ _).alloc (Nat.le_refl _) _).alloc (by simp) _
  have hz1 := (SzAt.new (K := K) (I := I) (A := A) (B := B) (T := T) (la := la) (ln := ln) (lc := lc) (N := N) (F := F) w).carry ((Below.refl _ _).alloc (Nat.le_refl _) (.cells #[.int .i64 K, .int .u64 I, .string A, .string B, .string T, .slice la' ln lc', .int .i64 N, .float .f64 F'] 26))
  have hz2 := SzAt.new (K := K) (I := I) (A := A) (B := B) (T := T) (la := la') (ln := ln) (lc := lc') (N := N) (F := F') (w.alloc (.cells #[.int .i64 K, .int .u64 I, .string A, .string B, .string T, .slice la ln lc, .int .i64 N, .float .f64 F] 26))
  have hsz : (w.alloc (.cells #[.int .i64 K, .int .u64 I, .string A, .string B, .string T, .slice la ln lc, .int .i64 N, .float .f64 F] 26)).heap.size = w.heap.size + 1 := by simp
  rw [hsz] at hz2
  have cS := kSame_true la ln lc la' lc' L _ (h.carry hb1) (h'.carry hb1)
  go_enter Tryd.func18, Tryd.ntmps18
  go_wp2_with (first
    | (go_at_call 44; refine cS.mono ?_; rintro e w3 ⟨rfl, hb3⟩; have y1 := (hz1.carry hb3).c6; have y2 := (hz2.carry hb3).c6; have y3 := (hz1.carry hb3).c7; have y4 := (hz2.carry hb3).c7)
    | (go_at_call 45; refine (same64 F F' hF _).mono ?_; rintro e w4 ⟨rfl, hw4⟩; replace hw4 := hw4.symm; subst hw4))
  go_ret
  exact ⟨rfl, hb1.trans (hb3.mono hb1.size)⟩

end Go.Proofs.YtomkcmkbehcjnaaDoor
