/- octet.unfolded and octet.Int. -/
import Derived.Test.YtomkcmkbehcjnaaDoorUint
import Derived.Test.YtomkcmkbehcjnaaDoorPutI
import Derived.Test.YtomkcmkbehcjnaaDoorExt
namespace Go.Proofs.YtomkcmkbehcjnaaDoor
open Go.RowKit

def unfv (u : Nat) : Int := if u % 2 = 1 then -((u / 2 : Nat) : Int) - 1 else ((u / 2 : Nat) : Int)

theorem unf_fold (n : Int) : unfv (foldv n) = n := by
  unfold unfv foldv
  by_cases h : n < 0
  · rw [if_pos h, if_pos (by omega)]; omega
  · rw [if_neg h, if_neg (by omega)]; omega
theorem fold_unf (u : Nat) : foldv (unfv u) = u := by
  unfold unfv
  by_cases h : u % 2 = 1
  · rw [if_pos h]; unfold foldv; rw [if_pos (by omega)]; omega
  · rw [if_neg h]; unfold foldv; rw [if_neg (by omega)]; omega

set_option maxHeartbeats 800000 in
theorem unfolded_any (u : Nat) (w : World) (hu : u < 18446744073709551616) : Calls Tryd.prog 81 #[.int .u64 u] w fun e w' => e = .returned (.int .i64 (unfv u)) ∧ w' = w := by
  by_cases h : u % 2 = 1
  · have HF : Hid (unfv u = -((u / 2 : Nat) : Int) - 1) := (by unfold unfv; rw [if_pos h] : unfv u = -((u / 2 : Nat) : Int) - 1)
    have h1 : ((u : Int) % 2 == 1) = true := by simp; omega
    have hx := not_i64 ((u : Int) / 2) (by omega) (by omega)
    clear h
    go_enter Tryd.func81, Tryd.ntmps81
    go_wp2
    go_ret
    refine ⟨ret_int ?_, rfl⟩
    rw [HF.out]
    omega
  · have HF : Hid (unfv u = ((u / 2 : Nat) : Int)) := (by unfold unfv; rw [if_neg h] : unfv u = ((u / 2 : Nat) : Int))
    have h1 : ((u : Int) % 2 == 1) = false := by simp; omega
    clear h
    go_enter Tryd.func81, Tryd.ntmps81
    go_wp2
    go_ret
    refine ⟨ret_int ?_, rfl⟩
    rw [HF.out]
    omega

theorem scan_lt (xs : List Int) : ∀ i acc, Bd xs → i ≤ 9 → acc < 2 ^ (7 * i) → (scan xs i acc).1 < 18446744073709551616 := by
  induction xs with
  | nil => intro i acc _ _ _; simp [scan]
  | cons c r ih =>
    intro i acc hb hi ha
    have hc := hb c (List.mem_cons_self ..)
    rw [scan]
    split
    · decide
    · rename_i h9
      have hov := or_val (acc := acc) (k := i) (z := c) hc.1 hc.2 hi (fun h => by omega) ha
      split
      · refine ih _ _ (fun x hx => hb x (List.mem_cons_of_mem _ hx)) ?_ hov.2.1
        rename_i h128
        rcases Nat.lt_or_ge i 9 with g | g
        · omega
        · have : i = 9 := by omega
          omega
      · split
        · decide
        · exact hov.2.2

set_option maxHeartbeats 1600000 in
theorem int_any (a : Option Addr) (n c : Nat) (xs : List Int) (w : World) (hR : Rd w a n c xs) (hn : n ≤ 1000000) :
    Calls Tryd.prog 74 #[.slice a n c] w fun e w' =>
      ((scan xs 0 0).2.2 ≠ 0 ∧ e = .returned (.tuple #[.int .i64 0, .slice none 0 0, .int .i64 (scan xs 0 0).2.2]) ∧ Ext w w') ∨
      ((scan xs 0 0).2.2 = 0 ∧ ∃ v, e = .returned (.tuple #[.int .i64 (unfv (scan xs 0 0).1), v, .int .i64 0]) ∧ w'.ownsRow w.heap.size 5 1 v (n - (scan xs 0 0).2.1) (bc (xs.drop (scan xs 0 0).2.1)) ∧ Ext w w') := by
  have hsl := (scan_le xs 0 0).1
  have hlt := scan_lt xs 0 0 hR.bytes (by omega) (by decide)
  have hl := hR.len
  have hcp := hR.cap
  have hmost : c ≤ 9223372036854775807 := hR.most
  have HN := number_any a n c xs w hR
  obtain ⟨p, s, e, hs⟩ : ∃ p s e, scan xs 0 0 = (p, s, e) := ⟨_, _, _, rfl⟩
  rw [hs] at hsl HN hlt
  rw [hs]
  simp only at hsl HN hlt ⊢
  clear hs
  have hsn : s ≤ n := by omega
  by_cases he : e = 0
  · subst he
    by_cases hcs : c = s
    · subst hcs
      go_enter Tryd.func74, Tryd.ntmps74
      go_wp2_with (first
        | (go_at_call 70; refine HN.mono ?_; rintro e w' ⟨rfl, rfl⟩))
      refine wp_region_seq [(0, true), (2, true), (3, true), (4, true), (1, false), (5, false), (6, true), (7, true), (8, true)] (by kernel_rfl) (by kernel_rfl) (by kernel_rfl) (by kernel_rfl) (fun _ _ d _ _ h => by cases d <;> exact h) ?_
      refine seqX_read ?v0 rfl rfl rfl (fun w'' hE => ?h0) ?_
      case h0 => first | (go_simp; rfl) | go_simp
      simp only [List.setIfInBounds_toArray, List.set_cons_zero, List.set_cons_succ]
      refine seqX_read ?v2 rfl rfl rfl (fun w'' hE => ?h2) ?_
      case h2 => first | (go_simp; rfl) | go_simp
      simp only [List.setIfInBounds_toArray, List.set_cons_zero, List.set_cons_succ]
      refine seqX_read ?v3 rfl rfl rfl (fun w'' hE => ?h3) ?_
      case h3 => first | (go_simp; rfl) | go_simp
      simp only [List.setIfInBounds_toArray, List.set_cons_zero, List.set_cons_succ]
      refine seqX_read ?v4 rfl rfl rfl (fun w'' hE => ?h4) ?_
      case h4 => first | (go_simp; rfl) | go_simp
      simp only [List.setIfInBounds_toArray, List.set_cons_zero, List.set_cons_succ]
      refine seqX_call 81 ?a1 rfl rfl rfl ?r1 ?_
      case r1 => first | (go_simp; rfl) | go_simp
      refine (unfolded_any p _ hlt).mono ?_
      rintro e w1 ⟨rfl, rfl⟩
      refine ⟨_, rfl, Ext.refl _, ?_⟩
      simp only [List.setIfInBounds_toArray, List.set_cons_zero, List.set_cons_succ]
      refine seqX_call 50 ?a5 rfl rfl rfl ?r5 ?_
      case r5 => first | (go_simp; rfl) | go_simp
      refine (behind0_any _ _ _ _ _ ((hR.carry (Nat.le_refl _) (Ext.refl _).drew).cutAll) (by omega)).mono ?_
      rintro e w2 ⟨rfl, hown2, hb2⟩
      refine ⟨_, rfl, hb2, ?_⟩
      simp only [List.setIfInBounds_toArray, List.set_cons_zero, List.set_cons_succ]
      refine seqX_read ?v6 rfl rfl rfl (fun w'' hE => ?h6) ?_
      case h6 => first | (go_simp; rfl) | go_simp
      simp only [List.setIfInBounds_toArray, List.set_cons_zero, List.set_cons_succ]
      refine seqX_read ?v7 rfl rfl rfl (fun w'' hE => ?h7) ?_
      case h7 => first | (go_simp; rfl) | go_simp
      simp only [List.setIfInBounds_toArray, List.set_cons_zero, List.set_cons_succ]
      refine seqX_read ?v8 rfl rfl rfl (fun w'' hE => ?h8) ?_
      case h8 => first | (go_simp; rfl) | go_simp
      simp only [List.setIfInBounds_toArray, List.set_cons_zero, List.set_cons_succ]
      refine seqX_done ?_
      go_wp2
      go_ret3
      have e1 : n - c = 0 := by omega
      have e2 : xs.drop c = [] := List.drop_of_length_le (by omega)
      refine .inr ⟨trivial, _, rfl, ?_, (Ext.refl _).drew.trans hb2⟩
      rw [e1, e2]
      exact hown2
    · go_enter Tryd.func74, Tryd.ntmps74
      go_wp2_with (first
        | (go_at_call 70; refine HN.mono ?_; rintro e w' ⟨rfl, rfl⟩))
      refine wp_region_seq [(0, true), (2, true), (3, true), (4, true), (1, false), (5, false), (6, true), (7, true), (8, true)] (by kernel_rfl) (by kernel_rfl) (by kernel_rfl) (by kernel_rfl) (fun _ _ d _ _ h => by cases d <;> exact h) ?_
      refine seqX_read ?vb0 rfl rfl rfl (fun w'' hE => ?hb0) ?_
      case hb0 => first | (go_simp; rfl) | go_simp
      simp only [List.setIfInBounds_toArray, List.set_cons_zero, List.set_cons_succ]
      refine seqX_read ?vb2 rfl rfl rfl (fun w'' hE => ?hb2) ?_
      case hb2 => first | (go_simp; rfl) | go_simp
      simp only [List.setIfInBounds_toArray, List.set_cons_zero, List.set_cons_succ]
      refine seqX_read ?vb3 rfl rfl rfl (fun w'' hE => ?hb3) ?_
      case hb3 => first | (go_simp; rfl) | go_simp
      simp only [List.setIfInBounds_toArray, List.set_cons_zero, List.set_cons_succ]
      refine seqX_read ?vb4 rfl rfl rfl (fun w'' hE => ?hb4) ?_
      case hb4 => first | (go_simp; rfl) | go_simp
      simp only [List.setIfInBounds_toArray, List.set_cons_zero, List.set_cons_succ]
      refine seqX_call 81 ?ab1 rfl rfl rfl ?rb1 ?_
      case rb1 => first | (go_simp; rfl) | go_simp
      refine (unfolded_any p _ hlt).mono ?_
      rintro e w1 ⟨rfl, rfl⟩
      refine ⟨_, rfl, Ext.refl _, ?_⟩
      simp only [List.setIfInBounds_toArray, List.set_cons_zero, List.set_cons_succ]
      refine seqX_call 50 ?ab5 rfl rfl rfl ?rb5 ?_
      case rb5 => first | (go_simp; rfl) | go_simp
      refine (behind0_any _ _ _ _ _ ((hR.carry (Nat.le_refl _) (Ext.refl _).drew).cut s) (by omega)).mono ?_
      rintro e w2 ⟨rfl, hown2, hb2⟩
      refine ⟨_, rfl, hb2, ?_⟩
      simp only [List.setIfInBounds_toArray, List.set_cons_zero, List.set_cons_succ]
      refine seqX_read ?vb6 rfl rfl rfl (fun w'' hE => ?hb6) ?_
      case hb6 => first | (go_simp; rfl) | go_simp
      simp only [List.setIfInBounds_toArray, List.set_cons_zero, List.set_cons_succ]
      refine seqX_read ?vb7 rfl rfl rfl (fun w'' hE => ?hb7) ?_
      case hb7 => first | (go_simp; rfl) | go_simp
      simp only [List.setIfInBounds_toArray, List.set_cons_zero, List.set_cons_succ]
      refine seqX_read ?vb8 rfl rfl rfl (fun w'' hE => ?hb8) ?_
      case hb8 => first | (go_simp; rfl) | go_simp
      simp only [List.setIfInBounds_toArray, List.set_cons_zero, List.set_cons_succ]
      refine seqX_done ?_
      go_wp2
      go_ret3
      exact .inr ⟨trivial, _, rfl, hown2, (Ext.refl _).drew.trans hb2⟩
  · have he' : ((e : Int) != 0) = true := by simp; omega
    go_enter Tryd.func74, Tryd.ntmps74
    go_wp2_with (first
      | (go_at_call 70; refine HN.mono ?_; rintro e w' ⟨rfl, rfl⟩))
    go_ret3
    exact .inl ⟨he, rfl, Ext.refl _⟩

end Go.Proofs.YtomkcmkbehcjnaaDoor
