/- Texts of one seat, one behind the other: DkZc, RlH, RlI, RlK, LgY. -/
import Derived.Test.YtikkieaokfailaaGreatDoorM9
import Derived.Test.YtikkieaokfailaaGreatDoorM7
import Derived.Lib.SlBytesConst
import Derived.BigFrame
namespace Go.Proofs.YtikkieaokfailaaGreatDoor
open Go.RowKit Go.Joins
set_option maxRecDepth 100000 in
set_option maxHeartbeats 4000000 in
theorem refCut_arg (rd : Nat) (G : Nat → Prop) (k : Dk) (s : Nm) (f : Fle) (z : Int) (hz : ¬ (0 ≤ z ∧ z ≤ (f.b.length : Int))) (w : World) (hR : RefAt w G rd k) (hlk : look k.fs s = some f)
  (hF : Calls Tryz.prog 55 #[.pointer (some ⟨rd, 0, none⟩), .string s, .bool true] w fun e w' => e = .returned (.int .i64 0) ∧ w' = w) :
  Calls Tryz.prog 128 #[.pointer (some ⟨rd, 0, none⟩), .string s, .int .i64 z] w fun e w' => e = .returned (.int .i64 1) ∧ w' = w := by
 obtain ⟨j, hj, hix, hjl⟩ := ixL_some hlk 0
 rw [Nat.zero_add] at hj
 have hA := at_any rd G k s w hR
 rw [hj] at hA
 obtain ⟨g0, cap0, aj, cj, q0, hcap0, _, q1, _, _, hRj, _, _⟩ := hR.rowj hix
 obtain ⟨N, HN⟩ : ∃ N, Hid (k.fs.length = N) := ⟨_, rfl⟩
 obtain ⟨ln, HLn⟩ : ∃ ln, Hid (f.b.length = ln) := ⟨_, rfl⟩
 rw [HN.out] at q0 hcap0 hjl
 rw [HLn.out] at q1 hRj hz
 have hlen1 := fun w => len_slice aj ln cj 29 3 w Tryz.underlying29
 have hjN0 : (0 : Int) ≤ (j : Int) := by omega
 have hjN : (j : Int) < (N : Int) := by omega
 clear hR hix hj hlk hRj
 by_cases h0 : z < 0
 ·clear hz
  go_enter Tryz.func128, Tryz.ntmps128
  go_wp2_with (first
   | (go_at_call 55; refine hF.mono ?_; rintro e w1 ⟨rfl, hw1⟩; replace hw1 := hw1.symm; subst hw1)
   | (go_at_call 57; refine hA.mono ?_; rintro e w3 ⟨rfl, hw3⟩; replace hw3 := hw3.symm; subst hw3))
  go_ret
  exact ⟨rfl, rfl⟩
 ·have h1 : (ln : Int) < z := by omega
  clear hz
  go_enter Tryz.func128, Tryz.ntmps128
  go_wp2_with (first
   | (go_at_call 55; refine hF.mono ?_; rintro e w1 ⟨rfl, hw1⟩; replace hw1 := hw1.symm; subst hw1)
   | (go_at_call 57; refine hA.mono ?_; rintro e w3 ⟨rfl, hw3⟩; replace hw3 := hw3.symm; subst hw3))
  go_ret
  exact ⟨rfl, rfl⟩
theorem cutF_good {k : Dk} (hg : k.Good) {s : Nm} (hnm : isNm s = true) {f : Fle} (hlk : look k.fs s = some f) {z n : Nat} (hz : z ≤ f.b.length) (hn : n ≤ z) : ({ k with fs := putL k.fs s ⟨f.b.take z, n⟩ } : Dk).Good := by
 obtain ⟨_, hsf, hbd⟩ := look_good hg hlk
 have hup := used_put k.fs hg.rise s ⟨f.b.take z, n⟩
 rw [hlk] at hup
 have hle : lenO (some f) = f.b.length := rfl
 have hcl : (⟨f.b.take z, n⟩ : Fle).b.length = z := by show (f.b.take z).length = z; rw [List.length_take]; omega
 rw [hle, hcl] at hup
 have h := hg.used
 exact good_put hg hnm (by rw [hcl]; exact hn) (hbd.take z) (by omega)
set_option maxRecDepth 100000 in
set_option maxHeartbeats 8000000 in
theorem refCut_go (rd : Nat) (G : Nat → Prop) (k : Dk) (s : Nm) (f : Fle) (z : Nat) (hz : z ≤ f.b.length) (hnm : isNm s = true) (hst : k.steps < 1000000) (w : World) (hR : RefAt w G rd k) (hlk : look k.fs s = some f)
  (hF : Calls Tryz.prog 55 #[.pointer (some ⟨rd, 0, none⟩), .string s, .bool true] w fun e w' => e = .returned (.int .i64 0) ∧ w' = w) :
  Calls Tryz.prog 128 #[.pointer (some ⟨rd, 0, none⟩), .string s, .int .i64 (z : Int)] w fun e w' => ((passK k).1 ≠ 0 ∧ e = .returned (.int .i64 ((passK k).1 : Int)) ∧ Rp w G rd (passK k).2 w') ∨ ((passK k).1 = 0 ∧ e = .returned (.int .i64 0) ∧ Rp w G rd { (passK k).2 with fs := putL (passK k).2.fs s (cutF f z) } w') := by
 obtain ⟨j, hj, hix0, hjl⟩ := ixL_some hlk 0
 rw [Nat.zero_add] at hj
 have hA := at_any rd G k s w hR
 rw [hj] at hA
 obtain ⟨gA, capA, aA, cA, qA0, hcapA, _, qA1, _, _, hRA, _, _⟩ := hR.rowj hix0
 obtain ⟨ln, HLn⟩ : ∃ ln, Hid (f.b.length = ln) := ⟨_, rfl⟩
 obtain ⟨M, HM⟩ : ∃ M, Hid (k.fs.length = M) := ⟨_, rfl⟩
 rw [HM.out] at qA0 hcapA
 have hfle : f.b.length ≤ 16777216 := Nat.le_trans (used_mem (look_mem hlk)) (Nat.le_trans hR.good.used hR.good.room)
 have hP := power_any rd G k hst w hR
 have hpfs := pass_fs k
 have hgp := good_pass hR.good
 obtain ⟨P, HPe⟩ : ∃ P, Hid (passK k = P) := ⟨_, rfl⟩
 rw [HPe.out] at hP hpfs hgp ⊢
 obtain ⟨en, k1⟩ := P
 dsimp only at hP hpfs hgp ⊢
 have hlk1 : look k1.fs s = some f := by rw [hpfs]; exact hlk
 have hgC : ∀ n, n ≤ z → ({ k1 with fs := putL k1.fs s ⟨f.b.take z, n⟩ } : Dk).Good := fun n hn => cutF_good hgp hnm hlk1 hz hn
 rw [← hpfs] at hix0 hjl
 have hix : Hid (k1.fs[j]? = some (s, f)) := hix0
 have hjM : j < M := by rw [← HM.out, ← hpfs]; exact hjl
 rw [HLn.out] at qA1 hz hfle
 have hlen1 := fun w => len_slice aA ln cA 29 3 w Tryz.underlying29
 have hz0 : ¬ (z : Int) < 0 := by omega
 have hz2 : ¬ (ln : Int) < (z : Int) := by omega
 have hz3 : (0 : Int) ≤ (z : Int) := by omega
 have hjA0 : (0 : Int) ≤ (j : Int) := by omega
 have hjA : (j : Int) < (M : Int) := by omega
 clear HPe hix0 hj hlk hlk1 hRA
 by_cases hen : en = 0
 ·subst hen
  have hfin : ∀ e' (w' : World), (e' = Ending.returned (.int .i64 0) ∧ Rp w G rd { k1 with fs := putL k1.fs s (cutF f z) } w') → ((0 : Nat) ≠ 0 ∧ e' = Ending.returned (.int .i64 ((0 : Nat) : Int)) ∧ Rp w G rd k1 w') ∨ ((0 : Nat) = 0 ∧ e' = Ending.returned (.int .i64 0) ∧ Rp w G rd { k1 with fs := putL k1.fs s (cutF f z) } w') := fun e' w' h => Or.inr ⟨rfl, h⟩
  refine Calls.mono ?_ hfin
  by_cases hsz : z < f.safe
  ·have hgN := hgC z (Nat.le_refl _)
   have hcf : cutF f z = ⟨f.b.take z, z⟩ := by unfold cutF; rw [Nat.min_eq_right (by omega)]
   rw [hcf]
   go_enter Tryz.func128, Tryz.ntmps128
   go_upto_region 9 with (first
    | (go_at_call 55; refine hF.mono ?_; rintro e w1 ⟨rfl, hw1⟩; replace hw1 := hw1.symm; subst hw1)
    | (go_at_call 57; refine hA.mono ?_; rintro e w3 ⟨rfl, hw3⟩; replace hw3 := hw3.symm; subst hw3)
    | (go_at_call 56; refine hP.mono ?_; rintro e w2 ⟨rfl, G2, hR2, hk2, hG2⟩))
   clear qA0 qA1 hlen1 hcf hfin
   refine wp_region_lx (fun w' => Below w2.drew.heap.size w2.drew w') [19] 20 (by kernel_rfl) (by kernel_rfl) ?_
   have hVX : Below w2.heap.size w2 w2.drew := (Below.refl _ _).drew
   have hRX := hR2.below hVX
   clear hA hF hP
   obtain ⟨g0, cap0, aj, cj, q0, hcap0, _, q1, _, _, hRj, _, _⟩ := hRX.rowj hix.out
   obtain ⟨N, HN⟩ : ∃ N, Hid (k1.fs.length = N) := ⟨_, rfl⟩
   rw [HN.out] at q0 hcap0 hjl
   rw [HLn.out] at q1 hRj
   have hcF : ∀ w', Below w2.drew.heap.size w2.drew w' → w'.cell? ⟨rd, 0, none⟩ = some (.slice (some ⟨g0, 0, none⟩) N cap0) := fun w' hb => (hb.cell (p := ⟨rd, 0, none⟩) (World.block_lt_of_cell? _ _ q0)).trans q0
   have hcB : ∀ w', Below w2.drew.heap.size w2.drew w' → w'.cell? ⟨g0, j * 3 + 1, none⟩ = some (.slice aj ln cj) := fun w' hb => (hb.cell (p := ⟨g0, j * 3 + 1, none⟩) (World.block_lt_of_cell? _ _ q1)).trans q1
   have hjN0 : (0 : Int) ≤ (j : Int) := by omega
   have hjN : (j : Int) < (N : Int) := by omega
   have hcj := hRj.cap
   have hz1 : (z : Int) ≤ (cj : Int) := by omega
   clear q0 q1
   generalize w2.drew = X at *
   have HSX : Below X.heap.size X X := Below.refl _ _
   refine lx_r 0 _ HSX ?_; simp only [lxa, lxb, lxc]
   refine lx_r 1 _ HSX ?_; simp only [lxa, lxb, lxc]
   refine lx_r 2 _ HSX ?_; simp only [lxa, lxb, lxc]
   refine lx_r 3 (.slice (some ⟨g0, 0, none⟩) N cap0) HSX ?_ (hv := fun w' hS => by have q := hcF _ hS; first | (go_simp; rfl) | go_simp); simp only [lxa, lxb, lxc]
   refine lx_r 4 _ HSX ?_; simp only [lxa, lxb, lxc]
   refine lx_r 6 _ HSX ?_; simp only [lxa, lxb, lxc]
   refine lx_r 7 _ HSX ?_; simp only [lxa, lxb, lxc]
   refine lx_r 8 _ HSX ?_; simp only [lxa, lxb, lxc]
   refine lx_r 9 (.slice (some ⟨g0, 0, none⟩) N cap0) HSX ?_ (hv := fun w' hS => by have q := hcF _ hS; first | (go_simp; rfl) | go_simp); simp only [lxa, lxb, lxc]
   refine lx_r 10 _ HSX ?_; simp only [lxa, lxb, lxc]
   refine lx_r 11 (.pointer (some ⟨g0, j * 3, none⟩)) HSX ?_; simp only [lxa, lxb, lxc]
   refine lx_r 12 (.pointer (some ⟨g0, j * 3 + 1, none⟩)) HSX ?_; simp only [lxa, lxb, lxc]
   refine lx_r 13 (.slice aj ln cj) HSX ?_ (hv := fun w' hS => by have q := hcB _ hS; first | (go_simp; rfl) | go_simp); simp only [lxa, lxb, lxc]
   refine lx_r 14 _ HSX ?_; simp only [lxa, lxb, lxc]
   refine lx_r 15 (.slice aj z cj) HSX ?_; simp only [lxa, lxb, lxc]
   have hX0 : Below X.heap.size X (X.alloc (.cells #[] 5)) := (Below.refl _ _).alloc (Nat.le_refl _) _
   have hemp : (X.alloc (.cells #[] 5)).ownsRow X.heap.size 5 1 (.slice (some ⟨X.heap.size, 0, none⟩) 0 0) 0 (bc []) := World.ownsRow_made X #[] 0 (Nat.le_refl _) (by unfold maxLen; omega) rfl
   refine lx_one 5 (by kernel_rfl) (stepT_val (w' := X.alloc (.cells #[] 5)) (.slice (some ⟨X.heap.size, 0, none⟩) 0 0) rfl rfl rfl ?r5x (fun _ => hX0) ?_)
   case r5x => first | (go_simp; rfl) | go_simp
   simp only [lxa, lxb, lxc]
   obtain ⟨v5, w5, hrun5, o5, hb5⟩ := run_appJ 29 hemp ((hRj.takeK hz).carry (Nat.le_refl _) hX0) (by omega) hX0.size
   have hb5' := hX0.trans hb5
   refine lx_one 16 (by kernel_rfl) (stepT_val (w' := w5) v5 rfl rfl rfl (exec_appJ rfl rfl rfl hrun5) (fun _ => hb5') ?_)
   simp only [lxa, lxb, lxc]
   rw [Nat.zero_add, List.nil_append] at o5
   obtain ⟨a6, c6, rfl, hn6⟩ := Rd.ofRowE o5
   have hbl : (f.b.take z).length = z := by rw [List.length_take, HLn.out]; omega
   have o6' : w5.ownsRow X.heap.size 5 1 (.slice a6 z c6) (f.b.take z).length (bc (f.b.take z)) := by rw [hbl]; exact o5
   obtain ⟨g, cap, r0, hcap, ⟨u, r1⟩, r2, t0, t1, t2, t3, hRp⟩ := hRX.setBS hb5' hix.out o6' hgN
   rw [HN.out] at t0
   have hgg : g = g0 := by have h := hcF _ hb5'; rw [r0] at h; injection h with h; injection h with h _ _; injection h with h; injection h
   subst hgg
   refine lx_one 17 (by kernel_rfl) (stepT_val (w' := w5) (.pointer (some ⟨g, j * 3, none⟩)) rfl rfl rfl ?r17x (fun _ => hb5') ?_)
   case r17x => first | (go_simp; rfl) | go_simp
   simp only [lxa, lxb, lxc]
   refine lx_one 18 (by kernel_rfl) (stepT_val (w' := w5) (.pointer (some ⟨g, j * 3 + 1, none⟩)) rfl rfl rfl ?r18x (fun _ => hb5') ?_)
   case r18x => first | (go_simp; rfl) | go_simp
   simp only [lxa, lxb, lxc]
   refine lx_one 19 (by kernel_rfl) (stepT_store (w' := w5.setCell ⟨g, j * 3 + 1, none⟩ (.slice a6 z c6)) rfl rfl rfl ?r19x (fun h => by cases h) ?_)
   case r19x => first | (go_simp; rfl) | go_simp
   refine lx_nil (by kernel_rfl) ?_
   generalize w5.setCell ⟨g, j * 3 + 1, none⟩ (.slice a6 z c6) = Y at *
   clear r0 r1 r2 hcF hcB
   have hgt : (z : Int) < (f.safe : Int) := by omega
   go_wp2
   go_ret
   exact ⟨rfl, Rp.next hk2 hG2 (Rp.next (Keep.ofBelow hVX) (fun i hi => Or.inl hi) hRp)⟩
  ·have hgN := hgC f.safe (by omega)
   have hgM := hgC z (Nat.le_refl _)
   have hcf : cutF f z = ⟨f.b.take z, f.safe⟩ := by unfold cutF; rw [Nat.min_eq_left (by omega)]
   rw [hcf]
   go_enter Tryz.func128, Tryz.ntmps128
   go_upto_region 9 with (first
    | (go_at_call 55; refine hF.mono ?_; rintro e w1 ⟨rfl, hw1⟩; replace hw1 := hw1.symm; subst hw1)
    | (go_at_call 57; refine hA.mono ?_; rintro e w3 ⟨rfl, hw3⟩; replace hw3 := hw3.symm; subst hw3)
    | (go_at_call 56; refine hP.mono ?_; rintro e w2 ⟨rfl, G2, hR2, hk2, hG2⟩))
   clear qA0 qA1 hlen1 hcf hfin
   refine wp_region_lx (fun w' => Below w2.drew.heap.size w2.drew w') [19] 20 (by kernel_rfl) (by kernel_rfl) ?_
   have hVX : Below w2.heap.size w2 w2.drew := (Below.refl _ _).drew
   have hRX := hR2.below hVX
   clear hA hF hP
   obtain ⟨g0, cap0, aj, cj, q0, hcap0, _, q1, _, _, hRj, _, _⟩ := hRX.rowj hix.out
   obtain ⟨N, HN⟩ : ∃ N, Hid (k1.fs.length = N) := ⟨_, rfl⟩
   rw [HN.out] at q0 hcap0 hjl
   rw [HLn.out] at q1 hRj
   have hcF : ∀ w', Below w2.drew.heap.size w2.drew w' → w'.cell? ⟨rd, 0, none⟩ = some (.slice (some ⟨g0, 0, none⟩) N cap0) := fun w' hb => (hb.cell (p := ⟨rd, 0, none⟩) (World.block_lt_of_cell? _ _ q0)).trans q0
   have hcB : ∀ w', Below w2.drew.heap.size w2.drew w' → w'.cell? ⟨g0, j * 3 + 1, none⟩ = some (.slice aj ln cj) := fun w' hb => (hb.cell (p := ⟨g0, j * 3 + 1, none⟩) (World.block_lt_of_cell? _ _ q1)).trans q1
   have hjN0 : (0 : Int) ≤ (j : Int) := by omega
   have hjN : (j : Int) < (N : Int) := by omega
   have hcj := hRj.cap
   have hz1 : (z : Int) ≤ (cj : Int) := by omega
   clear q0 q1
   generalize w2.drew = X at *
   have HSX : Below X.heap.size X X := Below.refl _ _
   refine lx_r 0 _ HSX ?_; simp only [lxa, lxb, lxc]
   refine lx_r 1 _ HSX ?_; simp only [lxa, lxb, lxc]
   refine lx_r 2 _ HSX ?_; simp only [lxa, lxb, lxc]
   refine lx_r 3 (.slice (some ⟨g0, 0, none⟩) N cap0) HSX ?_ (hv := fun w' hS => by have q := hcF _ hS; first | (go_simp; rfl) | go_simp); simp only [lxa, lxb, lxc]
   refine lx_r 4 _ HSX ?_; simp only [lxa, lxb, lxc]
   refine lx_r 6 _ HSX ?_; simp only [lxa, lxb, lxc]
   refine lx_r 7 _ HSX ?_; simp only [lxa, lxb, lxc]
   refine lx_r 8 _ HSX ?_; simp only [lxa, lxb, lxc]
   refine lx_r 9 (.slice (some ⟨g0, 0, none⟩) N cap0) HSX ?_ (hv := fun w' hS => by have q := hcF _ hS; first | (go_simp; rfl) | go_simp); simp only [lxa, lxb, lxc]
   refine lx_r 10 _ HSX ?_; simp only [lxa, lxb, lxc]
   refine lx_r 11 (.pointer (some ⟨g0, j * 3, none⟩)) HSX ?_; simp only [lxa, lxb, lxc]
   refine lx_r 12 (.pointer (some ⟨g0, j * 3 + 1, none⟩)) HSX ?_; simp only [lxa, lxb, lxc]
   refine lx_r 13 (.slice aj ln cj) HSX ?_ (hv := fun w' hS => by have q := hcB _ hS; first | (go_simp; rfl) | go_simp); simp only [lxa, lxb, lxc]
   refine lx_r 14 _ HSX ?_; simp only [lxa, lxb, lxc]
   refine lx_r 15 (.slice aj z cj) HSX ?_; simp only [lxa, lxb, lxc]
   have hX0 : Below X.heap.size X (X.alloc (.cells #[] 5)) := (Below.refl _ _).alloc (Nat.le_refl _) _
   have hemp : (X.alloc (.cells #[] 5)).ownsRow X.heap.size 5 1 (.slice (some ⟨X.heap.size, 0, none⟩) 0 0) 0 (bc []) := World.ownsRow_made X #[] 0 (Nat.le_refl _) (by unfold maxLen; omega) rfl
   refine lx_one 5 (by kernel_rfl) (stepT_val (w' := X.alloc (.cells #[] 5)) (.slice (some ⟨X.heap.size, 0, none⟩) 0 0) rfl rfl rfl ?r5y (fun _ => hX0) ?_)
   case r5y => first | (go_simp; rfl) | go_simp
   simp only [lxa, lxb, lxc]
   obtain ⟨v5, w5, hrun5, o5, hb5⟩ := run_appJ 29 hemp ((hRj.takeK hz).carry (Nat.le_refl _) hX0) (by omega) hX0.size
   have hb5' := hX0.trans hb5
   refine lx_one 16 (by kernel_rfl) (stepT_val (w' := w5) v5 rfl rfl rfl (exec_appJ rfl rfl rfl hrun5) (fun _ => hb5') ?_)
   simp only [lxa, lxb, lxc]
   rw [Nat.zero_add, List.nil_append] at o5
   obtain ⟨a6, c6, rfl, hn6⟩ := Rd.ofRowE o5
   have hbl : (f.b.take z).length = z := by rw [List.length_take, HLn.out]; omega
   have o6' : w5.ownsRow X.heap.size 5 1 (.slice a6 z c6) (f.b.take z).length (bc (f.b.take z)) := by rw [hbl]; exact o5
   obtain ⟨g, cap, r0, hcap, ⟨u, r1⟩, r2, hRp⟩ := hRX.setB hb5' hix.out o6' hgN
   have hbs := hRX.setBS (n := z) hb5' hix.out o6' hgM
   obtain ⟨g', cap', r0', _, _, _, t0, _, t2, _, _⟩ := hbs
   have hg' : g' = g := by rw [r0] at r0'; injection r0' with h; injection h with h _ _; injection h with h; injection h with h; exact h.symm
   rw [hg'] at t0 t2
   rw [HN.out] at t0
   have hgg : g = g0 := by have h := hcF _ hb5'; rw [r0] at h; injection h with h; injection h with h _ _; injection h with h; injection h
   subst hgg
   refine lx_one 17 (by kernel_rfl) (stepT_val (w' := w5) (.pointer (some ⟨g, j * 3, none⟩)) rfl rfl rfl ?r17y (fun _ => hb5') ?_)
   case r17y => first | (go_simp; rfl) | go_simp
   simp only [lxa, lxb, lxc]
   refine lx_one 18 (by kernel_rfl) (stepT_val (w' := w5) (.pointer (some ⟨g, j * 3 + 1, none⟩)) rfl rfl rfl ?r18y (fun _ => hb5') ?_)
   case r18y => first | (go_simp; rfl) | go_simp
   simp only [lxa, lxb, lxc]
   refine lx_one 19 (by kernel_rfl) (stepT_store (w' := w5.setCell ⟨g, j * 3 + 1, none⟩ (.slice a6 z c6)) rfl rfl rfl ?r19y (fun h => by cases h) ?_)
   case r19y => first | (go_simp; rfl) | go_simp
   refine lx_nil (by kernel_rfl) ?_
   generalize w5.setCell ⟨g, j * 3 + 1, none⟩ (.slice a6 z c6) = Y at *
   clear r0 r1 r2 hcF hcB
   have hgt : ¬ (z : Int) < (f.safe : Int) := by omega
   go_wp2
   go_ret
   rw [← hpfs]
   exact ⟨rfl, Rp.next hk2 hG2 (Rp.next (Keep.ofBelow hVX) (fun i hi => Or.inl hi) hRp)⟩
 ·have hne : ((en : Int) == 0) = false := by simp; omega
  go_enter Tryz.func128, Tryz.ntmps128
  go_wp2_with (first
   | (go_at_call 55; refine hF.mono ?_; rintro e w1 ⟨rfl, hw1⟩; replace hw1 := hw1.symm; subst hw1)
   | (go_at_call 57; refine hA.mono ?_; rintro e w3 ⟨rfl, hw3⟩; replace hw3 := hw3.symm; subst hw3)
   | (go_at_call 56; refine hP.mono ?_; rintro e w2 ⟨rfl, hRp⟩))
  go_ret
  exact Or.inl ⟨hen, rfl, hRp⟩
theorem refCut_any (rd : Nat) (G : Nat → Prop) (k : Dk) (s : Nm) (hs : s.size ≤ 9223372036854775807) (z : Int) (hst : k.steps < 1000000) (w : World) (hR : RefAt w G rd k) :
  Calls Tryz.prog 128 #[.pointer (some ⟨rd, 0, none⟩), .string s, .int .i64 z] w fun e w' => e = .returned (.int .i64 (cutK k s z).1) ∧ Rp w G rd (cutK k s z).2 w' := by
 have hF := first_any rd G k s hs true w hR
 unfold cutK
 rcases step_first k s (fun f => if 0 ≤ z ∧ z ≤ f.b.length then 0 else 1) (fun k f => { k with fs := putL k.fs s (cutF f z.toNat) }) with ⟨h0, e⟩ | ⟨h0, on, hnm, f, hlk, e⟩
 ·rw [e]
  dsimp only
  obtain ⟨en, hen⟩ : ∃ en, firstK k s true = en := ⟨_, rfl⟩
  rw [hen] at hF h0 ⊢
  have hne : ((en : Int) != 0) = true := by simp; omega
  have hRp := Rp.refl hR
  clear e hen hR
  go_enter Tryz.func128, Tryz.ntmps128
  go_wp2_with (first
   | (go_at_call 55; refine hF.mono ?_; rintro e w1 ⟨rfl, rfl⟩))
  go_ret
  exact ⟨rfl, hRp⟩
 ·rw [e]
  rw [h0] at hF
  by_cases hz : 0 ≤ z ∧ z ≤ (f.b.length : Int)
  ·obtain ⟨z', rfl⟩ := Int.eq_ofNat_of_zero_le hz.1
   rw [if_pos hz, if_neg (by simp), Int.toNat_natCast]
   refine (refCut_go rd G k s f z' (by omega) hnm hst w hR hlk hF).mono ?_
   rintro e w' (⟨h0, rfl, hDp⟩ | ⟨h0, rfl, hDp⟩)
   ·rw [if_pos h0]
    exact ⟨rfl, hDp⟩
   ·rw [if_neg (by simp [h0])]
    exact ⟨rfl, hDp⟩
  ·rw [if_neg hz, if_pos (by simp)]
   refine (refCut_arg rd G k s f z hz w hR hlk hF).mono ?_
   rintro e w' ⟨rfl, rfl⟩
   exact ⟨rfl, Rp.refl hR⟩
end Go.Proofs.YtikkieaokfailaaGreatDoor

namespace Go.Proofs.YtikkieaokfailaaGreatDoor
open Go.RowKit Go.Joins
def sgR (l : Lg) (i : Nat) (s : Nm) (k : Dk) (xs : List Int) : Nat × Bool × Lg × Dk :=
 if (scanF xs.length xs).2.2 then (0, true, ⟨l.most, l.recs ++ (scanF xs.length xs).1, { l.ch with cnt := i, size := (scanF xs.length xs).2.1 }, l.dn⟩, k)
 else ((cutK k s ((scanF xs.length xs).2.1 : Int)).1, false, ⟨l.most, l.recs ++ (scanF xs.length xs).1, { l.ch with cnt := i, size := (scanF xs.length xs).2.1 }, l.dn⟩, (cutK k s ((scanF xs.length xs).2.1 : Int)).2)
theorem Prod3.out {R1 : List (List Int)} {n1 : Nat} {WH : Bool} {a : List (List Int)} {b : Nat} {c : Bool} (h : (R1, n1, WH) = (a, b, c)) : R1 = a ∧ n1 = b ∧ WH = c := by cases h; exact ⟨rfl, rfl, rfl⟩
set_option maxRecDepth 100000 in
set_option maxHeartbeats 8000000 in
theorem rsegment_any (w : World) (G H : Nat → Prop) (rl rd : Nat) (l : Lg) (k : Dk) (i : Nat) (h : RLogAt w G H rl rd l k) (hg : l.ch.g < 18446744073709551616) (hi : i ≤ 1000000) (hst : k.steps < 999999) (hrl : l.recs.length + (readK k (segN l.ch.g i)).2.length ≤ 900000) :
  Calls Tryz.prog 96 #[.pointer (some ⟨rl, 0, none⟩), .int .i64 (i : Int)] w fun e w' => e = .returned (.tuple #[.int .i64 ((sgR l i (segN l.ch.g i) k (readK k (segN l.ch.g i)).2).1 : Int), .bool (sgR l i (segN l.ch.g i) k (readK k (segN l.ch.g i)).2).2.1]) ∧ Rgp w G H rl rd (sgR l i (segN l.ch.g i) k (readK k (segN l.ch.g i)).2).2.2.1 (sgR l i (segN l.ch.g i) k (readK k (segN l.ch.g i)).2).2.2.2 w' := by
 obtain ⟨v, hD, hRc⟩ := h.ex
 have hGl := hD.R.lt
 have hH := h.lt
 have hrlt := hD.lt
 have hss := segN_size l.ch.g i hg (by omega)
 have hbX : Below w.heap.size w w.drew := (Below.refl _ _).drew
 have hDX0 := hD.below hbX
 have hfi := rfile_any l.ch.g i hg (by omega) w.drew
 obtain ⟨s, Hs⟩ : ∃ s, Hid (segN l.ch.g i = s) := ⟨_, rfl⟩
 rw [Hs.out] at hrl hss hfi ⊢
 have hrd := fun w' (hb : Below w.heap.size w w') => refRead_any rd G k s (by omega) w' (hD.below hb).R
 have hbd : Bd (readK k s).2 := by
  rcases readK_cases' k s with ⟨f, hl, e⟩ | e
  ·rw [e]; dsimp only; exact (look_good hD.R.good hl).2.2
  ·rw [e]; exact Bd.nil
 obtain ⟨P, HP⟩ : ∃ P, Hid (readK k s = P) := ⟨_, rfl⟩
 simp only [HP.out] at hrd
 rw [HP.out] at hrl hbd ⊢
 obtain ⟨en, xs⟩ := P
 dsimp only at hrd hrl hbd ⊢
 obtain ⟨R, HR⟩ : ∃ R, Hid (sgR l i s k xs = R) := ⟨_, rfl⟩
 rw [HR.out]
 obtain ⟨eR, bR, lR, kR⟩ := R
 dsimp only
 have HS0 : w.drew.cell? ⟨rl, 0, none⟩ = some (.pointer (some ⟨rd, 0, none⟩)) ∧ w.drew.cell? ⟨rl, 2, none⟩ = some (.int .u64 (l.ch.g : Int)) := ⟨hDX0.c0, hDX0.c2⟩
 have hsh : w.heap.size = w.drew.heap.size := rfl
 go_enter Tryz.func96, Tryz.ntmps96
 go_upto_region 1 with fail
 refine wp_region_lx (fun w' => w'.cell? ⟨rl, 0, none⟩ = some (.pointer (some ⟨rd, 0, none⟩)) ∧ w'.cell? ⟨rl, 2, none⟩ = some (.int .u64 (l.ch.g : Int))) [] 16 (by kernel_rfl) (by kernel_rfl) ?_
 generalize w.drew = X at *
 refine lx_r 0 (.pointer (some ⟨rl, 0, none⟩)) HS0 ?_; simp only [lxa, lxb, lxc]
 refine lx_r 1 (.pointer (some ⟨rl, 0, none⟩)) HS0 ?_; simp only [lxa, lxb, lxc]
 refine lx_r 2 (.pointer (some ⟨rl, 0, none⟩)) HS0 ?_; simp only [lxa, lxb, lxc]
 refine lx_r 3 (.pointer (some ⟨rd, 0, none⟩)) HS0 ?_ (hv := fun w' hS => by have q := hS.1; first | (go_simp; rfl) | go_simp); simp only [lxa, lxb, lxc]
 refine lx_r 4 (.pointer (some ⟨rl, 0, none⟩)) HS0 ?_; simp only [lxa, lxb, lxc]
 refine lx_r 5 (.pointer (some ⟨rl, 0, none⟩)) HS0 ?_; simp only [lxa, lxb, lxc]
 refine lx_r 6 (.pointer (some ⟨rl, 2, none⟩)) HS0 ?_; simp only [lxa, lxb, lxc]
 refine lx_r 7 (.int .u64 (l.ch.g : Int)) HS0 ?_ (hv := fun w' hS => by have q := hS.2; first | (go_simp; rfl) | go_simp); simp only [lxa, lxb, lxc]
 refine lx_r 8 (.int .i64 (i : Int)) HS0 ?_; simp only [lxa, lxb, lxc]
 refine lx_one 9 (by kernel_rfl) (stepT_call 82 ?a9 rfl rfl rfl ?r9 ?_)
 case r9 => first | (go_simp; rfl) | go_simp
 refine hfi.mono ?_
 rintro e w2 ⟨rfl, hb2⟩
 have hD2 := hDX0.below hb2
 refine ⟨_, rfl, fun _ => ⟨hD2.c0, hD2.c2⟩, ?_⟩
 simp only [lxa, lxb, lxc]
 refine lx_one 10 (by kernel_rfl) (stepT_call 47 ?a10 rfl rfl rfl ?r10 ?_)
 case r10 => first | (go_simp; rfl) | go_simp
 refine (hrd w2 (hbX.trans (hb2.mono (by omega)))).mono ?_
 rintro e w3 ⟨v3, rfl, o3, hb3⟩
 obtain ⟨a6, c6, rfl, r6⟩ := Rd.ofOwn o3 hbd
 have hD3 := hD2.below hb3
 have HS3 := And.intro hD3.c0 hD3.c2
 refine ⟨_, rfl, fun _ => HS3, ?_⟩
 simp only [lxa, lxb, lxc]
 refine lx_r 11 _ HS3 ?_; simp only [lxa, lxb, lxc]
 refine lx_r 12 _ HS3 ?_; simp only [lxa, lxb, lxc]
 refine lx_r 13 _ HS3 ?_; simp only [lxa, lxb, lxc]
 refine lx_r 14 _ HS3 ?_; simp only [lxa, lxb, lxc]
 refine lx_r 15 _ HS3 ?_; simp only [lxa, lxb, lxc]
 refine lx_nil (by kernel_rfl) ?_
 have hbw3 : Below w.heap.size w w3 := (hbX.trans (hb2.mono (by omega))).trans (hb3.mono (by have := hb2.size; omega))
 have h3 := h.below hbw3
 have hs2 := hb2.size
 have hrowX : ∀ ad, a6 = some ad → w2.heap.size ≤ ad.block ∧ ad.block < w3.heap.size := fun ad had => by
  obtain ⟨ap, cp, e8, hob8⟩ := own_form o3
  exact o3.lt ad.block (by rw [had]; cases ap with | none => (rw [had] at e8; cases e8) | some g => (rw [had] at e8; cases e8; rfl))
 have hrow0 : ∀ ad, a6 = some ad → ∃ g, ad = ⟨g, 0, none⟩ := fun ad had => by
  obtain ⟨ap, cp, e8, hob8⟩ := own_form o3
  rw [had] at e8
  cases ap with
  | none => cases e8
  | some g => cases e8; exact ⟨g, rfl⟩
 clear hrd HS0 HS3 hb3 o3 hb2 hD2 hD3 hfi hDX0
 obtain ⟨N, HN⟩ : ∃ N, Hid (xs.length = N) := ⟨_, rfl⟩
 rw [HN.out] at hrl r6 ⊢
 obtain ⟨SC, HSc⟩ : ∃ SC, Hid (scanF N xs = SC) := ⟨_, rfl⟩
 obtain ⟨RS, NS, WH⟩ := SC
 have HRy : Hid (WH = true → (eR, bR, lR, kR) = (0, true, (⟨l.most, l.recs ++ RS, { l.ch with cnt := i, size := NS }, l.dn⟩ : Lg), k)) := fun hw => by
  rw [← HR.out]
  unfold sgR
  rw [HN.out, HSc.out, if_pos hw]
 have HRn : Hid (WH = false → (eR, bR, lR, kR) = ((cutK k s (NS : Int)).1, false, (⟨l.most, l.recs ++ RS, { l.ch with cnt := i, size := NS }, l.dn⟩ : Lg), (cutK k s (NS : Int)).2)) := fun hw => by
  rw [← HR.out]
  unfold sgR
  rw [HN.out, HSc.out, if_neg (by rw [hw]; exact fun h => by cases h)]
 clear HR
 have hsw3 := hbw3.size
 have hn9 : N ≤ 900000 := by omega
 have hB0 : ∀ i, H i → ∀ ad, a6 = some ad → i ≠ ad.block := fun i hi ad had e => by
  have h9 := hH i hi
  have := hrowX ad had
  omega
 go_upto_region 3 with fail
 go_loopw [8] (fun s8 wr => ∃ (sz f : Nat) (rs R1 : List (List Int)) (n1 : Nat) (H1 : Nat → Prop), s8 = .int .i64 (sz : Int) ∧ sz ≤ N ∧ N - sz ≤ f ∧ 8 * rs.length ≤ sz ∧ Hid (RLogAt wr G H1 rl rd ⟨l.most, l.recs ++ rs, l.ch, l.dn⟩ k) ∧ Hid (Keep (fun i => G i ∨ H i ∨ i = rl) w wr) ∧ Hid (∀ i, H1 i → H i ∨ w.heap.size ≤ i) ∧ Hid (∀ i, H1 i → ∀ ad, a6 = some ad → i ≠ ad.block) ∧ Hid (Rd wr a6 N c6 xs) ∧ Hid (scanF f (xs.drop sz) = (R1, n1, WH)) ∧ Hid (rs ++ R1 = RS ∧ sz + n1 = NS)) (fun s8 _ => N - (intOf s8).toNat)
 case atStart =>
  refine ⟨0, N, [], RS, NS, H, rfl, by omega, by omega, by simp, ?_, Keep.ofBelow hbw3, fun i hi => Or.inl hi, hB0, r6, HSc.out, ⟨rfl, by omega⟩⟩
  show RLogAt w3 G H rl rd ⟨l.most, l.recs ++ [], l.ch, l.dn⟩ k
  rw [List.append_nil]
  exact h3
 case round =>
  clear h3 hB0 r6 HSc hbw3 hbX
  obtain ⟨sz, f, rs, R1, n1, H1, rfl, hszN, hNf, hrs8, HL, HK, HH, HB, HRd, HSc, HEq⟩ := hrel
  obtain ⟨vr, hDr, hRcr⟩ := HL.out.ex
  dsimp only at hDr hRcr
  have HHXA := HH.out
  by_cases hlt : sz < N
  ·have hz1 : (sz : Int) < (N : Int) := by omega
   have hz0 : (0 : Int) ≤ (sz : Int) := by omega
   have hcap := HRd.out.cap
   have hmost : c6 ≤ 9223372036854775807 := HRd.out.most
   obtain ⟨gr, hgr⟩ : ∃ gr, a6 = some ⟨gr, 0, none⟩ := by
    cases ha : a6 with
    | none => have := HRd.out.nil ha; omega
    | some ad => obtain ⟨g, hg⟩ := hrow0 ad ha; exact ⟨g, by rw [hg]⟩
   subst hgr
   have Hdl : Hid ((xs.drop sz).length = N - sz) := by show _ = _; rw [List.length_drop, HN.out]
   have hdl : Hid ((xs.drop sz).length ≠ 0) := by show _ ≠ _; rw [Hdl.out]; omega
   obtain ⟨f2, rfl⟩ : ∃ f2, f = f2 + 1 := ⟨f - 1, by omega⟩
   have Hno : Hid (recO (xs.drop sz) = none → (R1, n1, WH) = ([], 0, false)) := fun hro => HSc.out.symm.trans (scanF_no hdl.out hro)
   by_cases h8 : N - sz < 8
   ·have hzA : (N : Int) - (sz : Int) < 8 := by omega
    have HSn : Hid ((R1, n1, WH) = ([], 0, false)) := Hno.out (recO_small (by rw [Hdl.out]; exact h8))
    clear Hno
    ·skip
     have hAA := HL.out
     have hKWA := HK.out
     obtain ⟨vB, hDB, _⟩ := hAA.ex
     dsimp only at hDB
     have y4 := hDB.c4
     have y5 := hDB.c5
     have u4 := hDB.fz 4
     have u5 := hDB.fz 5
     obtain ⟨hLa, hKa⟩ := hAA.last i sz (i : Int) (sz : Int) rfl rfl
     dsimp only at hLa
     obtain ⟨e1, e2, e3⟩ := Prod3.out HSn.out
     have hfin := HRn.out e3
     have hE2 := HEq.out
     rw [e1, e2, List.append_nil, Nat.add_zero] at hE2
     rw [← hE2.1, ← hE2.2] at hfin
     simp only [Prod.mk.injEq] at hfin
     obtain ⟨g1, g2, g3, g4⟩ := hfin
     subst eR bR lR kR
     clear HRy HRn HSc HEq HSn e1 e2 e3 hE2 hDB
     go_upto_region 13 with fail
     generalize (wr.setCell ⟨rl, 4, none⟩ (.int .i64 (i : Int))).setCell ⟨rl, 5, none⟩ (.int .i64 (sz : Int)) = V at *
     have hbV : Below V.heap.size V V.drew := (Below.refl _ _).drew
     have hLX := hLa.below hbV
     obtain ⟨vX, hDX, hRX⟩ := hLX.ex
     dsimp only at hDX hRX
     have HSv : V.drew.cell? ⟨rl, 0, none⟩ = some (.pointer (some ⟨rd, 0, none⟩)) ∧ V.drew.cell? ⟨rl, 2, none⟩ = some (.int .u64 (l.ch.g : Int)) := ⟨hDX.c0, hDX.c2⟩
     have hfiV := rfile_any l.ch.g i hg (by omega) V.drew
     rw [Hs.out] at hfiV
     have hcuV := fun w' (hb : Below V.drew.heap.size V.drew w') => refCut_any rd G k s (by omega) (sz : Int) (by omega) w' (hDX.below hb).R
     obtain ⟨Pc, HPc⟩ : ∃ P, Hid (cutK k s (sz : Int) = P) := ⟨_, rfl⟩
     simp only [HPc.out] at hcuV
     obtain ⟨en2, k2⟩ := Pc
     dsimp only at hcuV
     have hKV : Keep (fun i => G i ∨ H i ∨ i = rl) w V.drew := (hKWA.trans (hKa.mono (fun i e => Or.inr (Or.inr e)))).drew
     refine wp_region_lx (fun w' => w'.cell? ⟨rl, 0, none⟩ = some (.pointer (some ⟨rd, 0, none⟩)) ∧ w'.cell? ⟨rl, 2, none⟩ = some (.int .u64 (l.ch.g : Int))) [] 14 (by kernel_rfl) (by kernel_rfl) ?_
     generalize V.drew = Y at *
     refine lx_r 0 (.pointer (some ⟨rl, 0, none⟩)) HSv ?_; simp only [lxa, lxb, lxc]
     refine lx_r 1 (.pointer (some ⟨rl, 0, none⟩)) HSv ?_; simp only [lxa, lxb, lxc]
     refine lx_r 2 (.pointer (some ⟨rl, 0, none⟩)) HSv ?_; simp only [lxa, lxb, lxc]
     refine lx_r 3 (.pointer (some ⟨rd, 0, none⟩)) HSv ?_ (hv := fun w' hS => by have q := hS.1; first | (go_simp; rfl) | go_simp); simp only [lxa, lxb, lxc]
     refine lx_r 4 (.pointer (some ⟨rl, 0, none⟩)) HSv ?_; simp only [lxa, lxb, lxc]
     refine lx_r 5 (.pointer (some ⟨rl, 0, none⟩)) HSv ?_; simp only [lxa, lxb, lxc]
     refine lx_r 6 (.pointer (some ⟨rl, 2, none⟩)) HSv ?_; simp only [lxa, lxb, lxc]
     refine lx_r 7 (.int .u64 (l.ch.g : Int)) HSv ?_ (hv := fun w' hS => by have q := hS.2; first | (go_simp; rfl) | go_simp); simp only [lxa, lxb, lxc]
     refine lx_r 8 (.int .i64 (i : Int)) HSv ?_; simp only [lxa, lxb, lxc]
     refine lx_r 10 (.int .i64 (sz : Int)) HSv ?_; simp only [lxa, lxb, lxc]
     refine lx_one 9 (by kernel_rfl) (stepT_call 82 ?a9A rfl rfl rfl ?r9A ?_)
     case r9A => first | (go_simp; rfl) | go_simp
     refine hfiV.mono ?_
     rintro e w13 ⟨rfl, hb13⟩
     have hD13 := hDX.below hb13
     refine ⟨_, rfl, fun _ => ⟨hD13.c0, hD13.c2⟩, ?_⟩
     simp only [lxa, lxb, lxc]
     refine lx_one 11 (by kernel_rfl) (stepT_call 128 ?a11A rfl rfl rfl ?r11A ?_)
     case r11A => first | (go_simp; rfl) | go_simp
     refine (hcuV w13 hb13).mono ?_
     rintro e w14 ⟨rfl, hp14⟩
     have hR13 := hRX.keep (S := fun _ => False) (H' := H1) (Keep.ofBelow hb13) (fun _ _ h => h) (fun _ h => h)
     have hp15 := hD13.rp hp14
     have h15 := (hLX.below hb13).rlp hR13 hp15
     obtain ⟨G14, hD14, _, _⟩ := hp15
     have HSw := And.intro hD14.c0 hD14.c2
     refine ⟨_, rfl, fun _ => HSw, ?_⟩
     simp only [lxa, lxb, lxc]
     refine lx_r 12 (.int .i64 (en2 : Int)) HSw ?_; simp only [lxa, lxb, lxc]
     refine lx_r 13 (.bool false) HSw ?_; simp only [lxa, lxb, lxc]
     refine lx_nil (by kernel_rfl) ?_
     have hend := Rgp.next hKV (fun i hi => Or.inl hi) HHXA (Rgp.from hb13 h15)
     clear HSv HSw hfiV hcuV hp14 h15 hD13 hR13
     go_wp2
     go_ret2
     rw [HPc.out]
     exact ⟨rfl, hend⟩
   ·have hzA : ¬ (N : Int) - (sz : Int) < 8 := by omega
    obtain ⟨o1, hs1, hr1⟩ := part_any gr N c6 sz (sz + 4) (by omega) (by omega) hcap hmost (sz : Int) ((sz : Int) + 4) rfl (by omega)
    rw [show sz + 4 - sz = 4 by omega] at hs1 hr1
    have hrd1 := hr1 wr xs HRd.out
    have hn1 := rnumber_any _ 4 (c6 - sz) ((xs.drop sz).take 4) wr hrd1 (by omega)
    have hKl := numL_lt4 hrd1.bytes (by rw [hrd1.len]; omega)
    have Hbig : Hid (numL ((xs.drop sz).take 4) > 1048576 ∨ numL ((xs.drop sz).take 4) > N - sz - 8 → recO (xs.drop sz) = none) := fun h => recO_big (by rw [Hdl.out]; exact h8) (by rw [Hdl.out]; exact h)
    have Hsum : Hid (¬ (numL ((xs.drop sz).take 4) > 1048576 ∨ numL ((xs.drop sz).take 4) > N - sz - 8) → recO (xs.drop sz) = if crcN (((xs.drop sz).drop 8).take (numL ((xs.drop sz).take 4))) = numL (((xs.drop sz).drop 4).take 4) then some (((xs.drop sz).drop 8).take (numL ((xs.drop sz).take 4))) else none) := fun h => recO_sum (by rw [Hdl.out]; exact h8) (by rw [Hdl.out]; exact h)
    obtain ⟨K, HKe⟩ : ∃ K, Hid (numL ((xs.drop sz).take 4) = K) := ⟨_, rfl⟩
    rw [HKe.out] at hn1 hKl Hbig Hsum
    clear hr1 hrd1
    by_cases hbg : K > 1048576 ∨ K > N - sz - 8
    ·have HSn : Hid ((R1, n1, WH) = ([], 0, false)) := Hno.out (Hbig.out hbg)
     clear Hno Hbig Hsum
     have hAB := HL.out
     have hKWB := HK.out
     obtain ⟨vB, hDB, _⟩ := hAB.ex
     dsimp only at hDB
     have y4 := hDB.c4
     have y5 := hDB.c5
     have u4 := hDB.fz 4
     have u5 := hDB.fz 5
     obtain ⟨hLa, hKa⟩ := hAB.last i sz (i : Int) (sz : Int) rfl rfl
     dsimp only at hLa
     obtain ⟨e1, e2, e3⟩ := Prod3.out HSn.out
     have hfin := HRn.out e3
     have hE2 := HEq.out
     rw [e1, e2, List.append_nil, Nat.add_zero] at hE2
     rw [← hE2.1, ← hE2.2] at hfin
     simp only [Prod.mk.injEq] at hfin
     obtain ⟨g1, g2, g3, g4⟩ := hfin
     subst eR bR lR kR
     clear HRy HRn HSc HEq HSn e1 e2 e3 hE2 hDB
     by_cases hk1 : (1048576 : Int) < (K : Int)
     ·go_upto_region 13 with (go_at_call 95; refine hn1.mono ?_; rintro e w9 ⟨rfl, h9w⟩; replace h9w := h9w.symm; subst h9w)
      generalize (wr.setCell ⟨rl, 4, none⟩ (.int .i64 (i : Int))).setCell ⟨rl, 5, none⟩ (.int .i64 (sz : Int)) = V at *
      have hbV : Below V.heap.size V V.drew := (Below.refl _ _).drew
      have hLX := hLa.below hbV
      obtain ⟨vX, hDX, hRX⟩ := hLX.ex
      dsimp only at hDX hRX
      have HSv : V.drew.cell? ⟨rl, 0, none⟩ = some (.pointer (some ⟨rd, 0, none⟩)) ∧ V.drew.cell? ⟨rl, 2, none⟩ = some (.int .u64 (l.ch.g : Int)) := ⟨hDX.c0, hDX.c2⟩
      have hfiV := rfile_any l.ch.g i hg (by omega) V.drew
      rw [Hs.out] at hfiV
      have hcuV := fun w' (hb : Below V.drew.heap.size V.drew w') => refCut_any rd G k s (by omega) (sz : Int) (by omega) w' (hDX.below hb).R
      obtain ⟨Pc, HPc⟩ : ∃ P, Hid (cutK k s (sz : Int) = P) := ⟨_, rfl⟩
      simp only [HPc.out] at hcuV
      obtain ⟨en2, k2⟩ := Pc
      dsimp only at hcuV
      have hKV : Keep (fun i => G i ∨ H i ∨ i = rl) w V.drew := (hKWB.trans (hKa.mono (fun i e => Or.inr (Or.inr e)))).drew
      refine wp_region_lx (fun w' => w'.cell? ⟨rl, 0, none⟩ = some (.pointer (some ⟨rd, 0, none⟩)) ∧ w'.cell? ⟨rl, 2, none⟩ = some (.int .u64 (l.ch.g : Int))) [] 14 (by kernel_rfl) (by kernel_rfl) ?_
      generalize V.drew = Y at *
      refine lx_r 0 (.pointer (some ⟨rl, 0, none⟩)) HSv ?_; simp only [lxa, lxb, lxc]
      refine lx_r 1 (.pointer (some ⟨rl, 0, none⟩)) HSv ?_; simp only [lxa, lxb, lxc]
      refine lx_r 2 (.pointer (some ⟨rl, 0, none⟩)) HSv ?_; simp only [lxa, lxb, lxc]
      refine lx_r 3 (.pointer (some ⟨rd, 0, none⟩)) HSv ?_ (hv := fun w' hS => by have q := hS.1; first | (go_simp; rfl) | go_simp); simp only [lxa, lxb, lxc]
      refine lx_r 4 (.pointer (some ⟨rl, 0, none⟩)) HSv ?_; simp only [lxa, lxb, lxc]
      refine lx_r 5 (.pointer (some ⟨rl, 0, none⟩)) HSv ?_; simp only [lxa, lxb, lxc]
      refine lx_r 6 (.pointer (some ⟨rl, 2, none⟩)) HSv ?_; simp only [lxa, lxb, lxc]
      refine lx_r 7 (.int .u64 (l.ch.g : Int)) HSv ?_ (hv := fun w' hS => by have q := hS.2; first | (go_simp; rfl) | go_simp); simp only [lxa, lxb, lxc]
      refine lx_r 8 (.int .i64 (i : Int)) HSv ?_; simp only [lxa, lxb, lxc]
      refine lx_r 10 (.int .i64 (sz : Int)) HSv ?_; simp only [lxa, lxb, lxc]
      refine lx_one 9 (by kernel_rfl) (stepT_call 82 ?a9B1 rfl rfl rfl ?r9B1 ?_)
      case r9B1 => first | (go_simp; rfl) | go_simp
      refine hfiV.mono ?_
      rintro e w13 ⟨rfl, hb13⟩
      have hD13 := hDX.below hb13
      refine ⟨_, rfl, fun _ => ⟨hD13.c0, hD13.c2⟩, ?_⟩
      simp only [lxa, lxb, lxc]
      refine lx_one 11 (by kernel_rfl) (stepT_call 128 ?a11B1 rfl rfl rfl ?r11B1 ?_)
      case r11B1 => first | (go_simp; rfl) | go_simp
      refine (hcuV w13 hb13).mono ?_
      rintro e w14 ⟨rfl, hp14⟩
      have hR13 := hRX.keep (S := fun _ => False) (H' := H1) (Keep.ofBelow hb13) (fun _ _ h => h) (fun _ h => h)
      have hp15 := hD13.rp hp14
      have h15 := (hLX.below hb13).rlp hR13 hp15
      obtain ⟨G14, hD14, _, _⟩ := hp15
      have HSw := And.intro hD14.c0 hD14.c2
      refine ⟨_, rfl, fun _ => HSw, ?_⟩
      simp only [lxa, lxb, lxc]
      refine lx_r 12 (.int .i64 (en2 : Int)) HSw ?_; simp only [lxa, lxb, lxc]
      refine lx_r 13 (.bool false) HSw ?_; simp only [lxa, lxb, lxc]
      refine lx_nil (by kernel_rfl) ?_
      have hend := Rgp.next hKV (fun i hi => Or.inl hi) HHXA (Rgp.from hb13 h15)
      clear HSv HSw hfiV hcuV hp14 h15 hD13 hR13
      go_wp2
      go_ret2
      rw [HPc.out]
      exact ⟨rfl, hend⟩
     ·have hk2 : (N : Int) - (sz : Int) - 8 < (K : Int) := by omega
      go_upto_region 13 with (go_at_call 95; refine hn1.mono ?_; rintro e w9 ⟨rfl, h9w⟩; replace h9w := h9w.symm; subst h9w)
      generalize (wr.setCell ⟨rl, 4, none⟩ (.int .i64 (i : Int))).setCell ⟨rl, 5, none⟩ (.int .i64 (sz : Int)) = V at *
      have hbV : Below V.heap.size V V.drew := (Below.refl _ _).drew
      have hLX := hLa.below hbV
      obtain ⟨vX, hDX, hRX⟩ := hLX.ex
      dsimp only at hDX hRX
      have HSv : V.drew.cell? ⟨rl, 0, none⟩ = some (.pointer (some ⟨rd, 0, none⟩)) ∧ V.drew.cell? ⟨rl, 2, none⟩ = some (.int .u64 (l.ch.g : Int)) := ⟨hDX.c0, hDX.c2⟩
      have hfiV := rfile_any l.ch.g i hg (by omega) V.drew
      rw [Hs.out] at hfiV
      have hcuV := fun w' (hb : Below V.drew.heap.size V.drew w') => refCut_any rd G k s (by omega) (sz : Int) (by omega) w' (hDX.below hb).R
      obtain ⟨Pc, HPc⟩ : ∃ P, Hid (cutK k s (sz : Int) = P) := ⟨_, rfl⟩
      simp only [HPc.out] at hcuV
      obtain ⟨en2, k2⟩ := Pc
      dsimp only at hcuV
      have hKV : Keep (fun i => G i ∨ H i ∨ i = rl) w V.drew := (hKWB.trans (hKa.mono (fun i e => Or.inr (Or.inr e)))).drew
      refine wp_region_lx (fun w' => w'.cell? ⟨rl, 0, none⟩ = some (.pointer (some ⟨rd, 0, none⟩)) ∧ w'.cell? ⟨rl, 2, none⟩ = some (.int .u64 (l.ch.g : Int))) [] 14 (by kernel_rfl) (by kernel_rfl) ?_
      generalize V.drew = Y at *
      refine lx_r 0 (.pointer (some ⟨rl, 0, none⟩)) HSv ?_; simp only [lxa, lxb, lxc]
      refine lx_r 1 (.pointer (some ⟨rl, 0, none⟩)) HSv ?_; simp only [lxa, lxb, lxc]
      refine lx_r 2 (.pointer (some ⟨rl, 0, none⟩)) HSv ?_; simp only [lxa, lxb, lxc]
      refine lx_r 3 (.pointer (some ⟨rd, 0, none⟩)) HSv ?_ (hv := fun w' hS => by have q := hS.1; first | (go_simp; rfl) | go_simp); simp only [lxa, lxb, lxc]
      refine lx_r 4 (.pointer (some ⟨rl, 0, none⟩)) HSv ?_; simp only [lxa, lxb, lxc]
      refine lx_r 5 (.pointer (some ⟨rl, 0, none⟩)) HSv ?_; simp only [lxa, lxb, lxc]
      refine lx_r 6 (.pointer (some ⟨rl, 2, none⟩)) HSv ?_; simp only [lxa, lxb, lxc]
      refine lx_r 7 (.int .u64 (l.ch.g : Int)) HSv ?_ (hv := fun w' hS => by have q := hS.2; first | (go_simp; rfl) | go_simp); simp only [lxa, lxb, lxc]
      refine lx_r 8 (.int .i64 (i : Int)) HSv ?_; simp only [lxa, lxb, lxc]
      refine lx_r 10 (.int .i64 (sz : Int)) HSv ?_; simp only [lxa, lxb, lxc]
      refine lx_one 9 (by kernel_rfl) (stepT_call 82 ?a9B2 rfl rfl rfl ?r9B2 ?_)
      case r9B2 => first | (go_simp; rfl) | go_simp
      refine hfiV.mono ?_
      rintro e w13 ⟨rfl, hb13⟩
      have hD13 := hDX.below hb13
      refine ⟨_, rfl, fun _ => ⟨hD13.c0, hD13.c2⟩, ?_⟩
      simp only [lxa, lxb, lxc]
      refine lx_one 11 (by kernel_rfl) (stepT_call 128 ?a11B2 rfl rfl rfl ?r11B2 ?_)
      case r11B2 => first | (go_simp; rfl) | go_simp
      refine (hcuV w13 hb13).mono ?_
      rintro e w14 ⟨rfl, hp14⟩
      have hR13 := hRX.keep (S := fun _ => False) (H' := H1) (Keep.ofBelow hb13) (fun _ _ h => h) (fun _ h => h)
      have hp15 := hD13.rp hp14
      have h15 := (hLX.below hb13).rlp hR13 hp15
      obtain ⟨G14, hD14, _, _⟩ := hp15
      have HSw := And.intro hD14.c0 hD14.c2
      refine ⟨_, rfl, fun _ => HSw, ?_⟩
      simp only [lxa, lxb, lxc]
      refine lx_r 12 (.int .i64 (en2 : Int)) HSw ?_; simp only [lxa, lxb, lxc]
      refine lx_r 13 (.bool false) HSw ?_; simp only [lxa, lxb, lxc]
      refine lx_nil (by kernel_rfl) ?_
      have hend := Rgp.next hKV (fun i hi => Or.inl hi) HHXA (Rgp.from hb13 h15)
      clear HSv HSw hfiV hcuV hp14 h15 hD13 hR13
      go_wp2
      go_ret2
      rw [HPc.out]
      exact ⟨rfl, hend⟩
    ·have hzB : ¬ (1048576 : Int) < (K : Int) := by omega
     have hzC : ¬ (N : Int) - (sz : Int) - 8 < (K : Int) := by omega
     obtain ⟨o8, hs8, hr8⟩ := part_any gr N c6 (sz + 8) (sz + 8 + K) (by omega) (by omega) hcap hmost ((sz : Int) + 8) ((sz : Int) + 8 + (K : Int)) (by omega) (by omega)
     obtain ⟨o4, hs4, hr4⟩ := part_any gr N c6 (sz + 4) (sz + 8) (by omega) (by omega) hcap hmost ((sz : Int) + 4) ((sz : Int) + 8) (by omega) (by omega)
     rw [show sz + 8 + K - (sz + 8) = K by omega] at hs8 hr8
     rw [show sz + 8 - (sz + 4) = 4 by omega] at hs4 hr4
     have hs8b : ∀ W, (Instr.sliceAt 29 (.slice (some ⟨gr, 0, none⟩) N c6) (some (.int .i64 ((sz : Int) + 8))) (some (.int .i64 ((sz : Int) + (8 + (K : Int))))) none).run Tryz.prog W = .ok (.slice (some ⟨gr, o8, none⟩) K (c6 - (sz + 8))) W := fun W => by
      rw [show (sz : Int) + (8 + (K : Int)) = (sz : Int) + 8 + (K : Int) by omega]
      exact hs8 W
     have hE := Hsum.out hbg
     rw [List.drop_drop, List.drop_drop] at hE
     have hrd8 := hr8 wr xs HRd.out
     have hrd4 := hr4 wr xs HRd.out
     have hS4 := numL_lt4 hrd4.bytes (by rw [hrd4.len]; omega)
     have hTb := hrd8.bytes
     have hTl := hrd8.len
     have hn2 := fun w' (hb : Below wr.heap.size wr w') => rnumber_any _ 4 (c6 - (sz + 4)) ((xs.drop (sz + 4)).take 4) w' (hrd4.carry (Nat.le_refl _) hb) (by omega)
     obtain ⟨T, HT⟩ : ∃ T, Hid ((xs.drop (sz + 8)).take K = T) := ⟨_, rfl⟩
     rw [HT.out] at hE hrd8 hTb hTl
     have HTl : Hid (T.length = K) := hTl
     obtain ⟨S, HSe⟩ : ∃ S, Hid (numL ((xs.drop (sz + 4)).take 4) = S) := ⟨_, rfl⟩
     rw [HSe.out] at hE hS4
     simp only [HSe.out] at hn2
     have hSm := fun a c w' (h' : Rd w' a K c T) => rsumN_any a K c T w' h'
     have hCl := crcN_lt T
     obtain ⟨C, HC⟩ : ∃ C, Hid (crcN T = C) := ⟨_, rfl⟩
     rw [HC.out] at hE hCl
     simp only [HC.out] at hSm
     have hCz : (C : Int) < 4294967296 := by omega
     have hSz : (S : Int) < 4294967296 := by omega
     have hKz : (K : Int) ≤ 1048576 := by omega
     have hbA : Below wr.heap.size wr (wr.alloc (.cells #[] 5)) := (Below.refl _ _).alloc (Nat.le_refl _) _
     have hown5 : (wr.alloc (.cells #[] 5)).ownsRow wr.heap.size 5 1 (.slice (some ⟨wr.heap.size, 0, none⟩) 0 0) 0 (bc []) := World.ownsRow_made wr #[] 0 (Nat.le_refl _) (by unfold maxLen; omega) rfl
     have hrA := hrd8.carry (Nat.le_refl _) hbA
     have tk : True := trivial
     have HE : Hid (recO (xs.drop sz) = if C = S then some T else none) := hE
     have HCz : Hid ((C : Int) % 18446744073709551616 = (C : Int)) := Int.emod_eq_of_lt (by omega) (by omega)
     clear hE hr8 hr4 hrd8 hrd4 Hbig Hsum hTl
     clear hbg hS4 hCl hSz hCz
     by_cases hCS : C = S
     ·subst hCS
      have hro : Hid (recO (xs.drop sz) = some T) := by show _ = _; rw [HE.out, if_pos rfl]
      clear HE Hno
      have hsc := HSc.out.symm.trans (scanF_some hdl.out hro.out)
      rw [List.drop_drop, HTl.out] at hsc
      obtain ⟨SQ, HSQ⟩ : ∃ SQ, Hid (scanF f2 (xs.drop (sz + (8 + K))) = SQ) := ⟨_, rfl⟩
      rw [HSQ.out] at hsc
      obtain ⟨R2, n2, WH2⟩ := SQ
      obtain ⟨e1, e2, e3⟩ := Prod3.out hsc
      subst e1 e2 e3
      clear HSc hsc HRy HRn
      go_upto_region 9 with (first
       | (clear tk; go_at_call 95; refine hn1.mono ?_; rintro e w9 ⟨rfl, h9w⟩; replace h9w := h9w.symm; subst h9w)
       | (at_builtin; refine wp_appK rfl _ _ rfl wr.heap.size (.slice (some ⟨wr.heap.size, 0, none⟩) 0 0) 0 [] rfl hown5 (some ⟨gr, o8, none⟩) K (c6 - (sz + 8)) T rfl hrA (by omega) hbA.size ?_; intro v5 w5 o5 g5 _; have hb5 := hbA.grown g5 hbA.size (fun k hk => (hown5.lt k hk).1); rw [Nat.zero_add, List.nil_append] at o5; obtain ⟨a5, c5, rfl, r5⟩ := Rd.ofOwn o5 hTb)
       | (go_at_call 95; refine (hn2 w5 hb5).mono ?_; rintro e w9 ⟨rfl, h9w⟩; replace h9w := h9w.symm; subst h9w)
       | (go_at_call 122; refine (hSm a5 c5 w5 r5).mono ?_; rintro e w9 ⟨rfl, h9w⟩; replace h9w := h9w.symm; subst h9w; have hCz := HCz.out))
      clear hn1 hn2 hSm hs1 hs4 hs8 hs8b hown5 hrA
      obtain ⟨L, HLn⟩ : ∃ L, Hid ((l.recs ++ rs).length = L) := ⟨_, rfl⟩
      have hRc5 := hRcr.keep (S := fun _ => False) (H' := H1) (Keep.ofBelow hb5) (fun _ _ h => h) (fun _ h => h)
      obtain ⟨⟨vs, ov5, hvs5⟩, hvo⟩ := hRc5
      have nrl : ¬ vr.ownBlock = some rl := fun hv => HL.out.hl (hvo rl hv)
      have q3 := (hDr.below hb5).c3
      have HQ3 : Hid (w5.cell? ⟨rl, 3, none⟩ = some vr) := q3
      have hadd : ∀ (w6 : World) a7 c7, w6.ownsRow 0 29 1 (.slice a7 (L + 1) c7) (L + 1) (vs ++ [.slice a5 K c5]) → Keep (fun q => vr.ownBlock = some q) w5 w6 → ((Value.slice a7 (L + 1) c7).ownBlock = vr.ownBlock ∨ ∃ g, (Value.slice a7 (L + 1) c7).ownBlock = some g ∧ w5.heap.size ≤ g) → ∃ H9 : Nat → Prop, RLogAt (w6.setCell ⟨rl, 3, none⟩ (.slice a7 (L + 1) c7)) G H9 rl rd ⟨l.most, (l.recs ++ rs) ++ [T], l.ch, l.dn⟩ k ∧ Keep (fun i => G i ∨ H1 i ∨ i = rl) wr (w6.setCell ⟨rl, 3, none⟩ (.slice a7 (L + 1) c7)) ∧ (∀ i, H9 i → H1 i ∨ wr.heap.size ≤ i) ∧ w6.frozen? ⟨rl, 3, none⟩ = false ∧ w6.cell? ⟨rl, 3, none⟩ = some vr := by
       intro w6 a7 c7 o6 hk6 hwh6
       have h9 := HLn.out
       subst h9
       obtain ⟨H9, x1, x2, x3, x4⟩ := radd_rec HL.out hDr hRcr hb5 o5 HTl.out hTb ov5 hvs5 o6 hk6 hwh6
       exact ⟨H9, x1, x2, x3, x4, hk6.cell (p := ⟨rl, 3, none⟩) HQ3.out nrl⟩
      have ovL := ov5
      rw [HLn.out] at ovL
      have hL6 : L ≤ 1000000 := by have := HLn.out; simp at this; omega
      have HO5 : Hid (w5.ownsRow 0 29 1 vr L vs) := ovL
      clear ov5 hvs5 ovL hDr hRcr
      go_wp2_with (at_builtin; refine wp_appRow rfl (.tmp 78) (.tmp 80) rfl 0 vr L vs rfl HO5.out a5 K c5 rfl hL6 (Nat.zero_le _) ?_; intro v6 w6 o6 hk6 hwh6; obtain ⟨a7, c7, rfl⟩ := own_sl o6; obtain ⟨H9, hA9, hkE, hH9, fz9, p9⟩ := hadd w6 a7 c7 o6 hk6 hwh6)
      have hsK := HK.out.size
      have nS3 : ¬ (G gr ∨ H1 gr ∨ gr = rl) := fun h9 => by
       have h8 := hrowX _ rfl
       dsimp only at h8
       rcases h9 with h9 | h9 | h9
       ·have := hGl _ h9; omega
       ·exact HB.out gr h9 _ rfl rfl
       ·omega
      have hgrY : gr < wr.heap.size := HRd.out.blk (by omega) rfl
      refine ⟨⟨sz + (8 + K), f2, rs ++ [T], R2, n2, H9, ?_, by omega, by omega, by simp; omega, ?_, HK.out.andThen hkE (fun i hi hs => ?_), fun i hi => ?_, fun i hi => ?_, HRd.out.keep hkE (fun ad had => by cases had; exact nS3), HSQ.out, ?_⟩, ?_⟩
      ·first | rfl | go_num | (congr 1; omega) | (simp; omega)
      ·show RLogAt _ G H9 rl rd ⟨l.most, l.recs ++ (rs ++ [T]), l.ch, l.dn⟩ k
       rw [← List.append_assoc]
       exact hA9
      ·rcases hs with hs | hs | hs
       ·exact Or.inl hs
       ·rcases HH.out i hs with h9 | h9
        ·exact Or.inr (Or.inl h9)
        ·omega
       ·exact Or.inr (Or.inr hs)
      ·rcases hH9 i hi with h9 | h9
       ·exact HH.out i h9
       ·exact Or.inr (Nat.le_trans hsK h9)
      ·rcases hH9 i hi with h9 | h9
       ·exact HB.out i h9
       ·exact fun ad had e => by cases had; dsimp only at e; omega
      ·have hE9 := HEq.out
       exact ⟨by rw [← hE9.1]; simp, by have := hE9.2; omega⟩
      ·simp [intOf]; omega
     ·have HSn : Hid ((R1, n1, WH) = ([], 0, false)) := Hno.out (by rw [HE.out, if_neg hCS])
      have hcs1 : ¬ (S : Int) = (C : Int) := by omega
      have hcs2 : ((S : Int) == (C : Int)) = false := by rw [beq_eq_false_iff_ne]; omega
      clear HE Hno
      go_upto_region 11 with (first
       | (clear tk; go_at_call 95; refine hn1.mono ?_; rintro e w9 ⟨rfl, h9w⟩; replace h9w := h9w.symm; subst h9w)
       | (at_builtin; refine wp_appK rfl _ _ rfl wr.heap.size (.slice (some ⟨wr.heap.size, 0, none⟩) 0 0) 0 [] rfl hown5 (some ⟨gr, o8, none⟩) K (c6 - (sz + 8)) T rfl hrA (by omega) hbA.size ?_; intro v5 w5 o5 g5 _; have hb5 := hbA.grown g5 hbA.size (fun k hk => (hown5.lt k hk).1); rw [Nat.zero_add, List.nil_append] at o5; obtain ⟨a5, c5, rfl, r5⟩ := Rd.ofOwn o5 hTb)
       | (go_at_call 95; refine (hn2 w5 hb5).mono ?_; rintro e w9 ⟨rfl, h9w⟩; replace h9w := h9w.symm; subst h9w)
       | (go_at_call 122; refine (hSm a5 c5 w5 r5).mono ?_; rintro e w9 ⟨rfl, h9w⟩; replace h9w := h9w.symm; subst h9w; have hCz := HCz.out))
      clear hn1 hn2 hSm hs1 hs4 hs8 hs8b hown5 hrA
      have hAC := (HL.out.below hb5)
      have hKWC := (HK.out.trans (Keep.ofBelow hb5))
      obtain ⟨vB, hDB, _⟩ := hAC.ex
      dsimp only at hDB
      have y4 := hDB.c4
      have y5 := hDB.c5
      have u4 := hDB.fz 4
      have u5 := hDB.fz 5
      obtain ⟨hLa, hKa⟩ := hAC.last i sz (i : Int) (sz : Int) rfl rfl
      dsimp only at hLa
      obtain ⟨e1, e2, e3⟩ := Prod3.out HSn.out
      have hfin := HRn.out e3
      have hE2 := HEq.out
      rw [e1, e2, List.append_nil, Nat.add_zero] at hE2
      rw [← hE2.1, ← hE2.2] at hfin
      simp only [Prod.mk.injEq] at hfin
      obtain ⟨g1, g2, g3, g4⟩ := hfin
      subst eR bR lR kR
      clear HRy HRn HSc HEq HSn e1 e2 e3 hE2 hDB
      go_upto_region 13 with fail
      generalize (w5.setCell ⟨rl, 4, none⟩ (.int .i64 (i : Int))).setCell ⟨rl, 5, none⟩ (.int .i64 (sz : Int)) = V at *
      have hbV : Below V.heap.size V V.drew := (Below.refl _ _).drew
      have hLX := hLa.below hbV
      obtain ⟨vX, hDX, hRX⟩ := hLX.ex
      dsimp only at hDX hRX
      have HSv : V.drew.cell? ⟨rl, 0, none⟩ = some (.pointer (some ⟨rd, 0, none⟩)) ∧ V.drew.cell? ⟨rl, 2, none⟩ = some (.int .u64 (l.ch.g : Int)) := ⟨hDX.c0, hDX.c2⟩
      have hfiV := rfile_any l.ch.g i hg (by omega) V.drew
      rw [Hs.out] at hfiV
      have hcuV := fun w' (hb : Below V.drew.heap.size V.drew w') => refCut_any rd G k s (by omega) (sz : Int) (by omega) w' (hDX.below hb).R
      obtain ⟨Pc, HPc⟩ : ∃ P, Hid (cutK k s (sz : Int) = P) := ⟨_, rfl⟩
      simp only [HPc.out] at hcuV
      obtain ⟨en2, k2⟩ := Pc
      dsimp only at hcuV
      have hKV : Keep (fun i => G i ∨ H i ∨ i = rl) w V.drew := (hKWC.trans (hKa.mono (fun i e => Or.inr (Or.inr e)))).drew
      refine wp_region_lx (fun w' => w'.cell? ⟨rl, 0, none⟩ = some (.pointer (some ⟨rd, 0, none⟩)) ∧ w'.cell? ⟨rl, 2, none⟩ = some (.int .u64 (l.ch.g : Int))) [] 14 (by kernel_rfl) (by kernel_rfl) ?_
      generalize V.drew = Y at *
      refine lx_r 0 (.pointer (some ⟨rl, 0, none⟩)) HSv ?_; simp only [lxa, lxb, lxc]
      refine lx_r 1 (.pointer (some ⟨rl, 0, none⟩)) HSv ?_; simp only [lxa, lxb, lxc]
      refine lx_r 2 (.pointer (some ⟨rl, 0, none⟩)) HSv ?_; simp only [lxa, lxb, lxc]
      refine lx_r 3 (.pointer (some ⟨rd, 0, none⟩)) HSv ?_ (hv := fun w' hS => by have q := hS.1; first | (go_simp; rfl) | go_simp); simp only [lxa, lxb, lxc]
      refine lx_r 4 (.pointer (some ⟨rl, 0, none⟩)) HSv ?_; simp only [lxa, lxb, lxc]
      refine lx_r 5 (.pointer (some ⟨rl, 0, none⟩)) HSv ?_; simp only [lxa, lxb, lxc]
      refine lx_r 6 (.pointer (some ⟨rl, 2, none⟩)) HSv ?_; simp only [lxa, lxb, lxc]
      refine lx_r 7 (.int .u64 (l.ch.g : Int)) HSv ?_ (hv := fun w' hS => by have q := hS.2; first | (go_simp; rfl) | go_simp); simp only [lxa, lxb, lxc]
      refine lx_r 8 (.int .i64 (i : Int)) HSv ?_; simp only [lxa, lxb, lxc]
      refine lx_r 10 (.int .i64 (sz : Int)) HSv ?_; simp only [lxa, lxb, lxc]
      refine lx_one 9 (by kernel_rfl) (stepT_call 82 ?a9C rfl rfl rfl ?r9C ?_)
      case r9C => first | (go_simp; rfl) | go_simp
      refine hfiV.mono ?_
      rintro e w13 ⟨rfl, hb13⟩
      have hD13 := hDX.below hb13
      refine ⟨_, rfl, fun _ => ⟨hD13.c0, hD13.c2⟩, ?_⟩
      simp only [lxa, lxb, lxc]
      refine lx_one 11 (by kernel_rfl) (stepT_call 128 ?a11C rfl rfl rfl ?r11C ?_)
      case r11C => first | (go_simp; rfl) | go_simp
      refine (hcuV w13 hb13).mono ?_
      rintro e w14 ⟨rfl, hp14⟩
      have hR13 := hRX.keep (S := fun _ => False) (H' := H1) (Keep.ofBelow hb13) (fun _ _ h => h) (fun _ h => h)
      have hp15 := hD13.rp hp14
      have h15 := (hLX.below hb13).rlp hR13 hp15
      obtain ⟨G14, hD14, _, _⟩ := hp15
      have HSw := And.intro hD14.c0 hD14.c2
      refine ⟨_, rfl, fun _ => HSw, ?_⟩
      simp only [lxa, lxb, lxc]
      refine lx_r 12 (.int .i64 (en2 : Int)) HSw ?_; simp only [lxa, lxb, lxc]
      refine lx_r 13 (.bool false) HSw ?_; simp only [lxa, lxb, lxc]
      refine lx_nil (by kernel_rfl) ?_
      have hend := Rgp.next hKV (fun i hi => Or.inl hi) HHXA (Rgp.from hb13 h15)
      clear HSv HSw hfiV hcuV hp14 h15 hD13 hR13
      go_wp2
      go_ret2
      rw [HPc.out]
      exact ⟨rfl, hend⟩
  ·obtain rfl : sz = N := by omega
   have hz1 : ¬ (sz : Int) < (sz : Int) := by omega
   have hsc := HSc.out.symm.trans (scanF_nil f (xs.drop sz) (by rw [List.length_drop, HN.out]; omega))
   obtain ⟨e1, e2, e3⟩ := Prod3.out hsc
   have hE2 := HEq.out
   rw [e1, e2, List.append_nil, Nat.add_zero] at hE2
   have hfin := HRy.out e3
   rw [← hE2.1, ← hE2.2] at hfin
   simp only [Prod.mk.injEq] at hfin
   obtain ⟨g1, g2, g3, g4⟩ := hfin
   subst eR bR lR kR
   have y4 := hDr.c4
   have y5 := hDr.c5
   have u4 := hDr.fz 4
   have u5 := hDr.fz 5
   obtain ⟨hLa, hKa⟩ := HL.out.last i sz (i : Int) (sz : Int) rfl rfl
   dsimp only at hLa
   have hend : Rgp w G H rl rd ⟨l.most, l.recs ++ rs, { l.ch with cnt := i, size := sz }, l.dn⟩ k _ := ⟨G, H1, hLa, HK.out.trans (hKa.mono (fun i e => Or.inr (Or.inr e))), fun i hi => Or.inl hi, HH.out⟩
   clear HRy HRn HSc HEq e1 e2 e3 hE2 hsc hDr hLa
   go_wp2
   go_ret2
   exact ⟨rfl, hend⟩
end Go.Proofs.YtikkieaokfailaaGreatDoor

namespace Go.Proofs.YtikkieaokfailaaGreatDoor
open Go.RowKit Go.Joins
theorem settle_dn (c : Ch) (k : Dk) : (settleL c false k).2.2.1 = decide ((settleL c false k).1 = 13) := by
 unfold settleL
 cases c.loose
 ·rfl
 ·rfl
theorem lay_dn (most : Nat) (c : Ch) (b : List Int) (k : Dk) : (layL most c b false k).2.2.1 = decide ((layL most c b false k).1 = 13) := by
 unfold layL
 split
 ·split
  ·exact settle_dn c k
  ·rename_i h
   have e : (settleL c false k).2.2.1 = false := by
    rw [settle_dn]
    have : (settleL c false k).1 = 0 := by
     by_cases g : (settleL c false k).1 = 0
     ·exact g
     ·exact absurd g h
    rw [this]
    rfl
   rw [e]
   rfl
 ·rfl
theorem sync_ne8 (k : Dk) (s : Nm) : (syncK k s).1 ≠ 8 := by
 unfold syncK stepK
 split
 ·simp
 ·split
  ·simp
  ·split
   ·simp
   ·rw [if_neg (by simp)]
    split
    ·rename_i h
     unfold passK at *
     revert h
     split <;> simp
    ·simp
theorem settle_ne8 (c : Ch) (k : Dk) : (settleL c false k).1 ≠ 8 := by
 unfold settleL
 cases c.loose
 ·simp
 ·exact sync_ne8 _ _
theorem settle_tight {c c2 : Ch} {k k2 : Dk} {dn2 : Bool} (h : settleL c false k = (0, c2, dn2, k2)) : c2.loose = false ∧ c2.g = c.g ∧ dn2 = false := by
 have hd := settle_dn c k
 rw [h] at hd
 unfold settleL at h
 cases hl : c.loose with
 | false =>
  rw [hl, if_neg (by decide)] at h
  simp only [Prod.mk.injEq] at h
  obtain ⟨_, rfl, e, _⟩ := h
  exact ⟨hl, rfl, e.symm⟩
 | true =>
  rw [hl, if_pos rfl] at h
  simp only [Prod.mk.injEq] at h
  obtain ⟨e0, rfl, _, _⟩ := h
  rw [if_pos e0]
  exact ⟨rfl, rfl, hd⟩
theorem lay_cnt (most : Nat) (c : Ch) (b : List Int) (k : Dk) (h : (layL most c b false k).1 = 0) : 1 ≤ (layL most c b false k).2.1.cnt := by
 have hp : ∀ (i sz : Nat) (c : Ch) (dn : Bool) (k : Dk), 1 ≤ i → (putS i sz c b dn k).1 = 0 → 1 ≤ (putS i sz c b dn k).2.1.cnt := fun i sz c dn k hi h0 => by
  unfold putS at *
  dsimp only at *
  rw [if_pos h0]
  exact hi
 unfold layL at *
 split at h
 ·rename_i h1
  rw [if_pos h1]
  split at h
  ·rename_i h2
   exact absurd h h2
  ·rename_i h2
   rw [if_neg h2]
   exact hp _ _ _ _ _ (by omega) h
 ·rename_i h1
  rw [if_neg h1]
  exact hp _ _ _ _ _ (by omega) h
theorem undo_ne0 (c : Ch) (nb : Bool) (k : Dk) : (undoL c nb k).1 ≠ 0 := by
 unfold undoL
 split
 ·assumption
 ·split
  ·simp
  ·split
   ·assumption
   ·simp
theorem room1_undo (c : Ch) (k : Dk) : room1 (8, c, false, k) = ((undoL c false k).1, c, (undoL c false k).2) := by
 unfold room1 ifRoomL undoL
 rw [if_pos rfl]
 by_cases h : (remC c false k).1 ≠ 0
 ·rw [if_pos h, if_pos h]
 ·rw [if_neg h, if_neg h, if_pos rfl]
theorem room1_id {x : Nat × Ch × Bool × Dk} (h : x.1 ≠ 8) : room1 x = x := by unfold room1 ifRoomL; rw [if_neg h]
theorem room2_undo (c : Ch) (k : Dk) : room2 (8, c, false, k) = ((undoL c true k).1, c, (undoL c true k).2) := by
 unfold room2 ifRoomL undoL back2
 dsimp only
 rw [if_pos rfl]
 by_cases h : (remC c false k).1 ≠ 0
 ·rw [if_pos h, if_pos h, if_pos h]
 ·rw [if_neg h, if_neg h, if_neg (show ¬ (true = false) by decide)]
  by_cases h2 : (remNewL (remC c false k).2.1 (remC c false k).2.2).1 ≠ 0
  ·rw [if_pos h2, if_pos h2]
  ·rw [if_neg h2, if_neg h2]
theorem room2_id {x : Nat × Ch × Bool × Dk} (h : x.1 ≠ 8) : room2 x = x := by unfold room2 ifRoomL; rw [if_neg h]
theorem wrB_rd (c : Ch) (k : Dk) : wrB c false k = ((appK k sNew (baseL c.g)).1, c, (if (appK k sNew (baseL c.g)).1 = 13 then true else false), (appK k sNew (baseL c.g)).2) := by
 unfold wrB
 rw [stp_rd false k _ rfl]
theorem rebase_dead (l : Lg) (k : Dk) (rs : List (List Int)) (h : l.dn = true) : rebaseL l k rs = (13, l, k) := by
 obtain ⟨m, rc, ch, dn⟩ := l
 dsimp only at h
 subst h
 unfold rebaseL
 cases rs with
 | nil =>
  have e1 : layAllL m [] ⟨ch.g + 1, 0, 0, false⟩ true k = (0, ⟨ch.g + 1, 0, 0, false⟩, true, k) := rfl
  dsimp only
  rw [e1, room1_id (by simp)]
  unfold rb1L
  rw [if_neg (by simp)]
  have e2 : wrB ⟨ch.g + 1, 0, 0, false⟩ true k = (13, ⟨ch.g + 1, 0, 0, false⟩, true, k) := rfl
  dsimp only
  rw [e2, room2_id (by simp)]
  rfl
 | cons r rs =>
  have e1 : layAllL m (r :: rs) ⟨ch.g + 1, 0, 0, false⟩ true k = (13, ⟨ch.g + 1, 0, 0, false⟩, true, k) := layAll_no (lay_dead m _ _ k) (by decide)
  dsimp only
  rw [e1, room1_id (by simp)]
  rfl
structure RTwo (W0 : World) (G0 H : Nat → Prop) (rl rh rd : Nat) (l : Lg) (v : Value) (w : World) (G K : Nat → Prop) (dn : Bool) (h : Lg) (k : Dk) : Prop where
 L : RD w G rl rd l.most v l.ch dn k
 RL : RcA w H v l.recs
 A : RLogAt w G K rh rd h k
 hf : ∀ i, H i → ¬ G i
 hl : ¬ H rl
 ne : rh ≠ rl
 Kn : ∀ i, K i → W0.heap.size ≤ i
 rhn : W0.heap.size ≤ rh
 Hlt : ∀ i, H i → i < W0.heap.size
 rll : rl < W0.heap.size
 kp : Keep (fun i => G0 i ∨ i = rl) W0 w
 Gn : ∀ i, G i → G0 i ∨ W0.heap.size ≤ i
section
variable {W0 w w' : World} {G0 H G K : Nat → Prop} {rl rh rd : Nat} {l h : Lg} {v : Value} {dn : Bool} {k : Dk}
theorem RTwo.below (t : RTwo W0 G0 H rl rh rd l v w G K dn h k) (hb : Below w.heap.size w w') : RTwo W0 G0 H rl rh rd l v w' G K dn h k :=
 ⟨t.L.below hb, t.RL.keep (S := fun _ => False) (Keep.ofBelow hb) (fun _ _ h => h) (fun _ h => h), t.A.below hb, t.hf, t.hl, t.ne, t.Kn, t.rhn, t.Hlt, t.rll, t.kp.trans (Keep.ofBelow hb), t.Gn⟩
theorem RTwo.callH (t : RTwo W0 G0 H rl rh rd l v w G K dn h k) {vh : Value} (hR : RcA w K vh h.recs) {c2 : Ch} {dn2 : Bool} {k2 : Dk} (hp : Rlp w G rh rd h.most vh c2 dn2 k2 w') :
  ∃ G', RTwo W0 G0 H rl rh rd l v w' G' K dn ⟨h.most, h.recs, c2, dn2⟩ k2 := by
 have hsz := t.kp.size
 have hp' := hp
 obtain ⟨G', hD', hk', hG'⟩ := hp
 have hnl : ¬ (G rl ∨ rl = rh) := fun h9 => h9.elim t.L.nf (fun e => t.ne e.symm)
 have hl' : ¬ G' rl := fun hg => (hG' rl hg).elim t.L.nf (fun h9 => by have := t.rll; omega)
 have hA' : RLogAt w' G' K rh rd ⟨h.most, h.recs, c2, dn2⟩ k2 := by
  refine ⟨⟨vh, hD', hR.keep hk' (fun i hi hs => ?_) (fun _ h => h)⟩, fun i hi hg => ?_, t.A.hl, fun i hi => Nat.lt_of_lt_of_le (t.A.lt i hi) hk'.size⟩
  ·rcases hs with hs | hs
   ·exact t.A.hf i hi hs
   ·exact t.A.hl (by rw [← hs]; exact hi)
  ·rcases hG' i hg with h9 | h9
   ·exact t.A.hf i hi h9
   ·have := t.A.lt i hi; omega
 refine ⟨G', ⟨box_keep t.L.blk hk' hnl, hD'.R, hl'⟩, t.RL.keep hk' (fun i hi hs => ?_) (fun _ h => h), hA', fun i hi hg => ?_, t.hl, t.ne, t.Kn, t.rhn, t.Hlt, t.rll, t.kp.andThen hk' (fun i hi hs => ?_), fun i hi => ?_⟩
 ·rcases hs with hs | hs
  ·exact t.hf i hi hs
  ·have := t.Hlt i hi; have := t.rhn; omega
 ·rcases hG' i hg with h9 | h9
  ·exact t.hf i hi h9
  ·have := t.Hlt i hi; omega
 ·rcases hs with hs | hs
  ·rcases t.Gn i hs with h9 | h9
   ·exact Or.inl h9
   ·omega
  ·have := t.rhn; omega
 ·rcases hG' i hi with h9 | h9
  ·exact t.Gn i h9
  ·exact Or.inr (by omega)
theorem RTwo.callL (t : RTwo W0 G0 H rl rh rd l v w G K dn h k) {dn2 : Bool} {k2 : Dk} (hp : Rlp w G rl rd l.most v l.ch dn2 k2 w') :
  ∃ G', RTwo W0 G0 H rl rh rd l v w' G' K dn2 h k2 := by
 have hsz := t.kp.size
 obtain ⟨G', hD', hk', hG'⟩ := hp
 obtain ⟨vh, hDh, hRh⟩ := t.A.ex
 have hrhl := hDh.lt
 have hnh : ¬ (G rh ∨ rh = rl) := fun h9 => h9.elim hDh.nf t.ne
 have hh' : ¬ G' rh := fun hg => (hG' rh hg).elim hDh.nf (fun h9 => by omega)
 have hA' : RLogAt w' G' K rh rd h k2 := by
  refine ⟨⟨vh, ⟨box_keep hDh.blk hk' hnh, hD'.R, hh'⟩, hRh.keep hk' (fun i hi hs => ?_) (fun _ h => h)⟩, fun i hi hg => ?_, t.A.hl, fun i hi => Nat.lt_of_lt_of_le (t.A.lt i hi) hk'.size⟩
  ·rcases hs with hs | hs
   ·exact t.A.hf i hi hs
   ·have := t.Kn i hi; have := t.rll; omega
  ·rcases hG' i hg with h9 | h9
   ·exact t.A.hf i hi h9
   ·have := t.A.lt i hi; omega
 refine ⟨G', hD', t.RL.keep hk' (fun i hi hs => ?_) (fun _ h => h), hA', fun i hi hg => ?_, t.hl, t.ne, t.Kn, t.rhn, t.Hlt, t.rll, t.kp.andThen hk' (fun i hi hs => ?_), fun i hi => ?_⟩
 ·rcases hs with hs | hs
  ·exact t.hf i hi hs
  ·exact t.hl (by rw [← hs]; exact hi)
 ·rcases hG' i hg with h9 | h9
  ·exact t.hf i hi h9
  ·have := t.Hlt i hi; omega
 ·rcases hs with hs | hs
  ·rcases t.Gn i hs with h9 | h9
   ·exact Or.inl h9
   ·omega
  ·exact Or.inr hs
 ·rcases hG' i hi with h9 | h9
  ·exact t.Gn i h9
  ·exact Or.inr (by omega)
theorem RTwo.out (t : RTwo W0 G0 H rl rh rd l v w G K dn h k) : Rgp W0 G0 H rl rd ⟨l.most, l.recs, l.ch, dn⟩ k w :=
 ⟨G, H, ⟨⟨v, t.L, t.RL⟩, t.hf, t.hl, fun i hi => Nat.lt_of_lt_of_le (t.Hlt i hi) t.kp.size⟩, t.kp.mono (fun _ hi => hi.elim Or.inl (fun e => Or.inr (Or.inr e))), t.Gn, fun _ hi => Or.inl hi⟩
theorem RTwo.add (t : RTwo W0 G0 H rl rh rd l v w G K dn h k) {K9 : Nat → Prop} {h9 : Lg} (hA : RLogAt w' G K9 rh rd h9 k) (hk : Keep (fun i => G i ∨ K i ∨ i = rh) w w') (hK : ∀ i, K9 i → K i ∨ w.heap.size ≤ i) :
  RTwo W0 G0 H rl rh rd l v w' G K9 dn h9 k := by
 have hsz := t.kp.size
 obtain ⟨v9, hD9, _⟩ := hA.ex
 refine ⟨⟨box_keep t.L.blk hk (fun h9 => ?_), hD9.R, t.L.nf⟩, t.RL.keep hk (fun i hi hs => ?_) (fun _ h => h), hA, t.hf, t.hl, t.ne, fun i hi => ?_, t.rhn, t.Hlt, t.rll, t.kp.andThen hk (fun i hi hs => ?_), t.Gn⟩
 ·rcases h9 with h9 | h9 | h9
  ·exact t.L.nf h9
  ·have := t.Kn _ h9; have := t.rll; omega
  ·exact t.ne h9.symm
 ·rcases hs with hs | hs | hs
  ·exact t.hf i hi hs
  ·have := t.Kn _ hs; have := t.Hlt i hi; omega
  ·have := t.rhn; have := t.Hlt i hi; omega
 ·rcases hK i hi with h9 | h9
  ·exact t.Kn i h9
  ·omega
 ·rcases hs with hs | hs | hs
  ·rcases t.Gn i hs with h9 | h9
   ·exact Or.inl h9
   ·omega
  ·have := t.Kn _ hs; omega
  ·have := t.rhn; omega
end
end Go.Proofs.YtikkieaokfailaaGreatDoor

namespace Go.Proofs.YtikkieaokfailaaGreatDoor
open Go.RowKit Go.Joins
def ROp (w w' : World) (G : Nat → Prop) (rd : Nat) (Q : Nat × Lg × Dk) (e : Ending) : Prop :=
 (Q.1 ≠ 0 ∧ e = .returned (.tuple #[.pointer none, .int .i64 (Q.1 : Int)]) ∧ Rp w G rd Q.2.2 w') ∨
 (Q.1 = 0 ∧ ∃ (rl : Nat) (G' H' : Nat → Prop), e = .returned (.tuple #[.pointer (some ⟨rl, 0, none⟩), .int .i64 0]) ∧ RLogAt w' G' H' rl rd Q.2.1 Q.2.2 ∧ w.heap.size ≤ rl ∧ (∀ i, H' i → w.heap.size ≤ i) ∧ Keep G w w' ∧ (∀ i, G' i → G i ∨ w.heap.size ≤ i))
structure RNew (w : World) (G : Nat → Prop) (rl rd : Nat) (wr : World) (G1 H1 : Nat → Prop) (l : Lg) (k : Dk) : Prop where
 A : RLogAt wr G1 H1 rl rd l k
 rn : w.heap.size ≤ rl
 Hn : ∀ i, H1 i → w.heap.size ≤ i
 kp : Keep G w wr
 Gn : ∀ i, G1 i → G i ∨ w.heap.size ≤ i
section
variable {w wr w' : World} {G G1 H1 : Nat → Prop} {rl rd : Nat} {l : Lg} {k : Dk}
theorem RNew.below (t : RNew w G rl rd wr G1 H1 l k) (hb : Below wr.heap.size wr w') : RNew w G rl rd w' G1 H1 l k := ⟨t.A.below hb, t.rn, t.Hn, t.kp.trans (Keep.ofBelow hb), t.Gn⟩
theorem RNew.R (t : RNew w G rl rd wr G1 H1 l k) : RefAt wr G1 rd k := by obtain ⟨v, hD, _⟩ := t.A.ex; exact hD.R
theorem RNew.rp (t : RNew w G rl rd wr G1 H1 l k) {k' : Dk} (hp : Rp wr G1 rd k' w') : ∃ G', RNew w G rl rd w' G' H1 l k' := by
 obtain ⟨G', h1, h2, h3⟩ := hp
 obtain ⟨v, hD, hR⟩ := t.A.ex
 have hs := t.kp.size
 have hlt := hD.lt
 refine ⟨G', ⟨⟨v, ⟨box_keep hD.blk h2 hD.nf, h1, fun hg => (h3 rl hg).elim hD.nf (fun h9 => by omega)⟩, hR.keep h2 (fun i hi hg => t.A.hf i hi hg) (fun _ h => h)⟩, fun i hi hg => ?_, t.A.hl, fun i hi => Nat.lt_of_lt_of_le (t.A.lt i hi) h2.size⟩, t.rn, t.Hn, t.kp.andThen h2 (fun i hi hg => ?_), fun i hi => ?_⟩
 ·rcases h3 i hg with h9 | h9
  ·exact t.A.hf i hi h9
  ·have := t.A.lt i hi; omega
 ·rcases t.Gn i hg with h9 | h9
  ·exact h9
  ·omega
 ·rcases h3 i hi with h9 | h9
  ·exact t.Gn i h9
  ·exact Or.inr (by omega)
theorem RNew.rp2 (t : RNew w G rl rd wr G1 H1 l k) {k' : Dk} (hp : Rp wr G1 rd k' w') : ∃ G', RNew w G rl rd w' G' H1 l k' ∧ (∀ i, G' i → G1 i ∨ wr.heap.size ≤ i) := by
 obtain ⟨G', h1, h2, h3⟩ := hp
 obtain ⟨v, hD, hR⟩ := t.A.ex
 have hs := t.kp.size
 have hlt := hD.lt
 refine ⟨G', ⟨⟨⟨v, ⟨box_keep hD.blk h2 hD.nf, h1, fun hg => (h3 rl hg).elim hD.nf (fun h9 => by omega)⟩, hR.keep h2 (fun i hi hg => t.A.hf i hi hg) (fun _ h => h)⟩, fun i hi hg => ?_, t.A.hl, fun i hi => Nat.lt_of_lt_of_le (t.A.lt i hi) h2.size⟩, t.rn, t.Hn, t.kp.andThen h2 (fun i hi hg => ?_), fun i hi => ?_⟩, h3⟩
 ·rcases h3 i hg with h9 | h9
  ·exact t.A.hf i hi h9
  ·have := t.A.lt i hi; omega
 ·rcases t.Gn i hg with h9 | h9
  ·exact h9
  ·omega
 ·rcases h3 i hi with h9 | h9
  ·exact t.Gn i h9
  ·exact Or.inr (by omega)
theorem RNew.rgp (t : RNew w G rl rd wr G1 H1 l k) {l' : Lg} {k' : Dk} (hp : Rgp wr G1 H1 rl rd l' k' w') : ∃ G' H', RNew w G rl rd w' G' H' l' k' := by
 obtain ⟨G', H', h1, h2, h3, h4⟩ := hp
 have hs := t.kp.size
 refine ⟨G', H', h1, t.rn, fun i hi => ?_, t.kp.andThen h2 (fun i hi hg => ?_), fun i hi => ?_⟩
 ·rcases h4 i hi with h9 | h9
  ·exact t.Hn i h9
  ·omega
 ·rcases hg with hg | hg | hg
  ·rcases t.Gn i hg with h9 | h9
   ·exact h9
   ·omega
  ·have := t.Hn i hg; omega
  ·have := t.rn; omega
 ·rcases h3 i hi with h9 | h9
  ·exact t.Gn i h9
  ·exact Or.inr (by omega)
theorem RNew.no (t : RNew w G rl rd wr G1 H1 l k) : Rp w G rd k wr := ⟨G1, t.R, t.kp, t.Gn⟩
end
theorem base_has (k : Dk) : inN sBase (listK k).2 = decide ((readK k sBase).1 = 0) := by
 unfold listK readK
 by_cases ho : k.off = true
 ·rw [if_pos ho, if_pos ho]
  rfl
 ·rw [if_neg ho, if_neg ho, if_neg (show ¬ isNm sBase = false by decide)]
  cases hl : look k.fs sBase with
  | none =>
   rw [inN_no (fun hm => by
    have := look_isSome.2 hm
    rw [hl] at this
    cases this)]
   rfl
  | some f =>
   rw [inN_iff.2 (look_isSome.1 (by rw [hl]; rfl))]
   rfl
theorem base_none {k : Dk} (ho : k.off = false) (h : (readK k sBase).1 ≠ 0) : baseR (readK k sBase) = (0, 1) := by
 unfold readK at *
 rw [if_neg (by rw [ho]; decide), if_neg (show ¬ isNm sBase = false by decide)] at *
 cases hl : look k.fs sBase with
 | none => rfl
 | some f => rw [hl] at h; exact absurd rfl h
theorem open_off {most : Nat} {k : Dk} (ho : k.off = true) : openL most k = (13, lg0 most, k) := by
 unfold openL readK
 rw [if_pos ho]
 rfl
theorem RNew.start {w X : World} {G : Nat → Prop} {rd most g : Nat} {k : Dk} (hR : RefAt w G rd k) {w0 : World} (hb : Below w.heap.size w w0) (hX : X = w0.alloc (.cells (rlcs rd most (.slice none 0 0) ⟨g, 0, 0, false⟩ false) 90)) :
  RNew w G w0.heap.size rd X G (fun _ => False) ⟨most, [], ⟨g, 0, 0, false⟩, false⟩ k := by
 have hb2 : Below w.heap.size w X := by rw [hX]; exact hb.alloc hb.size _
 have hblk : X.heap[w0.heap.size]? = some (.cells (rlcs rd most (.slice none 0 0) ⟨g, 0, 0, false⟩ false) 90 (0, 0)) := by
  rw [hX]
  exact alloc_at w0 _
 have hs := hb.size
 have hRX : RefAt X G rd k := hR.keep (S := fun _ => False) (Keep.ofBelow hb2) (fun _ _ h => h)
 exact ⟨⟨⟨_, ⟨hblk, hRX, fun hg => by have := hR.lt _ hg; omega⟩, rcA_nil _ _⟩, (fun _ h => h.elim), (fun h => h), (fun _ h => h.elim)⟩, hs, (fun _ h => h.elim), Keep.ofBelow hb2, fun _ hi => Or.inl hi⟩
theorem RNew.setG {w wr : World} {G G1 : Nat → Prop} {rl rd most g0 g : Nat} {k : Dk} (t : RNew w G rl rd wr G1 (fun _ => False) ⟨most, [], ⟨g0, 0, 0, false⟩, false⟩ k) :
  RNew w G rl rd (wr.setCell ⟨rl, 2, none⟩ (.int .u64 (g : Int))) G1 (fun _ => False) ⟨most, [], ⟨g, 0, 0, false⟩, false⟩ k := by
 obtain ⟨v, hD, hRc⟩ := t.A.ex
 dsimp only at hD hRc
 have hk : Keep (fun i => i = rl) wr (wr.setCell ⟨rl, 2, none⟩ (.int .u64 (g : Int))) := (Keep.refl (fun i => i = rl) wr).setCell (p := ⟨rl, 2, none⟩) rfl _
 have hD2 : RD (wr.setCell ⟨rl, 2, none⟩ (.int .u64 (g : Int))) G1 rl rd most v ⟨g, 0, 0, false⟩ false k := hD.set 2 _ rfl
 exact ⟨⟨⟨v, hD2, hRc.keep hk (fun _ h => h.elim) (fun _ h => h)⟩, (fun _ h => h.elim), (fun h => h), (fun _ h => h.elim)⟩, t.rn, t.Hn, t.kp.andThen hk (fun i hi e => by have := t.rn; omega), t.Gn⟩
theorem str_ne {xs ys : List Int} (hx : Bd xs) (hy : Bd ys) (h : xs ≠ ys) : ((strOfNums xs).toList == (strOfNums ys).toList) = false := nm_neqT (fun e => h (str_inj hx hy e))
theorem rem_ok {k k2 : Dk} {x : Nm} (h : removeK k x = (0, k2)) : k2.off = k.off ∧ k2.fs = dropL k.fs x := by
 unfold removeK stepK at h
 split at h
 ·simp at h
 ·split at h
  ·simp at h
  ·split at h
   ·simp at h
   ·rw [if_neg (by simp)] at h
    have hp : (passK k).1 = 0 → (passK k).2.off = k.off ∧ (passK k).2.fs = k.fs := by
     unfold passK
     split
     ·intro _; exact ⟨rfl, rfl⟩
     ·intro h9; simp at h9
     ·intro _; exact ⟨rfl, rfl⟩
    split at h
    ·rename_i h9
     rw [h] at h9
     exact absurd rfl h9
    ·rename_i h9
     have h8 : (passK k).1 = 0 := by
      by_cases e : (passK k).1 = 0
      ·exact e
      ·exact absurd e h9
     simp only [Prod.mk.injEq, true_and] at h
     subst h
     exact ⟨(hp h8).1, by show dropL (passK k).2.fs x = _; rw [(hp h8).2]⟩
structure Sgs (g n : Nat) (k : Dk) : Prop where
 off : k.off = false
 have_ : ∀ s ∈ segs g 0 n, (look k.fs s).isSome = true
 few : used k.fs ≤ 900000
theorem Sgs.rem {g n : Nat} {k k2 : Dk} {x : Nm} (h : Sgs g n k) (hr : removeK k x = (0, k2)) (hx : inN x (segs g 0 n) = false) : Sgs g n k2 := by
 obtain ⟨h1, h2⟩ := rem_ok hr
 refine ⟨h1.trans h.off, fun s hs => ?_, ?_⟩
 ·rw [h2, look_drop, if_neg]
  ·exact h.have_ s hs
  ·intro e
   rw [e] at hs
   rw [inN_iff.2 hs] at hx
   cases hx
 ·have := remove_used k x
  rw [hr] at this
  exact Nat.le_trans this h.few
theorem Sgs.read {g n m : Nat} {k : Dk} (h : Sgs g n k) (hm : m + 1 ≤ n) (hnm : isNm (segN g (m + 1)) = true) : (readK k (segN g (m + 1))).1 = 0 := by
 have hs := h.have_ (segN g (m + 1)) (mem_segs.2 ⟨m, by omega, by rw [Nat.zero_add]⟩)
 unfold readK
 rw [if_neg (by rw [h.off]; decide), if_neg (by rw [hnm]; decide)]
 cases hl : look k.fs (segN g (m + 1)) with
 | none => rw [hl] at hs; cases hs
 | some f => rfl
theorem seg_doc (most g n m sz : Nat) (recs : List (List Int)) (k : Dk) (hk : (readK k (segN g (m + 1))).1 = 0) :
  ∃ en wh R z k2, sgR ⟨most, recs, ⟨g, m, sz, false⟩, false⟩ (m + 1) (segN g (m + 1)) k (readK k (segN g (m + 1))).2 = (en, wh, ⟨most, recs ++ R, ⟨g, m + 1, z, false⟩, false⟩, k2) ∧
   readSegL ⟨most, recs, ⟨g, n, sz, false⟩, false⟩ (m + 1) k = (en, wh, ⟨most, recs ++ R, ⟨g, n, z, false⟩, decide (en = 13)⟩, k2) ∧ (wh = true → en = 0 ∧ k2 = k) := by
 unfold readSegL readSegR sgR
 dsimp only
 obtain ⟨P, HP⟩ : ∃ P, readK k (segN g (m + 1)) = P := ⟨_, rfl⟩
 rw [HP] at hk ⊢
 obtain ⟨e0, xs⟩ := P
 dsimp only at hk ⊢
 subst hk
 rw [if_neg (show ¬ ((0 : Nat) ≠ 0) by simp)]
 cases hw : (scanF xs.length xs).2.2 with
 | true => exact ⟨0, true, _, _, k, rfl, rfl, fun _ => ⟨rfl, rfl⟩⟩
 | false =>
  refine ⟨(cutK k (segN g (m + 1)) ((scanF xs.length xs).2.1 : Int)).1, false, (scanF xs.length xs).1, (scanF xs.length xs).2.1, (cutK k (segN g (m + 1)) ((scanF xs.length xs).2.1 : Int)).2, rfl, ?_, fun h => by cases h⟩
  unfold stp
  rfl
theorem rdEnd_eq (most g n m z : Nat) (recs : List (List Int)) (k : Dk) (eR : Nat) (dnR : Bool) (kR : Dk) (h : remAll (segs g (m + 1) (n - (m + 1))) false k = (eR, dnR, kR)) :
  rdSegs.rdEnd m ⟨most, recs, ⟨g, n, z, false⟩, false⟩ k = (eR, ⟨most, recs, (if eR = 0 then ⟨g, m + 1, z, false⟩ else ⟨g, n, z, false⟩), dnR⟩, kR) := by
 unfold rdSegs.rdEnd
 dsimp only
 rw [h]
theorem openD_ok (most g c z : Nat) (recs : List (List Int)) (k : Dk) : openR.openD (0, ⟨most, recs, ⟨g, c, z, false⟩, false⟩, k) = if c = 0 then (0, ⟨most, recs, ⟨g, c, z, false⟩, false⟩, k) else ((syncK k (segN g c)).1, ⟨most, recs, (if (syncK k (segN g c)).1 = 0 then ⟨g, c, z, false⟩ else ⟨g, c, z, true⟩), (if (syncK k (segN g c)).1 = 13 then true else false)⟩, (syncK k (segN g c)).2) := by
 unfold openR.openD
 rw [if_neg (by simp)]
 unfold commitL settleL
 dsimp only
 by_cases h : c = 0
 ·subst h
  rw [if_pos rfl]
  rfl
 ·rw [if_neg h, decide_eq_true (show 0 < c by omega), if_pos rfl, stp_rd false k _ rfl]
end Go.Proofs.YtikkieaokfailaaGreatDoor

namespace Go.Proofs.YtikkieaokfailaaGreatDoor
open Go.RowKit Go.Joins
def lg1 (most : Nat) : Lg := ⟨most, [], ⟨1, 0, 0, false⟩, false⟩
theorem open_new (most room : Nat) : openL most (newK room) = (0, lg1 most, newK room) := by kernel_rfl
theorem seg11 : segN 1 1 = ⟨#[108, 111, 103, 45, 49, 45, 49]⟩ := by
 unfold segN
 rw [Lib.decDigits_one (by decide)]
 rfl
def fAb : List Int := [0, 0, 0, 2, 158, 131, 72, 109, 97, 98]
theorem formAb : formL [97, 98] = fAb := by kernel_rfl
def kAb : Dk := ⟨1000, [(⟨#[108, 111, 103, 45, 49, 45, 49]⟩, ⟨fAb, 0⟩)], 1, false, none⟩
theorem appAb : appK (newK 1000) ⟨#[108, 111, 103, 45, 49, 45, 49]⟩ fAb = (0, kAb) := by kernel_rfl
theorem append_ab : appendT (lg1 100) (newK 1000) [97, 98] = (0, ⟨100, [[97, 98]], ⟨1, 1, 10, true⟩, false⟩, kAb) := by
 unfold appendT appendL
 rw [if_neg (by decide), formAb]
 have h : layL (lg1 100).most (lg1 100).ch fAb (lg1 100).dn (newK 1000) = (0, ⟨1, 1, 10, true⟩, false, kAb) := by
  unfold layL
  rw [if_neg (by decide)]
  show putS 1 0 ⟨1, 0, 0, false⟩ fAb false (newK 1000) = _
  unfold putS
  rw [show (⟨1, 0, 0, false⟩ : Ch).g = 1 from rfl, seg11, appAb]
  rfl
 rw [h]
 rfl
theorem read_ab : readK kAb ⟨#[108, 111, 103, 45, 49, 45, 49]⟩ = (0, fAb) := by kernel_rfl
theorem rd_ab (w : World) (m : Nat × Nat) : Rd (w.alloc (.cells #[.int .u8 97, .int .u8 98] 5 m)) (some ⟨w.heap.size, 0, none⟩) 2 2 [97, 98] := by
 refine ⟨rfl, Nat.le_refl _, by unfold maxLen; omega, (fun h => by cases h), (fun q hq => by simp at hq; omega), fun ad had j hj => ?_⟩
 cases had
 rw [add_flat]
 match j, hj with
 | 0, _ | 1, _ => unfold World.cell?; rw [World.alloc_heap_new]; rfl
theorem strAb : (strOfNums fAb).toList = [0, 0, 0, 2, 158, 131, 72, 109, 97, 98] := by rw [ByteArray.toList_eq]; rfl
theorem bdAb : Bd fAb := by unfold fAb; intro x hx; simp at hx; omega
set_option maxRecDepth 100000 in
set_option maxHeartbeats 2000000 in
theorem swakes_any (w : World) (hP : Pw w) : Calls Tryz.prog 11 #[] w fun e w' => e = .returned (.bool true) ∧ Below w.heap.size w w' := by
 have kc := fun (w : World) (C : Array Value) (n c : Nat) => Lib.run_convert_bytes_const (P := Tryz.prog) w 29 5 C n c Tryz.underlying29 Tryz.underlying5
 have hN := new_ok 1000 (by omega) w
 have hpl := hP.at
 obtain ⟨kN, HkN⟩ : ∃ kN, Hid (newK 1000 = kN) := ⟨_, rfl⟩
 have hon := open_new 100 1000
 have hap := append_ab
 rw [HkN.out] at hN hon hap
 have hkf : kN.fs.length ≤ 2500 := by rw [← HkN.out]; decide
 have hks : kN.steps < 800000 := by rw [← HkN.out]; decide
 have hku : used kN.fs ≤ 900000 := by rw [← HkN.out]; decide
 have Hop : Hid (openL 100 kN = (0, lg1 100, kN)) := hon
 have Hap : Hid (appendT (lg1 100) kN [97, 98] = (0, ⟨100, [[97, 98]], ⟨1, 1, 10, true⟩, false⟩, kAb)) := hap
 clear hon hap
 go_enter Tryz.func11, Tryz.ntmps11
 go_upto_region 2 with (first
  | (go_at_call 14; refine hN.mono ?_; rintro e w1 ⟨d, rfl, ⟨F1, hD1, hF1⟩, hb1⟩))
 have hop := sopen_any w1 F1 d 100 kN (by omega) (by omega) hD1 (hP.below hb1) (fun i hi => by have := hF1 i hi; omega) hkf hks hku
 rw [Hop.out] at hop
 go_upto_region 3 with (first
  | (go_at_call 20; refine hop.mono ?_; rintro e w2 ho; obtain ⟨lb, rfl, hlb, F2, H2, hA2, hk2, hF2, hH2⟩ := ho.yes rfl))
 clear ho hop
 have hbA : Below w2.heap.size w2 (w2.alloc (.cells #[.int .u8 97, .int .u8 98] 5 (2, 3))) := (Below.refl _ _).alloc (Nat.le_refl _) _
 obtain ⟨v2, hL2, _⟩ := hA2.ex
 have hF2l := hL2.D.lt
 have hlbl := hL2.lt
 have hapc := sappend_any _ F2 H2 lb d (lg1 100) kN (hA2.below hbA) ⟨by decide, by decide, by decide, by decide, by decide⟩ (by omega) (by omega) _ 2 2 [97, 98] (rd_ab w2 (2, 3)) (fun ad had => by
  cases had
  refine ⟨fun hf => ?_, ?_⟩
  ·have := hF2l _ hf; dsimp only at this; omega
  ·dsimp only; omega)
 rw [Hap.out] at hapc
 have hF20 : ∀ i, F2 i → w.heap.size ≤ i := fun i hi => (hF2 i hi).elim (hF1 i) (fun h => by have := hb1.size; omega)
 have hH20 : ∀ i, H2 i → w.heap.size ≤ i := fun i hi => by have := hH2 i hi; have := hb1.size; omega
 have hb2 : Below w.heap.size w w2 := hb1.trans (hk2.low hb1.size hF1)
 go_upto_region 5 with (first
  | (go_at_call 22; refine hapc.mono ?_; rintro e w3 ⟨rfl, F3, H3, hA3, hk3, hF3, hH3⟩))
 have hbA2 : Below w.heap.size w (w2.alloc (.cells #[.int .u8 97, .int .u8 98] 5 (2, 3))) := hb2.alloc hb2.size _
 have hb3 : Below w.heap.size w w3 := hbA2.trans (hk3.low hbA2.size (fun i hi => by
  rcases hi with hi | hi | hi
  ·exact hF20 i hi
  ·exact hH20 i hi
  ·have := hb1.size; omega))
 obtain ⟨v3, hL3, _⟩ := hA3.ex
 have hrd := read_any d F3 kAb ⟨#[108, 111, 103, 45, 49, 45, 49]⟩ w3 hL3.D
 rw [read_ab] at hrd
 dsimp only at hrd
 go_upto_region 6 with (first
  | (go_at_call 38; refine hrd.mono ?_; rintro e w4 ⟨v4, rfl, o4, hb4⟩; obtain ⟨a4, c4, rfl, r4⟩ := Rd.ofOwn o4 bdAb))
 have hs4 := r4.string
 have hln := slen_any w4 F3 H3 lb d _ kAb (hA3.below hb4)
 obtain ⟨SS, HSS⟩ : ∃ SS, Hid (strOfNums fAb = SS) := ⟨_, rfl⟩
 rw [HSS.out] at hs4
 have hsl : (SS.toList == [0, 0, 0, 2, 158, 131, 72, 109, 97, 98]) = true := by rw [← HSS.out, strAb]; rfl
 clear r4 o4 hapc hrd
 go_wp2_with (first
  | (go_at_call 26; refine hln.mono ?_; rintro e w5 ⟨rfl, h5⟩; replace h5 := h5.symm; subst h5))
 go_ret
 exact ⟨rfl, hb3.trans (hb4.mono hb3.size)⟩
end Go.Proofs.YtikkieaokfailaaGreatDoor
namespace Go.Proofs.YtikkieaokfailaaGreatDoor
open Go.RowKit Go.Joins
def forms : List (List Int) → List Int
 | [] => []
 | r :: rs => formL r ++ forms rs
theorem dec_okc : ∀ (k n : Nat), n ≤ k → ∀ c ∈ Lib.decDigits n, okc c = true
 | k, n, h => by
  have hd : ∀ d : Nat, d < 10 → okc (UInt8.ofNat (48 + d)) = true := by decide
  by_cases h1 : n < 10
  ·rw [Lib.decDigits_one h1]
   intro c hc
   rw [List.mem_singleton.1 hc]
   exact hd n h1
  ·match k, h with
   | 0, h => omega
   | k + 1, h =>
    rw [decDigits_moreL h1]
    intro c hc
    rcases List.mem_append.1 hc with hc | hc
    ·exact dec_okc k (n / 10) (by omega) c hc
    ·rw [List.mem_singleton.1 hc]
     exact hd _ (Nat.mod_lt _ (by decide))
theorem isNm_seg (g i : Nat) (hg : g < 18446744073709551616) (hi : i < 18446744073709551616) : isNm (segN g i) = true := by
 have h1 := segN_size g i hg hi
 have h2 : 5 ≤ (segN g i).size := by
  show 5 ≤ ([108, 111, 103, 45] ++ Lib.decDigits g ++ [45] ++ Lib.decDigits i).toArray.size
  simp
  omega
 have h3 : (segN g i).data.toList.all okc = true := by
  show ([108, 111, 103, 45] ++ Lib.decDigits g ++ [45] ++ Lib.decDigits i).all okc = true
  rw [List.all_eq_true]
  intro c hc
  rcases List.mem_append.1 hc with hc | hc
  ·rcases List.mem_append.1 hc with hc | hc
   ·rcases List.mem_append.1 hc with hc | hc
    ·have : ∀ c ∈ ([108, 111, 103, 45] : List UInt8), okc c = true := by decide
     exact this c hc
    ·exact dec_okc g g (Nat.le_refl _) c hc
   ·rw [List.mem_singleton.1 hc]; decide
  ·exact dec_okc i i (Nat.le_refl _) c hc
 unfold isNm
 rw [h3, decide_eq_true (by omega), decide_eq_true (by omega)]
 rfl
end Go.Proofs.YtikkieaokfailaaGreatDoor
namespace Go.Proofs.YtikkieaokfailaaGreatDoor
open Go.RowKit Go.Joins
end Go.Proofs.YtikkieaokfailaaGreatDoor
