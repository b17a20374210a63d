/- The document's disk: Cut. -/
import Derived.Test.YtimfidhehikaiaaDkZb
namespace Go.Proofs.Ytimfidhehikaiaa
open Go.RowKit Go.Joins

set_option maxRecDepth 100000 in
set_option maxHeartbeats 4000000 in
/-- The size is none. -/
theorem refCut_arg (rd : Nat) (G : Nat → Prop) (k : Dk) (s : Nm) (f : Fle) (z : Int) (hz : ¬ (0 ≤ z ∧ z ≤ (f.b.length : Int))) (w : World) (hR : RefAt w G rd k) (hlk : look k.fs s = some f)
    (hF : Calls Try.prog 53 #[.pointer (some ⟨rd, 0, none⟩), .string s, .bool true] w fun e w' => e = .returned (.int .i64 0) ∧ w' = w) :
    Calls Try.prog 34 #[.pointer (some ⟨rd, 0, none⟩), .string s, .int .i64 z] w fun e w' => e = .returned (.int .i64 1) ∧ w' = w := by
  obtain ⟨j, hj, hix, hjl⟩ := ixL_some hlk 0
  rw [Nat.zero_add] at hj
  have hA := at_any rd G k s w hR
  rw [hj] at hA
  obtain ⟨g0, cap0, aj, cj, q0, hcap0, _, q1, _, _, hRj, _, _⟩ := hR.rowj hix
  obtain ⟨N, HN⟩ : ∃ N, Hid (k.fs.length = N) := ⟨_, rfl⟩
  obtain ⟨ln, HLn⟩ : ∃ ln, Hid (f.b.length = ln) := ⟨_, rfl⟩
  rw [HN.out] at q0 hcap0 hjl
  rw [HLn.out] at q1 hRj hz
  have hlen1 := fun w => len_slice aj ln cj 31 3 w Try.underlying31
  have hjN0 : (0 : Int) ≤ (j : Int) := by omega
  have hjN : (j : Int) < (N : Int) := by omega
  clear hR hix hj hlk hRj
  by_cases h0 : z < 0
  · clear hz
    go_enter Try.func34, Try.ntmps34
    go_wp2_with (first
      | (go_at_call 53; refine hF.mono ?_; rintro e w1 ⟨rfl, hw1⟩; replace hw1 := hw1.symm; subst hw1)
      | (go_at_call 55; refine hA.mono ?_; rintro e w3 ⟨rfl, hw3⟩; replace hw3 := hw3.symm; subst hw3))
    go_ret
    exact ⟨rfl, rfl⟩
  · have h1 : (ln : Int) < z := by omega
    clear hz
    go_enter Try.func34, Try.ntmps34
    go_wp2_with (first
      | (go_at_call 53; refine hF.mono ?_; rintro e w1 ⟨rfl, hw1⟩; replace hw1 := hw1.symm; subst hw1)
      | (go_at_call 55; refine hA.mono ?_; rintro e w3 ⟨rfl, hw3⟩; replace hw3 := hw3.symm; subst hw3))
    go_ret
    exact ⟨rfl, rfl⟩

theorem cutF_good {k : Dk} (hg : k.Good) {s : Nm} (hnm : isNm s = true) {f : Fle} (hlk : look k.fs s = some f) {z n : Nat} (hz : z ≤ f.b.length) (hn : n ≤ z) : ({ k with fs := putL k.fs s ⟨f.b.take z, n⟩ } : Dk).Good := by
  obtain ⟨_, hsf, hbd⟩ := look_good hg hlk
  have hup := used_put k.fs hg.rise s ⟨f.b.take z, n⟩
  rw [hlk] at hup
  have hle : lenO (some f) = f.b.length := rfl
  have hcl : (⟨f.b.take z, n⟩ : Fle).b.length = z := by show (f.b.take z).length = z; rw [List.length_take]; omega
  rw [hle, hcl] at hup
  have h := hg.used
  exact good_put hg hnm (by rw [hcl]; exact hn) (hbd.take z) (by omega)

set_option maxRecDepth 100000 in
set_option maxHeartbeats 8000000 in
/-- The size is one. -/
theorem refCut_go (rd : Nat) (G : Nat → Prop) (k : Dk) (s : Nm) (f : Fle) (z : Nat) (hz : z ≤ f.b.length) (hnm : isNm s = true) (hst : k.steps < 1000000) (w : World) (hR : RefAt w G rd k) (hlk : look k.fs s = some f)
    (hF : Calls Try.prog 53 #[.pointer (some ⟨rd, 0, none⟩), .string s, .bool true] w fun e w' => e = .returned (.int .i64 0) ∧ w' = w) :
    Calls Try.prog 34 #[.pointer (some ⟨rd, 0, none⟩), .string s, .int .i64 (z : Int)] w fun e w' => ((passK k).1 ≠ 0 ∧ e = .returned (.int .i64 ((passK k).1 : Int)) ∧ Rp w G rd (passK k).2 w') ∨ ((passK k).1 = 0 ∧ e = .returned (.int .i64 0) ∧ Rp w G rd { (passK k).2 with fs := putL (passK k).2.fs s (cutF f z) } w') := by
  obtain ⟨j, hj, hix0, hjl⟩ := ixL_some hlk 0
  rw [Nat.zero_add] at hj
  have hA := at_any rd G k s w hR
  rw [hj] at hA
  obtain ⟨gA, capA, aA, cA, qA0, hcapA, _, qA1, _, _, hRA, _, _⟩ := hR.rowj hix0
  obtain ⟨ln, HLn⟩ : ∃ ln, Hid (f.b.length = ln) := ⟨_, rfl⟩
  obtain ⟨M, HM⟩ : ∃ M, Hid (k.fs.length = M) := ⟨_, rfl⟩
  rw [HM.out] at qA0 hcapA
  have hfle : f.b.length ≤ 16777216 := Nat.le_trans (used_mem (look_mem hlk)) (Nat.le_trans hR.good.used hR.good.room)
  have hP := power_any rd G k hst w hR
  have hpfs := pass_fs k
  have hgp := good_pass hR.good
  obtain ⟨P, HPe⟩ : ∃ P, Hid (passK k = P) := ⟨_, rfl⟩
  rw [HPe.out] at hP hpfs hgp ⊢
  obtain ⟨en, k1⟩ := P
  dsimp only at hP hpfs hgp ⊢
  have hlk1 : look k1.fs s = some f := by rw [hpfs]; exact hlk
  have hgC : ∀ n, n ≤ z → ({ k1 with fs := putL k1.fs s ⟨f.b.take z, n⟩ } : Dk).Good := fun n hn => cutF_good hgp hnm hlk1 hz hn
  rw [← hpfs] at hix0 hjl
  have hix : Hid (k1.fs[j]? = some (s, f)) := hix0
  have hjM : j < M := by rw [← HM.out, ← hpfs]; exact hjl
  rw [HLn.out] at qA1 hz hfle
  have hlen1 := fun w => len_slice aA ln cA 31 3 w Try.underlying31
  have hz0 : ¬ (z : Int) < 0 := by omega
  have hz2 : ¬ (ln : Int) < (z : Int) := by omega
  have hz3 : (0 : Int) ≤ (z : Int) := by omega
  have hjA0 : (0 : Int) ≤ (j : Int) := by omega
  have hjA : (j : Int) < (M : Int) := by omega
  clear HPe hix0 hj hlk hlk1 hRA
  by_cases hen : en = 0
  · subst hen
    have hfin : ∀ e' (w' : World), (e' = Ending.returned (.int .i64 0) ∧ Rp w G rd { k1 with fs := putL k1.fs s (cutF f z) } w') → ((0 : Nat) ≠ 0 ∧ e' = Ending.returned (.int .i64 ((0 : Nat) : Int)) ∧ Rp w G rd k1 w') ∨ ((0 : Nat) = 0 ∧ e' = Ending.returned (.int .i64 0) ∧ Rp w G rd { k1 with fs := putL k1.fs s (cutF f z) } w') := fun e' w' h => Or.inr ⟨rfl, h⟩
    refine Calls.mono ?_ hfin
    by_cases hsz : z < f.safe
    · have hgN := hgC z (Nat.le_refl _)
      have hcf : cutF f z = ⟨f.b.take z, z⟩ := by unfold cutF; rw [Nat.min_eq_right (by omega)]
      rw [hcf]
      go_enter Try.func34, Try.ntmps34
      go_upto_region 9 with (first
        | (go_at_call 53; refine hF.mono ?_; rintro e w1 ⟨rfl, hw1⟩; replace hw1 := hw1.symm; subst hw1)
        | (go_at_call 55; refine hA.mono ?_; rintro e w3 ⟨rfl, hw3⟩; replace hw3 := hw3.symm; subst hw3)
        | (go_at_call 54; refine hP.mono ?_; rintro e w2 ⟨rfl, G2, hR2, hk2, hG2⟩))
      clear qA0 qA1 hlen1 hcf hfin
      refine wp_region_lx (fun w' => Below w2.drew.heap.size w2.drew w') [19] 20 (by kernel_rfl) (by kernel_rfl) ?_
      have hVX : Below w2.heap.size w2 w2.drew := (Below.refl _ _).drew
      have hRX := hR2.below hVX
      clear hA hF hP
      obtain ⟨g0, cap0, aj, cj, q0, hcap0, _, q1, _, _, hRj, _, _⟩ := hRX.rowj hix.out
      obtain ⟨N, HN⟩ : ∃ N, Hid (k1.fs.length = N) := ⟨_, rfl⟩
      rw [HN.out] at q0 hcap0 hjl
      rw [HLn.out] at q1 hRj
      have hcF : ∀ w', Below w2.drew.heap.size w2.drew w' → w'.cell? ⟨rd, 0, none⟩ = some (.slice (some ⟨g0, 0, none⟩) N cap0) := fun w' hb => (hb.cell (p := ⟨rd, 0, none⟩) (World.block_lt_of_cell? _ _ q0)).trans q0
      have hcB : ∀ w', Below w2.drew.heap.size w2.drew w' → w'.cell? ⟨g0, j * 3 + 1, none⟩ = some (.slice aj ln cj) := fun w' hb => (hb.cell (p := ⟨g0, j * 3 + 1, none⟩) (World.block_lt_of_cell? _ _ q1)).trans q1
      have hjN0 : (0 : Int) ≤ (j : Int) := by omega
      have hjN : (j : Int) < (N : Int) := by omega
      have hcj := hRj.cap
      have hz1 : (z : Int) ≤ (cj : Int) := by omega
      clear q0 q1
      generalize w2.drew = X at *
      have HSX : Below X.heap.size X X := Below.refl _ _
      refine lx_rd 0 ?vcx0 (by kernel_rfl) (fun _ _ d _ _ h => by cases d <;> exact h) (by kernel_rfl) HSX rfl rfl rfl (fun w' hS => ?hcx0) ?_
      case hcx0 => first | (go_simp; rfl) | go_simp
      simp only [List.setIfInBounds_toArray, List.set_cons_zero, List.set_cons_succ]
      refine lx_rd 1 ?vcx1 (by kernel_rfl) (fun _ _ d _ _ h => by cases d <;> exact h) (by kernel_rfl) HSX rfl rfl rfl (fun w' hS => ?hcx1) ?_
      case hcx1 => first | (go_simp; rfl) | go_simp
      simp only [List.setIfInBounds_toArray, List.set_cons_zero, List.set_cons_succ]
      refine lx_rd 2 ?vcx2 (by kernel_rfl) (fun _ _ d _ _ h => by cases d <;> exact h) (by kernel_rfl) HSX rfl rfl rfl (fun w' hS => ?hcx2) ?_
      case hcx2 => first | (go_simp; rfl) | go_simp
      simp only [List.setIfInBounds_toArray, List.set_cons_zero, List.set_cons_succ]
      refine lx_rd 3 (.slice (some ⟨g0, 0, none⟩) N cap0) (by kernel_rfl) (fun _ _ d _ _ h => by cases d <;> exact h) (by kernel_rfl) HSX rfl rfl rfl (fun w' hS => ?hcx3) ?_
      case hcx3 => have q := hcF _ hS; first | (go_simp; rfl) | go_simp
      simp only [List.setIfInBounds_toArray, List.set_cons_zero, List.set_cons_succ]
      refine lx_rd 4 ?vcx4 (by kernel_rfl) (fun _ _ d _ _ h => by cases d <;> exact h) (by kernel_rfl) HSX rfl rfl rfl (fun w' hS => ?hcx4) ?_
      case hcx4 => first | (go_simp; rfl) | go_simp
      simp only [List.setIfInBounds_toArray, List.set_cons_zero, List.set_cons_succ]
      refine lx_rd 6 ?vcx6 (by kernel_rfl) (fun _ _ d _ _ h => by cases d <;> exact h) (by kernel_rfl) HSX rfl rfl rfl (fun w' hS => ?hcx6) ?_
      case hcx6 => first | (go_simp; rfl) | go_simp
      simp only [List.setIfInBounds_toArray, List.set_cons_zero, List.set_cons_succ]
      refine lx_rd 7 ?vcx7 (by kernel_rfl) (fun _ _ d _ _ h => by cases d <;> exact h) (by kernel_rfl) HSX rfl rfl rfl (fun w' hS => ?hcx7) ?_
      case hcx7 => first | (go_simp; rfl) | go_simp
      simp only [List.setIfInBounds_toArray, List.set_cons_zero, List.set_cons_succ]
      refine lx_rd 8 ?vcx8 (by kernel_rfl) (fun _ _ d _ _ h => by cases d <;> exact h) (by kernel_rfl) HSX rfl rfl rfl (fun w' hS => ?hcx8) ?_
      case hcx8 => first | (go_simp; rfl) | go_simp
      simp only [List.setIfInBounds_toArray, List.set_cons_zero, List.set_cons_succ]
      refine lx_rd 9 (.slice (some ⟨g0, 0, none⟩) N cap0) (by kernel_rfl) (fun _ _ d _ _ h => by cases d <;> exact h) (by kernel_rfl) HSX rfl rfl rfl (fun w' hS => ?hcx9) ?_
      case hcx9 => have q := hcF _ hS; first | (go_simp; rfl) | go_simp
      simp only [List.setIfInBounds_toArray, List.set_cons_zero, List.set_cons_succ]
      refine lx_rd 10 ?vcx10 (by kernel_rfl) (fun _ _ d _ _ h => by cases d <;> exact h) (by kernel_rfl) HSX rfl rfl rfl (fun w' hS => ?hcx10) ?_
      case hcx10 => first | (go_simp; rfl) | go_simp
      simp only [List.setIfInBounds_toArray, List.set_cons_zero, List.set_cons_succ]
      refine lx_rd 11 (.pointer (some ⟨g0, j * 3, none⟩)) (by kernel_rfl) (fun _ _ d _ _ h => by cases d <;> exact h) (by kernel_rfl) HSX rfl rfl rfl (fun w' hS => ?hcx11) ?_
      case hcx11 => first | (go_simp; rfl) | go_simp
      simp only [List.setIfInBounds_toArray, List.set_cons_zero, List.set_cons_succ]
      refine lx_rd 12 (.pointer (some ⟨g0, j * 3 + 1, none⟩)) (by kernel_rfl) (fun _ _ d _ _ h => by cases d <;> exact h) (by kernel_rfl) HSX rfl rfl rfl (fun w' hS => ?hcx12) ?_
      case hcx12 => first | (go_simp; rfl) | go_simp
      simp only [List.setIfInBounds_toArray, List.set_cons_zero, List.set_cons_succ]
      refine lx_rd 13 (.slice aj ln cj) (by kernel_rfl) (fun _ _ d _ _ h => by cases d <;> exact h) (by kernel_rfl) HSX rfl rfl rfl (fun w' hS => ?hcx13) ?_
      case hcx13 => have q := hcB _ hS; first | (go_simp; rfl) | go_simp
      simp only [List.setIfInBounds_toArray, List.set_cons_zero, List.set_cons_succ]
      refine lx_rd 14 ?vcx14 (by kernel_rfl) (fun _ _ d _ _ h => by cases d <;> exact h) (by kernel_rfl) HSX rfl rfl rfl (fun w' hS => ?hcx14) ?_
      case hcx14 => first | (go_simp; rfl) | go_simp
      simp only [List.setIfInBounds_toArray, List.set_cons_zero, List.set_cons_succ]
      refine lx_rd 15 (.slice aj z cj) (by kernel_rfl) (fun _ _ d _ _ h => by cases d <;> exact h) (by kernel_rfl) HSX rfl rfl rfl (fun w' hS => ?hcx15) ?_
      case hcx15 => first | (go_simp; rfl) | go_simp
      simp only [List.setIfInBounds_toArray, List.set_cons_zero, List.set_cons_succ]
      have hX0 : Below X.heap.size X (X.alloc (.cells #[] 5)) := (Below.refl _ _).alloc (Nat.le_refl _) _
      have hemp : (X.alloc (.cells #[] 5)).ownsRow X.heap.size 5 1 (.slice (some ⟨X.heap.size, 0, none⟩) 0 0) 0 (bc []) := World.ownsRow_made X #[] 0 (Nat.le_refl _) (by unfold maxLen; omega) rfl
      refine lx_one 5 (by kernel_rfl) (stepT_val (w' := X.alloc (.cells #[] 5)) (.slice (some ⟨X.heap.size, 0, none⟩) 0 0) rfl rfl rfl ?r5x (fun _ => hX0) ?_)
      case r5x => first | (go_simp; rfl) | go_simp
      simp only [List.setIfInBounds_toArray, List.set_cons_zero, List.set_cons_succ]
      obtain ⟨v5, w5, hrun5, o5, hb5⟩ := run_appJ 31 hemp ((hRj.takeK hz).carry (Nat.le_refl _) hX0) (by omega) hX0.size
      have hb5' := hX0.trans hb5
      refine lx_one 16 (by kernel_rfl) (stepT_val (w' := w5) v5 rfl rfl rfl (exec_appJ rfl rfl rfl hrun5) (fun _ => hb5') ?_)
      simp only [List.setIfInBounds_toArray, List.set_cons_zero, List.set_cons_succ]
      rw [Nat.zero_add, List.nil_append] at o5
      obtain ⟨a6, c6, rfl, hn6⟩ := Rd.ofRowE o5
      have hbl : (f.b.take z).length = z := by rw [List.length_take, HLn.out]; omega
      have o6' : w5.ownsRow X.heap.size 5 1 (.slice a6 z c6) (f.b.take z).length (bc (f.b.take z)) := by rw [hbl]; exact o5
      obtain ⟨g, cap, r0, hcap, ⟨u, r1⟩, r2, t0, t1, t2, t3, hRp⟩ := hRX.setBS hb5' hix.out o6' hgN
      rw [HN.out] at t0
      have hgg : g = g0 := by have h := hcF _ hb5'; rw [r0] at h; injection h with h; injection h with h _ _; injection h with h; injection h
      subst hgg
      refine lx_one 17 (by kernel_rfl) (stepT_val (w' := w5) (.pointer (some ⟨g, j * 3, none⟩)) rfl rfl rfl ?r17x (fun _ => hb5') ?_)
      case r17x => first | (go_simp; rfl) | go_simp
      simp only [List.setIfInBounds_toArray, List.set_cons_zero, List.set_cons_succ]
      refine lx_one 18 (by kernel_rfl) (stepT_val (w' := w5) (.pointer (some ⟨g, j * 3 + 1, none⟩)) rfl rfl rfl ?r18x (fun _ => hb5') ?_)
      case r18x => first | (go_simp; rfl) | go_simp
      simp only [List.setIfInBounds_toArray, List.set_cons_zero, List.set_cons_succ]
      refine lx_one 19 (by kernel_rfl) (stepT_store (w' := w5.setCell ⟨g, j * 3 + 1, none⟩ (.slice a6 z c6)) rfl rfl rfl ?r19x (fun h => by cases h) ?_)
      case r19x => first | (go_simp; rfl) | go_simp
      refine lx_nil (by kernel_rfl) ?_
      generalize w5.setCell ⟨g, j * 3 + 1, none⟩ (.slice a6 z c6) = Y at *
      clear r0 r1 r2 hcF hcB
      have hgt : (z : Int) < (f.safe : Int) := by omega
      go_wp2
      go_ret
      exact ⟨rfl, Rp.next hk2 hG2 (Rp.next (Keep.ofBelow hVX) (fun i hi => Or.inl hi) hRp)⟩
    · have hgN := hgC f.safe (by omega)
      have hgM := hgC z (Nat.le_refl _)
      have hcf : cutF f z = ⟨f.b.take z, f.safe⟩ := by unfold cutF; rw [Nat.min_eq_left (by omega)]
      rw [hcf]
      go_enter Try.func34, Try.ntmps34
      go_upto_region 9 with (first
        | (go_at_call 53; refine hF.mono ?_; rintro e w1 ⟨rfl, hw1⟩; replace hw1 := hw1.symm; subst hw1)
        | (go_at_call 55; refine hA.mono ?_; rintro e w3 ⟨rfl, hw3⟩; replace hw3 := hw3.symm; subst hw3)
        | (go_at_call 54; refine hP.mono ?_; rintro e w2 ⟨rfl, G2, hR2, hk2, hG2⟩))
      clear qA0 qA1 hlen1 hcf hfin
      refine wp_region_lx (fun w' => Below w2.drew.heap.size w2.drew w') [19] 20 (by kernel_rfl) (by kernel_rfl) ?_
      have hVX : Below w2.heap.size w2 w2.drew := (Below.refl _ _).drew
      have hRX := hR2.below hVX
      clear hA hF hP
      obtain ⟨g0, cap0, aj, cj, q0, hcap0, _, q1, _, _, hRj, _, _⟩ := hRX.rowj hix.out
      obtain ⟨N, HN⟩ : ∃ N, Hid (k1.fs.length = N) := ⟨_, rfl⟩
      rw [HN.out] at q0 hcap0 hjl
      rw [HLn.out] at q1 hRj
      have hcF : ∀ w', Below w2.drew.heap.size w2.drew w' → w'.cell? ⟨rd, 0, none⟩ = some (.slice (some ⟨g0, 0, none⟩) N cap0) := fun w' hb => (hb.cell (p := ⟨rd, 0, none⟩) (World.block_lt_of_cell? _ _ q0)).trans q0
      have hcB : ∀ w', Below w2.drew.heap.size w2.drew w' → w'.cell? ⟨g0, j * 3 + 1, none⟩ = some (.slice aj ln cj) := fun w' hb => (hb.cell (p := ⟨g0, j * 3 + 1, none⟩) (World.block_lt_of_cell? _ _ q1)).trans q1
      have hjN0 : (0 : Int) ≤ (j : Int) := by omega
      have hjN : (j : Int) < (N : Int) := by omega
      have hcj := hRj.cap
      have hz1 : (z : Int) ≤ (cj : Int) := by omega
      clear q0 q1
      generalize w2.drew = X at *
      have HSX : Below X.heap.size X X := Below.refl _ _
      refine lx_rd 0 ?vcy0 (by kernel_rfl) (fun _ _ d _ _ h => by cases d <;> exact h) (by kernel_rfl) HSX rfl rfl rfl (fun w' hS => ?hcy0) ?_
      case hcy0 => first | (go_simp; rfl) | go_simp
      simp only [List.setIfInBounds_toArray, List.set_cons_zero, List.set_cons_succ]
      refine lx_rd 1 ?vcy1 (by kernel_rfl) (fun _ _ d _ _ h => by cases d <;> exact h) (by kernel_rfl) HSX rfl rfl rfl (fun w' hS => ?hcy1) ?_
      case hcy1 => first | (go_simp; rfl) | go_simp
      simp only [List.setIfInBounds_toArray, List.set_cons_zero, List.set_cons_succ]
      refine lx_rd 2 ?vcy2 (by kernel_rfl) (fun _ _ d _ _ h => by cases d <;> exact h) (by kernel_rfl) HSX rfl rfl rfl (fun w' hS => ?hcy2) ?_
      case hcy2 => first | (go_simp; rfl) | go_simp
      simp only [List.setIfInBounds_toArray, List.set_cons_zero, List.set_cons_succ]
      refine lx_rd 3 (.slice (some ⟨g0, 0, none⟩) N cap0) (by kernel_rfl) (fun _ _ d _ _ h => by cases d <;> exact h) (by kernel_rfl) HSX rfl rfl rfl (fun w' hS => ?hcy3) ?_
      case hcy3 => have q := hcF _ hS; first | (go_simp; rfl) | go_simp
      simp only [List.setIfInBounds_toArray, List.set_cons_zero, List.set_cons_succ]
      refine lx_rd 4 ?vcy4 (by kernel_rfl) (fun _ _ d _ _ h => by cases d <;> exact h) (by kernel_rfl) HSX rfl rfl rfl (fun w' hS => ?hcy4) ?_
      case hcy4 => first | (go_simp; rfl) | go_simp
      simp only [List.setIfInBounds_toArray, List.set_cons_zero, List.set_cons_succ]
      refine lx_rd 6 ?vcy6 (by kernel_rfl) (fun _ _ d _ _ h => by cases d <;> exact h) (by kernel_rfl) HSX rfl rfl rfl (fun w' hS => ?hcy6) ?_
      case hcy6 => first | (go_simp; rfl) | go_simp
      simp only [List.setIfInBounds_toArray, List.set_cons_zero, List.set_cons_succ]
      refine lx_rd 7 ?vcy7 (by kernel_rfl) (fun _ _ d _ _ h => by cases d <;> exact h) (by kernel_rfl) HSX rfl rfl rfl (fun w' hS => ?hcy7) ?_
      case hcy7 => first | (go_simp; rfl) | go_simp
      simp only [List.setIfInBounds_toArray, List.set_cons_zero, List.set_cons_succ]
      refine lx_rd 8 ?vcy8 (by kernel_rfl) (fun _ _ d _ _ h => by cases d <;> exact h) (by kernel_rfl) HSX rfl rfl rfl (fun w' hS => ?hcy8) ?_
      case hcy8 => first | (go_simp; rfl) | go_simp
      simp only [List.setIfInBounds_toArray, List.set_cons_zero, List.set_cons_succ]
      refine lx_rd 9 (.slice (some ⟨g0, 0, none⟩) N cap0) (by kernel_rfl) (fun _ _ d _ _ h => by cases d <;> exact h) (by kernel_rfl) HSX rfl rfl rfl (fun w' hS => ?hcy9) ?_
      case hcy9 => have q := hcF _ hS; first | (go_simp; rfl) | go_simp
      simp only [List.setIfInBounds_toArray, List.set_cons_zero, List.set_cons_succ]
      refine lx_rd 10 ?vcy10 (by kernel_rfl) (fun _ _ d _ _ h => by cases d <;> exact h) (by kernel_rfl) HSX rfl rfl rfl (fun w' hS => ?hcy10) ?_
      case hcy10 => first | (go_simp; rfl) | go_simp
      simp only [List.setIfInBounds_toArray, List.set_cons_zero, List.set_cons_succ]
      refine lx_rd 11 (.pointer (some ⟨g0, j * 3, none⟩)) (by kernel_rfl) (fun _ _ d _ _ h => by cases d <;> exact h) (by kernel_rfl) HSX rfl rfl rfl (fun w' hS => ?hcy11) ?_
      case hcy11 => first | (go_simp; rfl) | go_simp
      simp only [List.setIfInBounds_toArray, List.set_cons_zero, List.set_cons_succ]
      refine lx_rd 12 (.pointer (some ⟨g0, j * 3 + 1, none⟩)) (by kernel_rfl) (fun _ _ d _ _ h => by cases d <;> exact h) (by kernel_rfl) HSX rfl rfl rfl (fun w' hS => ?hcy12) ?_
      case hcy12 => first | (go_simp; rfl) | go_simp
      simp only [List.setIfInBounds_toArray, List.set_cons_zero, List.set_cons_succ]
      refine lx_rd 13 (.slice aj ln cj) (by kernel_rfl) (fun _ _ d _ _ h => by cases d <;> exact h) (by kernel_rfl) HSX rfl rfl rfl (fun w' hS => ?hcy13) ?_
      case hcy13 => have q := hcB _ hS; first | (go_simp; rfl) | go_simp
      simp only [List.setIfInBounds_toArray, List.set_cons_zero, List.set_cons_succ]
      refine lx_rd 14 ?vcy14 (by kernel_rfl) (fun _ _ d _ _ h => by cases d <;> exact h) (by kernel_rfl) HSX rfl rfl rfl (fun w' hS => ?hcy14) ?_
      case hcy14 => first | (go_simp; rfl) | go_simp
      simp only [List.setIfInBounds_toArray, List.set_cons_zero, List.set_cons_succ]
      refine lx_rd 15 (.slice aj z cj) (by kernel_rfl) (fun _ _ d _ _ h => by cases d <;> exact h) (by kernel_rfl) HSX rfl rfl rfl (fun w' hS => ?hcy15) ?_
      case hcy15 => first | (go_simp; rfl) | go_simp
      simp only [List.setIfInBounds_toArray, List.set_cons_zero, List.set_cons_succ]
      have hX0 : Below X.heap.size X (X.alloc (.cells #[] 5)) := (Below.refl _ _).alloc (Nat.le_refl _) _
      have hemp : (X.alloc (.cells #[] 5)).ownsRow X.heap.size 5 1 (.slice (some ⟨X.heap.size, 0, none⟩) 0 0) 0 (bc []) := World.ownsRow_made X #[] 0 (Nat.le_refl _) (by unfold maxLen; omega) rfl
      refine lx_one 5 (by kernel_rfl) (stepT_val (w' := X.alloc (.cells #[] 5)) (.slice (some ⟨X.heap.size, 0, none⟩) 0 0) rfl rfl rfl ?r5y (fun _ => hX0) ?_)
      case r5y => first | (go_simp; rfl) | go_simp
      simp only [List.setIfInBounds_toArray, List.set_cons_zero, List.set_cons_succ]
      obtain ⟨v5, w5, hrun5, o5, hb5⟩ := run_appJ 31 hemp ((hRj.takeK hz).carry (Nat.le_refl _) hX0) (by omega) hX0.size
      have hb5' := hX0.trans hb5
      refine lx_one 16 (by kernel_rfl) (stepT_val (w' := w5) v5 rfl rfl rfl (exec_appJ rfl rfl rfl hrun5) (fun _ => hb5') ?_)
      simp only [List.setIfInBounds_toArray, List.set_cons_zero, List.set_cons_succ]
      rw [Nat.zero_add, List.nil_append] at o5
      obtain ⟨a6, c6, rfl, hn6⟩ := Rd.ofRowE o5
      have hbl : (f.b.take z).length = z := by rw [List.length_take, HLn.out]; omega
      have o6' : w5.ownsRow X.heap.size 5 1 (.slice a6 z c6) (f.b.take z).length (bc (f.b.take z)) := by rw [hbl]; exact o5
      obtain ⟨g, cap, r0, hcap, ⟨u, r1⟩, r2, hRp⟩ := hRX.setB hb5' hix.out o6' hgN
      have hbs := hRX.setBS (n := z) hb5' hix.out o6' hgM
      obtain ⟨g', cap', r0', _, _, _, t0, _, t2, _, _⟩ := hbs
      have hg' : g' = g := by rw [r0] at r0'; injection r0' with h; injection h with h _ _; injection h with h; injection h with h; exact h.symm
      rw [hg'] at t0 t2
      rw [HN.out] at t0
      have hgg : g = g0 := by have h := hcF _ hb5'; rw [r0] at h; injection h with h; injection h with h _ _; injection h with h; injection h
      subst hgg
      refine lx_one 17 (by kernel_rfl) (stepT_val (w' := w5) (.pointer (some ⟨g, j * 3, none⟩)) rfl rfl rfl ?r17y (fun _ => hb5') ?_)
      case r17y => first | (go_simp; rfl) | go_simp
      simp only [List.setIfInBounds_toArray, List.set_cons_zero, List.set_cons_succ]
      refine lx_one 18 (by kernel_rfl) (stepT_val (w' := w5) (.pointer (some ⟨g, j * 3 + 1, none⟩)) rfl rfl rfl ?r18y (fun _ => hb5') ?_)
      case r18y => first | (go_simp; rfl) | go_simp
      simp only [List.setIfInBounds_toArray, List.set_cons_zero, List.set_cons_succ]
      refine lx_one 19 (by kernel_rfl) (stepT_store (w' := w5.setCell ⟨g, j * 3 + 1, none⟩ (.slice a6 z c6)) rfl rfl rfl ?r19y (fun h => by cases h) ?_)
      case r19y => first | (go_simp; rfl) | go_simp
      refine lx_nil (by kernel_rfl) ?_
      generalize w5.setCell ⟨g, j * 3 + 1, none⟩ (.slice a6 z c6) = Y at *
      clear r0 r1 r2 hcF hcB
      have hgt : ¬ (z : Int) < (f.safe : Int) := by omega
      go_wp2
      go_ret
      rw [← hpfs]
      exact ⟨rfl, Rp.next hk2 hG2 (Rp.next (Keep.ofBelow hVX) (fun i hi => Or.inl hi) hRp)⟩
  · have hne : ((en : Int) == 0) = false := by simp; omega
    go_enter Try.func34, Try.ntmps34
    go_wp2_with (first
      | (go_at_call 53; refine hF.mono ?_; rintro e w1 ⟨rfl, hw1⟩; replace hw1 := hw1.symm; subst hw1)
      | (go_at_call 55; refine hA.mono ?_; rintro e w3 ⟨rfl, hw3⟩; replace hw3 := hw3.symm; subst hw3)
      | (go_at_call 54; refine hP.mono ?_; rintro e w2 ⟨rfl, hRp⟩))
    go_ret
    exact Or.inl ⟨hen, rfl, hRp⟩

theorem refCut_any (rd : Nat) (G : Nat → Prop) (k : Dk) (s : Nm) (hs : s.size ≤ 9223372036854775807) (z : Int) (hst : k.steps < 1000000) (w : World) (hR : RefAt w G rd k) :
    Calls Try.prog 34 #[.pointer (some ⟨rd, 0, none⟩), .string s, .int .i64 z] w fun e w' => e = .returned (.int .i64 (cutK k s z).1) ∧ Rp w G rd (cutK k s z).2 w' := by
  have hF := first_any rd G k s hs true w hR
  unfold cutK
  rcases step_first k s (fun f => if 0 ≤ z ∧ z ≤ f.b.length then 0 else 1) (fun k f => { k with fs := putL k.fs s (cutF f z.toNat) }) with ⟨h0, e⟩ | ⟨h0, on, hnm, f, hlk, e⟩
  · rw [e]
    dsimp only
    obtain ⟨en, hen⟩ : ∃ en, firstK k s true = en := ⟨_, rfl⟩
    rw [hen] at hF h0 ⊢
    have hne : ((en : Int) != 0) = true := by simp; omega
    have hRp := Rp.refl hR
    clear e hen hR
    go_enter Try.func34, Try.ntmps34
    go_wp2_with (first
      | (go_at_call 53; refine hF.mono ?_; rintro e w1 ⟨rfl, rfl⟩))
    go_ret
    exact ⟨rfl, hRp⟩
  · rw [e]
    rw [h0] at hF
    by_cases hz : 0 ≤ z ∧ z ≤ (f.b.length : Int)
    · obtain ⟨z', rfl⟩ := Int.eq_ofNat_of_zero_le hz.1
      rw [if_pos hz, if_neg (by simp), Int.toNat_natCast]
      refine (refCut_go rd G k s f z' (by omega) hnm hst w hR hlk hF).mono ?_
      rintro e w' (⟨h0, rfl, hDp⟩ | ⟨h0, rfl, hDp⟩)
      · rw [if_pos h0]
        exact ⟨rfl, hDp⟩
      · rw [if_neg (by simp [h0])]
        exact ⟨rfl, hDp⟩
    · rw [if_neg hz, if_pos (by simp)]
      refine (refCut_arg rd G k s f z hz w hR hlk hF).mono ?_
      rintro e w' ⟨rfl, rfl⟩
      exact ⟨rfl, Rp.refl hR⟩

end Go.Proofs.Ytimfidhehikaiaa
