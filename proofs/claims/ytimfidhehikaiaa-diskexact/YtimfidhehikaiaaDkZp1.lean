/- The law's plays: a call on both disks; do they answer alike? -/
import Derived.Test.YtimfidhehikaiaaDkZh
namespace Go.Proofs.Ytimfidhehikaiaa
open Go.RowKit Go.Joins

set_option maxRecDepth 100000 in
set_option maxHeartbeats 4000000 in
theorem plays_1 (d rd : Nat) (F G : Nat → Prop) (k : Dk) (On Do : Int) (A B : Nm) (ar : Option Addr) (nr cr : Nat) (xs : List Int) (Nn : Int) (ak : Option Addr) (nk ck : Nat) (zs : List Int) (hA : A.size ≤ 9223372036854775807) (hB : B.size ≤ 9223372036854775807) (hN : Nn ≤ 9223372036854775807) (hst : k.steps < 999999) (hfl : k.fs.length < 999998) (W w : World) (hbW : Below W.heap.size W w) (hRd : Rd W ar nr cr xs) (hKa : IAr W ak nk ck zs) (hFW : ∀ i, F i → W.heap.size ≤ i) (hGW : ∀ i, G i → W.heap.size ≤ i) (hBt : Both w F G d rd k) (hDo : Do = 1) :
    Calls Try.prog 10 #[.pointer (some ⟨d, 0, none⟩), .pointer (some ⟨rd, 0, none⟩), .agg #[.int .i64 On, .int .i64 Do, .string A, .string B, .slice ar nr cr, .int .i64 Nn, .slice ak nk ck]] w fun e w' => e = .returned (.bool true) ∧ ∃ k', Gr k k' ∧ Bp w F G d rd k' w' := by
  subst hDo
  have hu : True := (fun _ _ _ _ _ _ _ _ _ => trivial) hA hB hN hst hfl hRd hKa hFW hGW
  clear hu
  have hbe : Below w.heap.size w (w.alloc (.cells #[.int .i64 On, .int .i64 1, .string A, .string B, .slice ar nr cr, .int .i64 Nn, .slice ak nk ck] 34)) := (Below.refl _ _).alloc (Nat.le_refl _) _
  have hfil := alloc_at w (.cells #[.int .i64 On, .int .i64 1, .string A, .string B, .slice ar nr cr, .int .i64 Nn, .slice ak nk ck] 34)
  obtain ⟨bf, hbf⟩ : ∃ bf, w.heap.size = bf := ⟨_, rfl⟩
  have hnF : ¬ F bf := fun h => by have := hBt.D.lt bf h; omega
  have hnG : ¬ G bf := fun h => by have := hBt.R.lt bf h; omega
  go_enter Try.func10, Try.ntmps10
  go_upto_region 2 with fail
  rw [hbf] at hfil
  generalize w.alloc (.cells #[.int .i64 On, .int .i64 1, .string A, .string B, .slice ar nr cr, .int .i64 Nn, .slice ak nk ck] 34) = Z at *
  have hPZ : PS W bf #[.int .i64 On, .int .i64 1, .string A, .string B, .slice ar nr cr, .int .i64 Nn, .slice ak nk ck] Z := ⟨hbW.trans (hbe.mono hbW.size), hfil⟩
  have hBZ := hBt.below hbe
  have hc1 : Z.cell? ⟨bf, 1, none⟩ = some (.int .i64 1) := by rw [cell_of_block hfil]; rfl
  have hc2 : ∀ w', PS W bf #[.int .i64 On, .int .i64 1, .string A, .string B, .slice ar nr cr, .int .i64 Nn, .slice ak nk ck] w' → w'.cell? ⟨bf, 2, none⟩ = some (.string A) := fun w' h => by rw [cell_of_block h.X]; rfl
  have hc3 : ∀ w', PS W bf #[.int .i64 On, .int .i64 1, .string A, .string B, .slice ar nr cr, .int .i64 Nn, .slice ak nk ck] w' → w'.cell? ⟨bf, 3, none⟩ = some (.string B) := fun w' h => by rw [cell_of_block h.X]; rfl
  have hc4 : ∀ w', PS W bf #[.int .i64 On, .int .i64 1, .string A, .string B, .slice ar nr cr, .int .i64 Nn, .slice ak nk ck] w' → w'.cell? ⟨bf, 4, none⟩ = some (.slice ar nr cr) := fun w' h => by rw [cell_of_block h.X]; rfl
  have hc5 : ∀ w', PS W bf #[.int .i64 On, .int .i64 1, .string A, .string B, .slice ar nr cr, .int .i64 Nn, .slice ak nk ck] w' → w'.cell? ⟨bf, 5, none⟩ = some (.int .i64 Nn) := fun w' h => by rw [cell_of_block h.X]; rfl
  have hc6 : ∀ w', PS W bf #[.int .i64 On, .int .i64 1, .string A, .string B, .slice ar nr cr, .int .i64 Nn, .slice ak nk ck] w' → w'.cell? ⟨bf, 6, none⟩ = some (.slice ak nk ck) := fun w' h => by rw [cell_of_block h.X]; rfl
  clear hfil hBt hbW hbf
  obtain ⟨Y, HY⟩ : ∃ Y, Hid (xs.take 100 = Y) := ⟨_, rfl⟩
  obtain ⟨P, HP⟩ : ∃ P, Hid (appK k A Y = P) := ⟨_, rfl⟩
  have hPc := fun w a n c hn hD hR => append_any d F k A a n c (xs.take 100) (by omega) (by omega) hn w hD hR
  have hDc := fun w a n c hR hY hg => refAppend_any rd G k A hA a n c (xs.take 100) (by omega) (by omega) w hR hY hg
  have hGr := gr_app k A (xs.take 100)
  rw [HY.out] at hPc hDc hGr
  rw [HP.out] at hPc hDc hGr
  obtain ⟨en, k2⟩ := P
  dsimp only at hPc hDc hGr
  go_upto_region 4 with fail
  refine wp_region_lx (fun w' => PS W bf #[.int .i64 On, .int .i64 1, .string A, .string B, .slice ar nr cr, .int .i64 Nn, .slice ak nk ck] w') [] 16 (by kernel_rfl) (by kernel_rfl) ?_
  have hbX : Below w.heap.size w Z.drew := hbe.drew
  have hBX := hBZ.below ((Below.refl _ _).drew)
  have hPX := hPZ.drew
  clear hbe hBZ hPZ hc1
  generalize Z.drew = X at *
  refine lx_rd 0 ?va0 (by kernel_rfl) (fun _ _ d _ _ h => by cases d <;> exact h) (by kernel_rfl) hPX rfl rfl rfl (fun w' hS => ?ha0) ?_
  case ha0 => first | (go_simp; rfl) | go_simp
  simp only [List.setIfInBounds_toArray, List.set_cons_zero, List.set_cons_succ]
  refine lx_rd 1 (.pointer (some ⟨bf, 2, none⟩)) (by kernel_rfl) (fun _ _ d _ _ h => by cases d <;> exact h) (by kernel_rfl) hPX rfl rfl rfl (fun w' hS => ?ha1) ?_
  case ha1 => first | (go_simp; rfl) | go_simp
  simp only [List.setIfInBounds_toArray, List.set_cons_zero, List.set_cons_succ]
  refine lx_rd 2 (.string A) (by kernel_rfl) (fun _ _ d _ _ h => by cases d <;> exact h) (by kernel_rfl) hPX rfl rfl rfl (fun w' hS => ?ha2) ?_
  case ha2 => have q := hc2 _ hS; first | (go_simp; rfl) | go_simp
  simp only [List.setIfInBounds_toArray, List.set_cons_zero, List.set_cons_succ]
  refine lx_rd 3 (.pointer (some ⟨bf, 4, none⟩)) (by kernel_rfl) (fun _ _ d _ _ h => by cases d <;> exact h) (by kernel_rfl) hPX rfl rfl rfl (fun w' hS => ?ha3) ?_
  case ha3 => first | (go_simp; rfl) | go_simp
  simp only [List.setIfInBounds_toArray, List.set_cons_zero, List.set_cons_succ]
  refine lx_rd 4 (.slice ar nr cr) (by kernel_rfl) (fun _ _ d _ _ h => by cases d <;> exact h) (by kernel_rfl) hPX rfl rfl rfl (fun w' hS => ?ha4) ?_
  case ha4 => have q := hc4 _ hS; first | (go_simp; rfl) | go_simp
  simp only [List.setIfInBounds_toArray, List.set_cons_zero, List.set_cons_succ]
  refine lx_rd 7 ?va7 (by kernel_rfl) (fun _ _ d _ _ h => by cases d <;> exact h) (by kernel_rfl) hPX rfl rfl rfl (fun w' hS => ?ha7) ?_
  case ha7 => first | (go_simp; rfl) | go_simp
  simp only [List.setIfInBounds_toArray, List.set_cons_zero, List.set_cons_succ]
  refine lx_rd 8 (.pointer (some ⟨bf, 2, none⟩)) (by kernel_rfl) (fun _ _ d _ _ h => by cases d <;> exact h) (by kernel_rfl) hPX rfl rfl rfl (fun w' hS => ?ha8) ?_
  case ha8 => first | (go_simp; rfl) | go_simp
  simp only [List.setIfInBounds_toArray, List.set_cons_zero, List.set_cons_succ]
  refine lx_rd 9 (.string A) (by kernel_rfl) (fun _ _ d _ _ h => by cases d <;> exact h) (by kernel_rfl) hPX rfl rfl rfl (fun w' hS => ?ha9) ?_
  case ha9 => have q := hc2 _ hS; first | (go_simp; rfl) | go_simp
  simp only [List.setIfInBounds_toArray, List.set_cons_zero, List.set_cons_succ]
  refine lx_rd 10 (.pointer (some ⟨bf, 4, none⟩)) (by kernel_rfl) (fun _ _ d _ _ h => by cases d <;> exact h) (by kernel_rfl) hPX rfl rfl rfl (fun w' hS => ?ha10) ?_
  case ha10 => first | (go_simp; rfl) | go_simp
  simp only [List.setIfInBounds_toArray, List.set_cons_zero, List.set_cons_succ]
  refine lx_rd 11 (.slice ar nr cr) (by kernel_rfl) (fun _ _ d _ _ h => by cases d <;> exact h) (by kernel_rfl) hPX rfl rfl rfl (fun w' hS => ?ha11) ?_
  case ha11 => have q := hc4 _ hS; first | (go_simp; rfl) | go_simp
  simp only [List.setIfInBounds_toArray, List.set_cons_zero, List.set_cons_succ]
  refine lx_one 5 (by kernel_rfl) (stepT_call 12 ?a5 rfl rfl rfl ?r5 ?_)
  case r5 => first | (go_simp; rfl) | go_simp
  refine (fewO ar nr cr xs X (hRd.carry (Nat.le_refl _) hPX.B)).mono ?_
  rintro e w5 ⟨a5, n5, c5, rfl, hn5, o5, r5, hb5⟩
  have hP5 := hPX.below hb5
  have hB5 := hBX.below hb5
  have hb05 := hbX.trans (hb5.mono hbX.size)
  rw [HY.out] at r5
  refine ⟨_, rfl, fun _ => hP5, ?_⟩
  simp only [List.setIfInBounds_toArray, List.set_cons_zero, List.set_cons_succ]
  refine lx_one 6 (by kernel_rfl) (stepT_call 13 ?a6 rfl rfl rfl ?r6 ?_)
  case r6 => first | (go_simp; rfl) | go_simp
  refine (hPc w5 a5 n5 c5 (by omega) hB5.D r5).mono ?_
  rintro e w1 ⟨rfl, F1, hD1, hk1, hF1⟩
  have hP1 := hP5.keep hk1 hFW hnF
  have hM1 := hB5.prog hb05 hD1 hk1 hF1
  refine ⟨_, rfl, fun _ => hP1, ?_⟩
  simp only [List.setIfInBounds_toArray, List.set_cons_zero, List.set_cons_succ]
  refine lx_one 12 (by kernel_rfl) (stepT_call 12 ?a12 rfl rfl rfl ?r12 ?_)
  case r12 => first | (go_simp; rfl) | go_simp
  refine (fewO ar nr cr xs w1 (hRd.carry (Nat.le_refl _) hP1.B)).mono ?_
  rintro e w6 ⟨a6, n6, c6, rfl, hn6, o6, r6, hb6⟩
  have hP6 := hP1.below hb6
  have hM := hM1.below hb6
  rw [HY.out] at r6
  have hnG6 : ∀ ad, a6 = some ad → ¬ G ad.block := fun ad had hg => by
    have h1 := hM1.R.lt _ hg
    obtain ⟨ap, cp, e8, hob8⟩ := own_form o6
    have h2 := (o6.lt ad.block (by rw [had]; cases ap with | none => (rw [had] at e8; cases e8) | some g => (rw [had] at e8; cases e8; rfl))).1
    omega
  refine ⟨_, rfl, fun _ => hP6, ?_⟩
  simp only [List.setIfInBounds_toArray, List.set_cons_zero, List.set_cons_succ]
  refine lx_one 13 (by kernel_rfl) (stepT_call 20 ?a13 rfl rfl rfl ?r13 ?_)
  case r13 => first | (go_simp; rfl) | go_simp
  refine (hDc w6 a6 n6 c6 hM.R r6 hnG6).mono ?_
  rintro e w2 ⟨rfl, G2, hR2, hk2, hG2⟩
  have hP2 := hP6.keep hk2 hGW hnG
  have hBp := hM.doc hR2 hk2 hG2
  refine ⟨_, rfl, fun _ => hP2, ?_⟩
  simp only [List.setIfInBounds_toArray, List.set_cons_zero, List.set_cons_succ]
  refine lx_rd 14 (.bool true) (by kernel_rfl) (fun _ _ d _ _ h => by cases d <;> exact h) (by kernel_rfl) hP2 rfl rfl rfl (fun w' hS => ?hb14) ?_
  case hb14 => first | (go_simp; rfl) | go_simp
  simp only [List.setIfInBounds_toArray, List.set_cons_zero, List.set_cons_succ]
  refine lx_rd 15 (.bool true) (by kernel_rfl) (fun _ _ d _ _ h => by cases d <;> exact h) (by kernel_rfl) hP2 rfl rfl rfl (fun w' hS => ?hb15) ?_
  case hb15 => first | (go_simp; rfl) | go_simp
  simp only [List.setIfInBounds_toArray, List.set_cons_zero, List.set_cons_succ]
  refine lx_nil (by kernel_rfl) ?_
  obtain ⟨F3, G3, hB3, hk3, hF3, hG3⟩ := hBp
  have hBp : Bp w F G d rd k2 w2 := ⟨F3, G3, hB3, hk3, hF3, hG3⟩
  clear hPc hDc hM hP1 hP2 hR2 hk2 hG2 hBX hPX hD1 hk1 hF1 hc2 hc3 hc4 hc5 hc6 hk3 hF3 hG3
  go_upto_region 26 with fail
  have hus := used_any d _ _ _ (Both.D (Both.below hB3 ((Below.refl w2.heap.size w2).drew)))
  have hru := refUsed_any rd _ _ _ (Both.R (Both.below hB3 ((Below.refl w2.heap.size w2).drew)))
  have hsp := steps_any d _ _ _ (Both.D (Both.below hB3 ((Below.refl w2.heap.size w2).drew)))
  have hdn := both_done (Both.below hB3 ((Below.refl w2.heap.size w2).drew))
  have hBpE := hBp.below ((Below.refl w2.heap.size w2).drew)
  refine wp_region_lx (fun w' => w' = w2.drew) [] 18 (by kernel_rfl) (by kernel_rfl) ?_
  have HSE : w2.drew = w2.drew := rfl
  refine lx_rd 0 ?ve0 (by kernel_rfl) (fun _ _ d _ _ h => by cases d <;> exact h) (by kernel_rfl) HSE rfl rfl rfl (fun w' hS => ?he0) ?_
  case he0 => first | (go_simp; rfl) | go_simp
  simp only [List.setIfInBounds_toArray, List.set_cons_zero, List.set_cons_succ]
  refine lx_rd 1 ?ve1 (by kernel_rfl) (fun _ _ d _ _ h => by cases d <;> exact h) (by kernel_rfl) HSE rfl rfl rfl (fun w' hS => ?he1) ?_
  case he1 => first | (go_simp; rfl) | go_simp
  simp only [List.setIfInBounds_toArray, List.set_cons_zero, List.set_cons_succ]
  refine lx_rd 2 ?ve2 (by kernel_rfl) (fun _ _ d _ _ h => by cases d <;> exact h) (by kernel_rfl) HSE rfl rfl rfl (fun w' hS => ?he2) ?_
  case he2 => first | (go_simp; rfl) | go_simp
  simp only [List.setIfInBounds_toArray, List.set_cons_zero, List.set_cons_succ]
  refine lx_rd 4 ?ve4 (by kernel_rfl) (fun _ _ d _ _ h => by cases d <;> exact h) (by kernel_rfl) HSE rfl rfl rfl (fun w' hS => ?he4) ?_
  case he4 => first | (go_simp; rfl) | go_simp
  simp only [List.setIfInBounds_toArray, List.set_cons_zero, List.set_cons_succ]
  refine lx_one 3 (by kernel_rfl) (stepT_call 37 ?ae3 rfl rfl rfl ?re3 ?_)
  case re3 => first | (go_simp; rfl) | go_simp
  refine hus.mono ?_
  rintro e w' ⟨rfl, rfl⟩
  refine ⟨_, rfl, fun _ => rfl, ?_⟩
  simp only [List.setIfInBounds_toArray, List.set_cons_zero, List.set_cons_succ]
  refine lx_one 5 (by kernel_rfl) (stepT_call 38 ?ae5 rfl rfl rfl ?re5 ?_)
  case re5 => first | (go_simp; rfl) | go_simp
  refine hru.mono ?_
  rintro e w' ⟨rfl, rfl⟩
  refine ⟨_, rfl, fun _ => rfl, ?_⟩
  simp only [List.setIfInBounds_toArray, List.set_cons_zero, List.set_cons_succ]
  refine lx_rd 6 (.bool true) (by kernel_rfl) (fun _ _ d _ _ h => by cases d <;> exact h) (by kernel_rfl) HSE rfl rfl rfl (fun w' hS => ?hf6) ?_
  case hf6 => first | (go_simp; rfl) | go_simp
  simp only [List.setIfInBounds_toArray, List.set_cons_zero, List.set_cons_succ]
  refine lx_rd 7 (.bool true) (by kernel_rfl) (fun _ _ d _ _ h => by cases d <;> exact h) (by kernel_rfl) HSE rfl rfl rfl (fun w' hS => ?hf7) ?_
  case hf7 => first | (go_simp; rfl) | go_simp
  simp only [List.setIfInBounds_toArray, List.set_cons_zero, List.set_cons_succ]
  refine lx_rd 8 (.bool true) (by kernel_rfl) (fun _ _ d _ _ h => by cases d <;> exact h) (by kernel_rfl) HSE rfl rfl rfl (fun w' hS => ?hf8) ?_
  case hf8 => first | (go_simp; rfl) | go_simp
  simp only [List.setIfInBounds_toArray, List.set_cons_zero, List.set_cons_succ]
  refine lx_rd 9 ?vf9 (by kernel_rfl) (fun _ _ d _ _ h => by cases d <;> exact h) (by kernel_rfl) HSE rfl rfl rfl (fun w' hS => ?hf9) ?_
  case hf9 => first | (go_simp; rfl) | go_simp
  simp only [List.setIfInBounds_toArray, List.set_cons_zero, List.set_cons_succ]
  refine lx_rd 11 ?vf11 (by kernel_rfl) (fun _ _ d _ _ h => by cases d <;> exact h) (by kernel_rfl) HSE rfl rfl rfl (fun w' hS => ?hf11) ?_
  case hf11 => first | (go_simp; rfl) | go_simp
  simp only [List.setIfInBounds_toArray, List.set_cons_zero, List.set_cons_succ]
  refine lx_rd 12 (.pointer (some ⟨rd, 0, none⟩)) (by kernel_rfl) (fun _ _ d _ _ h => by cases d <;> exact h) (by kernel_rfl) HSE rfl rfl rfl (fun w' hS => ?hf12) ?_
  case hf12 => first | (go_simp; rfl) | go_simp
  simp only [List.setIfInBounds_toArray, List.set_cons_zero, List.set_cons_succ]
  refine lx_rd 13 (.pointer (some ⟨rd, 2, none⟩)) (by kernel_rfl) (fun _ _ d _ _ h => by cases d <;> exact h) (by kernel_rfl) HSE rfl rfl rfl (fun w' hS => ?hf13) ?_
  case hf13 => first | (go_simp; rfl) | go_simp
  simp only [List.setIfInBounds_toArray, List.set_cons_zero, List.set_cons_succ]
  refine lx_rd 14 (.int .i64 (k2.steps : Int)) (by kernel_rfl) (fun _ _ d _ _ h => by cases d <;> exact h) (by kernel_rfl) HSE rfl rfl rfl (fun w' hS => ?hf14) ?_
  case hf14 => subst hS; first | (go_simp; rfl) | go_simp
  simp only [List.setIfInBounds_toArray, List.set_cons_zero, List.set_cons_succ]
  refine lx_one 10 (by kernel_rfl) (stepT_call 27 ?ae10 rfl rfl rfl ?re10 ?_)
  case re10 => first | (go_simp; rfl) | go_simp
  refine hsp.mono ?_
  rintro e w' ⟨rfl, rfl⟩
  refine ⟨_, rfl, fun _ => rfl, ?_⟩
  simp only [List.setIfInBounds_toArray, List.set_cons_zero, List.set_cons_succ]
  refine lx_rd 15 (.bool true) (by kernel_rfl) (fun _ _ d _ _ h => by cases d <;> exact h) (by kernel_rfl) HSE rfl rfl rfl (fun w' hS => ?hg15) ?_
  case hg15 => first | (go_simp; rfl) | go_simp
  simp only [List.setIfInBounds_toArray, List.set_cons_zero, List.set_cons_succ]
  refine lx_rd 16 (.bool true) (by kernel_rfl) (fun _ _ d _ _ h => by cases d <;> exact h) (by kernel_rfl) HSE rfl rfl rfl (fun w' hS => ?hg16) ?_
  case hg16 => first | (go_simp; rfl) | go_simp
  simp only [List.setIfInBounds_toArray, List.set_cons_zero, List.set_cons_succ]
  refine lx_rd 17 (.bool true) (by kernel_rfl) (fun _ _ d _ _ h => by cases d <;> exact h) (by kernel_rfl) HSE rfl rfl rfl (fun w' hS => ?hg17) ?_
  case hg17 => first | (go_simp; rfl) | go_simp
  simp only [List.setIfInBounds_toArray, List.set_cons_zero, List.set_cons_succ]
  refine lx_nil (by kernel_rfl) ?_
  go_wp2
  go_ret
  exact ⟨rfl, _, hGr, hBpE⟩

set_option maxRecDepth 100000 in
set_option maxHeartbeats 4000000 in
theorem plays_2 (d rd : Nat) (F G : Nat → Prop) (k : Dk) (On Do : Int) (A B : Nm) (ar : Option Addr) (nr cr : Nat) (xs : List Int) (Nn : Int) (ak : Option Addr) (nk ck : Nat) (zs : List Int) (hA : A.size ≤ 9223372036854775807) (hB : B.size ≤ 9223372036854775807) (hN : Nn ≤ 9223372036854775807) (hst : k.steps < 999999) (hfl : k.fs.length < 999998) (W w : World) (hbW : Below W.heap.size W w) (hRd : Rd W ar nr cr xs) (hKa : IAr W ak nk ck zs) (hFW : ∀ i, F i → W.heap.size ≤ i) (hGW : ∀ i, G i → W.heap.size ≤ i) (hBt : Both w F G d rd k) (hDo : Do = 2) :
    Calls Try.prog 10 #[.pointer (some ⟨d, 0, none⟩), .pointer (some ⟨rd, 0, none⟩), .agg #[.int .i64 On, .int .i64 Do, .string A, .string B, .slice ar nr cr, .int .i64 Nn, .slice ak nk ck]] w fun e w' => e = .returned (.bool true) ∧ ∃ k', Gr k k' ∧ Bp w F G d rd k' w' := by
  subst hDo
  have hu : True := (fun _ _ _ _ _ _ _ _ _ => trivial) hA hB hN hst hfl hRd hKa hFW hGW
  clear hu
  have hbe : Below w.heap.size w (w.alloc (.cells #[.int .i64 On, .int .i64 2, .string A, .string B, .slice ar nr cr, .int .i64 Nn, .slice ak nk ck] 34)) := (Below.refl _ _).alloc (Nat.le_refl _) _
  have hfil := alloc_at w (.cells #[.int .i64 On, .int .i64 2, .string A, .string B, .slice ar nr cr, .int .i64 Nn, .slice ak nk ck] 34)
  obtain ⟨bf, hbf⟩ : ∃ bf, w.heap.size = bf := ⟨_, rfl⟩
  have hnF : ¬ F bf := fun h => by have := hBt.D.lt bf h; omega
  have hnG : ¬ G bf := fun h => by have := hBt.R.lt bf h; omega
  go_enter Try.func10, Try.ntmps10
  go_upto_region 2 with fail
  rw [hbf] at hfil
  generalize w.alloc (.cells #[.int .i64 On, .int .i64 2, .string A, .string B, .slice ar nr cr, .int .i64 Nn, .slice ak nk ck] 34) = Z at *
  have hPZ : PS W bf #[.int .i64 On, .int .i64 2, .string A, .string B, .slice ar nr cr, .int .i64 Nn, .slice ak nk ck] Z := ⟨hbW.trans (hbe.mono hbW.size), hfil⟩
  have hBZ := hBt.below hbe
  have hc1 : Z.cell? ⟨bf, 1, none⟩ = some (.int .i64 2) := by rw [cell_of_block hfil]; rfl
  have hc2 : ∀ w', PS W bf #[.int .i64 On, .int .i64 2, .string A, .string B, .slice ar nr cr, .int .i64 Nn, .slice ak nk ck] w' → w'.cell? ⟨bf, 2, none⟩ = some (.string A) := fun w' h => by rw [cell_of_block h.X]; rfl
  have hc3 : ∀ w', PS W bf #[.int .i64 On, .int .i64 2, .string A, .string B, .slice ar nr cr, .int .i64 Nn, .slice ak nk ck] w' → w'.cell? ⟨bf, 3, none⟩ = some (.string B) := fun w' h => by rw [cell_of_block h.X]; rfl
  have hc4 : ∀ w', PS W bf #[.int .i64 On, .int .i64 2, .string A, .string B, .slice ar nr cr, .int .i64 Nn, .slice ak nk ck] w' → w'.cell? ⟨bf, 4, none⟩ = some (.slice ar nr cr) := fun w' h => by rw [cell_of_block h.X]; rfl
  have hc5 : ∀ w', PS W bf #[.int .i64 On, .int .i64 2, .string A, .string B, .slice ar nr cr, .int .i64 Nn, .slice ak nk ck] w' → w'.cell? ⟨bf, 5, none⟩ = some (.int .i64 Nn) := fun w' h => by rw [cell_of_block h.X]; rfl
  have hc6 : ∀ w', PS W bf #[.int .i64 On, .int .i64 2, .string A, .string B, .slice ar nr cr, .int .i64 Nn, .slice ak nk ck] w' → w'.cell? ⟨bf, 6, none⟩ = some (.slice ak nk ck) := fun w' h => by rw [cell_of_block h.X]; rfl
  clear hfil hBt hbW hbf
  obtain ⟨P, HP⟩ : ∃ P, Hid (syncK k A = P) := ⟨_, rfl⟩
  have hPc := fun w hD => sync_any d F k A (by omega) (by omega) w hD
  have hDc := fun w hR => refSync_any rd G k A hA (by omega) w hR
  have hGr := gr_sync k A
  rw [HP.out] at hPc hDc hGr
  obtain ⟨en, k2⟩ := P
  dsimp only at hPc hDc hGr
  go_upto_region 6 with fail
  refine wp_region_lx (fun w' => PS W bf #[.int .i64 On, .int .i64 2, .string A, .string B, .slice ar nr cr, .int .i64 Nn, .slice ak nk ck] w') [] 10 (by kernel_rfl) (by kernel_rfl) ?_
  have hbX : Below w.heap.size w Z.drew := hbe.drew
  have hBX := hBZ.below ((Below.refl _ _).drew)
  have hPX := hPZ.drew
  clear hbe hBZ hPZ hc1
  generalize Z.drew = X at *
  refine lx_rd 0 ?va0 (by kernel_rfl) (fun _ _ d _ _ h => by cases d <;> exact h) (by kernel_rfl) hPX rfl rfl rfl (fun w' hS => ?ha0) ?_
  case ha0 => first | (go_simp; rfl) | go_simp
  simp only [List.setIfInBounds_toArray, List.set_cons_zero, List.set_cons_succ]
  refine lx_rd 1 (.pointer (some ⟨bf, 2, none⟩)) (by kernel_rfl) (fun _ _ d _ _ h => by cases d <;> exact h) (by kernel_rfl) hPX rfl rfl rfl (fun w' hS => ?ha1) ?_
  case ha1 => first | (go_simp; rfl) | go_simp
  simp only [List.setIfInBounds_toArray, List.set_cons_zero, List.set_cons_succ]
  refine lx_rd 2 (.string A) (by kernel_rfl) (fun _ _ d _ _ h => by cases d <;> exact h) (by kernel_rfl) hPX rfl rfl rfl (fun w' hS => ?ha2) ?_
  case ha2 => have q := hc2 _ hS; first | (go_simp; rfl) | go_simp
  simp only [List.setIfInBounds_toArray, List.set_cons_zero, List.set_cons_succ]
  refine lx_rd 4 ?va4 (by kernel_rfl) (fun _ _ d _ _ h => by cases d <;> exact h) (by kernel_rfl) hPX rfl rfl rfl (fun w' hS => ?ha4) ?_
  case ha4 => first | (go_simp; rfl) | go_simp
  simp only [List.setIfInBounds_toArray, List.set_cons_zero, List.set_cons_succ]
  refine lx_rd 5 (.pointer (some ⟨bf, 2, none⟩)) (by kernel_rfl) (fun _ _ d _ _ h => by cases d <;> exact h) (by kernel_rfl) hPX rfl rfl rfl (fun w' hS => ?ha5) ?_
  case ha5 => first | (go_simp; rfl) | go_simp
  simp only [List.setIfInBounds_toArray, List.set_cons_zero, List.set_cons_succ]
  refine lx_rd 6 (.string A) (by kernel_rfl) (fun _ _ d _ _ h => by cases d <;> exact h) (by kernel_rfl) hPX rfl rfl rfl (fun w' hS => ?ha6) ?_
  case ha6 => have q := hc2 _ hS; first | (go_simp; rfl) | go_simp
  simp only [List.setIfInBounds_toArray, List.set_cons_zero, List.set_cons_succ]
  refine lx_one 3 (by kernel_rfl) (stepT_call 14 ?a3 rfl rfl rfl ?r3 ?_)
  case r3 => first | (go_simp; rfl) | go_simp
  refine (hPc X hBX.D).mono ?_
  rintro e w1 ⟨rfl, F1, hD1, hk1, hF1⟩
  have hP1 := hPX.keep hk1 hFW hnF
  have hM := hBX.prog hbX hD1 hk1 hF1
  refine ⟨_, rfl, fun _ => hP1, ?_⟩
  simp only [List.setIfInBounds_toArray, List.set_cons_zero, List.set_cons_succ]
  refine lx_one 7 (by kernel_rfl) (stepT_call 28 ?a7 rfl rfl rfl ?r7 ?_)
  case r7 => first | (go_simp; rfl) | go_simp
  refine (hDc w1 hM.R).mono ?_
  rintro e w2 ⟨rfl, G2, hR2, hk2, hG2⟩
  have hP2 := hP1.keep hk2 hGW hnG
  have hBp := hM.doc hR2 hk2 hG2
  refine ⟨_, rfl, fun _ => hP2, ?_⟩
  simp only [List.setIfInBounds_toArray, List.set_cons_zero, List.set_cons_succ]
  refine lx_rd 8 (.bool true) (by kernel_rfl) (fun _ _ d _ _ h => by cases d <;> exact h) (by kernel_rfl) hP2 rfl rfl rfl (fun w' hS => ?hb8) ?_
  case hb8 => first | (go_simp; rfl) | go_simp
  simp only [List.setIfInBounds_toArray, List.set_cons_zero, List.set_cons_succ]
  refine lx_rd 9 (.bool true) (by kernel_rfl) (fun _ _ d _ _ h => by cases d <;> exact h) (by kernel_rfl) hP2 rfl rfl rfl (fun w' hS => ?hb9) ?_
  case hb9 => first | (go_simp; rfl) | go_simp
  simp only [List.setIfInBounds_toArray, List.set_cons_zero, List.set_cons_succ]
  refine lx_nil (by kernel_rfl) ?_
  obtain ⟨F3, G3, hB3, hk3, hF3, hG3⟩ := hBp
  have hBp : Bp w F G d rd k2 w2 := ⟨F3, G3, hB3, hk3, hF3, hG3⟩
  clear hPc hDc hM hP1 hP2 hR2 hk2 hG2 hBX hPX hD1 hk1 hF1 hc2 hc3 hc4 hc5 hc6 hk3 hF3 hG3
  go_upto_region 26 with fail
  have hus := used_any d _ _ _ (Both.D (Both.below hB3 ((Below.refl w2.heap.size w2).drew)))
  have hru := refUsed_any rd _ _ _ (Both.R (Both.below hB3 ((Below.refl w2.heap.size w2).drew)))
  have hsp := steps_any d _ _ _ (Both.D (Both.below hB3 ((Below.refl w2.heap.size w2).drew)))
  have hdn := both_done (Both.below hB3 ((Below.refl w2.heap.size w2).drew))
  have hBpE := hBp.below ((Below.refl w2.heap.size w2).drew)
  refine wp_region_lx (fun w' => w' = w2.drew) [] 18 (by kernel_rfl) (by kernel_rfl) ?_
  have HSE : w2.drew = w2.drew := rfl
  refine lx_rd 0 ?ve0 (by kernel_rfl) (fun _ _ d _ _ h => by cases d <;> exact h) (by kernel_rfl) HSE rfl rfl rfl (fun w' hS => ?he0) ?_
  case he0 => first | (go_simp; rfl) | go_simp
  simp only [List.setIfInBounds_toArray, List.set_cons_zero, List.set_cons_succ]
  refine lx_rd 1 ?ve1 (by kernel_rfl) (fun _ _ d _ _ h => by cases d <;> exact h) (by kernel_rfl) HSE rfl rfl rfl (fun w' hS => ?he1) ?_
  case he1 => first | (go_simp; rfl) | go_simp
  simp only [List.setIfInBounds_toArray, List.set_cons_zero, List.set_cons_succ]
  refine lx_rd 2 ?ve2 (by kernel_rfl) (fun _ _ d _ _ h => by cases d <;> exact h) (by kernel_rfl) HSE rfl rfl rfl (fun w' hS => ?he2) ?_
  case he2 => first | (go_simp; rfl) | go_simp
  simp only [List.setIfInBounds_toArray, List.set_cons_zero, List.set_cons_succ]
  refine lx_rd 4 ?ve4 (by kernel_rfl) (fun _ _ d _ _ h => by cases d <;> exact h) (by kernel_rfl) HSE rfl rfl rfl (fun w' hS => ?he4) ?_
  case he4 => first | (go_simp; rfl) | go_simp
  simp only [List.setIfInBounds_toArray, List.set_cons_zero, List.set_cons_succ]
  refine lx_one 3 (by kernel_rfl) (stepT_call 37 ?ae3 rfl rfl rfl ?re3 ?_)
  case re3 => first | (go_simp; rfl) | go_simp
  refine hus.mono ?_
  rintro e w' ⟨rfl, rfl⟩
  refine ⟨_, rfl, fun _ => rfl, ?_⟩
  simp only [List.setIfInBounds_toArray, List.set_cons_zero, List.set_cons_succ]
  refine lx_one 5 (by kernel_rfl) (stepT_call 38 ?ae5 rfl rfl rfl ?re5 ?_)
  case re5 => first | (go_simp; rfl) | go_simp
  refine hru.mono ?_
  rintro e w' ⟨rfl, rfl⟩
  refine ⟨_, rfl, fun _ => rfl, ?_⟩
  simp only [List.setIfInBounds_toArray, List.set_cons_zero, List.set_cons_succ]
  refine lx_rd 6 (.bool true) (by kernel_rfl) (fun _ _ d _ _ h => by cases d <;> exact h) (by kernel_rfl) HSE rfl rfl rfl (fun w' hS => ?hf6) ?_
  case hf6 => first | (go_simp; rfl) | go_simp
  simp only [List.setIfInBounds_toArray, List.set_cons_zero, List.set_cons_succ]
  refine lx_rd 7 (.bool true) (by kernel_rfl) (fun _ _ d _ _ h => by cases d <;> exact h) (by kernel_rfl) HSE rfl rfl rfl (fun w' hS => ?hf7) ?_
  case hf7 => first | (go_simp; rfl) | go_simp
  simp only [List.setIfInBounds_toArray, List.set_cons_zero, List.set_cons_succ]
  refine lx_rd 8 (.bool true) (by kernel_rfl) (fun _ _ d _ _ h => by cases d <;> exact h) (by kernel_rfl) HSE rfl rfl rfl (fun w' hS => ?hf8) ?_
  case hf8 => first | (go_simp; rfl) | go_simp
  simp only [List.setIfInBounds_toArray, List.set_cons_zero, List.set_cons_succ]
  refine lx_rd 9 ?vf9 (by kernel_rfl) (fun _ _ d _ _ h => by cases d <;> exact h) (by kernel_rfl) HSE rfl rfl rfl (fun w' hS => ?hf9) ?_
  case hf9 => first | (go_simp; rfl) | go_simp
  simp only [List.setIfInBounds_toArray, List.set_cons_zero, List.set_cons_succ]
  refine lx_rd 11 ?vf11 (by kernel_rfl) (fun _ _ d _ _ h => by cases d <;> exact h) (by kernel_rfl) HSE rfl rfl rfl (fun w' hS => ?hf11) ?_
  case hf11 => first | (go_simp; rfl) | go_simp
  simp only [List.setIfInBounds_toArray, List.set_cons_zero, List.set_cons_succ]
  refine lx_rd 12 (.pointer (some ⟨rd, 0, none⟩)) (by kernel_rfl) (fun _ _ d _ _ h => by cases d <;> exact h) (by kernel_rfl) HSE rfl rfl rfl (fun w' hS => ?hf12) ?_
  case hf12 => first | (go_simp; rfl) | go_simp
  simp only [List.setIfInBounds_toArray, List.set_cons_zero, List.set_cons_succ]
  refine lx_rd 13 (.pointer (some ⟨rd, 2, none⟩)) (by kernel_rfl) (fun _ _ d _ _ h => by cases d <;> exact h) (by kernel_rfl) HSE rfl rfl rfl (fun w' hS => ?hf13) ?_
  case hf13 => first | (go_simp; rfl) | go_simp
  simp only [List.setIfInBounds_toArray, List.set_cons_zero, List.set_cons_succ]
  refine lx_rd 14 (.int .i64 (k2.steps : Int)) (by kernel_rfl) (fun _ _ d _ _ h => by cases d <;> exact h) (by kernel_rfl) HSE rfl rfl rfl (fun w' hS => ?hf14) ?_
  case hf14 => subst hS; first | (go_simp; rfl) | go_simp
  simp only [List.setIfInBounds_toArray, List.set_cons_zero, List.set_cons_succ]
  refine lx_one 10 (by kernel_rfl) (stepT_call 27 ?ae10 rfl rfl rfl ?re10 ?_)
  case re10 => first | (go_simp; rfl) | go_simp
  refine hsp.mono ?_
  rintro e w' ⟨rfl, rfl⟩
  refine ⟨_, rfl, fun _ => rfl, ?_⟩
  simp only [List.setIfInBounds_toArray, List.set_cons_zero, List.set_cons_succ]
  refine lx_rd 15 (.bool true) (by kernel_rfl) (fun _ _ d _ _ h => by cases d <;> exact h) (by kernel_rfl) HSE rfl rfl rfl (fun w' hS => ?hg15) ?_
  case hg15 => first | (go_simp; rfl) | go_simp
  simp only [List.setIfInBounds_toArray, List.set_cons_zero, List.set_cons_succ]
  refine lx_rd 16 (.bool true) (by kernel_rfl) (fun _ _ d _ _ h => by cases d <;> exact h) (by kernel_rfl) HSE rfl rfl rfl (fun w' hS => ?hg16) ?_
  case hg16 => first | (go_simp; rfl) | go_simp
  simp only [List.setIfInBounds_toArray, List.set_cons_zero, List.set_cons_succ]
  refine lx_rd 17 (.bool true) (by kernel_rfl) (fun _ _ d _ _ h => by cases d <;> exact h) (by kernel_rfl) HSE rfl rfl rfl (fun w' hS => ?hg17) ?_
  case hg17 => first | (go_simp; rfl) | go_simp
  simp only [List.setIfInBounds_toArray, List.set_cons_zero, List.set_cons_succ]
  refine lx_nil (by kernel_rfl) ?_
  go_wp2
  go_ret
  exact ⟨rfl, _, hGr, hBpE⟩

set_option maxRecDepth 100000 in
set_option maxHeartbeats 4000000 in
theorem plays_3 (d rd : Nat) (F G : Nat → Prop) (k : Dk) (On Do : Int) (A B : Nm) (ar : Option Addr) (nr cr : Nat) (xs : List Int) (Nn : Int) (ak : Option Addr) (nk ck : Nat) (zs : List Int) (hA : A.size ≤ 9223372036854775807) (hB : B.size ≤ 9223372036854775807) (hN : Nn ≤ 9223372036854775807) (hst : k.steps < 999999) (hfl : k.fs.length < 999998) (W w : World) (hbW : Below W.heap.size W w) (hRd : Rd W ar nr cr xs) (hKa : IAr W ak nk ck zs) (hFW : ∀ i, F i → W.heap.size ≤ i) (hGW : ∀ i, G i → W.heap.size ≤ i) (hBt : Both w F G d rd k) (hDo : Do = 3) :
    Calls Try.prog 10 #[.pointer (some ⟨d, 0, none⟩), .pointer (some ⟨rd, 0, none⟩), .agg #[.int .i64 On, .int .i64 Do, .string A, .string B, .slice ar nr cr, .int .i64 Nn, .slice ak nk ck]] w fun e w' => e = .returned (.bool true) ∧ ∃ k', Gr k k' ∧ Bp w F G d rd k' w' := by
  subst hDo
  have hu : True := (fun _ _ _ _ _ _ _ _ _ => trivial) hA hB hN hst hfl hRd hKa hFW hGW
  clear hu
  have hbe : Below w.heap.size w (w.alloc (.cells #[.int .i64 On, .int .i64 3, .string A, .string B, .slice ar nr cr, .int .i64 Nn, .slice ak nk ck] 34)) := (Below.refl _ _).alloc (Nat.le_refl _) _
  have hfil := alloc_at w (.cells #[.int .i64 On, .int .i64 3, .string A, .string B, .slice ar nr cr, .int .i64 Nn, .slice ak nk ck] 34)
  obtain ⟨bf, hbf⟩ : ∃ bf, w.heap.size = bf := ⟨_, rfl⟩
  have hnF : ¬ F bf := fun h => by have := hBt.D.lt bf h; omega
  have hnG : ¬ G bf := fun h => by have := hBt.R.lt bf h; omega
  go_enter Try.func10, Try.ntmps10
  go_upto_region 2 with fail
  rw [hbf] at hfil
  generalize w.alloc (.cells #[.int .i64 On, .int .i64 3, .string A, .string B, .slice ar nr cr, .int .i64 Nn, .slice ak nk ck] 34) = Z at *
  have hPZ : PS W bf #[.int .i64 On, .int .i64 3, .string A, .string B, .slice ar nr cr, .int .i64 Nn, .slice ak nk ck] Z := ⟨hbW.trans (hbe.mono hbW.size), hfil⟩
  have hBZ := hBt.below hbe
  have hc1 : Z.cell? ⟨bf, 1, none⟩ = some (.int .i64 3) := by rw [cell_of_block hfil]; rfl
  have hc2 : ∀ w', PS W bf #[.int .i64 On, .int .i64 3, .string A, .string B, .slice ar nr cr, .int .i64 Nn, .slice ak nk ck] w' → w'.cell? ⟨bf, 2, none⟩ = some (.string A) := fun w' h => by rw [cell_of_block h.X]; rfl
  have hc3 : ∀ w', PS W bf #[.int .i64 On, .int .i64 3, .string A, .string B, .slice ar nr cr, .int .i64 Nn, .slice ak nk ck] w' → w'.cell? ⟨bf, 3, none⟩ = some (.string B) := fun w' h => by rw [cell_of_block h.X]; rfl
  have hc4 : ∀ w', PS W bf #[.int .i64 On, .int .i64 3, .string A, .string B, .slice ar nr cr, .int .i64 Nn, .slice ak nk ck] w' → w'.cell? ⟨bf, 4, none⟩ = some (.slice ar nr cr) := fun w' h => by rw [cell_of_block h.X]; rfl
  have hc5 : ∀ w', PS W bf #[.int .i64 On, .int .i64 3, .string A, .string B, .slice ar nr cr, .int .i64 Nn, .slice ak nk ck] w' → w'.cell? ⟨bf, 5, none⟩ = some (.int .i64 Nn) := fun w' h => by rw [cell_of_block h.X]; rfl
  have hc6 : ∀ w', PS W bf #[.int .i64 On, .int .i64 3, .string A, .string B, .slice ar nr cr, .int .i64 Nn, .slice ak nk ck] w' → w'.cell? ⟨bf, 6, none⟩ = some (.slice ak nk ck) := fun w' h => by rw [cell_of_block h.X]; rfl
  clear hfil hBt hbW hbf
  obtain ⟨P, HP⟩ : ∃ P, Hid (renameK k A B = P) := ⟨_, rfl⟩
  have hPc := fun w hD => rename_any d F k A B (by omega) (by omega) w hD
  have hDc := fun w hR => refRename_any rd G k A B hA hB (by omega) (by omega) w hR
  have hGr := gr_rename k A B
  rw [HP.out] at hPc hDc hGr
  obtain ⟨en, k2⟩ := P
  dsimp only at hPc hDc hGr
  go_upto_region 8 with fail
  refine wp_region_lx (fun w' => PS W bf #[.int .i64 On, .int .i64 3, .string A, .string B, .slice ar nr cr, .int .i64 Nn, .slice ak nk ck] w') [] 14 (by kernel_rfl) (by kernel_rfl) ?_
  have hbX : Below w.heap.size w Z.drew := hbe.drew
  have hBX := hBZ.below ((Below.refl _ _).drew)
  have hPX := hPZ.drew
  clear hbe hBZ hPZ hc1
  generalize Z.drew = X at *
  refine lx_rd 0 ?va0 (by kernel_rfl) (fun _ _ d _ _ h => by cases d <;> exact h) (by kernel_rfl) hPX rfl rfl rfl (fun w' hS => ?ha0) ?_
  case ha0 => first | (go_simp; rfl) | go_simp
  simp only [List.setIfInBounds_toArray, List.set_cons_zero, List.set_cons_succ]
  refine lx_rd 1 (.pointer (some ⟨bf, 2, none⟩)) (by kernel_rfl) (fun _ _ d _ _ h => by cases d <;> exact h) (by kernel_rfl) hPX rfl rfl rfl (fun w' hS => ?ha1) ?_
  case ha1 => first | (go_simp; rfl) | go_simp
  simp only [List.setIfInBounds_toArray, List.set_cons_zero, List.set_cons_succ]
  refine lx_rd 2 (.string A) (by kernel_rfl) (fun _ _ d _ _ h => by cases d <;> exact h) (by kernel_rfl) hPX rfl rfl rfl (fun w' hS => ?ha2) ?_
  case ha2 => have q := hc2 _ hS; first | (go_simp; rfl) | go_simp
  simp only [List.setIfInBounds_toArray, List.set_cons_zero, List.set_cons_succ]
  refine lx_rd 3 (.pointer (some ⟨bf, 3, none⟩)) (by kernel_rfl) (fun _ _ d _ _ h => by cases d <;> exact h) (by kernel_rfl) hPX rfl rfl rfl (fun w' hS => ?ha3) ?_
  case ha3 => first | (go_simp; rfl) | go_simp
  simp only [List.setIfInBounds_toArray, List.set_cons_zero, List.set_cons_succ]
  refine lx_rd 4 (.string B) (by kernel_rfl) (fun _ _ d _ _ h => by cases d <;> exact h) (by kernel_rfl) hPX rfl rfl rfl (fun w' hS => ?ha4) ?_
  case ha4 => have q := hc3 _ hS; first | (go_simp; rfl) | go_simp
  simp only [List.setIfInBounds_toArray, List.set_cons_zero, List.set_cons_succ]
  refine lx_rd 6 ?va6 (by kernel_rfl) (fun _ _ d _ _ h => by cases d <;> exact h) (by kernel_rfl) hPX rfl rfl rfl (fun w' hS => ?ha6) ?_
  case ha6 => first | (go_simp; rfl) | go_simp
  simp only [List.setIfInBounds_toArray, List.set_cons_zero, List.set_cons_succ]
  refine lx_rd 7 (.pointer (some ⟨bf, 2, none⟩)) (by kernel_rfl) (fun _ _ d _ _ h => by cases d <;> exact h) (by kernel_rfl) hPX rfl rfl rfl (fun w' hS => ?ha7) ?_
  case ha7 => first | (go_simp; rfl) | go_simp
  simp only [List.setIfInBounds_toArray, List.set_cons_zero, List.set_cons_succ]
  refine lx_rd 8 (.string A) (by kernel_rfl) (fun _ _ d _ _ h => by cases d <;> exact h) (by kernel_rfl) hPX rfl rfl rfl (fun w' hS => ?ha8) ?_
  case ha8 => have q := hc2 _ hS; first | (go_simp; rfl) | go_simp
  simp only [List.setIfInBounds_toArray, List.set_cons_zero, List.set_cons_succ]
  refine lx_rd 9 (.pointer (some ⟨bf, 3, none⟩)) (by kernel_rfl) (fun _ _ d _ _ h => by cases d <;> exact h) (by kernel_rfl) hPX rfl rfl rfl (fun w' hS => ?ha9) ?_
  case ha9 => first | (go_simp; rfl) | go_simp
  simp only [List.setIfInBounds_toArray, List.set_cons_zero, List.set_cons_succ]
  refine lx_rd 10 (.string B) (by kernel_rfl) (fun _ _ d _ _ h => by cases d <;> exact h) (by kernel_rfl) hPX rfl rfl rfl (fun w' hS => ?ha10) ?_
  case ha10 => have q := hc3 _ hS; first | (go_simp; rfl) | go_simp
  simp only [List.setIfInBounds_toArray, List.set_cons_zero, List.set_cons_succ]
  refine lx_one 5 (by kernel_rfl) (stepT_call 29 ?a5 rfl rfl rfl ?r5 ?_)
  case r5 => first | (go_simp; rfl) | go_simp
  refine (hPc X hBX.D).mono ?_
  rintro e w1 ⟨rfl, F1, hD1, hk1, hF1⟩
  have hP1 := hPX.keep hk1 hFW hnF
  have hM := hBX.prog hbX hD1 hk1 hF1
  refine ⟨_, rfl, fun _ => hP1, ?_⟩
  simp only [List.setIfInBounds_toArray, List.set_cons_zero, List.set_cons_succ]
  refine lx_one 11 (by kernel_rfl) (stepT_call 30 ?a11 rfl rfl rfl ?r11 ?_)
  case r11 => first | (go_simp; rfl) | go_simp
  refine (hDc w1 hM.R).mono ?_
  rintro e w2 ⟨rfl, G2, hR2, hk2, hG2⟩
  have hP2 := hP1.keep hk2 hGW hnG
  have hBp := hM.doc hR2 hk2 hG2
  refine ⟨_, rfl, fun _ => hP2, ?_⟩
  simp only [List.setIfInBounds_toArray, List.set_cons_zero, List.set_cons_succ]
  refine lx_rd 12 (.bool true) (by kernel_rfl) (fun _ _ d _ _ h => by cases d <;> exact h) (by kernel_rfl) hP2 rfl rfl rfl (fun w' hS => ?hb12) ?_
  case hb12 => first | (go_simp; rfl) | go_simp
  simp only [List.setIfInBounds_toArray, List.set_cons_zero, List.set_cons_succ]
  refine lx_rd 13 (.bool true) (by kernel_rfl) (fun _ _ d _ _ h => by cases d <;> exact h) (by kernel_rfl) hP2 rfl rfl rfl (fun w' hS => ?hb13) ?_
  case hb13 => first | (go_simp; rfl) | go_simp
  simp only [List.setIfInBounds_toArray, List.set_cons_zero, List.set_cons_succ]
  refine lx_nil (by kernel_rfl) ?_
  obtain ⟨F3, G3, hB3, hk3, hF3, hG3⟩ := hBp
  have hBp : Bp w F G d rd k2 w2 := ⟨F3, G3, hB3, hk3, hF3, hG3⟩
  clear hPc hDc hM hP1 hP2 hR2 hk2 hG2 hBX hPX hD1 hk1 hF1 hc2 hc3 hc4 hc5 hc6 hk3 hF3 hG3
  go_upto_region 26 with fail
  have hus := used_any d _ _ _ (Both.D (Both.below hB3 ((Below.refl w2.heap.size w2).drew)))
  have hru := refUsed_any rd _ _ _ (Both.R (Both.below hB3 ((Below.refl w2.heap.size w2).drew)))
  have hsp := steps_any d _ _ _ (Both.D (Both.below hB3 ((Below.refl w2.heap.size w2).drew)))
  have hdn := both_done (Both.below hB3 ((Below.refl w2.heap.size w2).drew))
  have hBpE := hBp.below ((Below.refl w2.heap.size w2).drew)
  refine wp_region_lx (fun w' => w' = w2.drew) [] 18 (by kernel_rfl) (by kernel_rfl) ?_
  have HSE : w2.drew = w2.drew := rfl
  refine lx_rd 0 ?ve0 (by kernel_rfl) (fun _ _ d _ _ h => by cases d <;> exact h) (by kernel_rfl) HSE rfl rfl rfl (fun w' hS => ?he0) ?_
  case he0 => first | (go_simp; rfl) | go_simp
  simp only [List.setIfInBounds_toArray, List.set_cons_zero, List.set_cons_succ]
  refine lx_rd 1 ?ve1 (by kernel_rfl) (fun _ _ d _ _ h => by cases d <;> exact h) (by kernel_rfl) HSE rfl rfl rfl (fun w' hS => ?he1) ?_
  case he1 => first | (go_simp; rfl) | go_simp
  simp only [List.setIfInBounds_toArray, List.set_cons_zero, List.set_cons_succ]
  refine lx_rd 2 ?ve2 (by kernel_rfl) (fun _ _ d _ _ h => by cases d <;> exact h) (by kernel_rfl) HSE rfl rfl rfl (fun w' hS => ?he2) ?_
  case he2 => first | (go_simp; rfl) | go_simp
  simp only [List.setIfInBounds_toArray, List.set_cons_zero, List.set_cons_succ]
  refine lx_rd 4 ?ve4 (by kernel_rfl) (fun _ _ d _ _ h => by cases d <;> exact h) (by kernel_rfl) HSE rfl rfl rfl (fun w' hS => ?he4) ?_
  case he4 => first | (go_simp; rfl) | go_simp
  simp only [List.setIfInBounds_toArray, List.set_cons_zero, List.set_cons_succ]
  refine lx_one 3 (by kernel_rfl) (stepT_call 37 ?ae3 rfl rfl rfl ?re3 ?_)
  case re3 => first | (go_simp; rfl) | go_simp
  refine hus.mono ?_
  rintro e w' ⟨rfl, rfl⟩
  refine ⟨_, rfl, fun _ => rfl, ?_⟩
  simp only [List.setIfInBounds_toArray, List.set_cons_zero, List.set_cons_succ]
  refine lx_one 5 (by kernel_rfl) (stepT_call 38 ?ae5 rfl rfl rfl ?re5 ?_)
  case re5 => first | (go_simp; rfl) | go_simp
  refine hru.mono ?_
  rintro e w' ⟨rfl, rfl⟩
  refine ⟨_, rfl, fun _ => rfl, ?_⟩
  simp only [List.setIfInBounds_toArray, List.set_cons_zero, List.set_cons_succ]
  refine lx_rd 6 (.bool true) (by kernel_rfl) (fun _ _ d _ _ h => by cases d <;> exact h) (by kernel_rfl) HSE rfl rfl rfl (fun w' hS => ?hf6) ?_
  case hf6 => first | (go_simp; rfl) | go_simp
  simp only [List.setIfInBounds_toArray, List.set_cons_zero, List.set_cons_succ]
  refine lx_rd 7 (.bool true) (by kernel_rfl) (fun _ _ d _ _ h => by cases d <;> exact h) (by kernel_rfl) HSE rfl rfl rfl (fun w' hS => ?hf7) ?_
  case hf7 => first | (go_simp; rfl) | go_simp
  simp only [List.setIfInBounds_toArray, List.set_cons_zero, List.set_cons_succ]
  refine lx_rd 8 (.bool true) (by kernel_rfl) (fun _ _ d _ _ h => by cases d <;> exact h) (by kernel_rfl) HSE rfl rfl rfl (fun w' hS => ?hf8) ?_
  case hf8 => first | (go_simp; rfl) | go_simp
  simp only [List.setIfInBounds_toArray, List.set_cons_zero, List.set_cons_succ]
  refine lx_rd 9 ?vf9 (by kernel_rfl) (fun _ _ d _ _ h => by cases d <;> exact h) (by kernel_rfl) HSE rfl rfl rfl (fun w' hS => ?hf9) ?_
  case hf9 => first | (go_simp; rfl) | go_simp
  simp only [List.setIfInBounds_toArray, List.set_cons_zero, List.set_cons_succ]
  refine lx_rd 11 ?vf11 (by kernel_rfl) (fun _ _ d _ _ h => by cases d <;> exact h) (by kernel_rfl) HSE rfl rfl rfl (fun w' hS => ?hf11) ?_
  case hf11 => first | (go_simp; rfl) | go_simp
  simp only [List.setIfInBounds_toArray, List.set_cons_zero, List.set_cons_succ]
  refine lx_rd 12 (.pointer (some ⟨rd, 0, none⟩)) (by kernel_rfl) (fun _ _ d _ _ h => by cases d <;> exact h) (by kernel_rfl) HSE rfl rfl rfl (fun w' hS => ?hf12) ?_
  case hf12 => first | (go_simp; rfl) | go_simp
  simp only [List.setIfInBounds_toArray, List.set_cons_zero, List.set_cons_succ]
  refine lx_rd 13 (.pointer (some ⟨rd, 2, none⟩)) (by kernel_rfl) (fun _ _ d _ _ h => by cases d <;> exact h) (by kernel_rfl) HSE rfl rfl rfl (fun w' hS => ?hf13) ?_
  case hf13 => first | (go_simp; rfl) | go_simp
  simp only [List.setIfInBounds_toArray, List.set_cons_zero, List.set_cons_succ]
  refine lx_rd 14 (.int .i64 (k2.steps : Int)) (by kernel_rfl) (fun _ _ d _ _ h => by cases d <;> exact h) (by kernel_rfl) HSE rfl rfl rfl (fun w' hS => ?hf14) ?_
  case hf14 => subst hS; first | (go_simp; rfl) | go_simp
  simp only [List.setIfInBounds_toArray, List.set_cons_zero, List.set_cons_succ]
  refine lx_one 10 (by kernel_rfl) (stepT_call 27 ?ae10 rfl rfl rfl ?re10 ?_)
  case re10 => first | (go_simp; rfl) | go_simp
  refine hsp.mono ?_
  rintro e w' ⟨rfl, rfl⟩
  refine ⟨_, rfl, fun _ => rfl, ?_⟩
  simp only [List.setIfInBounds_toArray, List.set_cons_zero, List.set_cons_succ]
  refine lx_rd 15 (.bool true) (by kernel_rfl) (fun _ _ d _ _ h => by cases d <;> exact h) (by kernel_rfl) HSE rfl rfl rfl (fun w' hS => ?hg15) ?_
  case hg15 => first | (go_simp; rfl) | go_simp
  simp only [List.setIfInBounds_toArray, List.set_cons_zero, List.set_cons_succ]
  refine lx_rd 16 (.bool true) (by kernel_rfl) (fun _ _ d _ _ h => by cases d <;> exact h) (by kernel_rfl) HSE rfl rfl rfl (fun w' hS => ?hg16) ?_
  case hg16 => first | (go_simp; rfl) | go_simp
  simp only [List.setIfInBounds_toArray, List.set_cons_zero, List.set_cons_succ]
  refine lx_rd 17 (.bool true) (by kernel_rfl) (fun _ _ d _ _ h => by cases d <;> exact h) (by kernel_rfl) HSE rfl rfl rfl (fun w' hS => ?hg17) ?_
  case hg17 => first | (go_simp; rfl) | go_simp
  simp only [List.setIfInBounds_toArray, List.set_cons_zero, List.set_cons_succ]
  refine lx_nil (by kernel_rfl) ?_
  go_wp2
  go_ret
  exact ⟨rfl, _, hGr, hBpE⟩

set_option maxRecDepth 100000 in
set_option maxHeartbeats 4000000 in
theorem plays_4 (d rd : Nat) (F G : Nat → Prop) (k : Dk) (On Do : Int) (A B : Nm) (ar : Option Addr) (nr cr : Nat) (xs : List Int) (Nn : Int) (ak : Option Addr) (nk ck : Nat) (zs : List Int) (hA : A.size ≤ 9223372036854775807) (hB : B.size ≤ 9223372036854775807) (hN : Nn ≤ 9223372036854775807) (hst : k.steps < 999999) (hfl : k.fs.length < 999998) (W w : World) (hbW : Below W.heap.size W w) (hRd : Rd W ar nr cr xs) (hKa : IAr W ak nk ck zs) (hFW : ∀ i, F i → W.heap.size ≤ i) (hGW : ∀ i, G i → W.heap.size ≤ i) (hBt : Both w F G d rd k) (hDo : Do = 4) :
    Calls Try.prog 10 #[.pointer (some ⟨d, 0, none⟩), .pointer (some ⟨rd, 0, none⟩), .agg #[.int .i64 On, .int .i64 Do, .string A, .string B, .slice ar nr cr, .int .i64 Nn, .slice ak nk ck]] w fun e w' => e = .returned (.bool true) ∧ ∃ k', Gr k k' ∧ Bp w F G d rd k' w' := by
  subst hDo
  have hu : True := (fun _ _ _ _ _ _ _ _ _ => trivial) hA hB hN hst hfl hRd hKa hFW hGW
  clear hu
  have hbe : Below w.heap.size w (w.alloc (.cells #[.int .i64 On, .int .i64 4, .string A, .string B, .slice ar nr cr, .int .i64 Nn, .slice ak nk ck] 34)) := (Below.refl _ _).alloc (Nat.le_refl _) _
  have hfil := alloc_at w (.cells #[.int .i64 On, .int .i64 4, .string A, .string B, .slice ar nr cr, .int .i64 Nn, .slice ak nk ck] 34)
  obtain ⟨bf, hbf⟩ : ∃ bf, w.heap.size = bf := ⟨_, rfl⟩
  have hnF : ¬ F bf := fun h => by have := hBt.D.lt bf h; omega
  have hnG : ¬ G bf := fun h => by have := hBt.R.lt bf h; omega
  go_enter Try.func10, Try.ntmps10
  go_upto_region 2 with fail
  rw [hbf] at hfil
  generalize w.alloc (.cells #[.int .i64 On, .int .i64 4, .string A, .string B, .slice ar nr cr, .int .i64 Nn, .slice ak nk ck] 34) = Z at *
  have hPZ : PS W bf #[.int .i64 On, .int .i64 4, .string A, .string B, .slice ar nr cr, .int .i64 Nn, .slice ak nk ck] Z := ⟨hbW.trans (hbe.mono hbW.size), hfil⟩
  have hBZ := hBt.below hbe
  have hc1 : Z.cell? ⟨bf, 1, none⟩ = some (.int .i64 4) := by rw [cell_of_block hfil]; rfl
  have hc2 : ∀ w', PS W bf #[.int .i64 On, .int .i64 4, .string A, .string B, .slice ar nr cr, .int .i64 Nn, .slice ak nk ck] w' → w'.cell? ⟨bf, 2, none⟩ = some (.string A) := fun w' h => by rw [cell_of_block h.X]; rfl
  have hc3 : ∀ w', PS W bf #[.int .i64 On, .int .i64 4, .string A, .string B, .slice ar nr cr, .int .i64 Nn, .slice ak nk ck] w' → w'.cell? ⟨bf, 3, none⟩ = some (.string B) := fun w' h => by rw [cell_of_block h.X]; rfl
  have hc4 : ∀ w', PS W bf #[.int .i64 On, .int .i64 4, .string A, .string B, .slice ar nr cr, .int .i64 Nn, .slice ak nk ck] w' → w'.cell? ⟨bf, 4, none⟩ = some (.slice ar nr cr) := fun w' h => by rw [cell_of_block h.X]; rfl
  have hc5 : ∀ w', PS W bf #[.int .i64 On, .int .i64 4, .string A, .string B, .slice ar nr cr, .int .i64 Nn, .slice ak nk ck] w' → w'.cell? ⟨bf, 5, none⟩ = some (.int .i64 Nn) := fun w' h => by rw [cell_of_block h.X]; rfl
  have hc6 : ∀ w', PS W bf #[.int .i64 On, .int .i64 4, .string A, .string B, .slice ar nr cr, .int .i64 Nn, .slice ak nk ck] w' → w'.cell? ⟨bf, 6, none⟩ = some (.slice ak nk ck) := fun w' h => by rw [cell_of_block h.X]; rfl
  clear hfil hBt hbW hbf
  obtain ⟨P, HP⟩ : ∃ P, Hid (removeK k A = P) := ⟨_, rfl⟩
  have hPc := fun w hD => remove_any d F k A (by omega) w hD
  have hDc := fun w hR => refRemove_any rd G k A hA (by omega) (by omega) w hR
  have hGr := gr_remove k A
  rw [HP.out] at hPc hDc hGr
  obtain ⟨en, k2⟩ := P
  dsimp only at hPc hDc hGr
  go_upto_region 10 with fail
  refine wp_region_lx (fun w' => PS W bf #[.int .i64 On, .int .i64 4, .string A, .string B, .slice ar nr cr, .int .i64 Nn, .slice ak nk ck] w') [] 10 (by kernel_rfl) (by kernel_rfl) ?_
  have hbX : Below w.heap.size w Z.drew := hbe.drew
  have hBX := hBZ.below ((Below.refl _ _).drew)
  have hPX := hPZ.drew
  clear hbe hBZ hPZ hc1
  generalize Z.drew = X at *
  refine lx_rd 0 ?va0 (by kernel_rfl) (fun _ _ d _ _ h => by cases d <;> exact h) (by kernel_rfl) hPX rfl rfl rfl (fun w' hS => ?ha0) ?_
  case ha0 => first | (go_simp; rfl) | go_simp
  simp only [List.setIfInBounds_toArray, List.set_cons_zero, List.set_cons_succ]
  refine lx_rd 1 (.pointer (some ⟨bf, 2, none⟩)) (by kernel_rfl) (fun _ _ d _ _ h => by cases d <;> exact h) (by kernel_rfl) hPX rfl rfl rfl (fun w' hS => ?ha1) ?_
  case ha1 => first | (go_simp; rfl) | go_simp
  simp only [List.setIfInBounds_toArray, List.set_cons_zero, List.set_cons_succ]
  refine lx_rd 2 (.string A) (by kernel_rfl) (fun _ _ d _ _ h => by cases d <;> exact h) (by kernel_rfl) hPX rfl rfl rfl (fun w' hS => ?ha2) ?_
  case ha2 => have q := hc2 _ hS; first | (go_simp; rfl) | go_simp
  simp only [List.setIfInBounds_toArray, List.set_cons_zero, List.set_cons_succ]
  refine lx_rd 4 ?va4 (by kernel_rfl) (fun _ _ d _ _ h => by cases d <;> exact h) (by kernel_rfl) hPX rfl rfl rfl (fun w' hS => ?ha4) ?_
  case ha4 => first | (go_simp; rfl) | go_simp
  simp only [List.setIfInBounds_toArray, List.set_cons_zero, List.set_cons_succ]
  refine lx_rd 5 (.pointer (some ⟨bf, 2, none⟩)) (by kernel_rfl) (fun _ _ d _ _ h => by cases d <;> exact h) (by kernel_rfl) hPX rfl rfl rfl (fun w' hS => ?ha5) ?_
  case ha5 => first | (go_simp; rfl) | go_simp
  simp only [List.setIfInBounds_toArray, List.set_cons_zero, List.set_cons_succ]
  refine lx_rd 6 (.string A) (by kernel_rfl) (fun _ _ d _ _ h => by cases d <;> exact h) (by kernel_rfl) hPX rfl rfl rfl (fun w' hS => ?ha6) ?_
  case ha6 => have q := hc2 _ hS; first | (go_simp; rfl) | go_simp
  simp only [List.setIfInBounds_toArray, List.set_cons_zero, List.set_cons_succ]
  refine lx_one 3 (by kernel_rfl) (stepT_call 31 ?a3 rfl rfl rfl ?r3 ?_)
  case r3 => first | (go_simp; rfl) | go_simp
  refine (hPc X hBX.D).mono ?_
  rintro e w1 ⟨rfl, F1, hD1, hk1, hF1⟩
  have hP1 := hPX.keep hk1 hFW hnF
  have hM := hBX.prog hbX hD1 hk1 hF1
  refine ⟨_, rfl, fun _ => hP1, ?_⟩
  simp only [List.setIfInBounds_toArray, List.set_cons_zero, List.set_cons_succ]
  refine lx_one 7 (by kernel_rfl) (stepT_call 32 ?a7 rfl rfl rfl ?r7 ?_)
  case r7 => first | (go_simp; rfl) | go_simp
  refine (hDc w1 hM.R).mono ?_
  rintro e w2 ⟨rfl, G2, hR2, hk2, hG2⟩
  have hP2 := hP1.keep hk2 hGW hnG
  have hBp := hM.doc hR2 hk2 hG2
  refine ⟨_, rfl, fun _ => hP2, ?_⟩
  simp only [List.setIfInBounds_toArray, List.set_cons_zero, List.set_cons_succ]
  refine lx_rd 8 (.bool true) (by kernel_rfl) (fun _ _ d _ _ h => by cases d <;> exact h) (by kernel_rfl) hP2 rfl rfl rfl (fun w' hS => ?hb8) ?_
  case hb8 => first | (go_simp; rfl) | go_simp
  simp only [List.setIfInBounds_toArray, List.set_cons_zero, List.set_cons_succ]
  refine lx_rd 9 (.bool true) (by kernel_rfl) (fun _ _ d _ _ h => by cases d <;> exact h) (by kernel_rfl) hP2 rfl rfl rfl (fun w' hS => ?hb9) ?_
  case hb9 => first | (go_simp; rfl) | go_simp
  simp only [List.setIfInBounds_toArray, List.set_cons_zero, List.set_cons_succ]
  refine lx_nil (by kernel_rfl) ?_
  obtain ⟨F3, G3, hB3, hk3, hF3, hG3⟩ := hBp
  have hBp : Bp w F G d rd k2 w2 := ⟨F3, G3, hB3, hk3, hF3, hG3⟩
  clear hPc hDc hM hP1 hP2 hR2 hk2 hG2 hBX hPX hD1 hk1 hF1 hc2 hc3 hc4 hc5 hc6 hk3 hF3 hG3
  go_upto_region 26 with fail
  have hus := used_any d _ _ _ (Both.D (Both.below hB3 ((Below.refl w2.heap.size w2).drew)))
  have hru := refUsed_any rd _ _ _ (Both.R (Both.below hB3 ((Below.refl w2.heap.size w2).drew)))
  have hsp := steps_any d _ _ _ (Both.D (Both.below hB3 ((Below.refl w2.heap.size w2).drew)))
  have hdn := both_done (Both.below hB3 ((Below.refl w2.heap.size w2).drew))
  have hBpE := hBp.below ((Below.refl w2.heap.size w2).drew)
  refine wp_region_lx (fun w' => w' = w2.drew) [] 18 (by kernel_rfl) (by kernel_rfl) ?_
  have HSE : w2.drew = w2.drew := rfl
  refine lx_rd 0 ?ve0 (by kernel_rfl) (fun _ _ d _ _ h => by cases d <;> exact h) (by kernel_rfl) HSE rfl rfl rfl (fun w' hS => ?he0) ?_
  case he0 => first | (go_simp; rfl) | go_simp
  simp only [List.setIfInBounds_toArray, List.set_cons_zero, List.set_cons_succ]
  refine lx_rd 1 ?ve1 (by kernel_rfl) (fun _ _ d _ _ h => by cases d <;> exact h) (by kernel_rfl) HSE rfl rfl rfl (fun w' hS => ?he1) ?_
  case he1 => first | (go_simp; rfl) | go_simp
  simp only [List.setIfInBounds_toArray, List.set_cons_zero, List.set_cons_succ]
  refine lx_rd 2 ?ve2 (by kernel_rfl) (fun _ _ d _ _ h => by cases d <;> exact h) (by kernel_rfl) HSE rfl rfl rfl (fun w' hS => ?he2) ?_
  case he2 => first | (go_simp; rfl) | go_simp
  simp only [List.setIfInBounds_toArray, List.set_cons_zero, List.set_cons_succ]
  refine lx_rd 4 ?ve4 (by kernel_rfl) (fun _ _ d _ _ h => by cases d <;> exact h) (by kernel_rfl) HSE rfl rfl rfl (fun w' hS => ?he4) ?_
  case he4 => first | (go_simp; rfl) | go_simp
  simp only [List.setIfInBounds_toArray, List.set_cons_zero, List.set_cons_succ]
  refine lx_one 3 (by kernel_rfl) (stepT_call 37 ?ae3 rfl rfl rfl ?re3 ?_)
  case re3 => first | (go_simp; rfl) | go_simp
  refine hus.mono ?_
  rintro e w' ⟨rfl, rfl⟩
  refine ⟨_, rfl, fun _ => rfl, ?_⟩
  simp only [List.setIfInBounds_toArray, List.set_cons_zero, List.set_cons_succ]
  refine lx_one 5 (by kernel_rfl) (stepT_call 38 ?ae5 rfl rfl rfl ?re5 ?_)
  case re5 => first | (go_simp; rfl) | go_simp
  refine hru.mono ?_
  rintro e w' ⟨rfl, rfl⟩
  refine ⟨_, rfl, fun _ => rfl, ?_⟩
  simp only [List.setIfInBounds_toArray, List.set_cons_zero, List.set_cons_succ]
  refine lx_rd 6 (.bool true) (by kernel_rfl) (fun _ _ d _ _ h => by cases d <;> exact h) (by kernel_rfl) HSE rfl rfl rfl (fun w' hS => ?hf6) ?_
  case hf6 => first | (go_simp; rfl) | go_simp
  simp only [List.setIfInBounds_toArray, List.set_cons_zero, List.set_cons_succ]
  refine lx_rd 7 (.bool true) (by kernel_rfl) (fun _ _ d _ _ h => by cases d <;> exact h) (by kernel_rfl) HSE rfl rfl rfl (fun w' hS => ?hf7) ?_
  case hf7 => first | (go_simp; rfl) | go_simp
  simp only [List.setIfInBounds_toArray, List.set_cons_zero, List.set_cons_succ]
  refine lx_rd 8 (.bool true) (by kernel_rfl) (fun _ _ d _ _ h => by cases d <;> exact h) (by kernel_rfl) HSE rfl rfl rfl (fun w' hS => ?hf8) ?_
  case hf8 => first | (go_simp; rfl) | go_simp
  simp only [List.setIfInBounds_toArray, List.set_cons_zero, List.set_cons_succ]
  refine lx_rd 9 ?vf9 (by kernel_rfl) (fun _ _ d _ _ h => by cases d <;> exact h) (by kernel_rfl) HSE rfl rfl rfl (fun w' hS => ?hf9) ?_
  case hf9 => first | (go_simp; rfl) | go_simp
  simp only [List.setIfInBounds_toArray, List.set_cons_zero, List.set_cons_succ]
  refine lx_rd 11 ?vf11 (by kernel_rfl) (fun _ _ d _ _ h => by cases d <;> exact h) (by kernel_rfl) HSE rfl rfl rfl (fun w' hS => ?hf11) ?_
  case hf11 => first | (go_simp; rfl) | go_simp
  simp only [List.setIfInBounds_toArray, List.set_cons_zero, List.set_cons_succ]
  refine lx_rd 12 (.pointer (some ⟨rd, 0, none⟩)) (by kernel_rfl) (fun _ _ d _ _ h => by cases d <;> exact h) (by kernel_rfl) HSE rfl rfl rfl (fun w' hS => ?hf12) ?_
  case hf12 => first | (go_simp; rfl) | go_simp
  simp only [List.setIfInBounds_toArray, List.set_cons_zero, List.set_cons_succ]
  refine lx_rd 13 (.pointer (some ⟨rd, 2, none⟩)) (by kernel_rfl) (fun _ _ d _ _ h => by cases d <;> exact h) (by kernel_rfl) HSE rfl rfl rfl (fun w' hS => ?hf13) ?_
  case hf13 => first | (go_simp; rfl) | go_simp
  simp only [List.setIfInBounds_toArray, List.set_cons_zero, List.set_cons_succ]
  refine lx_rd 14 (.int .i64 (k2.steps : Int)) (by kernel_rfl) (fun _ _ d _ _ h => by cases d <;> exact h) (by kernel_rfl) HSE rfl rfl rfl (fun w' hS => ?hf14) ?_
  case hf14 => subst hS; first | (go_simp; rfl) | go_simp
  simp only [List.setIfInBounds_toArray, List.set_cons_zero, List.set_cons_succ]
  refine lx_one 10 (by kernel_rfl) (stepT_call 27 ?ae10 rfl rfl rfl ?re10 ?_)
  case re10 => first | (go_simp; rfl) | go_simp
  refine hsp.mono ?_
  rintro e w' ⟨rfl, rfl⟩
  refine ⟨_, rfl, fun _ => rfl, ?_⟩
  simp only [List.setIfInBounds_toArray, List.set_cons_zero, List.set_cons_succ]
  refine lx_rd 15 (.bool true) (by kernel_rfl) (fun _ _ d _ _ h => by cases d <;> exact h) (by kernel_rfl) HSE rfl rfl rfl (fun w' hS => ?hg15) ?_
  case hg15 => first | (go_simp; rfl) | go_simp
  simp only [List.setIfInBounds_toArray, List.set_cons_zero, List.set_cons_succ]
  refine lx_rd 16 (.bool true) (by kernel_rfl) (fun _ _ d _ _ h => by cases d <;> exact h) (by kernel_rfl) HSE rfl rfl rfl (fun w' hS => ?hg16) ?_
  case hg16 => first | (go_simp; rfl) | go_simp
  simp only [List.setIfInBounds_toArray, List.set_cons_zero, List.set_cons_succ]
  refine lx_rd 17 (.bool true) (by kernel_rfl) (fun _ _ d _ _ h => by cases d <;> exact h) (by kernel_rfl) HSE rfl rfl rfl (fun w' hS => ?hg17) ?_
  case hg17 => first | (go_simp; rfl) | go_simp
  simp only [List.setIfInBounds_toArray, List.set_cons_zero, List.set_cons_succ]
  refine lx_nil (by kernel_rfl) ?_
  go_wp2
  go_ret
  exact ⟨rfl, _, hGr, hBpE⟩

set_option maxRecDepth 100000 in
set_option maxHeartbeats 4000000 in
theorem plays_5 (d rd : Nat) (F G : Nat → Prop) (k : Dk) (On Do : Int) (A B : Nm) (ar : Option Addr) (nr cr : Nat) (xs : List Int) (Nn : Int) (ak : Option Addr) (nk ck : Nat) (zs : List Int) (hA : A.size ≤ 9223372036854775807) (hB : B.size ≤ 9223372036854775807) (hN : Nn ≤ 9223372036854775807) (hst : k.steps < 999999) (hfl : k.fs.length < 999998) (W w : World) (hbW : Below W.heap.size W w) (hRd : Rd W ar nr cr xs) (hKa : IAr W ak nk ck zs) (hFW : ∀ i, F i → W.heap.size ≤ i) (hGW : ∀ i, G i → W.heap.size ≤ i) (hBt : Both w F G d rd k) (hDo : Do = 5) :
    Calls Try.prog 10 #[.pointer (some ⟨d, 0, none⟩), .pointer (some ⟨rd, 0, none⟩), .agg #[.int .i64 On, .int .i64 Do, .string A, .string B, .slice ar nr cr, .int .i64 Nn, .slice ak nk ck]] w fun e w' => e = .returned (.bool true) ∧ ∃ k', Gr k k' ∧ Bp w F G d rd k' w' := by
  subst hDo
  have hu : True := (fun _ _ _ _ _ _ _ _ _ => trivial) hA hB hN hst hfl hRd hKa hFW hGW
  clear hu
  have hbe : Below w.heap.size w (w.alloc (.cells #[.int .i64 On, .int .i64 5, .string A, .string B, .slice ar nr cr, .int .i64 Nn, .slice ak nk ck] 34)) := (Below.refl _ _).alloc (Nat.le_refl _) _
  have hfil := alloc_at w (.cells #[.int .i64 On, .int .i64 5, .string A, .string B, .slice ar nr cr, .int .i64 Nn, .slice ak nk ck] 34)
  obtain ⟨bf, hbf⟩ : ∃ bf, w.heap.size = bf := ⟨_, rfl⟩
  have hnF : ¬ F bf := fun h => by have := hBt.D.lt bf h; omega
  have hnG : ¬ G bf := fun h => by have := hBt.R.lt bf h; omega
  go_enter Try.func10, Try.ntmps10
  go_upto_region 2 with fail
  rw [hbf] at hfil
  generalize w.alloc (.cells #[.int .i64 On, .int .i64 5, .string A, .string B, .slice ar nr cr, .int .i64 Nn, .slice ak nk ck] 34) = Z at *
  have hPZ : PS W bf #[.int .i64 On, .int .i64 5, .string A, .string B, .slice ar nr cr, .int .i64 Nn, .slice ak nk ck] Z := ⟨hbW.trans (hbe.mono hbW.size), hfil⟩
  have hBZ := hBt.below hbe
  have hc1 : Z.cell? ⟨bf, 1, none⟩ = some (.int .i64 5) := by rw [cell_of_block hfil]; rfl
  have hc2 : ∀ w', PS W bf #[.int .i64 On, .int .i64 5, .string A, .string B, .slice ar nr cr, .int .i64 Nn, .slice ak nk ck] w' → w'.cell? ⟨bf, 2, none⟩ = some (.string A) := fun w' h => by rw [cell_of_block h.X]; rfl
  have hc3 : ∀ w', PS W bf #[.int .i64 On, .int .i64 5, .string A, .string B, .slice ar nr cr, .int .i64 Nn, .slice ak nk ck] w' → w'.cell? ⟨bf, 3, none⟩ = some (.string B) := fun w' h => by rw [cell_of_block h.X]; rfl
  have hc4 : ∀ w', PS W bf #[.int .i64 On, .int .i64 5, .string A, .string B, .slice ar nr cr, .int .i64 Nn, .slice ak nk ck] w' → w'.cell? ⟨bf, 4, none⟩ = some (.slice ar nr cr) := fun w' h => by rw [cell_of_block h.X]; rfl
  have hc5 : ∀ w', PS W bf #[.int .i64 On, .int .i64 5, .string A, .string B, .slice ar nr cr, .int .i64 Nn, .slice ak nk ck] w' → w'.cell? ⟨bf, 5, none⟩ = some (.int .i64 Nn) := fun w' h => by rw [cell_of_block h.X]; rfl
  have hc6 : ∀ w', PS W bf #[.int .i64 On, .int .i64 5, .string A, .string B, .slice ar nr cr, .int .i64 Nn, .slice ak nk ck] w' → w'.cell? ⟨bf, 6, none⟩ = some (.slice ak nk ck) := fun w' h => by rw [cell_of_block h.X]; rfl
  clear hfil hBt hbW hbf
  obtain ⟨P, HP⟩ : ∃ P, Hid (cutK k A Nn = P) := ⟨_, rfl⟩
  have hPc := fun w hD => cut_any d F k A Nn (by omega) (by omega) w hD
  have hDc := fun w hR => refCut_any rd G k A hA Nn (by omega) w hR
  have hGr := gr_cut k A Nn
  rw [HP.out] at hPc hDc hGr
  obtain ⟨en, k2⟩ := P
  dsimp only at hPc hDc hGr
  go_upto_region 12 with fail
  refine wp_region_lx (fun w' => PS W bf #[.int .i64 On, .int .i64 5, .string A, .string B, .slice ar nr cr, .int .i64 Nn, .slice ak nk ck] w') [] 14 (by kernel_rfl) (by kernel_rfl) ?_
  have hbX : Below w.heap.size w Z.drew := hbe.drew
  have hBX := hBZ.below ((Below.refl _ _).drew)
  have hPX := hPZ.drew
  clear hbe hBZ hPZ hc1
  generalize Z.drew = X at *
  refine lx_rd 0 ?va0 (by kernel_rfl) (fun _ _ d _ _ h => by cases d <;> exact h) (by kernel_rfl) hPX rfl rfl rfl (fun w' hS => ?ha0) ?_
  case ha0 => first | (go_simp; rfl) | go_simp
  simp only [List.setIfInBounds_toArray, List.set_cons_zero, List.set_cons_succ]
  refine lx_rd 1 (.pointer (some ⟨bf, 2, none⟩)) (by kernel_rfl) (fun _ _ d _ _ h => by cases d <;> exact h) (by kernel_rfl) hPX rfl rfl rfl (fun w' hS => ?ha1) ?_
  case ha1 => first | (go_simp; rfl) | go_simp
  simp only [List.setIfInBounds_toArray, List.set_cons_zero, List.set_cons_succ]
  refine lx_rd 2 (.string A) (by kernel_rfl) (fun _ _ d _ _ h => by cases d <;> exact h) (by kernel_rfl) hPX rfl rfl rfl (fun w' hS => ?ha2) ?_
  case ha2 => have q := hc2 _ hS; first | (go_simp; rfl) | go_simp
  simp only [List.setIfInBounds_toArray, List.set_cons_zero, List.set_cons_succ]
  refine lx_rd 3 (.pointer (some ⟨bf, 5, none⟩)) (by kernel_rfl) (fun _ _ d _ _ h => by cases d <;> exact h) (by kernel_rfl) hPX rfl rfl rfl (fun w' hS => ?ha3) ?_
  case ha3 => first | (go_simp; rfl) | go_simp
  simp only [List.setIfInBounds_toArray, List.set_cons_zero, List.set_cons_succ]
  refine lx_rd 4 (.int .i64 Nn) (by kernel_rfl) (fun _ _ d _ _ h => by cases d <;> exact h) (by kernel_rfl) hPX rfl rfl rfl (fun w' hS => ?ha4) ?_
  case ha4 => have q := hc5 _ hS; first | (go_simp; rfl) | go_simp
  simp only [List.setIfInBounds_toArray, List.set_cons_zero, List.set_cons_succ]
  refine lx_rd 6 ?va6 (by kernel_rfl) (fun _ _ d _ _ h => by cases d <;> exact h) (by kernel_rfl) hPX rfl rfl rfl (fun w' hS => ?ha6) ?_
  case ha6 => first | (go_simp; rfl) | go_simp
  simp only [List.setIfInBounds_toArray, List.set_cons_zero, List.set_cons_succ]
  refine lx_rd 7 (.pointer (some ⟨bf, 2, none⟩)) (by kernel_rfl) (fun _ _ d _ _ h => by cases d <;> exact h) (by kernel_rfl) hPX rfl rfl rfl (fun w' hS => ?ha7) ?_
  case ha7 => first | (go_simp; rfl) | go_simp
  simp only [List.setIfInBounds_toArray, List.set_cons_zero, List.set_cons_succ]
  refine lx_rd 8 (.string A) (by kernel_rfl) (fun _ _ d _ _ h => by cases d <;> exact h) (by kernel_rfl) hPX rfl rfl rfl (fun w' hS => ?ha8) ?_
  case ha8 => have q := hc2 _ hS; first | (go_simp; rfl) | go_simp
  simp only [List.setIfInBounds_toArray, List.set_cons_zero, List.set_cons_succ]
  refine lx_rd 9 (.pointer (some ⟨bf, 5, none⟩)) (by kernel_rfl) (fun _ _ d _ _ h => by cases d <;> exact h) (by kernel_rfl) hPX rfl rfl rfl (fun w' hS => ?ha9) ?_
  case ha9 => first | (go_simp; rfl) | go_simp
  simp only [List.setIfInBounds_toArray, List.set_cons_zero, List.set_cons_succ]
  refine lx_rd 10 (.int .i64 Nn) (by kernel_rfl) (fun _ _ d _ _ h => by cases d <;> exact h) (by kernel_rfl) hPX rfl rfl rfl (fun w' hS => ?ha10) ?_
  case ha10 => have q := hc5 _ hS; first | (go_simp; rfl) | go_simp
  simp only [List.setIfInBounds_toArray, List.set_cons_zero, List.set_cons_succ]
  refine lx_one 5 (by kernel_rfl) (stepT_call 33 ?a5 rfl rfl rfl ?r5 ?_)
  case r5 => first | (go_simp; rfl) | go_simp
  refine (hPc X hBX.D).mono ?_
  rintro e w1 ⟨rfl, F1, hD1, hk1, hF1⟩
  have hP1 := hPX.keep hk1 hFW hnF
  have hM := hBX.prog hbX hD1 hk1 hF1
  refine ⟨_, rfl, fun _ => hP1, ?_⟩
  simp only [List.setIfInBounds_toArray, List.set_cons_zero, List.set_cons_succ]
  refine lx_one 11 (by kernel_rfl) (stepT_call 34 ?a11 rfl rfl rfl ?r11 ?_)
  case r11 => first | (go_simp; rfl) | go_simp
  refine (hDc w1 hM.R).mono ?_
  rintro e w2 ⟨rfl, G2, hR2, hk2, hG2⟩
  have hP2 := hP1.keep hk2 hGW hnG
  have hBp := hM.doc hR2 hk2 hG2
  refine ⟨_, rfl, fun _ => hP2, ?_⟩
  simp only [List.setIfInBounds_toArray, List.set_cons_zero, List.set_cons_succ]
  refine lx_rd 12 (.bool true) (by kernel_rfl) (fun _ _ d _ _ h => by cases d <;> exact h) (by kernel_rfl) hP2 rfl rfl rfl (fun w' hS => ?hb12) ?_
  case hb12 => first | (go_simp; rfl) | go_simp
  simp only [List.setIfInBounds_toArray, List.set_cons_zero, List.set_cons_succ]
  refine lx_rd 13 (.bool true) (by kernel_rfl) (fun _ _ d _ _ h => by cases d <;> exact h) (by kernel_rfl) hP2 rfl rfl rfl (fun w' hS => ?hb13) ?_
  case hb13 => first | (go_simp; rfl) | go_simp
  simp only [List.setIfInBounds_toArray, List.set_cons_zero, List.set_cons_succ]
  refine lx_nil (by kernel_rfl) ?_
  obtain ⟨F3, G3, hB3, hk3, hF3, hG3⟩ := hBp
  have hBp : Bp w F G d rd k2 w2 := ⟨F3, G3, hB3, hk3, hF3, hG3⟩
  clear hPc hDc hM hP1 hP2 hR2 hk2 hG2 hBX hPX hD1 hk1 hF1 hc2 hc3 hc4 hc5 hc6 hk3 hF3 hG3
  go_upto_region 26 with fail
  have hus := used_any d _ _ _ (Both.D (Both.below hB3 ((Below.refl w2.heap.size w2).drew)))
  have hru := refUsed_any rd _ _ _ (Both.R (Both.below hB3 ((Below.refl w2.heap.size w2).drew)))
  have hsp := steps_any d _ _ _ (Both.D (Both.below hB3 ((Below.refl w2.heap.size w2).drew)))
  have hdn := both_done (Both.below hB3 ((Below.refl w2.heap.size w2).drew))
  have hBpE := hBp.below ((Below.refl w2.heap.size w2).drew)
  refine wp_region_lx (fun w' => w' = w2.drew) [] 18 (by kernel_rfl) (by kernel_rfl) ?_
  have HSE : w2.drew = w2.drew := rfl
  refine lx_rd 0 ?ve0 (by kernel_rfl) (fun _ _ d _ _ h => by cases d <;> exact h) (by kernel_rfl) HSE rfl rfl rfl (fun w' hS => ?he0) ?_
  case he0 => first | (go_simp; rfl) | go_simp
  simp only [List.setIfInBounds_toArray, List.set_cons_zero, List.set_cons_succ]
  refine lx_rd 1 ?ve1 (by kernel_rfl) (fun _ _ d _ _ h => by cases d <;> exact h) (by kernel_rfl) HSE rfl rfl rfl (fun w' hS => ?he1) ?_
  case he1 => first | (go_simp; rfl) | go_simp
  simp only [List.setIfInBounds_toArray, List.set_cons_zero, List.set_cons_succ]
  refine lx_rd 2 ?ve2 (by kernel_rfl) (fun _ _ d _ _ h => by cases d <;> exact h) (by kernel_rfl) HSE rfl rfl rfl (fun w' hS => ?he2) ?_
  case he2 => first | (go_simp; rfl) | go_simp
  simp only [List.setIfInBounds_toArray, List.set_cons_zero, List.set_cons_succ]
  refine lx_rd 4 ?ve4 (by kernel_rfl) (fun _ _ d _ _ h => by cases d <;> exact h) (by kernel_rfl) HSE rfl rfl rfl (fun w' hS => ?he4) ?_
  case he4 => first | (go_simp; rfl) | go_simp
  simp only [List.setIfInBounds_toArray, List.set_cons_zero, List.set_cons_succ]
  refine lx_one 3 (by kernel_rfl) (stepT_call 37 ?ae3 rfl rfl rfl ?re3 ?_)
  case re3 => first | (go_simp; rfl) | go_simp
  refine hus.mono ?_
  rintro e w' ⟨rfl, rfl⟩
  refine ⟨_, rfl, fun _ => rfl, ?_⟩
  simp only [List.setIfInBounds_toArray, List.set_cons_zero, List.set_cons_succ]
  refine lx_one 5 (by kernel_rfl) (stepT_call 38 ?ae5 rfl rfl rfl ?re5 ?_)
  case re5 => first | (go_simp; rfl) | go_simp
  refine hru.mono ?_
  rintro e w' ⟨rfl, rfl⟩
  refine ⟨_, rfl, fun _ => rfl, ?_⟩
  simp only [List.setIfInBounds_toArray, List.set_cons_zero, List.set_cons_succ]
  refine lx_rd 6 (.bool true) (by kernel_rfl) (fun _ _ d _ _ h => by cases d <;> exact h) (by kernel_rfl) HSE rfl rfl rfl (fun w' hS => ?hf6) ?_
  case hf6 => first | (go_simp; rfl) | go_simp
  simp only [List.setIfInBounds_toArray, List.set_cons_zero, List.set_cons_succ]
  refine lx_rd 7 (.bool true) (by kernel_rfl) (fun _ _ d _ _ h => by cases d <;> exact h) (by kernel_rfl) HSE rfl rfl rfl (fun w' hS => ?hf7) ?_
  case hf7 => first | (go_simp; rfl) | go_simp
  simp only [List.setIfInBounds_toArray, List.set_cons_zero, List.set_cons_succ]
  refine lx_rd 8 (.bool true) (by kernel_rfl) (fun _ _ d _ _ h => by cases d <;> exact h) (by kernel_rfl) HSE rfl rfl rfl (fun w' hS => ?hf8) ?_
  case hf8 => first | (go_simp; rfl) | go_simp
  simp only [List.setIfInBounds_toArray, List.set_cons_zero, List.set_cons_succ]
  refine lx_rd 9 ?vf9 (by kernel_rfl) (fun _ _ d _ _ h => by cases d <;> exact h) (by kernel_rfl) HSE rfl rfl rfl (fun w' hS => ?hf9) ?_
  case hf9 => first | (go_simp; rfl) | go_simp
  simp only [List.setIfInBounds_toArray, List.set_cons_zero, List.set_cons_succ]
  refine lx_rd 11 ?vf11 (by kernel_rfl) (fun _ _ d _ _ h => by cases d <;> exact h) (by kernel_rfl) HSE rfl rfl rfl (fun w' hS => ?hf11) ?_
  case hf11 => first | (go_simp; rfl) | go_simp
  simp only [List.setIfInBounds_toArray, List.set_cons_zero, List.set_cons_succ]
  refine lx_rd 12 (.pointer (some ⟨rd, 0, none⟩)) (by kernel_rfl) (fun _ _ d _ _ h => by cases d <;> exact h) (by kernel_rfl) HSE rfl rfl rfl (fun w' hS => ?hf12) ?_
  case hf12 => first | (go_simp; rfl) | go_simp
  simp only [List.setIfInBounds_toArray, List.set_cons_zero, List.set_cons_succ]
  refine lx_rd 13 (.pointer (some ⟨rd, 2, none⟩)) (by kernel_rfl) (fun _ _ d _ _ h => by cases d <;> exact h) (by kernel_rfl) HSE rfl rfl rfl (fun w' hS => ?hf13) ?_
  case hf13 => first | (go_simp; rfl) | go_simp
  simp only [List.setIfInBounds_toArray, List.set_cons_zero, List.set_cons_succ]
  refine lx_rd 14 (.int .i64 (k2.steps : Int)) (by kernel_rfl) (fun _ _ d _ _ h => by cases d <;> exact h) (by kernel_rfl) HSE rfl rfl rfl (fun w' hS => ?hf14) ?_
  case hf14 => subst hS; first | (go_simp; rfl) | go_simp
  simp only [List.setIfInBounds_toArray, List.set_cons_zero, List.set_cons_succ]
  refine lx_one 10 (by kernel_rfl) (stepT_call 27 ?ae10 rfl rfl rfl ?re10 ?_)
  case re10 => first | (go_simp; rfl) | go_simp
  refine hsp.mono ?_
  rintro e w' ⟨rfl, rfl⟩
  refine ⟨_, rfl, fun _ => rfl, ?_⟩
  simp only [List.setIfInBounds_toArray, List.set_cons_zero, List.set_cons_succ]
  refine lx_rd 15 (.bool true) (by kernel_rfl) (fun _ _ d _ _ h => by cases d <;> exact h) (by kernel_rfl) HSE rfl rfl rfl (fun w' hS => ?hg15) ?_
  case hg15 => first | (go_simp; rfl) | go_simp
  simp only [List.setIfInBounds_toArray, List.set_cons_zero, List.set_cons_succ]
  refine lx_rd 16 (.bool true) (by kernel_rfl) (fun _ _ d _ _ h => by cases d <;> exact h) (by kernel_rfl) HSE rfl rfl rfl (fun w' hS => ?hg16) ?_
  case hg16 => first | (go_simp; rfl) | go_simp
  simp only [List.setIfInBounds_toArray, List.set_cons_zero, List.set_cons_succ]
  refine lx_rd 17 (.bool true) (by kernel_rfl) (fun _ _ d _ _ h => by cases d <;> exact h) (by kernel_rfl) HSE rfl rfl rfl (fun w' hS => ?hg17) ?_
  case hg17 => first | (go_simp; rfl) | go_simp
  simp only [List.setIfInBounds_toArray, List.set_cons_zero, List.set_cons_succ]
  refine lx_nil (by kernel_rfl) ?_
  go_wp2
  go_ret
  exact ⟨rfl, _, hGr, hBpE⟩

set_option maxRecDepth 100000 in
set_option maxHeartbeats 4000000 in
theorem plays_8 (d rd : Nat) (F G : Nat → Prop) (k : Dk) (On Do : Int) (A B : Nm) (ar : Option Addr) (nr cr : Nat) (xs : List Int) (Nn : Int) (ak : Option Addr) (nk ck : Nat) (zs : List Int) (hA : A.size ≤ 9223372036854775807) (hB : B.size ≤ 9223372036854775807) (hN : Nn ≤ 9223372036854775807) (hst : k.steps < 999999) (hfl : k.fs.length < 999998) (W w : World) (hbW : Below W.heap.size W w) (hRd : Rd W ar nr cr xs) (hKa : IAr W ak nk ck zs) (hFW : ∀ i, F i → W.heap.size ≤ i) (hGW : ∀ i, G i → W.heap.size ≤ i) (hBt : Both w F G d rd k) (hDo : Do = 8) :
    Calls Try.prog 10 #[.pointer (some ⟨d, 0, none⟩), .pointer (some ⟨rd, 0, none⟩), .agg #[.int .i64 On, .int .i64 Do, .string A, .string B, .slice ar nr cr, .int .i64 Nn, .slice ak nk ck]] w fun e w' => e = .returned (.bool true) ∧ ∃ k', Gr k k' ∧ Bp w F G d rd k' w' := by
  subst hDo
  have hu : True := (fun _ _ _ _ _ _ _ _ _ => trivial) hA hB hN hst hfl hRd hKa hFW hGW
  clear hu
  have hbe : Below w.heap.size w (w.alloc (.cells #[.int .i64 On, .int .i64 8, .string A, .string B, .slice ar nr cr, .int .i64 Nn, .slice ak nk ck] 34)) := (Below.refl _ _).alloc (Nat.le_refl _) _
  have hfil := alloc_at w (.cells #[.int .i64 On, .int .i64 8, .string A, .string B, .slice ar nr cr, .int .i64 Nn, .slice ak nk ck] 34)
  obtain ⟨bf, hbf⟩ : ∃ bf, w.heap.size = bf := ⟨_, rfl⟩
  have hnF : ¬ F bf := fun h => by have := hBt.D.lt bf h; omega
  have hnG : ¬ G bf := fun h => by have := hBt.R.lt bf h; omega
  go_enter Try.func10, Try.ntmps10
  go_upto_region 2 with fail
  rw [hbf] at hfil
  generalize w.alloc (.cells #[.int .i64 On, .int .i64 8, .string A, .string B, .slice ar nr cr, .int .i64 Nn, .slice ak nk ck] 34) = Z at *
  have hPZ : PS W bf #[.int .i64 On, .int .i64 8, .string A, .string B, .slice ar nr cr, .int .i64 Nn, .slice ak nk ck] Z := ⟨hbW.trans (hbe.mono hbW.size), hfil⟩
  have hBZ := hBt.below hbe
  have hc1 : Z.cell? ⟨bf, 1, none⟩ = some (.int .i64 8) := by rw [cell_of_block hfil]; rfl
  have hc2 : ∀ w', PS W bf #[.int .i64 On, .int .i64 8, .string A, .string B, .slice ar nr cr, .int .i64 Nn, .slice ak nk ck] w' → w'.cell? ⟨bf, 2, none⟩ = some (.string A) := fun w' h => by rw [cell_of_block h.X]; rfl
  have hc3 : ∀ w', PS W bf #[.int .i64 On, .int .i64 8, .string A, .string B, .slice ar nr cr, .int .i64 Nn, .slice ak nk ck] w' → w'.cell? ⟨bf, 3, none⟩ = some (.string B) := fun w' h => by rw [cell_of_block h.X]; rfl
  have hc4 : ∀ w', PS W bf #[.int .i64 On, .int .i64 8, .string A, .string B, .slice ar nr cr, .int .i64 Nn, .slice ak nk ck] w' → w'.cell? ⟨bf, 4, none⟩ = some (.slice ar nr cr) := fun w' h => by rw [cell_of_block h.X]; rfl
  have hc5 : ∀ w', PS W bf #[.int .i64 On, .int .i64 8, .string A, .string B, .slice ar nr cr, .int .i64 Nn, .slice ak nk ck] w' → w'.cell? ⟨bf, 5, none⟩ = some (.int .i64 Nn) := fun w' h => by rw [cell_of_block h.X]; rfl
  have hc6 : ∀ w', PS W bf #[.int .i64 On, .int .i64 8, .string A, .string B, .slice ar nr cr, .int .i64 Nn, .slice ak nk ck] w' → w'.cell? ⟨bf, 6, none⟩ = some (.slice ak nk ck) := fun w' h => by rw [cell_of_block h.X]; rfl
  clear hfil hBt hbW hbf
  obtain ⟨P, HP⟩ : ∃ P, Hid (fuseK k Nn = P) := ⟨_, rfl⟩
  have hPc := fun w hD => fuse_any d F k Nn hN w hD
  have hDc := fun w hR => refFuse_any rd G k Nn hN w hR
  have hGr := gr_fuse k Nn
  rw [HP.out] at hPc hDc hGr
  obtain ⟨en, k2⟩ := P
  dsimp only at hPc hDc hGr
  go_upto_region 22 with fail
  refine wp_region_lx (fun w' => PS W bf #[.int .i64 On, .int .i64 8, .string A, .string B, .slice ar nr cr, .int .i64 Nn, .slice ak nk ck] w') [] 10 (by kernel_rfl) (by kernel_rfl) ?_
  have hbX : Below w.heap.size w Z.drew := hbe.drew
  have hBX := hBZ.below ((Below.refl _ _).drew)
  have hPX := hPZ.drew
  clear hbe hBZ hPZ hc1
  generalize Z.drew = X at *
  refine lx_rd 0 ?va0 (by kernel_rfl) (fun _ _ d _ _ h => by cases d <;> exact h) (by kernel_rfl) hPX rfl rfl rfl (fun w' hS => ?ha0) ?_
  case ha0 => first | (go_simp; rfl) | go_simp
  simp only [List.setIfInBounds_toArray, List.set_cons_zero, List.set_cons_succ]
  refine lx_rd 1 (.pointer (some ⟨bf, 5, none⟩)) (by kernel_rfl) (fun _ _ d _ _ h => by cases d <;> exact h) (by kernel_rfl) hPX rfl rfl rfl (fun w' hS => ?ha1) ?_
  case ha1 => first | (go_simp; rfl) | go_simp
  simp only [List.setIfInBounds_toArray, List.set_cons_zero, List.set_cons_succ]
  refine lx_rd 2 (.int .i64 Nn) (by kernel_rfl) (fun _ _ d _ _ h => by cases d <;> exact h) (by kernel_rfl) hPX rfl rfl rfl (fun w' hS => ?ha2) ?_
  case ha2 => have q := hc5 _ hS; first | (go_simp; rfl) | go_simp
  simp only [List.setIfInBounds_toArray, List.set_cons_zero, List.set_cons_succ]
  refine lx_rd 4 ?va4 (by kernel_rfl) (fun _ _ d _ _ h => by cases d <;> exact h) (by kernel_rfl) hPX rfl rfl rfl (fun w' hS => ?ha4) ?_
  case ha4 => first | (go_simp; rfl) | go_simp
  simp only [List.setIfInBounds_toArray, List.set_cons_zero, List.set_cons_succ]
  refine lx_rd 5 (.pointer (some ⟨bf, 5, none⟩)) (by kernel_rfl) (fun _ _ d _ _ h => by cases d <;> exact h) (by kernel_rfl) hPX rfl rfl rfl (fun w' hS => ?ha5) ?_
  case ha5 => first | (go_simp; rfl) | go_simp
  simp only [List.setIfInBounds_toArray, List.set_cons_zero, List.set_cons_succ]
  refine lx_rd 6 (.int .i64 Nn) (by kernel_rfl) (fun _ _ d _ _ h => by cases d <;> exact h) (by kernel_rfl) hPX rfl rfl rfl (fun w' hS => ?ha6) ?_
  case ha6 => have q := hc5 _ hS; first | (go_simp; rfl) | go_simp
  simp only [List.setIfInBounds_toArray, List.set_cons_zero, List.set_cons_succ]
  refine lx_one 3 (by kernel_rfl) (stepT_call 15 ?a3 rfl rfl rfl ?r3 ?_)
  case r3 => first | (go_simp; rfl) | go_simp
  refine (hPc X hBX.D).mono ?_
  rintro e w1 ⟨rfl, F1, hD1, hk1, hF1⟩
  have hP1 := hPX.keep hk1 hFW hnF
  have hM := hBX.prog hbX hD1 hk1 hF1
  refine ⟨_, rfl, fun _ => hP1, ?_⟩
  simp only [List.setIfInBounds_toArray, List.set_cons_zero, List.set_cons_succ]
  refine lx_one 7 (by kernel_rfl) (stepT_call 35 ?a7 rfl rfl rfl ?r7 ?_)
  case r7 => first | (go_simp; rfl) | go_simp
  refine (hDc w1 hM.R).mono ?_
  rintro e w2 ⟨rfl, G2, hR2, hk2, hG2⟩
  have hP2 := hP1.keep hk2 hGW hnG
  have hBp := hM.doc hR2 hk2 hG2
  refine ⟨_, rfl, fun _ => hP2, ?_⟩
  simp only [List.setIfInBounds_toArray, List.set_cons_zero, List.set_cons_succ]
  refine lx_rd 8 (.bool true) (by kernel_rfl) (fun _ _ d _ _ h => by cases d <;> exact h) (by kernel_rfl) hP2 rfl rfl rfl (fun w' hS => ?hb8) ?_
  case hb8 => first | (go_simp; rfl) | go_simp
  simp only [List.setIfInBounds_toArray, List.set_cons_zero, List.set_cons_succ]
  refine lx_rd 9 (.bool true) (by kernel_rfl) (fun _ _ d _ _ h => by cases d <;> exact h) (by kernel_rfl) hP2 rfl rfl rfl (fun w' hS => ?hb9) ?_
  case hb9 => first | (go_simp; rfl) | go_simp
  simp only [List.setIfInBounds_toArray, List.set_cons_zero, List.set_cons_succ]
  refine lx_nil (by kernel_rfl) ?_
  obtain ⟨F3, G3, hB3, hk3, hF3, hG3⟩ := hBp
  have hBp : Bp w F G d rd k2 w2 := ⟨F3, G3, hB3, hk3, hF3, hG3⟩
  clear hPc hDc hM hP1 hP2 hR2 hk2 hG2 hBX hPX hD1 hk1 hF1 hc2 hc3 hc4 hc5 hc6 hk3 hF3 hG3
  go_upto_region 26 with fail
  have hus := used_any d _ _ _ (Both.D (Both.below hB3 ((Below.refl w2.heap.size w2).drew)))
  have hru := refUsed_any rd _ _ _ (Both.R (Both.below hB3 ((Below.refl w2.heap.size w2).drew)))
  have hsp := steps_any d _ _ _ (Both.D (Both.below hB3 ((Below.refl w2.heap.size w2).drew)))
  have hdn := both_done (Both.below hB3 ((Below.refl w2.heap.size w2).drew))
  have hBpE := hBp.below ((Below.refl w2.heap.size w2).drew)
  refine wp_region_lx (fun w' => w' = w2.drew) [] 18 (by kernel_rfl) (by kernel_rfl) ?_
  have HSE : w2.drew = w2.drew := rfl
  refine lx_rd 0 ?ve0 (by kernel_rfl) (fun _ _ d _ _ h => by cases d <;> exact h) (by kernel_rfl) HSE rfl rfl rfl (fun w' hS => ?he0) ?_
  case he0 => first | (go_simp; rfl) | go_simp
  simp only [List.setIfInBounds_toArray, List.set_cons_zero, List.set_cons_succ]
  refine lx_rd 1 ?ve1 (by kernel_rfl) (fun _ _ d _ _ h => by cases d <;> exact h) (by kernel_rfl) HSE rfl rfl rfl (fun w' hS => ?he1) ?_
  case he1 => first | (go_simp; rfl) | go_simp
  simp only [List.setIfInBounds_toArray, List.set_cons_zero, List.set_cons_succ]
  refine lx_rd 2 ?ve2 (by kernel_rfl) (fun _ _ d _ _ h => by cases d <;> exact h) (by kernel_rfl) HSE rfl rfl rfl (fun w' hS => ?he2) ?_
  case he2 => first | (go_simp; rfl) | go_simp
  simp only [List.setIfInBounds_toArray, List.set_cons_zero, List.set_cons_succ]
  refine lx_rd 4 ?ve4 (by kernel_rfl) (fun _ _ d _ _ h => by cases d <;> exact h) (by kernel_rfl) HSE rfl rfl rfl (fun w' hS => ?he4) ?_
  case he4 => first | (go_simp; rfl) | go_simp
  simp only [List.setIfInBounds_toArray, List.set_cons_zero, List.set_cons_succ]
  refine lx_one 3 (by kernel_rfl) (stepT_call 37 ?ae3 rfl rfl rfl ?re3 ?_)
  case re3 => first | (go_simp; rfl) | go_simp
  refine hus.mono ?_
  rintro e w' ⟨rfl, rfl⟩
  refine ⟨_, rfl, fun _ => rfl, ?_⟩
  simp only [List.setIfInBounds_toArray, List.set_cons_zero, List.set_cons_succ]
  refine lx_one 5 (by kernel_rfl) (stepT_call 38 ?ae5 rfl rfl rfl ?re5 ?_)
  case re5 => first | (go_simp; rfl) | go_simp
  refine hru.mono ?_
  rintro e w' ⟨rfl, rfl⟩
  refine ⟨_, rfl, fun _ => rfl, ?_⟩
  simp only [List.setIfInBounds_toArray, List.set_cons_zero, List.set_cons_succ]
  refine lx_rd 6 (.bool true) (by kernel_rfl) (fun _ _ d _ _ h => by cases d <;> exact h) (by kernel_rfl) HSE rfl rfl rfl (fun w' hS => ?hf6) ?_
  case hf6 => first | (go_simp; rfl) | go_simp
  simp only [List.setIfInBounds_toArray, List.set_cons_zero, List.set_cons_succ]
  refine lx_rd 7 (.bool true) (by kernel_rfl) (fun _ _ d _ _ h => by cases d <;> exact h) (by kernel_rfl) HSE rfl rfl rfl (fun w' hS => ?hf7) ?_
  case hf7 => first | (go_simp; rfl) | go_simp
  simp only [List.setIfInBounds_toArray, List.set_cons_zero, List.set_cons_succ]
  refine lx_rd 8 (.bool true) (by kernel_rfl) (fun _ _ d _ _ h => by cases d <;> exact h) (by kernel_rfl) HSE rfl rfl rfl (fun w' hS => ?hf8) ?_
  case hf8 => first | (go_simp; rfl) | go_simp
  simp only [List.setIfInBounds_toArray, List.set_cons_zero, List.set_cons_succ]
  refine lx_rd 9 ?vf9 (by kernel_rfl) (fun _ _ d _ _ h => by cases d <;> exact h) (by kernel_rfl) HSE rfl rfl rfl (fun w' hS => ?hf9) ?_
  case hf9 => first | (go_simp; rfl) | go_simp
  simp only [List.setIfInBounds_toArray, List.set_cons_zero, List.set_cons_succ]
  refine lx_rd 11 ?vf11 (by kernel_rfl) (fun _ _ d _ _ h => by cases d <;> exact h) (by kernel_rfl) HSE rfl rfl rfl (fun w' hS => ?hf11) ?_
  case hf11 => first | (go_simp; rfl) | go_simp
  simp only [List.setIfInBounds_toArray, List.set_cons_zero, List.set_cons_succ]
  refine lx_rd 12 (.pointer (some ⟨rd, 0, none⟩)) (by kernel_rfl) (fun _ _ d _ _ h => by cases d <;> exact h) (by kernel_rfl) HSE rfl rfl rfl (fun w' hS => ?hf12) ?_
  case hf12 => first | (go_simp; rfl) | go_simp
  simp only [List.setIfInBounds_toArray, List.set_cons_zero, List.set_cons_succ]
  refine lx_rd 13 (.pointer (some ⟨rd, 2, none⟩)) (by kernel_rfl) (fun _ _ d _ _ h => by cases d <;> exact h) (by kernel_rfl) HSE rfl rfl rfl (fun w' hS => ?hf13) ?_
  case hf13 => first | (go_simp; rfl) | go_simp
  simp only [List.setIfInBounds_toArray, List.set_cons_zero, List.set_cons_succ]
  refine lx_rd 14 (.int .i64 (k2.steps : Int)) (by kernel_rfl) (fun _ _ d _ _ h => by cases d <;> exact h) (by kernel_rfl) HSE rfl rfl rfl (fun w' hS => ?hf14) ?_
  case hf14 => subst hS; first | (go_simp; rfl) | go_simp
  simp only [List.setIfInBounds_toArray, List.set_cons_zero, List.set_cons_succ]
  refine lx_one 10 (by kernel_rfl) (stepT_call 27 ?ae10 rfl rfl rfl ?re10 ?_)
  case re10 => first | (go_simp; rfl) | go_simp
  refine hsp.mono ?_
  rintro e w' ⟨rfl, rfl⟩
  refine ⟨_, rfl, fun _ => rfl, ?_⟩
  simp only [List.setIfInBounds_toArray, List.set_cons_zero, List.set_cons_succ]
  refine lx_rd 15 (.bool true) (by kernel_rfl) (fun _ _ d _ _ h => by cases d <;> exact h) (by kernel_rfl) HSE rfl rfl rfl (fun w' hS => ?hg15) ?_
  case hg15 => first | (go_simp; rfl) | go_simp
  simp only [List.setIfInBounds_toArray, List.set_cons_zero, List.set_cons_succ]
  refine lx_rd 16 (.bool true) (by kernel_rfl) (fun _ _ d _ _ h => by cases d <;> exact h) (by kernel_rfl) HSE rfl rfl rfl (fun w' hS => ?hg16) ?_
  case hg16 => first | (go_simp; rfl) | go_simp
  simp only [List.setIfInBounds_toArray, List.set_cons_zero, List.set_cons_succ]
  refine lx_rd 17 (.bool true) (by kernel_rfl) (fun _ _ d _ _ h => by cases d <;> exact h) (by kernel_rfl) HSE rfl rfl rfl (fun w' hS => ?hg17) ?_
  case hg17 => first | (go_simp; rfl) | go_simp
  simp only [List.setIfInBounds_toArray, List.set_cons_zero, List.set_cons_succ]
  refine lx_nil (by kernel_rfl) ?_
  go_wp2
  go_ret
  exact ⟨rfl, _, hGr, hBpE⟩

end Go.Proofs.Ytimfidhehikaiaa
