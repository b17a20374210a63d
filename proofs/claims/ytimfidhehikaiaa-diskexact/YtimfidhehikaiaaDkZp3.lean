/- The law's plays: a call on both disks; do they answer alike? -/
import Derived.Test.YtimfidhehikaiaaDkZf
import Derived.Test.YtimfidhehikaiaaDkZh
namespace Go.Proofs.Ytimfidhehikaiaa
open Go.RowKit Go.Joins

set_option maxRecDepth 100000 in
set_option maxHeartbeats 4000000 in
theorem plays_9 (d rd : Nat) (F G : Nat → Prop) (k : Dk) (On Do : Int) (A B : Nm) (ar : Option Addr) (nr cr : Nat) (xs : List Int) (Nn : Int) (ak : Option Addr) (nk ck : Nat) (zs : List Int) (hA : A.size ≤ 9223372036854775807) (hB : B.size ≤ 9223372036854775807) (hN : Nn ≤ 9223372036854775807) (hst : k.steps < 999999) (hfl : k.fs.length < 999998) (W w : World) (hbW : Below W.heap.size W w) (hRd : Rd W ar nr cr xs) (hKa : IAr W ak nk ck zs) (hFW : ∀ i, F i → W.heap.size ≤ i) (hGW : ∀ i, G i → W.heap.size ≤ i) (hBt : Both w F G d rd k) (hDo : Do = 9) :
    Calls Try.prog 10 #[.pointer (some ⟨d, 0, none⟩), .pointer (some ⟨rd, 0, none⟩), .agg #[.int .i64 On, .int .i64 Do, .string A, .string B, .slice ar nr cr, .int .i64 Nn, .slice ak nk ck]] w fun e w' => e = .returned (.bool true) ∧ ∃ k', Gr k k' ∧ Bp w F G d rd k' w' := by
  subst hDo
  have hu : True := (fun _ _ _ _ _ _ _ _ _ => trivial) hA hB hN hst hfl hRd hKa hFW hGW
  clear hu
  have hbe : Below w.heap.size w (w.alloc (.cells #[.int .i64 On, .int .i64 9, .string A, .string B, .slice ar nr cr, .int .i64 Nn, .slice ak nk ck] 34)) := (Below.refl _ _).alloc (Nat.le_refl _) _
  have hfil := alloc_at w (.cells #[.int .i64 On, .int .i64 9, .string A, .string B, .slice ar nr cr, .int .i64 Nn, .slice ak nk ck] 34)
  obtain ⟨bf, hbf⟩ : ∃ bf, w.heap.size = bf := ⟨_, rfl⟩
  have hnF : ¬ F bf := fun h => by have := hBt.D.lt bf h; omega
  have hnG : ¬ G bf := fun h => by have := hBt.R.lt bf h; omega
  go_enter Try.func10, Try.ntmps10
  go_upto_region 2 with fail
  rw [hbf] at hfil
  generalize w.alloc (.cells #[.int .i64 On, .int .i64 9, .string A, .string B, .slice ar nr cr, .int .i64 Nn, .slice ak nk ck] 34) = Z at *
  have hPZ : PS W bf #[.int .i64 On, .int .i64 9, .string A, .string B, .slice ar nr cr, .int .i64 Nn, .slice ak nk ck] Z := ⟨hbW.trans (hbe.mono hbW.size), hfil⟩
  have hBZ := hBt.below hbe
  have hc1 : Z.cell? ⟨bf, 1, none⟩ = some (.int .i64 9) := by rw [cell_of_block hfil]; rfl
  have hc2 : ∀ w', PS W bf #[.int .i64 On, .int .i64 9, .string A, .string B, .slice ar nr cr, .int .i64 Nn, .slice ak nk ck] w' → w'.cell? ⟨bf, 2, none⟩ = some (.string A) := fun w' h => by rw [cell_of_block h.X]; rfl
  have hc3 : ∀ w', PS W bf #[.int .i64 On, .int .i64 9, .string A, .string B, .slice ar nr cr, .int .i64 Nn, .slice ak nk ck] w' → w'.cell? ⟨bf, 3, none⟩ = some (.string B) := fun w' h => by rw [cell_of_block h.X]; rfl
  have hc4 : ∀ w', PS W bf #[.int .i64 On, .int .i64 9, .string A, .string B, .slice ar nr cr, .int .i64 Nn, .slice ak nk ck] w' → w'.cell? ⟨bf, 4, none⟩ = some (.slice ar nr cr) := fun w' h => by rw [cell_of_block h.X]; rfl
  have hc5 : ∀ w', PS W bf #[.int .i64 On, .int .i64 9, .string A, .string B, .slice ar nr cr, .int .i64 Nn, .slice ak nk ck] w' → w'.cell? ⟨bf, 5, none⟩ = some (.int .i64 Nn) := fun w' h => by rw [cell_of_block h.X]; rfl
  have hc6 : ∀ w', PS W bf #[.int .i64 On, .int .i64 9, .string A, .string B, .slice ar nr cr, .int .i64 Nn, .slice ak nk ck] w' → w'.cell? ⟨bf, 6, none⟩ = some (.slice ak nk ck) := fun w' h => by rw [cell_of_block h.X]; rfl
  clear hfil hBt hbW hbf
  have q6 := hc6 Z hPZ
  go_upto_region 25 with (first
    | (go_at_call 17; refine (ints_any ak nk ck zs _ (hKa.carry hPZ.B)).mono ?_; rintro e w1 ⟨v1, g1, rfl, hI1, hg1, hb1⟩)
    | (go_at_call 16; refine (restart_any d F k g1 v1 (zs.take 30) (by omega) w1 (hBZ.D.below hb1) hI1 (fun _ h => by have := hBZ.D.lt _ h; omega)).mono ?_; rintro e w2 ⟨rfl, F2, hD2, hk2, hF2⟩))
  have hb01 := hbe.trans (hb1.mono hbe.size)
  have hP2 := (hPZ.below hb1).keep hk2 hFW hnF
  have hM2 := (hBZ.below hb1).prog hb01 hD2 hk2 hF2
  have q62 := hc6 w2 hP2
  go_upto_region 26 with (first
    | (go_at_call 17; refine (ints_any ak nk ck zs _ (hKa.carry hP2.B)).mono ?_; rintro e w3 ⟨v3, g3, rfl, hI3, hg3, hb3⟩)
    | (go_at_call 36; refine (refRestart_any rd G k g3 v3 (zs.take 30) (by omega) w3 (hM2.R.below hb3) hI3 (fun _ h => by have := hM2.R.lt _ h; omega)).mono ?_; rintro e w4 ⟨rfl, G4, hR4, hk4, hG4⟩))
  have hBp := (hM2.below hb3).doc hR4 hk4 hG4
  obtain ⟨F5, G5, hB5, hk5, hF5, hG5⟩ := hBp
  obtain ⟨k2, Hk2⟩ : ∃ k2, Hid (restK k (zs.take 30) = k2) := ⟨_, rfl⟩
  have hGr := gr_rest k (zs.take 30)
  rw [Hk2.out] at hB5 hGr
  have hBp : Bp w F G d rd k2 w4 := ⟨F5, G5, hB5, hk5, hF5, hG5⟩
  clear hBZ hPZ hP2 hM2 hD2 hR4 hk4 hG4 hk2 hF2 hI1 hI3 hb1 hb3 hbe hb01 hc1 hc2 hc3 hc4 hc5 hc6 q6 q62 hk5 hF5 hG5
  have hus := used_any d _ _ _ (Both.D (Both.below hB5 ((Below.refl w4.heap.size w4).drew)))
  have hru := refUsed_any rd _ _ _ (Both.R (Both.below hB5 ((Below.refl w4.heap.size w4).drew)))
  have hsp := steps_any d _ _ _ (Both.D (Both.below hB5 ((Below.refl w4.heap.size w4).drew)))
  have hdn := both_done (Both.below hB5 ((Below.refl w4.heap.size w4).drew))
  have hBpE := hBp.below ((Below.refl w4.heap.size w4).drew)
  refine wp_region_lx (fun w' => w' = w4.drew) [] 18 (by kernel_rfl) (by kernel_rfl) ?_
  have HSE : w4.drew = w4.drew := rfl
  refine lx_rd 0 ?ve0 (by kernel_rfl) (fun _ _ d _ _ h => by cases d <;> exact h) (by kernel_rfl) HSE rfl rfl rfl (fun w' hS => ?he0) ?_
  case he0 => first | (go_simp; rfl) | go_simp
  simp only [List.setIfInBounds_toArray, List.set_cons_zero, List.set_cons_succ]
  refine lx_rd 1 ?ve1 (by kernel_rfl) (fun _ _ d _ _ h => by cases d <;> exact h) (by kernel_rfl) HSE rfl rfl rfl (fun w' hS => ?he1) ?_
  case he1 => first | (go_simp; rfl) | go_simp
  simp only [List.setIfInBounds_toArray, List.set_cons_zero, List.set_cons_succ]
  refine lx_rd 2 ?ve2 (by kernel_rfl) (fun _ _ d _ _ h => by cases d <;> exact h) (by kernel_rfl) HSE rfl rfl rfl (fun w' hS => ?he2) ?_
  case he2 => first | (go_simp; rfl) | go_simp
  simp only [List.setIfInBounds_toArray, List.set_cons_zero, List.set_cons_succ]
  refine lx_rd 4 ?ve4 (by kernel_rfl) (fun _ _ d _ _ h => by cases d <;> exact h) (by kernel_rfl) HSE rfl rfl rfl (fun w' hS => ?he4) ?_
  case he4 => first | (go_simp; rfl) | go_simp
  simp only [List.setIfInBounds_toArray, List.set_cons_zero, List.set_cons_succ]
  refine lx_one 3 (by kernel_rfl) (stepT_call 37 ?ae3 rfl rfl rfl ?re3 ?_)
  case re3 => first | (go_simp; rfl) | go_simp
  refine hus.mono ?_
  rintro e w' ⟨rfl, rfl⟩
  refine ⟨_, rfl, fun _ => rfl, ?_⟩
  simp only [List.setIfInBounds_toArray, List.set_cons_zero, List.set_cons_succ]
  refine lx_one 5 (by kernel_rfl) (stepT_call 38 ?ae5 rfl rfl rfl ?re5 ?_)
  case re5 => first | (go_simp; rfl) | go_simp
  refine hru.mono ?_
  rintro e w' ⟨rfl, rfl⟩
  refine ⟨_, rfl, fun _ => rfl, ?_⟩
  simp only [List.setIfInBounds_toArray, List.set_cons_zero, List.set_cons_succ]
  refine lx_rd 6 (.bool true) (by kernel_rfl) (fun _ _ d _ _ h => by cases d <;> exact h) (by kernel_rfl) HSE rfl rfl rfl (fun w' hS => ?hf6) ?_
  case hf6 => first | (go_simp; rfl) | go_simp
  simp only [List.setIfInBounds_toArray, List.set_cons_zero, List.set_cons_succ]
  refine lx_rd 7 (.bool true) (by kernel_rfl) (fun _ _ d _ _ h => by cases d <;> exact h) (by kernel_rfl) HSE rfl rfl rfl (fun w' hS => ?hf7) ?_
  case hf7 => first | (go_simp; rfl) | go_simp
  simp only [List.setIfInBounds_toArray, List.set_cons_zero, List.set_cons_succ]
  refine lx_rd 8 (.bool true) (by kernel_rfl) (fun _ _ d _ _ h => by cases d <;> exact h) (by kernel_rfl) HSE rfl rfl rfl (fun w' hS => ?hf8) ?_
  case hf8 => first | (go_simp; rfl) | go_simp
  simp only [List.setIfInBounds_toArray, List.set_cons_zero, List.set_cons_succ]
  refine lx_rd 9 ?vf9 (by kernel_rfl) (fun _ _ d _ _ h => by cases d <;> exact h) (by kernel_rfl) HSE rfl rfl rfl (fun w' hS => ?hf9) ?_
  case hf9 => first | (go_simp; rfl) | go_simp
  simp only [List.setIfInBounds_toArray, List.set_cons_zero, List.set_cons_succ]
  refine lx_rd 11 ?vf11 (by kernel_rfl) (fun _ _ d _ _ h => by cases d <;> exact h) (by kernel_rfl) HSE rfl rfl rfl (fun w' hS => ?hf11) ?_
  case hf11 => first | (go_simp; rfl) | go_simp
  simp only [List.setIfInBounds_toArray, List.set_cons_zero, List.set_cons_succ]
  refine lx_rd 12 (.pointer (some ⟨rd, 0, none⟩)) (by kernel_rfl) (fun _ _ d _ _ h => by cases d <;> exact h) (by kernel_rfl) HSE rfl rfl rfl (fun w' hS => ?hf12) ?_
  case hf12 => first | (go_simp; rfl) | go_simp
  simp only [List.setIfInBounds_toArray, List.set_cons_zero, List.set_cons_succ]
  refine lx_rd 13 (.pointer (some ⟨rd, 2, none⟩)) (by kernel_rfl) (fun _ _ d _ _ h => by cases d <;> exact h) (by kernel_rfl) HSE rfl rfl rfl (fun w' hS => ?hf13) ?_
  case hf13 => first | (go_simp; rfl) | go_simp
  simp only [List.setIfInBounds_toArray, List.set_cons_zero, List.set_cons_succ]
  refine lx_rd 14 (.int .i64 (k2.steps : Int)) (by kernel_rfl) (fun _ _ d _ _ h => by cases d <;> exact h) (by kernel_rfl) HSE rfl rfl rfl (fun w' hS => ?hf14) ?_
  case hf14 => subst hS; first | (go_simp; rfl) | go_simp
  simp only [List.setIfInBounds_toArray, List.set_cons_zero, List.set_cons_succ]
  refine lx_one 10 (by kernel_rfl) (stepT_call 27 ?ae10 rfl rfl rfl ?re10 ?_)
  case re10 => first | (go_simp; rfl) | go_simp
  refine hsp.mono ?_
  rintro e w' ⟨rfl, rfl⟩
  refine ⟨_, rfl, fun _ => rfl, ?_⟩
  simp only [List.setIfInBounds_toArray, List.set_cons_zero, List.set_cons_succ]
  refine lx_rd 15 (.bool true) (by kernel_rfl) (fun _ _ d _ _ h => by cases d <;> exact h) (by kernel_rfl) HSE rfl rfl rfl (fun w' hS => ?hg15) ?_
  case hg15 => first | (go_simp; rfl) | go_simp
  simp only [List.setIfInBounds_toArray, List.set_cons_zero, List.set_cons_succ]
  refine lx_rd 16 (.bool true) (by kernel_rfl) (fun _ _ d _ _ h => by cases d <;> exact h) (by kernel_rfl) HSE rfl rfl rfl (fun w' hS => ?hg16) ?_
  case hg16 => first | (go_simp; rfl) | go_simp
  simp only [List.setIfInBounds_toArray, List.set_cons_zero, List.set_cons_succ]
  refine lx_rd 17 (.bool true) (by kernel_rfl) (fun _ _ d _ _ h => by cases d <;> exact h) (by kernel_rfl) HSE rfl rfl rfl (fun w' hS => ?hg17) ?_
  case hg17 => first | (go_simp; rfl) | go_simp
  simp only [List.setIfInBounds_toArray, List.set_cons_zero, List.set_cons_succ]
  refine lx_nil (by kernel_rfl) ?_
  go_wp2
  go_ret
  exact ⟨rfl, _, hGr, hBpE⟩

end Go.Proofs.Ytimfidhehikaiaa
