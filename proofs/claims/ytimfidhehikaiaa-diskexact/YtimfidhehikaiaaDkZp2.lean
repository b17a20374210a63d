/- The law's plays: a call on both disks; do they answer alike? -/
import Derived.Test.YtimfidhehikaiaaDkZh
namespace Go.Proofs.Ytimfidhehikaiaa
open Go.RowKit Go.Joins

set_option maxRecDepth 100000 in
set_option maxHeartbeats 4000000 in
theorem plays_6 (d rd : Nat) (F G : Nat → Prop) (k : Dk) (On Do : Int) (A B : Nm) (ar : Option Addr) (nr cr : Nat) (xs : List Int) (Nn : Int) (ak : Option Addr) (nk ck : Nat) (zs : List Int) (hA : A.size ≤ 9223372036854775807) (hB : B.size ≤ 9223372036854775807) (hN : Nn ≤ 9223372036854775807) (hst : k.steps < 999999) (hfl : k.fs.length < 999998) (W w : World) (hbW : Below W.heap.size W w) (hRd : Rd W ar nr cr xs) (hKa : IAr W ak nk ck zs) (hFW : ∀ i, F i → W.heap.size ≤ i) (hGW : ∀ i, G i → W.heap.size ≤ i) (hBt : Both w F G d rd k) (hDo : Do = 6) :
    Calls Try.prog 10 #[.pointer (some ⟨d, 0, none⟩), .pointer (some ⟨rd, 0, none⟩), .agg #[.int .i64 On, .int .i64 Do, .string A, .string B, .slice ar nr cr, .int .i64 Nn, .slice ak nk ck]] w fun e w' => e = .returned (.bool true) ∧ ∃ k', Gr k k' ∧ Bp w F G d rd k' w' := by
  subst hDo
  have hu : True := (fun _ _ _ _ _ _ _ _ _ => trivial) hA hB hN hst hfl hRd hKa hFW hGW
  clear hu
  have hbe : Below w.heap.size w (w.alloc (.cells #[.int .i64 On, .int .i64 6, .string A, .string B, .slice ar nr cr, .int .i64 Nn, .slice ak nk ck] 34)) := (Below.refl _ _).alloc (Nat.le_refl _) _
  have hfil := alloc_at w (.cells #[.int .i64 On, .int .i64 6, .string A, .string B, .slice ar nr cr, .int .i64 Nn, .slice ak nk ck] 34)
  obtain ⟨bf, hbf⟩ : ∃ bf, w.heap.size = bf := ⟨_, rfl⟩
  have hnF : ¬ F bf := fun h => by have := hBt.D.lt bf h; omega
  have hnG : ¬ G bf := fun h => by have := hBt.R.lt bf h; omega
  go_enter Try.func10, Try.ntmps10
  go_upto_region 2 with fail
  rw [hbf] at hfil
  generalize w.alloc (.cells #[.int .i64 On, .int .i64 6, .string A, .string B, .slice ar nr cr, .int .i64 Nn, .slice ak nk ck] 34) = Z at *
  have hPZ : PS W bf #[.int .i64 On, .int .i64 6, .string A, .string B, .slice ar nr cr, .int .i64 Nn, .slice ak nk ck] Z := ⟨hbW.trans (hbe.mono hbW.size), hfil⟩
  have hBZ := hBt.below hbe
  have hc1 : Z.cell? ⟨bf, 1, none⟩ = some (.int .i64 6) := by rw [cell_of_block hfil]; rfl
  have hc2 : ∀ w', PS W bf #[.int .i64 On, .int .i64 6, .string A, .string B, .slice ar nr cr, .int .i64 Nn, .slice ak nk ck] w' → w'.cell? ⟨bf, 2, none⟩ = some (.string A) := fun w' h => by rw [cell_of_block h.X]; rfl
  have hc3 : ∀ w', PS W bf #[.int .i64 On, .int .i64 6, .string A, .string B, .slice ar nr cr, .int .i64 Nn, .slice ak nk ck] w' → w'.cell? ⟨bf, 3, none⟩ = some (.string B) := fun w' h => by rw [cell_of_block h.X]; rfl
  have hc4 : ∀ w', PS W bf #[.int .i64 On, .int .i64 6, .string A, .string B, .slice ar nr cr, .int .i64 Nn, .slice ak nk ck] w' → w'.cell? ⟨bf, 4, none⟩ = some (.slice ar nr cr) := fun w' h => by rw [cell_of_block h.X]; rfl
  have hc5 : ∀ w', PS W bf #[.int .i64 On, .int .i64 6, .string A, .string B, .slice ar nr cr, .int .i64 Nn, .slice ak nk ck] w' → w'.cell? ⟨bf, 5, none⟩ = some (.int .i64 Nn) := fun w' h => by rw [cell_of_block h.X]; rfl
  have hc6 : ∀ w', PS W bf #[.int .i64 On, .int .i64 6, .string A, .string B, .slice ar nr cr, .int .i64 Nn, .slice ak nk ck] w' → w'.cell? ⟨bf, 6, none⟩ = some (.slice ak nk ck) := fun w' h => by rw [cell_of_block h.X]; rfl
  clear hfil hBt hbW hbf
  obtain ⟨P, HP⟩ : ∃ P, Hid (readK k A = P) := ⟨_, rfl⟩
  have hPc := fun w hD => read_any d F k A w hD
  have hDc := fun w hR => refRead_any rd G k A hA w hR
  rw [HP.out] at hPc hDc
  have hPb : Bd P.2 := by
    rw [← HP.out]
    rcases readK_first k A with ⟨f, _, _, hl, e⟩ | ⟨_, e⟩
    · rw [e]; exact (look_good hBZ.D.good hl).2.2
    · rw [e]; exact Bd.nil
  obtain ⟨SS, HSS⟩ : ∃ SS, Hid (strOfNums P.2 = SS) := ⟨_, rfl⟩
  have q2 := hc2 Z hPZ
  go_upto_region 15 with (first
    | (go_at_call 18; refine (hPc _ hBZ.D).mono ?_; rintro e w1 ⟨v1, rfl, o1, hb1⟩; obtain ⟨a1, c1, rfl, r1⟩ := Rd.ofOwn o1 hPb))
  have hP1 := hPZ.below hb1
  have hB1 := hBZ.below hb1
  have q21 := hc2 w1 hP1
  go_upto_region 16 with (first
    | (go_at_call 25; refine (hDc _ hB1.R).mono ?_; rintro e w2 ⟨v2, rfl, o2, hb2⟩; obtain ⟨a2, c2, rfl, r2⟩ := Rd.ofOwn o2 hPb))
  have s1 := (r1.carry (Nat.le_refl _) hb2).string
  have s2 := r2.string
  rw [HSS.out] at s1 s2
  have hB2 := hB1.below hb2
  have hb12 := hb1.trans (hb2.mono hb1.size)
  have hBp : Bp w F G d rd k w2 := hB2.idle (hbe.trans (hb12.mono hbe.size))
  clear hB1 hBZ hPZ hP1 r1 r2 o1 o2 hb1 hb2 hb12 hbe hc1 hc2 hc3 hc4 hc5 hc6 q2 q21 hPc hDc
  go_upto_region 26 with fail
  have hus := used_any d _ _ _ (Both.D (Both.below hB2 ((Below.refl w2.heap.size w2).drew)))
  have hru := refUsed_any rd _ _ _ (Both.R (Both.below hB2 ((Below.refl w2.heap.size w2).drew)))
  have hsp := steps_any d _ _ _ (Both.D (Both.below hB2 ((Below.refl w2.heap.size w2).drew)))
  have hdn := both_done (Both.below hB2 ((Below.refl w2.heap.size w2).drew))
  have hBpE := hBp.below ((Below.refl w2.heap.size w2).drew)
  refine wp_region_lx (fun w' => w' = w2.drew) [] 18 (by kernel_rfl) (by kernel_rfl) ?_
  have HSE : w2.drew = w2.drew := rfl
  refine lx_rd 0 ?ve0 (by kernel_rfl) (fun _ _ d _ _ h => by cases d <;> exact h) (by kernel_rfl) HSE rfl rfl rfl (fun w' hS => ?he0) ?_
  case he0 => first | (go_simp; rfl) | go_simp
  simp only [List.setIfInBounds_toArray, List.set_cons_zero, List.set_cons_succ]
  refine lx_rd 1 ?ve1 (by kernel_rfl) (fun _ _ d _ _ h => by cases d <;> exact h) (by kernel_rfl) HSE rfl rfl rfl (fun w' hS => ?he1) ?_
  case he1 => first | (go_simp; rfl) | go_simp
  simp only [List.setIfInBounds_toArray, List.set_cons_zero, List.set_cons_succ]
  refine lx_rd 2 ?ve2 (by kernel_rfl) (fun _ _ d _ _ h => by cases d <;> exact h) (by kernel_rfl) HSE rfl rfl rfl (fun w' hS => ?he2) ?_
  case he2 => first | (go_simp; rfl) | go_simp
  simp only [List.setIfInBounds_toArray, List.set_cons_zero, List.set_cons_succ]
  refine lx_rd 4 ?ve4 (by kernel_rfl) (fun _ _ d _ _ h => by cases d <;> exact h) (by kernel_rfl) HSE rfl rfl rfl (fun w' hS => ?he4) ?_
  case he4 => first | (go_simp; rfl) | go_simp
  simp only [List.setIfInBounds_toArray, List.set_cons_zero, List.set_cons_succ]
  refine lx_one 3 (by kernel_rfl) (stepT_call 37 ?ae3 rfl rfl rfl ?re3 ?_)
  case re3 => first | (go_simp; rfl) | go_simp
  refine hus.mono ?_
  rintro e w' ⟨rfl, rfl⟩
  refine ⟨_, rfl, fun _ => rfl, ?_⟩
  simp only [List.setIfInBounds_toArray, List.set_cons_zero, List.set_cons_succ]
  refine lx_one 5 (by kernel_rfl) (stepT_call 38 ?ae5 rfl rfl rfl ?re5 ?_)
  case re5 => first | (go_simp; rfl) | go_simp
  refine hru.mono ?_
  rintro e w' ⟨rfl, rfl⟩
  refine ⟨_, rfl, fun _ => rfl, ?_⟩
  simp only [List.setIfInBounds_toArray, List.set_cons_zero, List.set_cons_succ]
  refine lx_rd 6 (.bool true) (by kernel_rfl) (fun _ _ d _ _ h => by cases d <;> exact h) (by kernel_rfl) HSE rfl rfl rfl (fun w' hS => ?hf6) ?_
  case hf6 => first | (go_simp; rfl) | go_simp
  simp only [List.setIfInBounds_toArray, List.set_cons_zero, List.set_cons_succ]
  refine lx_rd 7 (.bool true) (by kernel_rfl) (fun _ _ d _ _ h => by cases d <;> exact h) (by kernel_rfl) HSE rfl rfl rfl (fun w' hS => ?hf7) ?_
  case hf7 => first | (go_simp; rfl) | go_simp
  simp only [List.setIfInBounds_toArray, List.set_cons_zero, List.set_cons_succ]
  refine lx_rd 8 (.bool true) (by kernel_rfl) (fun _ _ d _ _ h => by cases d <;> exact h) (by kernel_rfl) HSE rfl rfl rfl (fun w' hS => ?hf8) ?_
  case hf8 => first | (go_simp; rfl) | go_simp
  simp only [List.setIfInBounds_toArray, List.set_cons_zero, List.set_cons_succ]
  refine lx_rd 9 ?vf9 (by kernel_rfl) (fun _ _ d _ _ h => by cases d <;> exact h) (by kernel_rfl) HSE rfl rfl rfl (fun w' hS => ?hf9) ?_
  case hf9 => first | (go_simp; rfl) | go_simp
  simp only [List.setIfInBounds_toArray, List.set_cons_zero, List.set_cons_succ]
  refine lx_rd 11 ?vf11 (by kernel_rfl) (fun _ _ d _ _ h => by cases d <;> exact h) (by kernel_rfl) HSE rfl rfl rfl (fun w' hS => ?hf11) ?_
  case hf11 => first | (go_simp; rfl) | go_simp
  simp only [List.setIfInBounds_toArray, List.set_cons_zero, List.set_cons_succ]
  refine lx_rd 12 (.pointer (some ⟨rd, 0, none⟩)) (by kernel_rfl) (fun _ _ d _ _ h => by cases d <;> exact h) (by kernel_rfl) HSE rfl rfl rfl (fun w' hS => ?hf12) ?_
  case hf12 => first | (go_simp; rfl) | go_simp
  simp only [List.setIfInBounds_toArray, List.set_cons_zero, List.set_cons_succ]
  refine lx_rd 13 (.pointer (some ⟨rd, 2, none⟩)) (by kernel_rfl) (fun _ _ d _ _ h => by cases d <;> exact h) (by kernel_rfl) HSE rfl rfl rfl (fun w' hS => ?hf13) ?_
  case hf13 => first | (go_simp; rfl) | go_simp
  simp only [List.setIfInBounds_toArray, List.set_cons_zero, List.set_cons_succ]
  refine lx_rd 14 (.int .i64 (k.steps : Int)) (by kernel_rfl) (fun _ _ d _ _ h => by cases d <;> exact h) (by kernel_rfl) HSE rfl rfl rfl (fun w' hS => ?hf14) ?_
  case hf14 => subst hS; first | (go_simp; rfl) | go_simp
  simp only [List.setIfInBounds_toArray, List.set_cons_zero, List.set_cons_succ]
  refine lx_one 10 (by kernel_rfl) (stepT_call 27 ?ae10 rfl rfl rfl ?re10 ?_)
  case re10 => first | (go_simp; rfl) | go_simp
  refine hsp.mono ?_
  rintro e w' ⟨rfl, rfl⟩
  refine ⟨_, rfl, fun _ => rfl, ?_⟩
  simp only [List.setIfInBounds_toArray, List.set_cons_zero, List.set_cons_succ]
  refine lx_rd 15 (.bool true) (by kernel_rfl) (fun _ _ d _ _ h => by cases d <;> exact h) (by kernel_rfl) HSE rfl rfl rfl (fun w' hS => ?hg15) ?_
  case hg15 => first | (go_simp; rfl) | go_simp
  simp only [List.setIfInBounds_toArray, List.set_cons_zero, List.set_cons_succ]
  refine lx_rd 16 (.bool true) (by kernel_rfl) (fun _ _ d _ _ h => by cases d <;> exact h) (by kernel_rfl) HSE rfl rfl rfl (fun w' hS => ?hg16) ?_
  case hg16 => first | (go_simp; rfl) | go_simp
  simp only [List.setIfInBounds_toArray, List.set_cons_zero, List.set_cons_succ]
  refine lx_rd 17 (.bool true) (by kernel_rfl) (fun _ _ d _ _ h => by cases d <;> exact h) (by kernel_rfl) HSE rfl rfl rfl (fun w' hS => ?hg17) ?_
  case hg17 => first | (go_simp; rfl) | go_simp
  simp only [List.setIfInBounds_toArray, List.set_cons_zero, List.set_cons_succ]
  refine lx_nil (by kernel_rfl) ?_
  go_wp2
  go_ret
  exact ⟨rfl, _, Gr.refl k, hBpE⟩

set_option maxRecDepth 100000 in
set_option maxHeartbeats 4000000 in
theorem plays_7 (d rd : Nat) (F G : Nat → Prop) (k : Dk) (On Do : Int) (A B : Nm) (ar : Option Addr) (nr cr : Nat) (xs : List Int) (Nn : Int) (ak : Option Addr) (nk ck : Nat) (zs : List Int) (hA : A.size ≤ 9223372036854775807) (hB : B.size ≤ 9223372036854775807) (hN : Nn ≤ 9223372036854775807) (hst : k.steps < 999999) (hfl : k.fs.length < 999998) (W w : World) (hbW : Below W.heap.size W w) (hRd : Rd W ar nr cr xs) (hKa : IAr W ak nk ck zs) (hFW : ∀ i, F i → W.heap.size ≤ i) (hGW : ∀ i, G i → W.heap.size ≤ i) (hBt : Both w F G d rd k) (hDo : Do = 7) :
    Calls Try.prog 10 #[.pointer (some ⟨d, 0, none⟩), .pointer (some ⟨rd, 0, none⟩), .agg #[.int .i64 On, .int .i64 Do, .string A, .string B, .slice ar nr cr, .int .i64 Nn, .slice ak nk ck]] w fun e w' => e = .returned (.bool true) ∧ ∃ k', Gr k k' ∧ Bp w F G d rd k' w' := by
  subst hDo
  have hu : True := (fun _ _ _ _ _ _ _ _ _ => trivial) hA hB hN hst hfl hRd hKa hFW hGW
  clear hu
  have hbe : Below w.heap.size w (w.alloc (.cells #[.int .i64 On, .int .i64 7, .string A, .string B, .slice ar nr cr, .int .i64 Nn, .slice ak nk ck] 34)) := (Below.refl _ _).alloc (Nat.le_refl _) _
  have hfil := alloc_at w (.cells #[.int .i64 On, .int .i64 7, .string A, .string B, .slice ar nr cr, .int .i64 Nn, .slice ak nk ck] 34)
  obtain ⟨bf, hbf⟩ : ∃ bf, w.heap.size = bf := ⟨_, rfl⟩
  have hnF : ¬ F bf := fun h => by have := hBt.D.lt bf h; omega
  have hnG : ¬ G bf := fun h => by have := hBt.R.lt bf h; omega
  go_enter Try.func10, Try.ntmps10
  go_upto_region 2 with fail
  rw [hbf] at hfil
  generalize w.alloc (.cells #[.int .i64 On, .int .i64 7, .string A, .string B, .slice ar nr cr, .int .i64 Nn, .slice ak nk ck] 34) = Z at *
  have hPZ : PS W bf #[.int .i64 On, .int .i64 7, .string A, .string B, .slice ar nr cr, .int .i64 Nn, .slice ak nk ck] Z := ⟨hbW.trans (hbe.mono hbW.size), hfil⟩
  have hBZ := hBt.below hbe
  have hc1 : Z.cell? ⟨bf, 1, none⟩ = some (.int .i64 7) := by rw [cell_of_block hfil]; rfl
  have hc2 : ∀ w', PS W bf #[.int .i64 On, .int .i64 7, .string A, .string B, .slice ar nr cr, .int .i64 Nn, .slice ak nk ck] w' → w'.cell? ⟨bf, 2, none⟩ = some (.string A) := fun w' h => by rw [cell_of_block h.X]; rfl
  have hc3 : ∀ w', PS W bf #[.int .i64 On, .int .i64 7, .string A, .string B, .slice ar nr cr, .int .i64 Nn, .slice ak nk ck] w' → w'.cell? ⟨bf, 3, none⟩ = some (.string B) := fun w' h => by rw [cell_of_block h.X]; rfl
  have hc4 : ∀ w', PS W bf #[.int .i64 On, .int .i64 7, .string A, .string B, .slice ar nr cr, .int .i64 Nn, .slice ak nk ck] w' → w'.cell? ⟨bf, 4, none⟩ = some (.slice ar nr cr) := fun w' h => by rw [cell_of_block h.X]; rfl
  have hc5 : ∀ w', PS W bf #[.int .i64 On, .int .i64 7, .string A, .string B, .slice ar nr cr, .int .i64 Nn, .slice ak nk ck] w' → w'.cell? ⟨bf, 5, none⟩ = some (.int .i64 Nn) := fun w' h => by rw [cell_of_block h.X]; rfl
  have hc6 : ∀ w', PS W bf #[.int .i64 On, .int .i64 7, .string A, .string B, .slice ar nr cr, .int .i64 Nn, .slice ak nk ck] w' → w'.cell? ⟨bf, 6, none⟩ = some (.slice ak nk ck) := fun w' h => by rw [cell_of_block h.X]; rfl
  clear hfil hBt hbW hbf
  obtain ⟨P, HP⟩ : ∃ P, Hid (listK k = P) := ⟨_, rfl⟩
  have hPc := fun w hD => list_any d F k (by omega) w hD
  have hDc := fun w hR => refList_any rd G k (by omega) w hR
  rw [HP.out] at hPc hDc
  obtain ⟨en, ns⟩ := P
  dsimp only at hPc hDc
  obtain ⟨N, HN⟩ : ∃ N, Hid (ns.length = N) := ⟨_, rfl⟩
  rw [HN.out] at hPc hDc
  go_upto_region 19 with (first
    | (go_at_call 24; refine (hPc _ hBZ.D).mono ?_; rintro e w1 ⟨v1, rfl, o1, hb1⟩; obtain ⟨a1, c1, rfl, _⟩ := own_formN o1))
  have hB1 := hBZ.below hb1
  go_upto_region 20 with (first
    | (go_at_call 11; refine (hDc _ hB1.R).mono ?_; rintro e w2 ⟨v2, rfl, o2, hb2⟩; obtain ⟨a2, c2, rfl, _⟩ := own_formN o2))
  have hB2 := hB1.below hb2
  have hb12 := hb1.trans (hb2.mono hb1.size)
  have o12 := own_keep (S := fun _ => False) o1 (Keep.ofBelow hb2) (fun _ _ h => h)
  have hSm := same_any (.slice a1 N c1) (.slice a2 N c2) ns w2 _ _ (by rw [HN.out]; exact o12) (by rw [HN.out]; exact o2)
  go_upto_region 26 with (first
    | (go_at_call 26; refine hSm.mono ?_; rintro e w3 ⟨rfl, hb3⟩))
  have hB3 := hB2.below hb3
  have hb13 := hb12.trans (hb3.mono hb12.size)
  have hBp : Bp w F G d rd k w3 := hB3.idle (hbe.trans (hb13.mono hbe.size))
  clear hB1 hB2 hBZ hPZ o1 o2 o12 hb1 hb2 hb12 hb3 hb13 hbe hc1 hc2 hc3 hc4 hc5 hc6 hPc hDc hSm
  have hus := used_any d _ _ _ (Both.D (Both.below hB3 ((Below.refl w3.heap.size w3).drew)))
  have hru := refUsed_any rd _ _ _ (Both.R (Both.below hB3 ((Below.refl w3.heap.size w3).drew)))
  have hsp := steps_any d _ _ _ (Both.D (Both.below hB3 ((Below.refl w3.heap.size w3).drew)))
  have hdn := both_done (Both.below hB3 ((Below.refl w3.heap.size w3).drew))
  have hBpE := hBp.below ((Below.refl w3.heap.size w3).drew)
  refine wp_region_lx (fun w' => w' = w3.drew) [] 18 (by kernel_rfl) (by kernel_rfl) ?_
  have HSE : w3.drew = w3.drew := rfl
  refine lx_rd 0 ?ve0 (by kernel_rfl) (fun _ _ d _ _ h => by cases d <;> exact h) (by kernel_rfl) HSE rfl rfl rfl (fun w' hS => ?he0) ?_
  case he0 => first | (go_simp; rfl) | go_simp
  simp only [List.setIfInBounds_toArray, List.set_cons_zero, List.set_cons_succ]
  refine lx_rd 1 ?ve1 (by kernel_rfl) (fun _ _ d _ _ h => by cases d <;> exact h) (by kernel_rfl) HSE rfl rfl rfl (fun w' hS => ?he1) ?_
  case he1 => first | (go_simp; rfl) | go_simp
  simp only [List.setIfInBounds_toArray, List.set_cons_zero, List.set_cons_succ]
  refine lx_rd 2 ?ve2 (by kernel_rfl) (fun _ _ d _ _ h => by cases d <;> exact h) (by kernel_rfl) HSE rfl rfl rfl (fun w' hS => ?he2) ?_
  case he2 => first | (go_simp; rfl) | go_simp
  simp only [List.setIfInBounds_toArray, List.set_cons_zero, List.set_cons_succ]
  refine lx_rd 4 ?ve4 (by kernel_rfl) (fun _ _ d _ _ h => by cases d <;> exact h) (by kernel_rfl) HSE rfl rfl rfl (fun w' hS => ?he4) ?_
  case he4 => first | (go_simp; rfl) | go_simp
  simp only [List.setIfInBounds_toArray, List.set_cons_zero, List.set_cons_succ]
  refine lx_one 3 (by kernel_rfl) (stepT_call 37 ?ae3 rfl rfl rfl ?re3 ?_)
  case re3 => first | (go_simp; rfl) | go_simp
  refine hus.mono ?_
  rintro e w' ⟨rfl, rfl⟩
  refine ⟨_, rfl, fun _ => rfl, ?_⟩
  simp only [List.setIfInBounds_toArray, List.set_cons_zero, List.set_cons_succ]
  refine lx_one 5 (by kernel_rfl) (stepT_call 38 ?ae5 rfl rfl rfl ?re5 ?_)
  case re5 => first | (go_simp; rfl) | go_simp
  refine hru.mono ?_
  rintro e w' ⟨rfl, rfl⟩
  refine ⟨_, rfl, fun _ => rfl, ?_⟩
  simp only [List.setIfInBounds_toArray, List.set_cons_zero, List.set_cons_succ]
  refine lx_rd 6 (.bool true) (by kernel_rfl) (fun _ _ d _ _ h => by cases d <;> exact h) (by kernel_rfl) HSE rfl rfl rfl (fun w' hS => ?hf6) ?_
  case hf6 => first | (go_simp; rfl) | go_simp
  simp only [List.setIfInBounds_toArray, List.set_cons_zero, List.set_cons_succ]
  refine lx_rd 7 (.bool true) (by kernel_rfl) (fun _ _ d _ _ h => by cases d <;> exact h) (by kernel_rfl) HSE rfl rfl rfl (fun w' hS => ?hf7) ?_
  case hf7 => first | (go_simp; rfl) | go_simp
  simp only [List.setIfInBounds_toArray, List.set_cons_zero, List.set_cons_succ]
  refine lx_rd 8 (.bool true) (by kernel_rfl) (fun _ _ d _ _ h => by cases d <;> exact h) (by kernel_rfl) HSE rfl rfl rfl (fun w' hS => ?hf8) ?_
  case hf8 => first | (go_simp; rfl) | go_simp
  simp only [List.setIfInBounds_toArray, List.set_cons_zero, List.set_cons_succ]
  refine lx_rd 9 ?vf9 (by kernel_rfl) (fun _ _ d _ _ h => by cases d <;> exact h) (by kernel_rfl) HSE rfl rfl rfl (fun w' hS => ?hf9) ?_
  case hf9 => first | (go_simp; rfl) | go_simp
  simp only [List.setIfInBounds_toArray, List.set_cons_zero, List.set_cons_succ]
  refine lx_rd 11 ?vf11 (by kernel_rfl) (fun _ _ d _ _ h => by cases d <;> exact h) (by kernel_rfl) HSE rfl rfl rfl (fun w' hS => ?hf11) ?_
  case hf11 => first | (go_simp; rfl) | go_simp
  simp only [List.setIfInBounds_toArray, List.set_cons_zero, List.set_cons_succ]
  refine lx_rd 12 (.pointer (some ⟨rd, 0, none⟩)) (by kernel_rfl) (fun _ _ d _ _ h => by cases d <;> exact h) (by kernel_rfl) HSE rfl rfl rfl (fun w' hS => ?hf12) ?_
  case hf12 => first | (go_simp; rfl) | go_simp
  simp only [List.setIfInBounds_toArray, List.set_cons_zero, List.set_cons_succ]
  refine lx_rd 13 (.pointer (some ⟨rd, 2, none⟩)) (by kernel_rfl) (fun _ _ d _ _ h => by cases d <;> exact h) (by kernel_rfl) HSE rfl rfl rfl (fun w' hS => ?hf13) ?_
  case hf13 => first | (go_simp; rfl) | go_simp
  simp only [List.setIfInBounds_toArray, List.set_cons_zero, List.set_cons_succ]
  refine lx_rd 14 (.int .i64 (k.steps : Int)) (by kernel_rfl) (fun _ _ d _ _ h => by cases d <;> exact h) (by kernel_rfl) HSE rfl rfl rfl (fun w' hS => ?hf14) ?_
  case hf14 => subst hS; first | (go_simp; rfl) | go_simp
  simp only [List.setIfInBounds_toArray, List.set_cons_zero, List.set_cons_succ]
  refine lx_one 10 (by kernel_rfl) (stepT_call 27 ?ae10 rfl rfl rfl ?re10 ?_)
  case re10 => first | (go_simp; rfl) | go_simp
  refine hsp.mono ?_
  rintro e w' ⟨rfl, rfl⟩
  refine ⟨_, rfl, fun _ => rfl, ?_⟩
  simp only [List.setIfInBounds_toArray, List.set_cons_zero, List.set_cons_succ]
  refine lx_rd 15 (.bool true) (by kernel_rfl) (fun _ _ d _ _ h => by cases d <;> exact h) (by kernel_rfl) HSE rfl rfl rfl (fun w' hS => ?hg15) ?_
  case hg15 => first | (go_simp; rfl) | go_simp
  simp only [List.setIfInBounds_toArray, List.set_cons_zero, List.set_cons_succ]
  refine lx_rd 16 (.bool true) (by kernel_rfl) (fun _ _ d _ _ h => by cases d <;> exact h) (by kernel_rfl) HSE rfl rfl rfl (fun w' hS => ?hg16) ?_
  case hg16 => first | (go_simp; rfl) | go_simp
  simp only [List.setIfInBounds_toArray, List.set_cons_zero, List.set_cons_succ]
  refine lx_rd 17 (.bool true) (by kernel_rfl) (fun _ _ d _ _ h => by cases d <;> exact h) (by kernel_rfl) HSE rfl rfl rfl (fun w' hS => ?hg17) ?_
  case hg17 => first | (go_simp; rfl) | go_simp
  simp only [List.setIfInBounds_toArray, List.set_cons_zero, List.set_cons_succ]
  refine lx_nil (by kernel_rfl) ?_
  go_wp2
  go_ret
  exact ⟨rfl, _, Gr.refl k, hBpE⟩


set_option maxRecDepth 100000 in
set_option maxHeartbeats 4000000 in
theorem plays_0 (d rd : Nat) (F G : Nat → Prop) (k : Dk) (On Do : Int) (A B : Nm) (ar : Option Addr) (nr cr : Nat) (xs : List Int) (Nn : Int) (ak : Option Addr) (nk ck : Nat) (zs : List Int) (hA : A.size ≤ 9223372036854775807) (hB : B.size ≤ 9223372036854775807) (hN : Nn ≤ 9223372036854775807) (hst : k.steps < 999999) (hfl : k.fs.length < 999998) (W w : World) (hbW : Below W.heap.size W w) (hRd : Rd W ar nr cr xs) (hKa : IAr W ak nk ck zs) (hFW : ∀ i, F i → W.heap.size ≤ i) (hGW : ∀ i, G i → W.heap.size ≤ i) (hBt : Both w F G d rd k) (h1 : ¬ Do = 1) (h2 : ¬ Do = 2) (h3 : ¬ Do = 3) (h4 : ¬ Do = 4) (h5 : ¬ Do = 5) (h6 : ¬ Do = 6) (h7 : ¬ Do = 7) (h8 : ¬ Do = 8) (h9 : ¬ Do = 9) :
    Calls Try.prog 10 #[.pointer (some ⟨d, 0, none⟩), .pointer (some ⟨rd, 0, none⟩), .agg #[.int .i64 On, .int .i64 Do, .string A, .string B, .slice ar nr cr, .int .i64 Nn, .slice ak nk ck]] w fun e w' => e = .returned (.bool true) ∧ ∃ k', Gr k k' ∧ Bp w F G d rd k' w' := by
  have hu : True := (fun _ _ _ _ _ _ _ _ _ => trivial) hA hB hN hst hfl hRd hKa hFW hGW
  clear hu
  have hbe : Below w.heap.size w (w.alloc (.cells #[.int .i64 On, .int .i64 Do, .string A, .string B, .slice ar nr cr, .int .i64 Nn, .slice ak nk ck] 34)) := (Below.refl _ _).alloc (Nat.le_refl _) _
  have hfil := alloc_at w (.cells #[.int .i64 On, .int .i64 Do, .string A, .string B, .slice ar nr cr, .int .i64 Nn, .slice ak nk ck] 34)
  obtain ⟨bf, hbf⟩ : ∃ bf, w.heap.size = bf := ⟨_, rfl⟩
  have hnF : ¬ F bf := fun h => by have := hBt.D.lt bf h; omega
  have hnG : ¬ G bf := fun h => by have := hBt.R.lt bf h; omega
  go_enter Try.func10, Try.ntmps10
  go_upto_region 2 with fail
  rw [hbf] at hfil
  generalize w.alloc (.cells #[.int .i64 On, .int .i64 Do, .string A, .string B, .slice ar nr cr, .int .i64 Nn, .slice ak nk ck] 34) = Z at *
  have hPZ : PS W bf #[.int .i64 On, .int .i64 Do, .string A, .string B, .slice ar nr cr, .int .i64 Nn, .slice ak nk ck] Z := ⟨hbW.trans (hbe.mono hbW.size), hfil⟩
  have hBZ := hBt.below hbe
  have hc1 : Z.cell? ⟨bf, 1, none⟩ = some (.int .i64 Do) := by rw [cell_of_block hfil]; rfl
  have hc2 : ∀ w', PS W bf #[.int .i64 On, .int .i64 Do, .string A, .string B, .slice ar nr cr, .int .i64 Nn, .slice ak nk ck] w' → w'.cell? ⟨bf, 2, none⟩ = some (.string A) := fun w' h => by rw [cell_of_block h.X]; rfl
  have hc3 : ∀ w', PS W bf #[.int .i64 On, .int .i64 Do, .string A, .string B, .slice ar nr cr, .int .i64 Nn, .slice ak nk ck] w' → w'.cell? ⟨bf, 3, none⟩ = some (.string B) := fun w' h => by rw [cell_of_block h.X]; rfl
  have hc4 : ∀ w', PS W bf #[.int .i64 On, .int .i64 Do, .string A, .string B, .slice ar nr cr, .int .i64 Nn, .slice ak nk ck] w' → w'.cell? ⟨bf, 4, none⟩ = some (.slice ar nr cr) := fun w' h => by rw [cell_of_block h.X]; rfl
  have hc5 : ∀ w', PS W bf #[.int .i64 On, .int .i64 Do, .string A, .string B, .slice ar nr cr, .int .i64 Nn, .slice ak nk ck] w' → w'.cell? ⟨bf, 5, none⟩ = some (.int .i64 Nn) := fun w' h => by rw [cell_of_block h.X]; rfl
  have hc6 : ∀ w', PS W bf #[.int .i64 On, .int .i64 Do, .string A, .string B, .slice ar nr cr, .int .i64 Nn, .slice ak nk ck] w' → w'.cell? ⟨bf, 6, none⟩ = some (.slice ak nk ck) := fun w' h => by rw [cell_of_block h.X]; rfl
  clear hfil hBt hbW hbf
  have n1 : (Do == 1) = false := by simpa using h1
  have n2 : (Do == 2) = false := by simpa using h2
  have n3 : (Do == 3) = false := by simpa using h3
  have n4 : (Do == 4) = false := by simpa using h4
  have n5 : (Do == 5) = false := by simpa using h5
  have n6 : (Do == 6) = false := by simpa using h6
  have n7 : (Do == 7) = false := by simpa using h7
  have n8 : (Do == 8) = false := by simpa using h8
  have n9 : (Do == 9) = false := by simpa using h9
  clear h1 h2 h3 h4 h5 h6 h7 h8 h9
  have hBp : Bp w F G d rd k Z := hBZ.idle hbe
  go_upto_region 26 with fail
  have hus := used_any d _ _ _ (Both.D (Both.below hBZ ((Below.refl Z.heap.size Z).drew)))
  have hru := refUsed_any rd _ _ _ (Both.R (Both.below hBZ ((Below.refl Z.heap.size Z).drew)))
  have hsp := steps_any d _ _ _ (Both.D (Both.below hBZ ((Below.refl Z.heap.size Z).drew)))
  have hdn := both_done (Both.below hBZ ((Below.refl Z.heap.size Z).drew))
  have hBpE := hBp.below ((Below.refl Z.heap.size Z).drew)
  refine wp_region_lx (fun w' => w' = Z.drew) [] 18 (by kernel_rfl) (by kernel_rfl) ?_
  have HSE : Z.drew = Z.drew := rfl
  refine lx_rd 0 ?ve0 (by kernel_rfl) (fun _ _ d _ _ h => by cases d <;> exact h) (by kernel_rfl) HSE rfl rfl rfl (fun w' hS => ?he0) ?_
  case he0 => first | (go_simp; rfl) | go_simp
  simp only [List.setIfInBounds_toArray, List.set_cons_zero, List.set_cons_succ]
  refine lx_rd 1 ?ve1 (by kernel_rfl) (fun _ _ d _ _ h => by cases d <;> exact h) (by kernel_rfl) HSE rfl rfl rfl (fun w' hS => ?he1) ?_
  case he1 => first | (go_simp; rfl) | go_simp
  simp only [List.setIfInBounds_toArray, List.set_cons_zero, List.set_cons_succ]
  refine lx_rd 2 ?ve2 (by kernel_rfl) (fun _ _ d _ _ h => by cases d <;> exact h) (by kernel_rfl) HSE rfl rfl rfl (fun w' hS => ?he2) ?_
  case he2 => first | (go_simp; rfl) | go_simp
  simp only [List.setIfInBounds_toArray, List.set_cons_zero, List.set_cons_succ]
  refine lx_rd 4 ?ve4 (by kernel_rfl) (fun _ _ d _ _ h => by cases d <;> exact h) (by kernel_rfl) HSE rfl rfl rfl (fun w' hS => ?he4) ?_
  case he4 => first | (go_simp; rfl) | go_simp
  simp only [List.setIfInBounds_toArray, List.set_cons_zero, List.set_cons_succ]
  refine lx_one 3 (by kernel_rfl) (stepT_call 37 ?ae3 rfl rfl rfl ?re3 ?_)
  case re3 => first | (go_simp; rfl) | go_simp
  refine hus.mono ?_
  rintro e w' ⟨rfl, rfl⟩
  refine ⟨_, rfl, fun _ => rfl, ?_⟩
  simp only [List.setIfInBounds_toArray, List.set_cons_zero, List.set_cons_succ]
  refine lx_one 5 (by kernel_rfl) (stepT_call 38 ?ae5 rfl rfl rfl ?re5 ?_)
  case re5 => first | (go_simp; rfl) | go_simp
  refine hru.mono ?_
  rintro e w' ⟨rfl, rfl⟩
  refine ⟨_, rfl, fun _ => rfl, ?_⟩
  simp only [List.setIfInBounds_toArray, List.set_cons_zero, List.set_cons_succ]
  refine lx_rd 6 (.bool true) (by kernel_rfl) (fun _ _ d _ _ h => by cases d <;> exact h) (by kernel_rfl) HSE rfl rfl rfl (fun w' hS => ?hf6) ?_
  case hf6 => first | (go_simp; rfl) | go_simp
  simp only [List.setIfInBounds_toArray, List.set_cons_zero, List.set_cons_succ]
  refine lx_rd 7 (.bool true) (by kernel_rfl) (fun _ _ d _ _ h => by cases d <;> exact h) (by kernel_rfl) HSE rfl rfl rfl (fun w' hS => ?hf7) ?_
  case hf7 => first | (go_simp; rfl) | go_simp
  simp only [List.setIfInBounds_toArray, List.set_cons_zero, List.set_cons_succ]
  refine lx_rd 8 (.bool true) (by kernel_rfl) (fun _ _ d _ _ h => by cases d <;> exact h) (by kernel_rfl) HSE rfl rfl rfl (fun w' hS => ?hf8) ?_
  case hf8 => first | (go_simp; rfl) | go_simp
  simp only [List.setIfInBounds_toArray, List.set_cons_zero, List.set_cons_succ]
  refine lx_rd 9 ?vf9 (by kernel_rfl) (fun _ _ d _ _ h => by cases d <;> exact h) (by kernel_rfl) HSE rfl rfl rfl (fun w' hS => ?hf9) ?_
  case hf9 => first | (go_simp; rfl) | go_simp
  simp only [List.setIfInBounds_toArray, List.set_cons_zero, List.set_cons_succ]
  refine lx_rd 11 ?vf11 (by kernel_rfl) (fun _ _ d _ _ h => by cases d <;> exact h) (by kernel_rfl) HSE rfl rfl rfl (fun w' hS => ?hf11) ?_
  case hf11 => first | (go_simp; rfl) | go_simp
  simp only [List.setIfInBounds_toArray, List.set_cons_zero, List.set_cons_succ]
  refine lx_rd 12 (.pointer (some ⟨rd, 0, none⟩)) (by kernel_rfl) (fun _ _ d _ _ h => by cases d <;> exact h) (by kernel_rfl) HSE rfl rfl rfl (fun w' hS => ?hf12) ?_
  case hf12 => first | (go_simp; rfl) | go_simp
  simp only [List.setIfInBounds_toArray, List.set_cons_zero, List.set_cons_succ]
  refine lx_rd 13 (.pointer (some ⟨rd, 2, none⟩)) (by kernel_rfl) (fun _ _ d _ _ h => by cases d <;> exact h) (by kernel_rfl) HSE rfl rfl rfl (fun w' hS => ?hf13) ?_
  case hf13 => first | (go_simp; rfl) | go_simp
  simp only [List.setIfInBounds_toArray, List.set_cons_zero, List.set_cons_succ]
  refine lx_rd 14 (.int .i64 (k.steps : Int)) (by kernel_rfl) (fun _ _ d _ _ h => by cases d <;> exact h) (by kernel_rfl) HSE rfl rfl rfl (fun w' hS => ?hf14) ?_
  case hf14 => subst hS; first | (go_simp; rfl) | go_simp
  simp only [List.setIfInBounds_toArray, List.set_cons_zero, List.set_cons_succ]
  refine lx_one 10 (by kernel_rfl) (stepT_call 27 ?ae10 rfl rfl rfl ?re10 ?_)
  case re10 => first | (go_simp; rfl) | go_simp
  refine hsp.mono ?_
  rintro e w' ⟨rfl, rfl⟩
  refine ⟨_, rfl, fun _ => rfl, ?_⟩
  simp only [List.setIfInBounds_toArray, List.set_cons_zero, List.set_cons_succ]
  refine lx_rd 15 (.bool true) (by kernel_rfl) (fun _ _ d _ _ h => by cases d <;> exact h) (by kernel_rfl) HSE rfl rfl rfl (fun w' hS => ?hg15) ?_
  case hg15 => first | (go_simp; rfl) | go_simp
  simp only [List.setIfInBounds_toArray, List.set_cons_zero, List.set_cons_succ]
  refine lx_rd 16 (.bool true) (by kernel_rfl) (fun _ _ d _ _ h => by cases d <;> exact h) (by kernel_rfl) HSE rfl rfl rfl (fun w' hS => ?hg16) ?_
  case hg16 => first | (go_simp; rfl) | go_simp
  simp only [List.setIfInBounds_toArray, List.set_cons_zero, List.set_cons_succ]
  refine lx_rd 17 (.bool true) (by kernel_rfl) (fun _ _ d _ _ h => by cases d <;> exact h) (by kernel_rfl) HSE rfl rfl rfl (fun w' hS => ?hg17) ?_
  case hg17 => first | (go_simp; rfl) | go_simp
  simp only [List.setIfInBounds_toArray, List.set_cons_zero, List.set_cons_succ]
  refine lx_nil (by kernel_rfl) ?_
  go_wp2
  go_ret
  exact ⟨rfl, _, Gr.refl k, hBpE⟩

end Go.Proofs.Ytimfidhehikaiaa
