/- The law's Twin: a stanza in new memory, cut. -/
import Derived.Test.YtomkcmkbehcjnaaDoorStzS
namespace Go.Proofs.YtomkcmkbehcjnaaDoor
open Go.RowKit

theorem cutL_len (l : List ByteArray) (m k : Nat) : (cutL l m k).length ≤ m := by unfold cutL; rw [List.length_map, List.length_take]; omega
theorem cutL_size (l : List ByteArray) (m k : Nat) : ∀ s ∈ cutL l m k, s.size ≤ k := by
  intro s hs; unfold cutL at hs
  obtain ⟨t, _, rfl⟩ := List.mem_map.1 hs
  exact cutS_size t k
theorem cutL_id {l : List ByteArray} {m k : Nat} (hl : l.length ≤ m) (hs : ∀ s ∈ l, s.size ≤ k) : cutL l m k = l := by
  unfold cutL
  rw [List.take_of_length_le hl]
  conv => rhs; rw [← List.map_id l]
  exact List.map_congr_left fun s h => cutS_id (hs s h)

theorem cellArr {w : World} {g k : Nat} {cs : Array Value} {t : TypeId} {fr : Nat × Nat} {v : Value} (h : w.heap[g]? = some (.cells cs t fr)) (hv : cs[k]? = some v) : w.cell? ⟨g, k, none⟩ = some v := by simp [World.cell?, h, hv]
theorem Sz8.newV (w : World) (a0 a1 a2 a3 a4 a5 a6 a7 : Value) (t : TypeId) : Sz8 (w.alloc (.cells #[a0, a1, a2, a3, a4, a5, a6, a7] t)) w.heap.size [a0, a1, a2, a3, a4, a5, a6, a7] := by
  have hh : (w.alloc (.cells #[a0, a1, a2, a3, a4, a5, a6, a7] t)).heap[w.heap.size]? = some (.cells #[a0, a1, a2, a3, a4, a5, a6, a7] t (0, 0)) := alloc_at rfl
  refine ⟨rfl, fun j hj => ?_, fun j => thaw_at hh j, fun j hj => out_at hh j hj⟩
  have key : (#[a0, a1, a2, a3, a4, a5, a6, a7] : Array Value)[j]? = some ([a0, a1, a2, a3, a4, a5, a6, a7].getD j undef) := by
    match j, hj with
    | 0, _ => rfl
    | 1, _ => rfl
    | 2, _ => rfl
    | 3, _ => rfl
    | 4, _ => rfl
    | 5, _ => rfl
    | 6, _ => rfl
    | 7, _ => rfl
  exact cellArr hh key

theorem own_keepB {w w' : World} {base base' b : Nat} {e : TypeId} {v : Value} {n : Nat} {xs : List Value} (h : w.ownsRow base e 1 v n xs) (hb : base' ≤ base) (k : Keep (fun k => k = b) w w') (hlt : b < base) : w'.ownsRow base' e 1 v n xs := by
  refine ⟨h.1, ?_⟩
  rcases h.2 with h | ⟨g, cap, cur, hv, hg, hh, hr⟩
  · exact Or.inl h
  · refine Or.inr ⟨g, cap, cur, hv, by omega, ?_, hr⟩
    rw [k.block g (Array.getElem?_eq_some_iff.1 hh).1 (fun e => by omega)]; exact hh

abbrev TwS (w : World) (A B T : ByteArray) (w' : World) : Prop := w'.cell? ⟨w.heap.size, 2, none⟩ = some (.string A) ∧ w'.cell? ⟨w.heap.size, 3, none⟩ = some (.string B) ∧ w'.cell? ⟨w.heap.size, 4, none⟩ = some (.string T)

set_option maxHeartbeats 1600000 in
set_option maxRecDepth 100000 in
theorem stwin_any (K : Int) (I : Nat) (A B T : ByteArray) (la : Option Addr) (ln lc : Nat) (N : Int) (F : Nat) (L : List ByteArray) (w : World) (hR : SRd w la ln lc L) (hA : A.size ≤ 9223372036854775807) (hB : B.size ≤ 9223372036854775807) (hT : T.size ≤ 9223372036854775807) :
    Calls Tryd.prog 8 #[.agg #[.int .i64 K, .int .u64 I, .string A, .string B, .string T, .slice la ln lc, .int .i64 N, .float .f64 F]] w fun e w' => ∃ la' ln' lc', e = .returned (.agg #[.int .i64 K, .int .u64 I, .string (cutS A 1100), .string (cutS B 1100), .string (cutS T 1100), .slice la' ln' lc', .int .i64 N, .float .f64 F]) ∧ w'.ownsRow w.heap.size 9 1 (.slice la' ln' lc') (cutL L 70 1100).length (sc (cutL L 70 1100)) ∧ SRd w' la' ln' lc' (cutL L 70 1100) ∧ Below w.heap.size w w' := by
  have hsf := run_store_float
  have hb1 : Below w.heap.size w ((w.alloc (.cells #[.int .i64 K, .int .u64 I, .string A, .string B, .string T, .slice la ln lc, .int .i64 N, .float .f64 F] 26)).alloc (.cells #[.int .i64 0, .int .u64 0, .string ⟨#[]⟩, .string ⟨#[]⟩, .string ⟨#[]⟩, .slice none 0 0, .int .i64 0, .float .f64 0] 26)) := ((Below.refl _ _).alloc (Nat.le_refl _) _).alloc (by simp) _
  have kA : Keep (fun _ => False) (w.alloc (.cells #[.int .i64 K, .int .u64 I, .string A, .string B, .string T, .slice la ln lc, .int .i64 N, .float .f64 F] 26)) ((w.alloc (.cells #[.int .i64 K, .int .u64 I, .string A, .string B, .string T, .slice la ln lc, .int .i64 N, .float .f64 F] 26)).alloc (.cells #[.int .i64 0, .int .u64 0, .string ⟨#[]⟩, .string ⟨#[]⟩, .string ⟨#[]⟩, .slice none 0 0, .int .i64 0, .float .f64 0] 26)) := Keep.ofBelow ((Below.refl _ _).alloc (Nat.le_refl _) _)
  have hz1 := (Sz8.newV w (.int .i64 K) (.int .u64 I) (.string A) (.string B) (.string T) (.slice la ln lc) (.int .i64 N) (.float .f64 F) 26).keep kA (fun h => h)
  have hz2 := Sz8.new (w.alloc (.cells #[.int .i64 K, .int .u64 I, .string A, .string B, .string T, .slice la ln lc, .int .i64 N, .float .f64 F] 26))
  have e1 : (w.alloc (.cells #[.int .i64 K, .int .u64 I, .string A, .string B, .string T, .slice la ln lc, .int .i64 N, .float .f64 F] 26)).heap.size = w.heap.size + 1 := by simp
  rw [e1] at hz2
  clear kA e1
  go_enter Tryd.func8, Tryd.ntmps8
  go_wp2
  refine wp_region_lx (TwS w A B T) [10, 11, 12, 13, 14] 15 (by kernel_rfl) (by kernel_rfl) ?_
  generalize hW2 : (w.alloc (.cells #[.int .i64 K, .int .u64 I, .string A, .string B, .string T, .slice la ln lc, .int .i64 N, .float .f64 F] 26)).alloc (.cells #[.int .i64 0, .int .u64 0, .string ⟨#[]⟩, .string ⟨#[]⟩, .string ⟨#[]⟩, .slice none 0 0, .int .i64 0, .float .f64 0] 26) = W2 at hb1 hz1 hz2 ⊢
  clear hW2
  have kD : Keep (fun _ => False) W2 W2.drew := Keep.ofBelow (Below.refl _ _).drew
  have hb2 := hb1.drew
  have hz12 := hz1.keep kD (fun h => h)
  have hz22 := hz2.keep kD (fun h => h)
  clear hb1 hz1 hz2 kD
  generalize W2.drew = W0 at hb2 hz12 hz22 ⊢
  have HS : TwS w A B T W0 := ⟨hz12.cell 2 (by omega), hz12.cell 3 (by omega), hz12.cell 4 (by omega)⟩
  refine lx_rd 0 ?vR0 (by kernel_rfl) (fun _ _ d _ _ h => by cases d <;> exact h) (by kernel_rfl) HS rfl rfl rfl (fun w' hS => ?hR0) ?_
  case hR0 => first | (go_simp; rfl) | go_simp
  simp only [List.setIfInBounds_toArray, List.set_cons_zero, List.set_cons_succ]
  refine lx_rd 1 (.string A) (by kernel_rfl) (fun _ _ d _ _ h => by cases d <;> exact h) (by kernel_rfl) HS rfl rfl rfl (fun w' hS => ?hR1) ?_
  case hR1 => have hq := hS.1; first | (go_simp; rfl) | go_simp
  simp only [List.setIfInBounds_toArray, List.set_cons_zero, List.set_cons_succ]
  refine lx_rd 3 ?vR3 (by kernel_rfl) (fun _ _ d _ _ h => by cases d <;> exact h) (by kernel_rfl) HS rfl rfl rfl (fun w' hS => ?hR3) ?_
  case hR3 => first | (go_simp; rfl) | go_simp
  simp only [List.setIfInBounds_toArray, List.set_cons_zero, List.set_cons_succ]
  refine lx_rd 4 (.string B) (by kernel_rfl) (fun _ _ d _ _ h => by cases d <;> exact h) (by kernel_rfl) HS rfl rfl rfl (fun w' hS => ?hR4) ?_
  case hR4 => have hq := hS.2.1; first | (go_simp; rfl) | go_simp
  simp only [List.setIfInBounds_toArray, List.set_cons_zero, List.set_cons_succ]
  refine lx_rd 6 ?vR6 (by kernel_rfl) (fun _ _ d _ _ h => by cases d <;> exact h) (by kernel_rfl) HS rfl rfl rfl (fun w' hS => ?hR6) ?_
  case hR6 => first | (go_simp; rfl) | go_simp
  simp only [List.setIfInBounds_toArray, List.set_cons_zero, List.set_cons_succ]
  refine lx_rd 7 (.string T) (by kernel_rfl) (fun _ _ d _ _ h => by cases d <;> exact h) (by kernel_rfl) HS rfl rfl rfl (fun w' hS => ?hR7) ?_
  case hR7 => have hq := hS.2.2; first | (go_simp; rfl) | go_simp
  simp only [List.setIfInBounds_toArray, List.set_cons_zero, List.set_cons_succ]
  refine lx_one 2 (by kernel_rfl) (stepT_call 23 ?a2 rfl rfl rfl ?r2 ?_)
  case r2 => first | (go_simp; rfl) | go_simp
  refine (text_any A 1100 W0 hA (by omega)).mono ?_
  rintro e w3 ⟨rfl, hw3⟩
  replace hw3 := hw3.symm
  subst hw3
  refine ⟨_, rfl, fun _ => HS, ?_⟩
  simp only [List.setIfInBounds_toArray, List.set_cons_zero, List.set_cons_succ]
  refine lx_rd 9 ?vR9 (by kernel_rfl) (fun _ _ d _ _ h => by cases d <;> exact h) (by kernel_rfl) HS rfl rfl rfl (fun w' hS => ?hR9) ?_
  case hR9 => first | (go_simp; rfl) | go_simp
  simp only [List.setIfInBounds_toArray, List.set_cons_zero, List.set_cons_succ]
  refine lx_one 5 (by kernel_rfl) (stepT_call 23 ?a5 rfl rfl rfl ?r5 ?_)
  case r5 => first | (go_simp; rfl) | go_simp
  refine (text_any B 1100 W0 hB (by omega)).mono ?_
  rintro e w3 ⟨rfl, hw3⟩
  replace hw3 := hw3.symm
  subst hw3
  refine ⟨_, rfl, fun _ => HS, ?_⟩
  simp only [List.setIfInBounds_toArray, List.set_cons_zero, List.set_cons_succ]
  refine lx_one 8 (by kernel_rfl) (stepT_call 23 ?a8 rfl rfl rfl ?r8 ?_)
  case r8 => first | (go_simp; rfl) | go_simp
  refine (text_any T 1100 W0 hT (by omega)).mono ?_
  rintro e w3 ⟨rfl, hw3⟩
  replace hw3 := hw3.symm
  subst hw3
  refine ⟨_, rfl, fun _ => HS, ?_⟩
  simp only [List.setIfInBounds_toArray, List.set_cons_zero, List.set_cons_succ]
  have y2 := hz12.cell 2 (by omega); have u2 := hz12.thaw 2
  refine lx_one 10 (by kernel_rfl) (stepT_store (w' := W0.setCell ⟨w.heap.size, 2, none⟩ (.string (cutS A 1100))) rfl rfl rfl ?r10 (fun h => by cases h) ?_)
  case r10 => first | (go_simp; rfl) | go_simp
  clear y2 u2
  have hzA := hz12.set (i := 2) (by omega) (.string (cutS A 1100))
  have kSA : Keep (fun k => k = w.heap.size) W0 (W0.setCell ⟨w.heap.size, 2, none⟩ (.string (cutS A 1100))) := (Keep.refl (fun k => k = w.heap.size) W0).setCell (p := ⟨w.heap.size, 2, none⟩) (show (fun k => k = w.heap.size) w.heap.size from rfl) _
  generalize W0.setCell ⟨w.heap.size, 2, none⟩ (.string (cutS A 1100)) = WA at hzA kSA ⊢
  refine lx_one 11 (by kernel_rfl) (stepT_val (w' := WA) (.pointer (some ⟨w.heap.size, 3, none⟩)) rfl rfl rfl ?r11 (fun h => by cases h) ?_)
  case r11 => first | (go_simp; rfl) | go_simp
  simp only [List.setIfInBounds_toArray, List.set_cons_zero, List.set_cons_succ]
  have y3 := hzA.cell 3 (by omega); have u3 := hzA.thaw 3
  refine lx_one 12 (by kernel_rfl) (stepT_store (w' := WA.setCell ⟨w.heap.size, 3, none⟩ (.string (cutS B 1100))) rfl rfl rfl ?r12 (fun h => by cases h) ?_)
  case r12 => first | (go_simp; rfl) | go_simp
  clear y3 u3
  have hzB := hzA.set (i := 3) (by omega) (.string (cutS B 1100))
  have kSB : Keep (fun k => k = w.heap.size) WA (WA.setCell ⟨w.heap.size, 3, none⟩ (.string (cutS B 1100))) := (Keep.refl (fun k => k = w.heap.size) WA).setCell (p := ⟨w.heap.size, 3, none⟩) (show (fun k => k = w.heap.size) w.heap.size from rfl) _
  generalize WA.setCell ⟨w.heap.size, 3, none⟩ (.string (cutS B 1100)) = WB at hzB kSB ⊢
  refine lx_one 13 (by kernel_rfl) (stepT_val (w' := WB) (.pointer (some ⟨w.heap.size, 4, none⟩)) rfl rfl rfl ?r13 (fun h => by cases h) ?_)
  case r13 => first | (go_simp; rfl) | go_simp
  simp only [List.setIfInBounds_toArray, List.set_cons_zero, List.set_cons_succ]
  have y4 := hzB.cell 4 (by omega); have u4 := hzB.thaw 4
  refine lx_one 14 (by kernel_rfl) (stepT_store (w' := WB.setCell ⟨w.heap.size, 4, none⟩ (.string (cutS T 1100))) rfl rfl rfl ?r14 (fun h => by cases h) ?_)
  case r14 => first | (go_simp; rfl) | go_simp
  clear y4 u4
  have hzT := hzB.set (i := 4) (by omega) (.string (cutS T 1100))
  have kST : Keep (fun k => k = w.heap.size) WB (WB.setCell ⟨w.heap.size, 4, none⟩ (.string (cutS T 1100))) := (Keep.refl (fun k => k = w.heap.size) WB).setCell (p := ⟨w.heap.size, 4, none⟩) (show (fun k => k = w.heap.size) w.heap.size from rfl) _
  generalize WB.setCell ⟨w.heap.size, 4, none⟩ (.string (cutS T 1100)) = WT at hzT kST ⊢
  refine lx_nil (by kernel_rfl) ?_
  have kAll : Keep (fun k => k = w.heap.size) W0 WT := (kSA.trans kSB).trans kST
  have hbT : Below w.heap.size w WT := hb2.trans (kAll.below hb2.size (fun _ e => by omega))
  have hz2T := hz22.keep kAll (fun e => by omega)
  have hzT' : Sz8 WT w.heap.size [.int .i64 K, .int .u64 I, .string (cutS A 1100), .string (cutS B 1100), .string (cutS T 1100), .slice la ln lc, .int .i64 N, .float .f64 F] := hzT
  clear hz12 hz22 hzA hzB hzT kSA kSB kST kAll HS hb2
  have y5 : WT.cell? ⟨w.heap.size, 5, none⟩ = some (.slice la ln lc) := hzT'.cell 5 (by omega)
  generalize hA' : cutS A 1100 = A' at hzT' ⊢
  generalize hB' : cutS B 1100 = B' at hzT' ⊢
  generalize hT' : cutS T 1100 = T' at hzT' ⊢
  have cX := texts_any la ln lc L 70 1100 WT (hR.carry hbT) (by omega) (by omega)
  have hsz := fun s hs => Nat.le_trans (cutL_size L 70 1100 s hs) (show 1100 ≤ 9223372036854775807 by omega)
  generalize hL' : cutL L 70 1100 = L' at cX hsz ⊢
  go_wp2_with (go_at_call 24; refine cX.mono ?_; rintro e w5 ⟨v5, rfl, ho5, hb5⟩; obtain ⟨l5, c5, rfl, hs5⟩ := SRd.ofOwn ho5 hsz; have k5 := Keep.ofBelow (S := fun _ => False) hb5; have hz5 := hzT'.keep k5 (fun h => h); have hz25 := hz2T.keep k5 (fun h => h); have x5 := hz5.cell 5 (by omega); have v5 := hz5.thaw 5; have hz6 := hz5.set (i := 5) (by omega) (.slice l5 L'.length c5); have k6 : Keep (fun k => k = w.heap.size) w5 (w5.setCell ⟨w.heap.size, 5, none⟩ (.slice l5 L'.length c5)) := (Keep.refl (fun k => k = w.heap.size) w5).setCell (p := ⟨w.heap.size, 5, none⟩) (show (fun k => k = w.heap.size) w.heap.size from rfl) _; have hz26 := hz25.keep k6 (fun e => by omega); obtain ⟨g0, g1, g2, g3, g4, g5, g6, g7⟩ := Sz8.sz (K := K) (I := I) (A := A') (B := B') (T := T') (la := l5) (ln := L'.length) (lc := c5) (N := N) (F := F) hz6; obtain ⟨z0, z1, z2, z3, z4, z5, z6, z7⟩ := Sz8.sz (K := 0) (I := 0) (A := ⟨#[]⟩) (B := ⟨#[]⟩) (T := ⟨#[]⟩) (la := none) (ln := 0) (lc := 0) (N := 0) (F := 0) hz26; have t0 := hz26.thaw 0; have t1 := hz26.thaw 1; have t2 := hz26.thaw 2; have t3 := hz26.thaw 3; have t4 := hz26.thaw 4; have t5 := hz26.thaw 5; have t6 := hz26.thaw 6; have t7 := hz26.thaw 7)
  obtain ⟨hz8, hk8⟩ := store8 (K := K) (I := I) (A := A') (B := B') (T := T') (la := l5) (ln := L'.length) (lc := c5) (N := N) (F := F) hz26
  clear g0 g1 g2 g3 g4 g5 g6 g7 z0 z1 z2 z3 z4 z5 z6 z7 t0 t1 t2 t3 t4 t5 t6 t7
  generalize World.setCell _ _ (.float .f64 F) = w8 at hz8 hk8 ⊢
  obtain ⟨p0, p1, p2, p3, p4, p5, p6, p7⟩ := hz8.sz
  have hlt : w.heap.size + 1 < WT.heap.size := World.block_lt_of_cell? WT ⟨w.heap.size + 1, 0, none⟩ (hz2T.cell 0 (by omega))
  have ho6 := own_keepB ho5 (Nat.le_refl _) k6 (by omega)
  have ho8 := own_keepB ho6 (show w.heap.size ≤ WT.heap.size by omega) hk8 (by omega)
  have hb6 : Below w.heap.size w w5 := hbT.trans (hb5.mono hbT.size)
  have hb7 := hb6.trans (k6.below hb6.size (fun _ e => by omega))
  have hb8 := hb7.trans (hk8.below hb7.size (fun _ e => by omega))
  obtain ⟨l6, c6, he6, hs6⟩ := SRd.ofOwn ho8 hsz
  cases he6
  subst hA' hB' hT' hL'
  exact bodyPost_ret (v := .agg #[.int .i64 K, .int .u64 I, .string (cutS A 1100), .string (cutS B 1100), .string (cutS T 1100), .slice l5 (cutL L 70 1100).length c5, .int .i64 N, .float .f64 F]) (by simp [results, Tryd.results8, go_sem, p0, p1, p2, p3, p4, p5, p6, p7]) rfl ⟨l5, _, c5, rfl, ho8, hs6, hb8⟩

end Go.Proofs.YtomkcmkbehcjnaaDoor
