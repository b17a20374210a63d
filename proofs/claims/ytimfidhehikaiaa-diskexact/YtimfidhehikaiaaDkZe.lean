/- The document's disk: Rename, whole. -/
import Derived.Test.YtimfidhehikaiaaDkZd
namespace Go.Proofs.Ytimfidhehikaiaa
open Go.RowKit Go.Joins

theorem RefAt.wide {w : World} {G G' : Nat → Prop} {rd : Nat} {k : Dk} (h : RefAt w G rd k) (hG : ∀ i, G i → G' i) (hl : ∀ i, G' i → i < w.heap.size) : RefAt w G' rd k := by
  obtain ⟨⟨v, sl, h1, h2, h3, h4, h5⟩, h6, h7, h8⟩ := h
  exact ⟨⟨v, sl, h1, h2, fun g hg => hG g (h3 g hg), fun x hx => ⟨(h4 x hx).1, fun g hg => hG g ((h4 x hx).2 g hg)⟩, h5⟩, hG _ h6, hl, h8⟩

set_option maxRecDepth 100000 in
set_option maxHeartbeats 8000000 in
theorem refRename_go (rd : Nat) (G : Nat → Prop) (k : Dk) (s t : Nm) (hs : s.size ≤ 9223372036854775807) (ht : t.size ≤ 9223372036854775807) (hst : k.steps < 1000000) (hfl : k.fs.length < 1000000) (w : World) (hR : RefAt w G rd k) (on : k.off = false) (hns : isNm s = true) (hnt : isNm t = true) (f : Fle) (hlk : look k.fs s = some f) :
    Calls Try.prog 30 #[.pointer (some ⟨rd, 0, none⟩), .string s, .string t] w fun e w' => ((passK k).1 ≠ 0 ∧ e = .returned (.int .i64 ((passK k).1 : Int)) ∧ Rp w G rd (passK k).2 w') ∨ ((passK k).1 = 0 ∧ e = .returned (.int .i64 0) ∧ Rp w G rd { (passK k).2 with fs := putL (dropL (passK k).2.fs s) t f } w') := by
  have hF := first_any rd G k s hs false w hR
  have hf0 : firstK k s false = 0 := by unfold firstK; rw [on, hns]; simp
  rw [hf0] at hF
  have hRt := right_any t ht w
  rw [hnt] at hRt
  obtain ⟨j, hj, hix0, hjl⟩ := ixL_some hlk 0
  rw [Nat.zero_add] at hj
  have hA := at_any rd G k s w hR
  rw [hj] at hA
  have hjn : ¬ (j : Int) < 0 := by omega
  have hP := power_any rd G k hst w hR
  have hpfs := pass_fs k
  have hgp := good_pass hR.good
  obtain ⟨P, HPe⟩ : ∃ P, Hid (passK k = P) := ⟨_, rfl⟩
  rw [HPe.out] at hP hpfs hgp ⊢
  obtain ⟨en, k1⟩ := P
  dsimp only at hP hpfs hgp ⊢
  have hlk1 : look k1.fs s = some f := by rw [hpfs]; exact hlk
  have hA1 := fun w G hR => at_any rd G k1 s w hR
  rw [show ixL k1.fs s 0 = (j : Int) by rw [hpfs]; exact hj] at hA1
  have hfl1 : k1.fs.length < 1000000 := by rw [hpfs]; exact hfl
  rw [← hpfs] at hix0 hjl
  have hix : Hid (k1.fs[j]? = some (s, f)) := hix0
  have Hpfs : Hid (k1.fs = k.fs) := hpfs
  have Hlk : Hid (look k1.fs s = some f) := hlk1
  clear HPe hix0 hj hlk hlk1 hpfs hf0
  by_cases hen : en = 0
  · subst hen
    refine Calls.mono (R := fun e' w' => e' = Ending.returned (.int .i64 0) ∧ Rp w G rd { k1 with fs := putL (dropL k1.fs s) t f } w') ?_ (fun e' w' h => Or.inr ⟨rfl, h⟩)
    by_cases hst2 : s = t
    · subst hst2
      have hsame : ({ k1 with fs := putL (dropL k1.fs s) s f } : Dk) = k1 := by rw [put_drop_self hgp.rise Hlk.out]
      rw [hsame]
      have hne := nm_eq s
      clear hsame
      go_enter Try.func30, Try.ntmps30
      go_wp2_with (first
        | (go_at_call 53; refine hF.mono ?_; rintro e w1 ⟨rfl, hw1⟩; replace hw1 := hw1.symm; subst hw1)
        | (go_at_call 64; refine hRt.mono ?_; rintro e w1 ⟨rfl, hw1⟩; replace hw1 := hw1.symm; subst hw1)
        | (go_at_call 55; refine hA.mono ?_; rintro e w1 ⟨rfl, hw1⟩; replace hw1 := hw1.symm; subst hw1)
        | (go_at_call 54; refine hP.mono ?_; rintro e w2 ⟨rfl, hRp⟩))
      go_ret
      exact ⟨rfl, hRp⟩
    · have hne := nm_neq hst2
      have Hst : Hid (¬ s = t) := hst2
      have hgD1 := good_drop hgp s
      obtain ⟨kd, hkd⟩ : ∃ kd : Dk, kd = { k1 with fs := dropL k1.fs s } := ⟨_, rfl⟩
      rw [← hkd] at hgD1
      have hkdfs : kd.fs = dropL k1.fs s := by rw [hkd]
      have hgD2 := good_drop hgD1 t
      obtain ⟨ke, hke⟩ : ∃ ke : Dk, ke = { kd with fs := dropL kd.fs t } := ⟨_, rfl⟩
      rw [← hke] at hgD2
      have hkefs : ke.fs = dropL kd.fs t := by rw [hke]
      have hfin : ({ ke with fs := putL ke.fs t f } : Dk) = { k1 with fs := putL (dropL k1.fs s) t f } := by
        rw [hkefs, put_dropped hgD1.rise, hkdfs, hke, hkd]
      have hno : look ke.fs t = none := by rw [hkefs, look_drop, if_pos rfl]
      obtain ⟨_, hsf, hbd⟩ := look_good hgp Hlk.out
      have hgN : ({ ke with fs := putL ke.fs t f } : Dk).Good := by
        have h1 := used_drop k1.fs hgp.rise s
        rw [Hlk.out] at h1
        have h2 := used_put kd.fs hgD1.rise t f
        have h3 : lenO (some f) = f.b.length := rfl
        have h4 := hgp.used
        have h5 : kd.room = k1.room := by rw [hkd]
        rw [h3, ← hkdfs] at h1
        have h6 := good_put hgD1 hnt hsf hbd (by omega)
        have h7 : ({ kd with fs := putL kd.fs t f } : Dk) = { ke with fs := putL ke.fs t f } := by rw [hkefs, put_dropped hgD1.rise, hke]
        rw [← h7]
        exact h6
      have hflD : kd.fs.length < 1000000 := by rw [hkdfs]; exact Nat.lt_of_le_of_lt (len_drop _ _) hfl1
      have hflE : ke.fs.length < 1000000 := by rw [hkefs]; exact Nat.lt_of_le_of_lt (len_drop _ _) hflD
      have Hkd : Hid (kd = { k1 with fs := dropL k1.fs s }) := hkd
      have Hke : Hid (ke = { kd with fs := dropL kd.fs t }) := hke
      have Hfin : Hid (({ ke with fs := putL ke.fs t f } : Dk) = { k1 with fs := putL (dropL k1.fs s) t f }) := hfin
      clear hkd hke hkdfs hkefs hfin hst2
      go_enter Try.func30, Try.ntmps30
      go_upto_region 10 with (first
        | (go_at_call 53; refine hF.mono ?_; rintro e w1 ⟨rfl, hw1⟩; replace hw1 := hw1.symm; subst hw1)
        | (go_at_call 64; refine hRt.mono ?_; rintro e w1 ⟨rfl, hw1⟩; replace hw1 := hw1.symm; subst hw1)
        | (go_at_call 55; refine hA.mono ?_; rintro e w1 ⟨rfl, hw1⟩; replace hw1 := hw1.symm; subst hw1)
        | (go_at_call 54; refine hP.mono ?_; rintro e w2 ⟨rfl, G2, hR2, hk2, hG2⟩))
      refine wp_region_lx (fun w' => Below w2.drew.heap.size w2.drew w') [10] 11 (by kernel_rfl) (by kernel_rfl) ?_
      have hVX : Below w2.heap.size w2 w2.drew := (Below.refl _ _).drew
      have hRX := hR2.below hVX
      clear hA hF hP hRt hne hjn
      obtain ⟨g0, cap0, aj, cj, q0, hcap0, qs, q1, q2, hLi, _, _, _⟩ := hRX.rowj hix.out
      obtain ⟨N, HN⟩ : ∃ N, Hid (k1.fs.length = N) := ⟨_, rfl⟩
      obtain ⟨ln, HLn⟩ : ∃ ln, Hid (f.b.length = ln) := ⟨_, rfl⟩
      rw [HN.out] at q0 hcap0 hjl
      rw [HLn.out] at q1 hLi
      have hcF : ∀ w', Below w2.drew.heap.size w2.drew w' → w'.cell? ⟨rd, 0, none⟩ = some (.slice (some ⟨g0, 0, none⟩) N cap0) := fun w' hb => (hb.cell (p := ⟨rd, 0, none⟩) (World.block_lt_of_cell? _ _ q0)).trans q0
      have hcS : ∀ w', Below w2.drew.heap.size w2.drew w' → w'.cell? ⟨g0, j * 3, none⟩ = some (.string s) := fun w' hb => (hb.cell (p := ⟨g0, j * 3, none⟩) (World.block_lt_of_cell? _ _ qs)).trans qs
      have hcB : ∀ w', Below w2.drew.heap.size w2.drew w' → w'.cell? ⟨g0, j * 3 + 1, none⟩ = some (.slice aj ln cj) := fun w' hb => (hb.cell (p := ⟨g0, j * 3 + 1, none⟩) (World.block_lt_of_cell? _ _ q1)).trans q1
      have hcN : ∀ w', Below w2.drew.heap.size w2.drew w' → w'.cell? ⟨g0, j * 3 + 2, none⟩ = some (.int .i64 (f.safe : Int)) := fun w' hb => (hb.cell (p := ⟨g0, j * 3 + 2, none⟩) (World.block_lt_of_cell? _ _ q2)).trans q2
      have hjN0 : (0 : Int) ≤ (j : Int) := by omega
      have hjN : (j : Int) < (N : Int) := by omega
      clear q0 q1 q2 qs
      generalize w2.drew = X at *
      have HSX : Below X.heap.size X X := Below.refl _ _
      refine lx_rd 0 ?vz0 (by kernel_rfl) (fun _ _ d _ _ h => by cases d <;> exact h) (by kernel_rfl) HSX rfl rfl rfl (fun w' hS => ?hz0) ?_
      case hz0 => first | (go_simp; rfl) | go_simp
      simp only [List.setIfInBounds_toArray, List.set_cons_zero, List.set_cons_succ]
      refine lx_rd 1 ?vz1 (by kernel_rfl) (fun _ _ d _ _ h => by cases d <;> exact h) (by kernel_rfl) HSX rfl rfl rfl (fun w' hS => ?hz1) ?_
      case hz1 => first | (go_simp; rfl) | go_simp
      simp only [List.setIfInBounds_toArray, List.set_cons_zero, List.set_cons_succ]
      refine lx_rd 2 ?vz2 (by kernel_rfl) (fun _ _ d _ _ h => by cases d <;> exact h) (by kernel_rfl) HSX rfl rfl rfl (fun w' hS => ?hz2) ?_
      case hz2 => first | (go_simp; rfl) | go_simp
      simp only [List.setIfInBounds_toArray, List.set_cons_zero, List.set_cons_succ]
      refine lx_rd 3 (.slice (some ⟨g0, 0, none⟩) N cap0) (by kernel_rfl) (fun _ _ d _ _ h => by cases d <;> exact h) (by kernel_rfl) HSX rfl rfl rfl (fun w' hS => ?hz3) ?_
      case hz3 => have q := hcF _ hS; first | (go_simp; rfl) | go_simp
      simp only [List.setIfInBounds_toArray, List.set_cons_zero, List.set_cons_succ]
      refine lx_rd 4 ?vz4 (by kernel_rfl) (fun _ _ d _ _ h => by cases d <;> exact h) (by kernel_rfl) HSX rfl rfl rfl (fun w' hS => ?hz4) ?_
      case hz4 => first | (go_simp; rfl) | go_simp
      simp only [List.setIfInBounds_toArray, List.set_cons_zero, List.set_cons_succ]
      refine lx_rd 5 ?vz5 (by kernel_rfl) (fun _ _ d _ _ h => by cases d <;> exact h) (by kernel_rfl) HSX rfl rfl rfl (fun w' hS => ?hz5) ?_
      case hz5 => first | (go_simp; rfl) | go_simp
      simp only [List.setIfInBounds_toArray, List.set_cons_zero, List.set_cons_succ]
      have hX0 : Below X.heap.size X (X.alloc (.cells #[.string ByteArray.empty, .slice none 0 0, .int .i64 0] 81)) := (Below.refl _ _).alloc (Nat.le_refl _) _
      have hbox := alloc_at X (.cells #[.string ByteArray.empty, .slice none 0 0, .int .i64 0] 81)
      have hltX := hRX.lt
      obtain ⟨b, hb⟩ : ∃ b, X.heap.size = b := ⟨_, rfl⟩
      obtain ⟨X0, hX0e⟩ : ∃ X0, X.alloc (.cells #[.string ByteArray.empty, .slice none 0 0, .int .i64 0] 81) = X0 := ⟨_, rfl⟩
      have HX0e : Hid (X.alloc (.cells #[.string ByteArray.empty, .slice none 0 0, .int .i64 0] 81) = X0) := hX0e
      rw [hX0e] at hX0 hbox
      have rb := hbox
      rw [hb] at rb
      have rb1 := block_setCell (i := 0) rb (.string s)
      have rb2 := block_setCell (i := 1) rb1 (.slice aj ln cj)
      have rb3 := block_setCell (i := 2) rb2 (.int .i64 (f.safe : Int))
      have c0 := cell_of_block rb 0
      have z0 := unfrozen_of_block rb 0
      have c1 := cell_of_block rb1 1
      have z1 := unfrozen_of_block rb1 1
      have c2 := cell_of_block rb2 2
      have z2 := unfrozen_of_block rb2 2
      simp at c0 c1 c2
      have hXY : Below X.heap.size X (((X0.setCell ⟨b, 0, none⟩ (.string s)).setCell ⟨b, 1, none⟩ (.slice aj ln cj)).setCell ⟨b, 2, none⟩ (.int .i64 (f.safe : Int))) := ((hX0.setCell (p := ⟨b, 0, none⟩) (by show X.heap.size ≤ b; omega) _).setCell (p := ⟨b, 1, none⟩) (by show X.heap.size ≤ b; omega) _).setCell (p := ⟨b, 2, none⟩) (by show X.heap.size ≤ b; omega) _
      have hYb : (((X0.setCell ⟨b, 0, none⟩ (.string s)).setCell ⟨b, 1, none⟩ (.slice aj ln cj)).setCell ⟨b, 2, none⟩ (.int .i64 (f.safe : Int))).heap[b]? = some (.cells #[.string s, .slice aj ln cj, .int .i64 (f.safe : Int)] 81 (0, 0)) := by rw [rb3]; rfl
      -- what comes behind the region
      have hTail : ∀ Y, Below X.heap.size X Y → Y.heap[b]? = some (.cells #[.string s, .slice aj ln cj, .int .i64 (f.safe : Int)] 81 (0, 0)) → RefAt Y G2 rd k1 ∧ Lies Y G2 (.slice aj ln cj) f := fun Y hbY hYb => ⟨hRX.below hbY, hLi.keep (S := fun _ => False) (Keep.ofBelow hbY) (fun _ _ h => h) (fun _ h => h)⟩
      clear rb rb1 rb2 rb3 hX0e
      refine lx_two 6 9 (by kernel_rfl) ?_ ?_
      · refine stepT_call 55 ?a6x rfl rfl rfl ?r6x ?_
        case r6x => first | (go_simp; rfl) | go_simp
        refine (hA1 _ _ hRX).mono ?_
        rintro e w4 ⟨rfl, hw4⟩
        replace hw4 := hw4.symm
        subst hw4
        refine ⟨_, rfl, fun _ => HSX, ?_⟩
        simp only [List.setIfInBounds_toArray, List.set_cons_zero, List.set_cons_succ]
        refine lx_rd 7 (.pointer (some ⟨g0, j * 3, none⟩)) (by kernel_rfl) (fun _ _ d _ _ h => by cases d <;> exact h) (by kernel_rfl) HSX rfl rfl rfl (fun w' hS => ?hx7) ?_
        case hx7 => first | (go_simp; rfl) | go_simp
        simp only [List.setIfInBounds_toArray, List.set_cons_zero, List.set_cons_succ]
        refine lx_rd 8 (.agg #[.string s, .slice aj ln cj, .int .i64 (f.safe : Int)]) (by kernel_rfl) (fun _ _ d _ _ h => by cases d <;> exact h) (by kernel_rfl) HSX rfl rfl rfl (fun w' hS => ?hx8) ?_
        case hx8 => have q := hcS _ hS; have q1 := hcB _ hS; have q2 := hcN _ hS; first | (go_simp; rfl) | go_simp
        simp only [List.setIfInBounds_toArray, List.set_cons_zero, List.set_cons_succ]
        refine lx_one 9 (by kernel_rfl) (stepT_val (w' := X0) (.pointer (some ⟨b, 0, none⟩)) rfl rfl rfl ?r9x (fun _ => hX0) ?_)
        case r9x => (go_simp; exact HX0e.out)
        simp only [List.setIfInBounds_toArray, List.set_cons_zero, List.set_cons_succ]
        refine lx_one 10 (by kernel_rfl) (stepT_store (w' := ((X0.setCell ⟨b, 0, none⟩ (.string s)).setCell ⟨b, 1, none⟩ (.slice aj ln cj)).setCell ⟨b, 2, none⟩ (.int .i64 (f.safe : Int))) rfl rfl rfl ?r10x (fun h => by cases h) ?_)
        case r10x => first | (go_simp; rfl) | go_simp
        refine lx_nil (by kernel_rfl) ?_
        obtain ⟨hRY, hLY⟩ := hTail _ hXY hYb
        generalize ((X0.setCell ⟨b, 0, none⟩ (.string s)).setCell ⟨b, 1, none⟩ (.slice aj ln cj)).setCell ⟨b, 2, none⟩ (.int .i64 (f.safe : Int)) = Y at *
        have hrdY : rd < Y.heap.size := hRY.lt rd hRY.grd
        have hbY : b < Y.heap.size := (Array.getElem?_eq_some_iff.1 hYb).1
        have hbne : b ≠ rd := fun e => by have := hltX rd hRX.grd; omega
        have hD1 := refDrop_any rd G2 k1 s hfl1 Y hRY
        rw [← Hkd.out] at hD1
        clear c0 c1 c2 z0 z1 z2 hcF hcS hcB hcN hA1 hTail hbox
        go_upto_region 12 with (first
          | (go_at_call 65; refine hD1.mono ?_; rintro e V1 ⟨rfl, ⟨G3, hR3, hk3, hG3⟩, hkk1⟩))
        have hD2 := refDrop_any rd G3 kd t hflD V1 hR3
        rw [← Hke.out] at hD2
        clear hD1
        go_upto_region 13 with (first
          | (go_at_call 65; refine hD2.mono ?_; rintro e V2 ⟨rfl, ⟨G4, hR4, hk4, hG4⟩, hkk2⟩))
        have hb2 := box_keep (box_keep hYb hkk1 hbne) hkk2 hbne
        have hG4b : ∀ i, G4 i → ¬ i = b := fun i hi e => by
          have h1 := hk3.size
          rcases hG4 i hi with h | h
          · rcases hG3 i h with h | h
            · have := hltX i h; omega
            · omega
          · omega
        have hLv : Lies V2 G2 (.slice aj ln cj) f := (hLY.keep hkk1 (fun i hi e => by
          obtain ⟨cur, h2⟩ := own_blk hLY.1 hi
          subst e
          obtain ⟨⟨v, sl, h3, _⟩, _⟩ := hRY
          rw [h3] at h2; cases h2) (fun _ h => h)).keep hkk2 (fun i hi e => by
          obtain ⟨cur, h2⟩ := own_blk hLY.1 hi
          subst e
          obtain ⟨⟨v, sl, h3, _⟩, _⟩ := hRY
          rw [h3] at h2; cases h2) (fun _ h => h)
        have hkS : Keep (fun i => i = b) V2 (V2.setCell ⟨b, 0, none⟩ (.string t)) := (Keep.refl (fun i => i = b) V2).setCell (p := ⟨b, 0, none⟩) rfl _
        have hR5 := hR4.keep hkS hG4b
        have hL5 := hLv.keep hkS (fun i hi e => by have := hltX i (hLv.2 i hi); omega) (fun _ h => h)
        have hb3 := block_setCell (i := 0) hb2 (.string t)
        have y0 := cell_of_block hb2 0
        have yz := unfrozen_of_block hb2 0
        have x0 := cell_of_block hb3 0
        have x1 := cell_of_block hb3 1
        have x2 := cell_of_block hb3 2
        simp at y0 x0 x1 x2
        have hsz12 : Y.heap.size ≤ V2.heap.size := Nat.le_trans hkk1.size hkk2.size
        have hR6 : RefAt (V2.setCell ⟨b, 0, none⟩ (.string t)) (fun i => G4 i ∨ G2 i) rd ke := hR5.wide (fun _ h => Or.inl h) (fun i hi => by
          rcases hi with h | h
          · exact hR5.lt i h
          · have h1 := hltX i h
            have h2 := hXY.size
            have h3 := hkS.size
            omega)
        have hPt := refPut_any rd _ ke t hno f aj ln cj hflE _ hR6 hgN ⟨hL5.1, fun g hg => Or.inr (hL5.2 g hg)⟩
        clear hD2
        go_wp2_with (first
          | (go_at_call 56; refine hPt.mono ?_; rintro e V4 ⟨rfl, hRp⟩))
        go_ret
        rw [Hfin.out] at hRp
        have hgr : G2 rd := hRY.grd
        have hkT : Keep G2 X (V2.setCell ⟨b, 0, none⟩ (.string t)) := ((Keep.ofBelow hXY).trans ((hkk1.trans hkk2).mono (fun i e => by subst e; exact hgr))).andThen hkS (fun i hi e => by omega)
        refine ⟨rfl, Rp.next hk2 hG2 (Rp.next (Keep.ofBelow hVX) (fun i hi => Or.inl hi) (Rp.next hkT (fun i hi => ?_) hRp))⟩
        have h1 := hXY.size
        have h2 := hk3.size
        rcases hi with h | h
        · rcases hG4 i h with h | h
          · rcases hG3 i h with h | h
            · exact Or.inl h
            · exact Or.inr (by omega)
          · exact Or.inr (by omega)
        · exact Or.inl h
      · refine stepT_val (w' := X0) (.pointer (some ⟨b, 0, none⟩)) rfl rfl rfl ?r9y (fun _ => hX0) ?_
        case r9y => (go_simp; exact HX0e.out)
        simp only [List.setIfInBounds_toArray, List.set_cons_zero, List.set_cons_succ]
        refine lx_one 6 (by kernel_rfl) (stepT_call 55 ?a6y rfl rfl rfl ?r6y ?_)
        case r6y => first | (go_simp; rfl) | go_simp
        refine (hA1 _ _ (hRX.below hX0)).mono ?_
        rintro e w4 ⟨rfl, hw4⟩
        replace hw4 := hw4.symm
        subst hw4
        refine ⟨_, rfl, fun _ => hX0, ?_⟩
        simp only [List.setIfInBounds_toArray, List.set_cons_zero, List.set_cons_succ]
        refine lx_rd 7 (.pointer (some ⟨g0, j * 3, none⟩)) (by kernel_rfl) (fun _ _ d _ _ h => by cases d <;> exact h) (by kernel_rfl) hX0 rfl rfl rfl (fun w' hS => ?hy7) ?_
        case hy7 => first | (go_simp; rfl) | go_simp
        simp only [List.setIfInBounds_toArray, List.set_cons_zero, List.set_cons_succ]
        refine lx_rd 8 (.agg #[.string s, .slice aj ln cj, .int .i64 (f.safe : Int)]) (by kernel_rfl) (fun _ _ d _ _ h => by cases d <;> exact h) (by kernel_rfl) hX0 rfl rfl rfl (fun w' hS => ?hy8) ?_
        case hy8 => have q := hcS _ hS; have q1 := hcB _ hS; have q2 := hcN _ hS; first | (go_simp; rfl) | go_simp
        simp only [List.setIfInBounds_toArray, List.set_cons_zero, List.set_cons_succ]
        refine lx_one 10 (by kernel_rfl) (stepT_store (w' := ((X0.setCell ⟨b, 0, none⟩ (.string s)).setCell ⟨b, 1, none⟩ (.slice aj ln cj)).setCell ⟨b, 2, none⟩ (.int .i64 (f.safe : Int))) rfl rfl rfl ?r10y (fun h => by cases h) ?_)
        case r10y => first | (go_simp; rfl) | go_simp
        refine lx_nil (by kernel_rfl) ?_
        obtain ⟨hRY, hLY⟩ := hTail _ hXY hYb
        generalize ((X0.setCell ⟨b, 0, none⟩ (.string s)).setCell ⟨b, 1, none⟩ (.slice aj ln cj)).setCell ⟨b, 2, none⟩ (.int .i64 (f.safe : Int)) = Y at *
        have hrdY : rd < Y.heap.size := hRY.lt rd hRY.grd
        have hbY : b < Y.heap.size := (Array.getElem?_eq_some_iff.1 hYb).1
        have hbne : b ≠ rd := fun e => by have := hltX rd hRX.grd; omega
        have hD1 := refDrop_any rd G2 k1 s hfl1 Y hRY
        rw [← Hkd.out] at hD1
        clear c0 c1 c2 z0 z1 z2 hcF hcS hcB hcN hA1 hTail hbox
        go_upto_region 12 with (first
          | (go_at_call 65; refine hD1.mono ?_; rintro e V1 ⟨rfl, ⟨G3, hR3, hk3, hG3⟩, hkk1⟩))
        have hD2 := refDrop_any rd G3 kd t hflD V1 hR3
        rw [← Hke.out] at hD2
        clear hD1
        go_upto_region 13 with (first
          | (go_at_call 65; refine hD2.mono ?_; rintro e V2 ⟨rfl, ⟨G4, hR4, hk4, hG4⟩, hkk2⟩))
        have hb2 := box_keep (box_keep hYb hkk1 hbne) hkk2 hbne
        have hG4b : ∀ i, G4 i → ¬ i = b := fun i hi e => by
          have h1 := hk3.size
          rcases hG4 i hi with h | h
          · rcases hG3 i h with h | h
            · have := hltX i h; omega
            · omega
          · omega
        have hLv : Lies V2 G2 (.slice aj ln cj) f := (hLY.keep hkk1 (fun i hi e => by
          obtain ⟨cur, h2⟩ := own_blk hLY.1 hi
          subst e
          obtain ⟨⟨v, sl, h3, _⟩, _⟩ := hRY
          rw [h3] at h2; cases h2) (fun _ h => h)).keep hkk2 (fun i hi e => by
          obtain ⟨cur, h2⟩ := own_blk hLY.1 hi
          subst e
          obtain ⟨⟨v, sl, h3, _⟩, _⟩ := hRY
          rw [h3] at h2; cases h2) (fun _ h => h)
        have hkS : Keep (fun i => i = b) V2 (V2.setCell ⟨b, 0, none⟩ (.string t)) := (Keep.refl (fun i => i = b) V2).setCell (p := ⟨b, 0, none⟩) rfl _
        have hR5 := hR4.keep hkS hG4b
        have hL5 := hLv.keep hkS (fun i hi e => by have := hltX i (hLv.2 i hi); omega) (fun _ h => h)
        have hb3 := block_setCell (i := 0) hb2 (.string t)
        have y0 := cell_of_block hb2 0
        have yz := unfrozen_of_block hb2 0
        have x0 := cell_of_block hb3 0
        have x1 := cell_of_block hb3 1
        have x2 := cell_of_block hb3 2
        simp at y0 x0 x1 x2
        have hsz12 : Y.heap.size ≤ V2.heap.size := Nat.le_trans hkk1.size hkk2.size
        have hR6 : RefAt (V2.setCell ⟨b, 0, none⟩ (.string t)) (fun i => G4 i ∨ G2 i) rd ke := hR5.wide (fun _ h => Or.inl h) (fun i hi => by
          rcases hi with h | h
          · exact hR5.lt i h
          · have h1 := hltX i h
            have h2 := hXY.size
            have h3 := hkS.size
            omega)
        have hPt := refPut_any rd _ ke t hno f aj ln cj hflE _ hR6 hgN ⟨hL5.1, fun g hg => Or.inr (hL5.2 g hg)⟩
        clear hD2
        go_wp2_with (first
          | (go_at_call 56; refine hPt.mono ?_; rintro e V4 ⟨rfl, hRp⟩))
        go_ret
        rw [Hfin.out] at hRp
        have hgr : G2 rd := hRY.grd
        have hkT : Keep G2 X (V2.setCell ⟨b, 0, none⟩ (.string t)) := ((Keep.ofBelow hXY).trans ((hkk1.trans hkk2).mono (fun i e => by subst e; exact hgr))).andThen hkS (fun i hi e => by omega)
        refine ⟨rfl, Rp.next hk2 hG2 (Rp.next (Keep.ofBelow hVX) (fun i hi => Or.inl hi) (Rp.next hkT (fun i hi => ?_) hRp))⟩
        have h1 := hXY.size
        have h2 := hk3.size
        rcases hi with h | h
        · rcases hG4 i h with h | h
          · rcases hG3 i h with h | h
            · exact Or.inl h
            · exact Or.inr (by omega)
          · exact Or.inr (by omega)
        · exact Or.inl h
  · have hne : ((en : Int) != 0) = true := by simp; omega
    have hne2 : ((en : Int) == 0) = false := by simp; omega
    go_enter Try.func30, Try.ntmps30
    go_wp2_with (first
      | (go_at_call 53; refine hF.mono ?_; rintro e w1 ⟨rfl, hw1⟩; replace hw1 := hw1.symm; subst hw1)
      | (go_at_call 64; refine hRt.mono ?_; rintro e w1 ⟨rfl, hw1⟩; replace hw1 := hw1.symm; subst hw1)
      | (go_at_call 55; refine hA.mono ?_; rintro e w1 ⟨rfl, hw1⟩; replace hw1 := hw1.symm; subst hw1)
      | (go_at_call 54; refine hP.mono ?_; rintro e w2 ⟨rfl, hRp⟩))
    go_ret
    exact Or.inl ⟨hen, rfl, hRp⟩

theorem refRename_any (rd : Nat) (G : Nat → Prop) (k : Dk) (s t : Nm) (hs : s.size ≤ 9223372036854775807) (ht : t.size ≤ 9223372036854775807) (hst : k.steps < 1000000) (hfl : k.fs.length < 1000000) (w : World) (hR : RefAt w G rd k) :
    Calls Try.prog 30 #[.pointer (some ⟨rd, 0, none⟩), .string s, .string t] w fun e w' => e = .returned (.int .i64 (renameK k s t).1) ∧ Rp w G rd (renameK k s t).2 w' := by
  by_cases h : renE k s t = 0
  · obtain ⟨on, hns, hnt, f, hlk, e⟩ := renameK_yes k s t h
    rw [e]
    refine (refRename_go rd G k s t hs ht hst hfl w hR on hns hnt f hlk).mono ?_
    rintro e w' (⟨h0, rfl, hDp⟩ | ⟨h0, rfl, hDp⟩)
    · rw [if_pos h0]
      exact ⟨rfl, hDp⟩
    · rw [if_neg (by simp [h0])]
      exact ⟨rfl, hDp⟩
  · rw [renameK_no k s t h]
    refine (refRename_no rd G k s t hs ht w hR h).mono ?_
    rintro e w' ⟨rfl, rfl⟩
    exact ⟨rfl, Rp.refl hR⟩

end Go.Proofs.Ytimfidhehikaiaa
