/- Texts of one seat, one behind the other: DkZd, DkZe, RlJ. -/
import Derived.Test.YtikkieaokfailaaGreatDoorM9
import Derived.Test.YtikkieaokfailaaGreatDoorM10
import Derived.BigQuiet
namespace Go.Proofs.YtikkieaokfailaaGreatDoor
open Go.RowKit Go.Joins
theorem put_drop_self {l : Fls} (hr : Rise l) {s : Nm} {f : Fle} (h : look l s = some f) : putL (dropL l s) s f = l := by
 induction l with
 | nil => cases h
 | cons q r ih =>
  obtain ⟨n, g⟩ := q
  unfold look at h
  have hnot : ∀ p ∈ r, p.1 ≠ n := fun p hp e => ltN_irrefl n (by have := hr.1 p hp; rw [e] at this; exact this)
  split at h
  ·rename_i e
   cases h
   subst e
   have hd : dropL r n = r := by
    have : ∀ (r : Fls), (∀ p ∈ r, p.1 ≠ n) → dropL r n = r := fun r => by
     induction r with
     | nil => intro _; rfl
     | cons y t iht =>
      intro hy
      obtain ⟨m, x⟩ := y
      unfold dropL
      rw [if_neg (hy (m, x) (List.mem_cons_self ..)), iht (fun p hp => hy p (List.mem_cons_of_mem _ hp))]
    exact this r hnot
   unfold dropL
   rw [if_pos rfl, hd]
   have h2 : ∀ x, r.head? = some x → ltN n x.1 := fun x hx => by
    cases r with
    | nil => cases hx
    | cons y t => cases hx; exact hr.1 _ (List.mem_cons_self ..)
   exact put_split (p := []) (q := r) (fun x hx => by cases hx) h2
  ·rename_i e
   have hs := look_mem h
   have hlt : ltN n s := hr.1 _ hs
   unfold dropL
   rw [if_neg e]
   unfold putL
   rw [if_neg (fun h => ltN_irrefl _ (ltN_trans h hlt)), if_neg e, ih hr.2 h]
theorem put_dropped {l : Fls} (hr : Rise l) (t : Nm) (f : Fle) : putL (dropL l t) t f = putL l t f := by
 induction l with
 | nil => rfl
 | cons q r ih =>
  obtain ⟨n, g⟩ := q
  have hid : ∀ (r : Fls), (∀ p ∈ r, ltN t p.1) → dropL r t = r := fun r => by
   induction r with
   | nil => intro _; rfl
   | cons y u iht =>
    intro hy
    obtain ⟨m, x⟩ := y
    have hm : ltN t m := hy (m, x) (List.mem_cons_self ..)
    unfold dropL
    rw [if_neg (fun e => by subst e; exact ltN_irrefl _ hm), iht (fun p hp => hy p (List.mem_cons_of_mem _ hp))]
  by_cases e : n = t
  ·subst e
   have h2 : dropL ((n, g) :: r) n = r := by
    unfold dropL
    rw [if_pos rfl, hid r hr.1]
   rw [h2]
   have h3 : putL ((n, g) :: r) n f = (n, f) :: r := by unfold putL; rw [if_neg (ltN_irrefl n), if_pos rfl]
   rw [h3]
   refine put_split (p := []) (q := r) (fun x hx => by cases hx) (fun x hx => ?_)
   cases r with
   | nil => cases hx
   | cons y u => cases hx; exact hr.1 _ (List.mem_cons_self ..)
  ·by_cases hlt : ltN t n
   ·have h2 : dropL ((n, g) :: r) t = (n, g) :: r := hid _ (fun p hp => by
     rcases List.mem_cons.1 hp with rfl | hp
     ·exact hlt
     ·exact ltN_trans hlt (hr.1 p hp))
    rw [h2]
   ·unfold dropL
    rw [if_neg e]
    unfold putL
    rw [if_neg hlt, if_neg e, if_neg hlt, if_neg e, ih hr.2]
def renE (k : Dk) (s t : Nm) : Nat := if k.off then 13 else if isNm t = false then 4 else if isNm s = false then 4 else if look k.fs s = none then 7 else 0
set_option maxRecDepth 100000 in
set_option maxHeartbeats 4000000 in
theorem refRename_no (rd : Nat) (G : Nat → Prop) (k : Dk) (s t : Nm) (hs : s.size ≤ 9223372036854775807) (ht : t.size ≤ 9223372036854775807) (w : World) (hR : RefAt w G rd k) (hne : renE k s t ≠ 0) :
  Calls Tryz.prog 80 #[.pointer (some ⟨rd, 0, none⟩), .string s, .string t] w fun e w' => e = .returned (.int .i64 (renE k s t : Int)) ∧ w' = w := by
 have hF := first_any rd G k s hs false w hR
 have hRt := right_any t ht w
 have hA := at_any rd G k s w hR
 unfold renE at hne ⊢
 unfold firstK at hF
 clear hR
 cases on : k.off with
 | true =>
  rw [on, if_pos rfl] at hF
  rw [if_pos rfl]
  clear hne on
  go_enter Tryz.func80, Tryz.ntmps80
  go_wp2_with (first
   | (go_at_call 55; refine hF.mono ?_; rintro e w1 ⟨rfl, hw1⟩; replace hw1 := hw1.symm; subst hw1))
  go_ret
  exact ⟨rfl, rfl⟩
 | false =>
  rw [on, if_neg (by decide)] at hF hne
  rw [if_neg (by decide)]
  clear on
  cases hn : isNm s with
  | false =>
   rw [hn, if_pos rfl] at hF
   have e : (if isNm t = false then 4 else if false = false then 4 else if look k.fs s = none then 7 else 0 : Nat) = 4 := by split <;> simp
   rw [e]
   clear hne hn e
   go_enter Tryz.func80, Tryz.ntmps80
   go_wp2_with (first
    | (go_at_call 55; refine hF.mono ?_; rintro e w1 ⟨rfl, hw1⟩; replace hw1 := hw1.symm; subst hw1))
   go_ret
   exact ⟨rfl, rfl⟩
  | true =>
   rw [hn, if_neg (by decide), if_neg (by simp)] at hF
   cases hn2 : isNm t with
   | false =>
    rw [if_pos rfl]
    rw [hn2] at hRt
    clear hne hn hn2
    go_enter Tryz.func80, Tryz.ntmps80
    go_wp2_with (first
     | (go_at_call 55; refine hF.mono ?_; rintro e w1 ⟨rfl, hw1⟩; replace hw1 := hw1.symm; subst hw1)
     | (go_at_call 93; refine hRt.mono ?_; rintro e w1 ⟨rfl, hw1⟩; replace hw1 := hw1.symm; subst hw1))
    go_ret
    exact ⟨rfl, rfl⟩
   | true =>
    rw [hn, hn2, if_neg (by decide), if_neg (by decide)] at hne
    rw [if_neg (by decide), if_neg (by decide)]
    rw [hn2] at hRt
    have hl : look k.fs s = none := Classical.byContradiction (fun h => hne (if_neg h))
    rw [if_pos hl]
    rw [ixL_none hl] at hA
    clear hne hn hn2 hl
    go_enter Tryz.func80, Tryz.ntmps80
    go_wp2_with (first
     | (go_at_call 55; refine hF.mono ?_; rintro e w1 ⟨rfl, hw1⟩; replace hw1 := hw1.symm; subst hw1)
     | (go_at_call 93; refine hRt.mono ?_; rintro e w1 ⟨rfl, hw1⟩; replace hw1 := hw1.symm; subst hw1)
     | (go_at_call 57; refine hA.mono ?_; rintro e w1 ⟨rfl, hw1⟩; replace hw1 := hw1.symm; subst hw1))
    go_ret
    exact ⟨rfl, rfl⟩
theorem renameK_no (k : Dk) (s t : Nm) (h : renE k s t ≠ 0) : renameK k s t = (renE k s t, k) := by
 unfold renE at h ⊢
 unfold renameK stepK
 cases on : k.off <;> cases h1 : isNm t <;> cases h2 : isNm s <;> cases h3 : look k.fs s <;> simp_all
theorem renameK_yes (k : Dk) (s t : Nm) (h : renE k s t = 0) : k.off = false ∧ isNm s = true ∧ isNm t = true ∧ ∃ f, look k.fs s = some f ∧ renameK k s t = if (passK k).1 ≠ 0 then passK k else (0, { (passK k).2 with fs := putL (dropL (passK k).2.fs s) t f }) := by
 unfold renE at h
 unfold renameK stepK
 cases on : k.off <;> cases h1 : isNm t <;> cases h2 : isNm s <;> cases h3 : look k.fs s <;> simp_all
end Go.Proofs.YtikkieaokfailaaGreatDoor

namespace Go.Proofs.YtikkieaokfailaaGreatDoor
open Go.RowKit Go.Joins
theorem RefAt.wide {w : World} {G G' : Nat → Prop} {rd : Nat} {k : Dk} (h : RefAt w G rd k) (hG : ∀ i, G i → G' i) (hl : ∀ i, G' i → i < w.heap.size) : RefAt w G' rd k := by
 obtain ⟨⟨v, sl, h1, h2, h3, h4, h5⟩, h6, h7, h8⟩ := h
 exact ⟨⟨v, sl, h1, h2, fun g hg => hG g (h3 g hg), fun x hx => ⟨(h4 x hx).1, fun g hg => hG g ((h4 x hx).2 g hg)⟩, h5⟩, hG _ h6, hl, h8⟩
set_option maxRecDepth 100000 in
set_option maxHeartbeats 8000000 in
theorem refRename_go (rd : Nat) (G : Nat → Prop) (k : Dk) (s t : Nm) (hs : s.size ≤ 9223372036854775807) (ht : t.size ≤ 9223372036854775807) (hst : k.steps < 1000000) (hfl : k.fs.length < 1000000) (w : World) (hR : RefAt w G rd k) (on : k.off = false) (hns : isNm s = true) (hnt : isNm t = true) (f : Fle) (hlk : look k.fs s = some f) :
  Calls Tryz.prog 80 #[.pointer (some ⟨rd, 0, none⟩), .string s, .string t] w fun e w' => ((passK k).1 ≠ 0 ∧ e = .returned (.int .i64 ((passK k).1 : Int)) ∧ Rp w G rd (passK k).2 w') ∨ ((passK k).1 = 0 ∧ e = .returned (.int .i64 0) ∧ Rp w G rd { (passK k).2 with fs := putL (dropL (passK k).2.fs s) t f } w') := by
 have hF := first_any rd G k s hs false w hR
 have hf0 : firstK k s false = 0 := by unfold firstK; rw [on, hns]; simp
 rw [hf0] at hF
 have hRt := right_any t ht w
 rw [hnt] at hRt
 obtain ⟨j, hj, hix0, hjl⟩ := ixL_some hlk 0
 rw [Nat.zero_add] at hj
 have hA := at_any rd G k s w hR
 rw [hj] at hA
 have hjn : ¬ (j : Int) < 0 := by omega
 have hP := power_any rd G k hst w hR
 have hpfs := pass_fs k
 have hgp := good_pass hR.good
 obtain ⟨P, HPe⟩ : ∃ P, Hid (passK k = P) := ⟨_, rfl⟩
 rw [HPe.out] at hP hpfs hgp ⊢
 obtain ⟨en, k1⟩ := P
 dsimp only at hP hpfs hgp ⊢
 have hlk1 : look k1.fs s = some f := by rw [hpfs]; exact hlk
 have hA1 := fun w G hR => at_any rd G k1 s w hR
 rw [show ixL k1.fs s 0 = (j : Int) by rw [hpfs]; exact hj] at hA1
 have hfl1 : k1.fs.length < 1000000 := by rw [hpfs]; exact hfl
 rw [← hpfs] at hix0 hjl
 have hix : Hid (k1.fs[j]? = some (s, f)) := hix0
 have Hpfs : Hid (k1.fs = k.fs) := hpfs
 have Hlk : Hid (look k1.fs s = some f) := hlk1
 clear HPe hix0 hj hlk hlk1 hpfs hf0
 by_cases hen : en = 0
 ·subst hen
  refine Calls.mono (R := fun e' w' => e' = Ending.returned (.int .i64 0) ∧ Rp w G rd { k1 with fs := putL (dropL k1.fs s) t f } w') ?_ (fun e' w' h => Or.inr ⟨rfl, h⟩)
  by_cases hst2 : s = t
  ·subst hst2
   have hsame : ({ k1 with fs := putL (dropL k1.fs s) s f } : Dk) = k1 := by rw [put_drop_self hgp.rise Hlk.out]
   rw [hsame]
   have hne := nm_eq s
   clear hsame
   go_enter Tryz.func80, Tryz.ntmps80
   go_wp2_with (first
    | (go_at_call 55; refine hF.mono ?_; rintro e w1 ⟨rfl, hw1⟩; replace hw1 := hw1.symm; subst hw1)
    | (go_at_call 93; refine hRt.mono ?_; rintro e w1 ⟨rfl, hw1⟩; replace hw1 := hw1.symm; subst hw1)
    | (go_at_call 57; refine hA.mono ?_; rintro e w1 ⟨rfl, hw1⟩; replace hw1 := hw1.symm; subst hw1)
    | (go_at_call 56; refine hP.mono ?_; rintro e w2 ⟨rfl, hRp⟩))
   go_ret
   exact ⟨rfl, hRp⟩
  ·have hne := nm_neq hst2
   have Hst : Hid (¬ s = t) := hst2
   have hgD1 := good_drop hgp s
   obtain ⟨kd, hkd⟩ : ∃ kd : Dk, kd = { k1 with fs := dropL k1.fs s } := ⟨_, rfl⟩
   rw [← hkd] at hgD1
   have hkdfs : kd.fs = dropL k1.fs s := by rw [hkd]
   have hgD2 := good_drop hgD1 t
   obtain ⟨ke, hke⟩ : ∃ ke : Dk, ke = { kd with fs := dropL kd.fs t } := ⟨_, rfl⟩
   rw [← hke] at hgD2
   have hkefs : ke.fs = dropL kd.fs t := by rw [hke]
   have hfin : ({ ke with fs := putL ke.fs t f } : Dk) = { k1 with fs := putL (dropL k1.fs s) t f } := by
    rw [hkefs, put_dropped hgD1.rise, hkdfs, hke, hkd]
   have hno : look ke.fs t = none := by rw [hkefs, look_drop, if_pos rfl]
   obtain ⟨_, hsf, hbd⟩ := look_good hgp Hlk.out
   have hgN : ({ ke with fs := putL ke.fs t f } : Dk).Good := by
    have h1 := used_drop k1.fs hgp.rise s
    rw [Hlk.out] at h1
    have h2 := used_put kd.fs hgD1.rise t f
    have h3 : lenO (some f) = f.b.length := rfl
    have h4 := hgp.used
    have h5 : kd.room = k1.room := by rw [hkd]
    rw [h3, ← hkdfs] at h1
    have h6 := good_put hgD1 hnt hsf hbd (by omega)
    have h7 : ({ kd with fs := putL kd.fs t f } : Dk) = { ke with fs := putL ke.fs t f } := by rw [hkefs, put_dropped hgD1.rise, hke]
    rw [← h7]
    exact h6
   have hflD : kd.fs.length < 1000000 := by rw [hkdfs]; exact Nat.lt_of_le_of_lt (len_drop _ _) hfl1
   have hflE : ke.fs.length < 1000000 := by rw [hkefs]; exact Nat.lt_of_le_of_lt (len_drop _ _) hflD
   have Hkd : Hid (kd = { k1 with fs := dropL k1.fs s }) := hkd
   have Hke : Hid (ke = { kd with fs := dropL kd.fs t }) := hke
   have Hfin : Hid (({ ke with fs := putL ke.fs t f } : Dk) = { k1 with fs := putL (dropL k1.fs s) t f }) := hfin
   clear hkd hke hkdfs hkefs hfin hst2
   go_enter Tryz.func80, Tryz.ntmps80
   go_upto_region 10 with (first
    | (go_at_call 55; refine hF.mono ?_; rintro e w1 ⟨rfl, hw1⟩; replace hw1 := hw1.symm; subst hw1)
    | (go_at_call 93; refine hRt.mono ?_; rintro e w1 ⟨rfl, hw1⟩; replace hw1 := hw1.symm; subst hw1)
    | (go_at_call 57; refine hA.mono ?_; rintro e w1 ⟨rfl, hw1⟩; replace hw1 := hw1.symm; subst hw1)
    | (go_at_call 56; refine hP.mono ?_; rintro e w2 ⟨rfl, G2, hR2, hk2, hG2⟩))
   refine wp_region_lx (fun w' => Below w2.drew.heap.size w2.drew w') [10] 11 (by kernel_rfl) (by kernel_rfl) ?_
   have hVX : Below w2.heap.size w2 w2.drew := (Below.refl _ _).drew
   have hRX := hR2.below hVX
   clear hA hF hP hRt hne hjn
   obtain ⟨g0, cap0, aj, cj, q0, hcap0, qs, q1, q2, hLi, _, _, _⟩ := hRX.rowj hix.out
   obtain ⟨N, HN⟩ : ∃ N, Hid (k1.fs.length = N) := ⟨_, rfl⟩
   obtain ⟨ln, HLn⟩ : ∃ ln, Hid (f.b.length = ln) := ⟨_, rfl⟩
   rw [HN.out] at q0 hcap0 hjl
   rw [HLn.out] at q1 hLi
   have hcF : ∀ w', Below w2.drew.heap.size w2.drew w' → w'.cell? ⟨rd, 0, none⟩ = some (.slice (some ⟨g0, 0, none⟩) N cap0) := fun w' hb => (hb.cell (p := ⟨rd, 0, none⟩) (World.block_lt_of_cell? _ _ q0)).trans q0
   have hcS : ∀ w', Below w2.drew.heap.size w2.drew w' → w'.cell? ⟨g0, j * 3, none⟩ = some (.string s) := fun w' hb => (hb.cell (p := ⟨g0, j * 3, none⟩) (World.block_lt_of_cell? _ _ qs)).trans qs
   have hcB : ∀ w', Below w2.drew.heap.size w2.drew w' → w'.cell? ⟨g0, j * 3 + 1, none⟩ = some (.slice aj ln cj) := fun w' hb => (hb.cell (p := ⟨g0, j * 3 + 1, none⟩) (World.block_lt_of_cell? _ _ q1)).trans q1
   have hcN : ∀ w', Below w2.drew.heap.size w2.drew w' → w'.cell? ⟨g0, j * 3 + 2, none⟩ = some (.int .i64 (f.safe : Int)) := fun w' hb => (hb.cell (p := ⟨g0, j * 3 + 2, none⟩) (World.block_lt_of_cell? _ _ q2)).trans q2
   have hjN0 : (0 : Int) ≤ (j : Int) := by omega
   have hjN : (j : Int) < (N : Int) := by omega
   clear q0 q1 q2 qs
   generalize w2.drew = X at *
   have HSX : Below X.heap.size X X := Below.refl _ _
   refine lx_r 0 _ HSX ?_; simp only [lxa, lxb, lxc]
   refine lx_r 1 _ HSX ?_; simp only [lxa, lxb, lxc]
   refine lx_r 2 _ HSX ?_; simp only [lxa, lxb, lxc]
   refine lx_r 3 (.slice (some ⟨g0, 0, none⟩) N cap0) HSX ?_ (hv := fun w' hS => by have q := hcF _ hS; first | (go_simp; rfl) | go_simp); simp only [lxa, lxb, lxc]
   refine lx_r 4 _ HSX ?_; simp only [lxa, lxb, lxc]
   refine lx_r 5 _ HSX ?_; simp only [lxa, lxb, lxc]
   have hX0 : Below X.heap.size X (X.alloc (.cells #[.string ByteArray.empty, .slice none 0 0, .int .i64 0] 113)) := (Below.refl _ _).alloc (Nat.le_refl _) _
   have hbox := alloc_at X (.cells #[.string ByteArray.empty, .slice none 0 0, .int .i64 0] 113)
   have hltX := hRX.lt
   obtain ⟨b, hb⟩ : ∃ b, X.heap.size = b := ⟨_, rfl⟩
   obtain ⟨X0, hX0e⟩ : ∃ X0, X.alloc (.cells #[.string ByteArray.empty, .slice none 0 0, .int .i64 0] 113) = X0 := ⟨_, rfl⟩
   have HX0e : Hid (X.alloc (.cells #[.string ByteArray.empty, .slice none 0 0, .int .i64 0] 113) = X0) := hX0e
   rw [hX0e] at hX0 hbox
   have rb := hbox
   rw [hb] at rb
   have rb1 := block_setCell (i := 0) rb (.string s)
   have rb2 := block_setCell (i := 1) rb1 (.slice aj ln cj)
   have rb3 := block_setCell (i := 2) rb2 (.int .i64 (f.safe : Int))
   have c0 := cell_of_block rb 0
   have z0 := unfrozen_of_block rb 0
   have c1 := cell_of_block rb1 1
   have z1 := unfrozen_of_block rb1 1
   have c2 := cell_of_block rb2 2
   have z2 := unfrozen_of_block rb2 2
   simp at c0 c1 c2
   have hXY : Below X.heap.size X (((X0.setCell ⟨b, 0, none⟩ (.string s)).setCell ⟨b, 1, none⟩ (.slice aj ln cj)).setCell ⟨b, 2, none⟩ (.int .i64 (f.safe : Int))) := ((hX0.setCell (p := ⟨b, 0, none⟩) (by show X.heap.size ≤ b; omega) _).setCell (p := ⟨b, 1, none⟩) (by show X.heap.size ≤ b; omega) _).setCell (p := ⟨b, 2, none⟩) (by show X.heap.size ≤ b; omega) _
   have hYb : (((X0.setCell ⟨b, 0, none⟩ (.string s)).setCell ⟨b, 1, none⟩ (.slice aj ln cj)).setCell ⟨b, 2, none⟩ (.int .i64 (f.safe : Int))).heap[b]? = some (.cells #[.string s, .slice aj ln cj, .int .i64 (f.safe : Int)] 113 (0, 0)) := by rw [rb3]; rfl
   have hTail : ∀ Y, Below X.heap.size X Y → Y.heap[b]? = some (.cells #[.string s, .slice aj ln cj, .int .i64 (f.safe : Int)] 113 (0, 0)) → RefAt Y G2 rd k1 ∧ Lies Y G2 (.slice aj ln cj) f := fun Y hbY hYb => ⟨hRX.below hbY, hLi.keep (S := fun _ => False) (Keep.ofBelow hbY) (fun _ _ h => h) (fun _ h => h)⟩
   clear rb rb1 rb2 rb3 hX0e
   refine lx_two 6 9 (by kernel_rfl) ?_ ?_
   ·refine stepT_call 57 ?a6x rfl rfl rfl ?r6x ?_
    case r6x => first | (go_simp; rfl) | go_simp
    refine (hA1 _ _ hRX).mono ?_
    rintro e w4 ⟨rfl, hw4⟩
    replace hw4 := hw4.symm
    subst hw4
    refine ⟨_, rfl, fun _ => HSX, ?_⟩
    simp only [lxa, lxb, lxc]
    refine lx_r 7 (.pointer (some ⟨g0, j * 3, none⟩)) HSX ?_; simp only [lxa, lxb, lxc]
    refine lx_r 8 (.agg #[.string s, .slice aj ln cj, .int .i64 (f.safe : Int)]) HSX ?_ (hv := fun w' hS => by have q := hcS _ hS; have q1 := hcB _ hS; have q2 := hcN _ hS; first | (go_simp; rfl) | go_simp); simp only [lxa, lxb, lxc]
    refine lx_one 9 (by kernel_rfl) (stepT_val (w' := X0) (.pointer (some ⟨b, 0, none⟩)) rfl rfl rfl ?r9x (fun _ => hX0) ?_)
    case r9x => (go_simp; exact HX0e.out)
    simp only [lxa, lxb, lxc]
    refine lx_one 10 (by kernel_rfl) (stepT_store (w' := ((X0.setCell ⟨b, 0, none⟩ (.string s)).setCell ⟨b, 1, none⟩ (.slice aj ln cj)).setCell ⟨b, 2, none⟩ (.int .i64 (f.safe : Int))) rfl rfl rfl ?r10x (fun h => by cases h) ?_)
    case r10x => first | (go_simp; rfl) | go_simp
    refine lx_nil (by kernel_rfl) ?_
    obtain ⟨hRY, hLY⟩ := hTail _ hXY hYb
    generalize ((X0.setCell ⟨b, 0, none⟩ (.string s)).setCell ⟨b, 1, none⟩ (.slice aj ln cj)).setCell ⟨b, 2, none⟩ (.int .i64 (f.safe : Int)) = Y at *
    have hrdY : rd < Y.heap.size := hRY.lt rd hRY.grd
    have hbY : b < Y.heap.size := (Array.getElem?_eq_some_iff.1 hYb).1
    have hbne : b ≠ rd := fun e => by have := hltX rd hRX.grd; omega
    have hD1 := refDrop_any rd G2 k1 s hfl1 Y hRY
    rw [← Hkd.out] at hD1
    clear c0 c1 c2 z0 z1 z2 hcF hcS hcB hcN hA1 hTail hbox
    go_upto_region 12 with (first
     | (go_at_call 123; refine hD1.mono ?_; rintro e V1 ⟨rfl, ⟨G3, hR3, hk3, hG3⟩, hkk1⟩))
    have hD2 := refDrop_any rd G3 kd t hflD V1 hR3
    rw [← Hke.out] at hD2
    clear hD1
    go_upto_region 13 with (first
     | (go_at_call 123; refine hD2.mono ?_; rintro e V2 ⟨rfl, ⟨G4, hR4, hk4, hG4⟩, hkk2⟩))
    have hb2 := box_keep (box_keep hYb hkk1 hbne) hkk2 hbne
    have hG4b : ∀ i, G4 i → ¬ i = b := fun i hi e => by
     have h1 := hk3.size
     rcases hG4 i hi with h | h
     ·rcases hG3 i h with h | h
      ·have := hltX i h; omega
      ·omega
     ·omega
    have hLv : Lies V2 G2 (.slice aj ln cj) f := (hLY.keep hkk1 (fun i hi e => by
     obtain ⟨cur, h2⟩ := own_blk hLY.1 hi
     subst e
     obtain ⟨⟨v, sl, h3, _⟩, _⟩ := hRY
     rw [h3] at h2; cases h2) (fun _ h => h)).keep hkk2 (fun i hi e => by
     obtain ⟨cur, h2⟩ := own_blk hLY.1 hi
     subst e
     obtain ⟨⟨v, sl, h3, _⟩, _⟩ := hRY
     rw [h3] at h2; cases h2) (fun _ h => h)
    have hkS : Keep (fun i => i = b) V2 (V2.setCell ⟨b, 0, none⟩ (.string t)) := (Keep.refl (fun i => i = b) V2).setCell (p := ⟨b, 0, none⟩) rfl _
    have hR5 := hR4.keep hkS hG4b
    have hL5 := hLv.keep hkS (fun i hi e => by have := hltX i (hLv.2 i hi); omega) (fun _ h => h)
    have hb3 := block_setCell (i := 0) hb2 (.string t)
    have y0 := cell_of_block hb2 0
    have yz := unfrozen_of_block hb2 0
    have x0 := cell_of_block hb3 0
    have x1 := cell_of_block hb3 1
    have x2 := cell_of_block hb3 2
    simp at y0 x0 x1 x2
    have hsz12 : Y.heap.size ≤ V2.heap.size := Nat.le_trans hkk1.size hkk2.size
    have hR6 : RefAt (V2.setCell ⟨b, 0, none⟩ (.string t)) (fun i => G4 i ∨ G2 i) rd ke := hR5.wide (fun _ h => Or.inl h) (fun i hi => by
     rcases hi with h | h
     ·exact hR5.lt i h
     ·have h1 := hltX i h
      have h2 := hXY.size
      have h3 := hkS.size
      omega)
    have hPt := refPut_any rd _ ke t hno f aj ln cj hflE _ hR6 hgN ⟨hL5.1, fun g hg => Or.inr (hL5.2 g hg)⟩
    clear hD2
    go_wp2_with (first
     | (go_at_call 58; refine hPt.mono ?_; rintro e V4 ⟨rfl, hRp⟩))
    go_ret
    rw [Hfin.out] at hRp
    have hgr : G2 rd := hRY.grd
    have hkT : Keep G2 X (V2.setCell ⟨b, 0, none⟩ (.string t)) := ((Keep.ofBelow hXY).trans ((hkk1.trans hkk2).mono (fun i e => by subst e; exact hgr))).andThen hkS (fun i hi e => by omega)
    refine ⟨rfl, Rp.next hk2 hG2 (Rp.next (Keep.ofBelow hVX) (fun i hi => Or.inl hi) (Rp.next hkT (fun i hi => ?_) hRp))⟩
    have h1 := hXY.size
    have h2 := hk3.size
    rcases hi with h | h
    ·rcases hG4 i h with h | h
     ·rcases hG3 i h with h | h
      ·exact Or.inl h
      ·exact Or.inr (by omega)
     ·exact Or.inr (by omega)
    ·exact Or.inl h
   ·refine stepT_val (w' := X0) (.pointer (some ⟨b, 0, none⟩)) rfl rfl rfl ?r9y (fun _ => hX0) ?_
    case r9y => (go_simp; exact HX0e.out)
    simp only [lxa, lxb, lxc]
    refine lx_one 6 (by kernel_rfl) (stepT_call 57 ?a6y rfl rfl rfl ?r6y ?_)
    case r6y => first | (go_simp; rfl) | go_simp
    refine (hA1 _ _ (hRX.below hX0)).mono ?_
    rintro e w4 ⟨rfl, hw4⟩
    replace hw4 := hw4.symm
    subst hw4
    refine ⟨_, rfl, fun _ => hX0, ?_⟩
    simp only [lxa, lxb, lxc]
    refine lx_r 7 (.pointer (some ⟨g0, j * 3, none⟩)) hX0 ?_; simp only [lxa, lxb, lxc]
    refine lx_r 8 (.agg #[.string s, .slice aj ln cj, .int .i64 (f.safe : Int)]) hX0 ?_ (hv := fun w' hS => by have q := hcS _ hS; have q1 := hcB _ hS; have q2 := hcN _ hS; first | (go_simp; rfl) | go_simp); simp only [lxa, lxb, lxc]
    refine lx_one 10 (by kernel_rfl) (stepT_store (w' := ((X0.setCell ⟨b, 0, none⟩ (.string s)).setCell ⟨b, 1, none⟩ (.slice aj ln cj)).setCell ⟨b, 2, none⟩ (.int .i64 (f.safe : Int))) rfl rfl rfl ?r10y (fun h => by cases h) ?_)
    case r10y => first | (go_simp; rfl) | go_simp
    refine lx_nil (by kernel_rfl) ?_
    obtain ⟨hRY, hLY⟩ := hTail _ hXY hYb
    generalize ((X0.setCell ⟨b, 0, none⟩ (.string s)).setCell ⟨b, 1, none⟩ (.slice aj ln cj)).setCell ⟨b, 2, none⟩ (.int .i64 (f.safe : Int)) = Y at *
    have hrdY : rd < Y.heap.size := hRY.lt rd hRY.grd
    have hbY : b < Y.heap.size := (Array.getElem?_eq_some_iff.1 hYb).1
    have hbne : b ≠ rd := fun e => by have := hltX rd hRX.grd; omega
    have hD1 := refDrop_any rd G2 k1 s hfl1 Y hRY
    rw [← Hkd.out] at hD1
    clear c0 c1 c2 z0 z1 z2 hcF hcS hcB hcN hA1 hTail hbox
    go_upto_region 12 with (first
     | (go_at_call 123; refine hD1.mono ?_; rintro e V1 ⟨rfl, ⟨G3, hR3, hk3, hG3⟩, hkk1⟩))
    have hD2 := refDrop_any rd G3 kd t hflD V1 hR3
    rw [← Hke.out] at hD2
    clear hD1
    go_upto_region 13 with (first
     | (go_at_call 123; refine hD2.mono ?_; rintro e V2 ⟨rfl, ⟨G4, hR4, hk4, hG4⟩, hkk2⟩))
    have hb2 := box_keep (box_keep hYb hkk1 hbne) hkk2 hbne
    have hG4b : ∀ i, G4 i → ¬ i = b := fun i hi e => by
     have h1 := hk3.size
     rcases hG4 i hi with h | h
     ·rcases hG3 i h with h | h
      ·have := hltX i h; omega
      ·omega
     ·omega
    have hLv : Lies V2 G2 (.slice aj ln cj) f := (hLY.keep hkk1 (fun i hi e => by
     obtain ⟨cur, h2⟩ := own_blk hLY.1 hi
     subst e
     obtain ⟨⟨v, sl, h3, _⟩, _⟩ := hRY
     rw [h3] at h2; cases h2) (fun _ h => h)).keep hkk2 (fun i hi e => by
     obtain ⟨cur, h2⟩ := own_blk hLY.1 hi
     subst e
     obtain ⟨⟨v, sl, h3, _⟩, _⟩ := hRY
     rw [h3] at h2; cases h2) (fun _ h => h)
    have hkS : Keep (fun i => i = b) V2 (V2.setCell ⟨b, 0, none⟩ (.string t)) := (Keep.refl (fun i => i = b) V2).setCell (p := ⟨b, 0, none⟩) rfl _
    have hR5 := hR4.keep hkS hG4b
    have hL5 := hLv.keep hkS (fun i hi e => by have := hltX i (hLv.2 i hi); omega) (fun _ h => h)
    have hb3 := block_setCell (i := 0) hb2 (.string t)
    have y0 := cell_of_block hb2 0
    have yz := unfrozen_of_block hb2 0
    have x0 := cell_of_block hb3 0
    have x1 := cell_of_block hb3 1
    have x2 := cell_of_block hb3 2
    simp at y0 x0 x1 x2
    have hsz12 : Y.heap.size ≤ V2.heap.size := Nat.le_trans hkk1.size hkk2.size
    have hR6 : RefAt (V2.setCell ⟨b, 0, none⟩ (.string t)) (fun i => G4 i ∨ G2 i) rd ke := hR5.wide (fun _ h => Or.inl h) (fun i hi => by
     rcases hi with h | h
     ·exact hR5.lt i h
     ·have h1 := hltX i h
      have h2 := hXY.size
      have h3 := hkS.size
      omega)
    have hPt := refPut_any rd _ ke t hno f aj ln cj hflE _ hR6 hgN ⟨hL5.1, fun g hg => Or.inr (hL5.2 g hg)⟩
    clear hD2
    go_wp2_with (first
     | (go_at_call 58; refine hPt.mono ?_; rintro e V4 ⟨rfl, hRp⟩))
    go_ret
    rw [Hfin.out] at hRp
    have hgr : G2 rd := hRY.grd
    have hkT : Keep G2 X (V2.setCell ⟨b, 0, none⟩ (.string t)) := ((Keep.ofBelow hXY).trans ((hkk1.trans hkk2).mono (fun i e => by subst e; exact hgr))).andThen hkS (fun i hi e => by omega)
    refine ⟨rfl, Rp.next hk2 hG2 (Rp.next (Keep.ofBelow hVX) (fun i hi => Or.inl hi) (Rp.next hkT (fun i hi => ?_) hRp))⟩
    have h1 := hXY.size
    have h2 := hk3.size
    rcases hi with h | h
    ·rcases hG4 i h with h | h
     ·rcases hG3 i h with h | h
      ·exact Or.inl h
      ·exact Or.inr (by omega)
     ·exact Or.inr (by omega)
    ·exact Or.inl h
 ·have hne : ((en : Int) != 0) = true := by simp; omega
  have hne2 : ((en : Int) == 0) = false := by simp; omega
  go_enter Tryz.func80, Tryz.ntmps80
  go_wp2_with (first
   | (go_at_call 55; refine hF.mono ?_; rintro e w1 ⟨rfl, hw1⟩; replace hw1 := hw1.symm; subst hw1)
   | (go_at_call 93; refine hRt.mono ?_; rintro e w1 ⟨rfl, hw1⟩; replace hw1 := hw1.symm; subst hw1)
   | (go_at_call 57; refine hA.mono ?_; rintro e w1 ⟨rfl, hw1⟩; replace hw1 := hw1.symm; subst hw1)
   | (go_at_call 56; refine hP.mono ?_; rintro e w2 ⟨rfl, hRp⟩))
  go_ret
  exact Or.inl ⟨hen, rfl, hRp⟩
theorem refRename_any (rd : Nat) (G : Nat → Prop) (k : Dk) (s t : Nm) (hs : s.size ≤ 9223372036854775807) (ht : t.size ≤ 9223372036854775807) (hst : k.steps < 1000000) (hfl : k.fs.length < 1000000) (w : World) (hR : RefAt w G rd k) :
  Calls Tryz.prog 80 #[.pointer (some ⟨rd, 0, none⟩), .string s, .string t] w fun e w' => e = .returned (.int .i64 (renameK k s t).1) ∧ Rp w G rd (renameK k s t).2 w' := by
 by_cases h : renE k s t = 0
 ·obtain ⟨on, hns, hnt, f, hlk, e⟩ := renameK_yes k s t h
  rw [e]
  refine (refRename_go rd G k s t hs ht hst hfl w hR on hns hnt f hlk).mono ?_
  rintro e w' (⟨h0, rfl, hDp⟩ | ⟨h0, rfl, hDp⟩)
  ·rw [if_pos h0]
   exact ⟨rfl, hDp⟩
  ·rw [if_neg (by simp [h0])]
   exact ⟨rfl, hDp⟩
 ·rw [renameK_no k s t h]
  refine (refRename_no rd G k s t hs ht w hR h).mono ?_
  rintro e w' ⟨rfl, rfl⟩
  exact ⟨rfl, Rp.refl hR⟩
end Go.Proofs.YtikkieaokfailaaGreatDoor

namespace Go.Proofs.YtikkieaokfailaaGreatDoor
open Go.RowKit Go.Joins
theorem drop_head {rs : List (List Int)} {j : Nat} (h : j < rs.length) : rs.drop j = rs.getD j [] :: rs.drop (j + 1) := by
 rw [List.drop_eq_getElem_cons h, List.getD_eq_getElem?_getD, List.getElem?_eq_getElem h]
 rfl
theorem take_next {rs : List (List Int)} {j : Nat} (h : j < rs.length) : rs.take (j + 1) = rs.take j ++ [rs.getD j []] := by
 rw [List.take_add_one, List.getElem?_eq_getElem h, List.getD_eq_getElem?_getD, List.getElem?_eq_getElem h]
 rfl
theorem ren_gr (k : Dk) (s t : Nm) : (renameK k s t).2.steps ≤ k.steps + 1 ∧ (renameK k s t).2.fs.length ≤ k.fs.length + 1 := by
 unfold renameK stepK
 have h1 := pass_steps k
 have h2 := pass_fs k
 split
 ·exact ⟨Nat.le_succ _, Nat.le_succ _⟩
 ·split
  ·exact ⟨Nat.le_succ _, Nat.le_succ _⟩
  ·split
   ·exact ⟨Nat.le_succ _, Nat.le_succ _⟩
   ·split
    ·exact ⟨Nat.le_succ _, Nat.le_succ _⟩
    ·split
     ·exact ⟨Nat.le_succ _, Nat.le_succ _⟩
     ·split
      ·exact ⟨h1, by rw [h2]; exact Nat.le_succ _⟩
      ·refine ⟨h1, Nat.le_trans (len_put _ _ _) ?_⟩
       have h3 := len_drop (passK k).2.fs s
       rw [h2] at h3 ⊢
       omega
theorem RTwo.start {w X : World} {G H : Nat → Prop} {rl rd : Nat} {l : Lg} {k : Dk} (h : RLogAt w G H rl rd l k) (hd : l.dn = false) (hX : X = (w.drew).alloc (.cells (rlcs rd l.most (.slice none 0 0) ⟨l.ch.g + 1, 0, 0, false⟩ false) 90)) :
  ∃ v, RTwo w G H rl w.heap.size rd l v X G (fun _ => False) false ⟨l.most, [], ⟨l.ch.g + 1, 0, 0, false⟩, false⟩ k := by
 have hb : Below w.heap.size w X := by rw [hX]; exact ((Below.refl _ _).drew).alloc (Nat.le_refl _) _
 have hA := h.below hb
 obtain ⟨v, hD, hR⟩ := hA.ex
 rw [hd] at hD
 have hrl : rl < w.heap.size := by
  obtain ⟨v0, hD0, _⟩ := h.ex
  exact hD0.lt
 have hblk : X.heap[w.heap.size]? = some (.cells (rlcs rd l.most (.slice none 0 0) ⟨l.ch.g + 1, 0, 0, false⟩ false) 90 (0, 0)) := by
  rw [hX]
  exact alloc_at w.drew _
 have hnG : ¬ G w.heap.size := fun hg => by
  obtain ⟨v0, hD0, _⟩ := h.ex
  have := hD0.R.lt _ hg
  omega
 exact ⟨v, hD, hR, ⟨⟨_, ⟨hblk, hD.R, hnG⟩, rcA_nil _ _⟩, (fun _ h => h.elim), (fun h => h), (fun _ h => h.elim)⟩, h.hf, h.hl, by omega, (fun _ h => h.elim), Nat.le_refl _, h.lt, hrl, Keep.ofBelow hb, fun _ hi => Or.inl hi⟩
set_option maxRecDepth 400000 in
set_option maxHeartbeats 16000000 in
theorem rrebase_any (w : World) (G H : Nat → Prop) (rl rd : Nat) (l : Lg) (k : Dk) (h : RLogAt w G H rl rd l k) (hg : l.ch.g < 18446744073709551616) (hcnt : l.ch.cnt ≤ 10000) (hmo : l.most ≤ 1000000000)
  (a : Option Addr) (n cc : Nat) (rs : List (List Int)) (hR : RRd w a n rs) (hnS : RNot w a n (fun i => G i ∨ i = rl)) (hn : n ≤ 10000) (hst : k.steps < 900000) (hfl : k.fs.length < 900000) :
  Calls Tryz.prog 32 #[.pointer (some ⟨rl, 0, none⟩), .slice a n cc] w fun e w' => e = .returned (.int .i64 ((rebaseT l k rs).1 : Int)) ∧ Rgp w G H rl rd (rebaseT l k rs).2.1 (rebaseT l k rs).2.2 w' := by
 have Hn : Hid (rs.length = n) := hR.len
 have hnm := hR.most
 obtain ⟨Q, HQ0⟩ : ∃ Q, Hid (rebaseT l k rs = Q) := ⟨_, rfl⟩
 rw [HQ0.out]
 go_enter Tryz.func32, Tryz.ntmps32
 go_upto_region 2 with fail
 go_loopw [5] (fun s5 wr => ∃ j : Nat, s5 = .int .i64 j ∧ j ≤ n ∧ Hid (∀ i r, i < j → rs[i]? = some r → r.length ≤ 1048576) ∧ wr = w) (fun s5 _ => n - (intOf s5).toNat)
 case atStart => exact ⟨0, rfl, by omega, fun i r hi => by omega, rfl⟩
 case round =>
  obtain ⟨j, rfl, hjn, HJ, hwr⟩ := hrel
  replace hwr := hwr.symm
  subst hwr
  by_cases hlt : j < n
  ·have hcl : (j : Int) < (n : Int) := by omega
   obtain ⟨bb, off, rfl, hce⟩ := hR.flat (by omega)
   obtain ⟨aj, nj, cj, hcj, hrj⟩ := hce j hlt
   obtain ⟨r, hr⟩ : ∃ r, rs[j]? = some r := ⟨_, List.getElem?_eq_getElem (by rw [Hn.out]; exact hlt)⟩
   have hrd : rs.getD j [] = r := by rw [List.getD_eq_getElem?_getD, hr]; rfl
   rw [hrd] at hrj
   have hcap := hrj.cap
   have hmx : cj ≤ 9223372036854775807 := hrj.most
   have hl := hrj.len
   clear hce hrd hrj
   by_cases hb : 1048576 < nj
   ·have zb : (1048576 : Int) < (nj : Int) := by omega
    have HE : Hid (Q = (5, l, k)) := by
     show _ = _
     rw [← HQ0.out]
     unfold rebaseT bigs
     rw [if_pos]
     rw [List.any_eq_true]
     exact ⟨r, List.mem_of_getElem? hr, by rw [hl]; exact decide_eq_true hb⟩
    clear hr hb hl
    go_wp2
    go_ret
    exact ⟨by rw [HE.out]; rfl, by rw [HE.out]; exact Rgp.refl h⟩
   ·have zb : ¬ (1048576 : Int) < (nj : Int) := by omega
    have HJ2 : Hid (∀ i r, i < j + 1 → rs[i]? = some r → r.length ≤ 1048576) := fun i x hi hx => by
     by_cases e : i < j
     ·exact HJ.out i x e hx
     ·obtain rfl : i = j := by omega
      rw [hr] at hx
      cases hx
      omega
    clear hr hb hl
    go_wp2
    exact ⟨⟨j + 1, by go_num, by omega, HJ2.out, by first | rfl | trivial⟩, by simp [intOf]; omega⟩
  ·have hcl : ¬ (j : Int) < (n : Int) := by omega
   have HB : Hid (bigs rs = false) := by
    show _ = _
    unfold bigs
    rw [List.any_eq_false]
    intro r hr
    obtain ⟨i, hi⟩ := List.getElem?_of_mem hr
    have hil := (List.getElem?_eq_some_iff.1 hi).1
    rw [Hn.out] at hil
    have := HJ.out i r (by omega) hi
    simp
    omega
   clear HJ hlt hjn
   obtain ⟨v0, hD0, hRc0⟩ := h.ex
   have q2 := hD0.c2
   have q7 := hD0.c7
   by_cases hgm : l.ch.g = 18446744073709551615
   ·rw [hgm] at q2
    have HE : Hid (Q = (14, l, k)) := by
     show _ = _
     rw [← HQ0.out]
     unfold rebaseT
     rw [HB.out, if_neg (by decide), if_pos hgm]
    clear hgm
    go_wp2
    go_ret
    exact ⟨by rw [HE.out]; rfl, by rw [HE.out]; exact Rgp.refl h⟩
   ·have hgz : ((l.ch.g : Int) == 18446744073709551615) = false := by rw [beq_eq_false_iff_ne]; omega
    have hgz2 : ¬ (l.ch.g : Int) = 18446744073709551615 := by omega
    have HQ1 : Hid (rebaseL l k rs = Q) := by
     show _ = _
     rw [← HQ0.out]
     unfold rebaseT
     rw [HB.out, if_neg (by decide), if_neg hgm]
    clear HQ0
    cases hd : l.dn with
    | true =>
     rw [hd] at q7
     have HE : Hid (Q = (13, l, k)) := by
      show _ = _
      rw [← HQ1.out, rebase_dead l k rs hd]
     go_wp2
     go_ret
     exact ⟨by rw [HE.out]; rfl, by rw [HE.out]; exact Rgp.refl h⟩
    | false =>
     rw [hd] at q7
     have hbX : Below w.heap.size w w.drew := (Below.refl _ _).drew
     have hDX := hD0.below hbX
     have HS0 : w.drew.cell? ⟨rl, 0, none⟩ = some (.pointer (some ⟨rd, 0, none⟩)) ∧ w.drew.cell? ⟨rl, 1, none⟩ = some (.int .i64 (l.most : Int)) ∧ w.drew.cell? ⟨rl, 2, none⟩ = some (.int .u64 (l.ch.g : Int)) := ⟨hDX.c0, hDX.c1, hDX.c2⟩
     obtain ⟨v, HT0⟩ : ∃ v, Hid (RTwo w G H rl w.heap.size rd l v (w.drew.alloc (.cells #[.pointer (some ⟨rd, 0, none⟩), .int .i64 (l.most : Int), .int .u64 ((l.ch.g : Int) + 1), .slice none 0 0, .int .i64 0, .int .i64 0, .bool false, .bool false] 90)) G (fun _ => False) false ⟨l.most, [], ⟨l.ch.g + 1, 0, 0, false⟩, false⟩ k) := RTwo.start h hd rfl
     clear hD0 hRc0 hDX
     have HS00 := HS0
     clear HS0
     go_upto_region 10 with fail
     have HS0 := HS00
     have hgb : (l.ch.g : Int) + 1 ≤ 18446744073709551615 := by omega
     have hgb0 : 0 ≤ (l.ch.g : Int) + 1 := by omega
     have hgw : IntKind.u64.wrap ((l.ch.g : Int) + 1) = (l.ch.g : Int) + 1 := by rw [IntKind.wrap_u64]; omega
     have hsh : w.drew.heap.size = w.heap.size := rfl
     clear q2 q7 hgz hgz2 HS00
     refine wp_region_lx (fun w' => w'.cell? ⟨rl, 0, none⟩ = some (.pointer (some ⟨rd, 0, none⟩)) ∧ w'.cell? ⟨rl, 1, none⟩ = some (.int .i64 (l.most : Int)) ∧ w'.cell? ⟨rl, 2, none⟩ = some (.int .u64 (l.ch.g : Int))) [] 16 (by kernel_rfl) (by kernel_rfl) ?_
     generalize w.drew = X at *
     refine lx_r 0 (.pointer (some ⟨rl, 0, none⟩)) HS0 ?_; simp only [lxa, lxb, lxc]
     refine lx_r 1 (.pointer (some ⟨rl, 0, none⟩)) HS0 ?_; simp only [lxa, lxb, lxc]
     refine lx_r 2 (.pointer (some ⟨rl, 0, none⟩)) HS0 ?_; simp only [lxa, lxb, lxc]
     refine lx_r 3 (.pointer (some ⟨rd, 0, none⟩)) HS0 ?_ (hv := fun w' hS => by have q := hS.1; first | (go_simp; rfl) | go_simp); simp only [lxa, lxb, lxc]
     refine lx_r 4 (.pointer (some ⟨rl, 0, none⟩)) HS0 ?_; simp only [lxa, lxb, lxc]
     refine lx_r 5 (.pointer (some ⟨rl, 0, none⟩)) HS0 ?_; simp only [lxa, lxb, lxc]
     refine lx_r 6 (.pointer (some ⟨rl, 1, none⟩)) HS0 ?_; simp only [lxa, lxb, lxc]
     refine lx_r 7 (.int .i64 (l.most : Int)) HS0 ?_ (hv := fun w' hS => by have q := hS.2.1; first | (go_simp; rfl) | go_simp); simp only [lxa, lxb, lxc]
     refine lx_r 8 (.pointer (some ⟨rl, 0, none⟩)) HS0 ?_; simp only [lxa, lxb, lxc]
     refine lx_r 9 (.pointer (some ⟨rl, 0, none⟩)) HS0 ?_; simp only [lxa, lxb, lxc]
     refine lx_r 10 (.pointer (some ⟨rl, 2, none⟩)) HS0 ?_; simp only [lxa, lxb, lxc]
     refine lx_r 11 (.int .u64 (l.ch.g : Int)) HS0 ?_ (hv := fun w' hS => by have q := hS.2.2; first | (go_simp; rfl) | go_simp); simp only [lxa, lxb, lxc]
     refine lx_r 12 (.int .u64 ((l.ch.g : Int) + 1)) HS0 ?_ (hv := fun w' hS => by have q := hgw; first | (go_simp; rfl) | go_simp); simp only [lxa, lxb, lxc]
     refine lx_r 13 (.agg #[.pointer (some ⟨rd, 0, none⟩), .int .i64 (l.most : Int), .int .u64 ((l.ch.g : Int) + 1), .slice none 0 0, .int .i64 0, .int .i64 0, .bool false, .bool false]) HS0 ?_; simp only [lxa, lxb, lxc]
     have HS1 : ∀ o, ((X.alloc o).cell? ⟨rl, 0, none⟩ = some (.pointer (some ⟨rd, 0, none⟩)) ∧ (X.alloc o).cell? ⟨rl, 1, none⟩ = some (.int .i64 (l.most : Int)) ∧ (X.alloc o).cell? ⟨rl, 2, none⟩ = some (.int .u64 (l.ch.g : Int))) := fun o =>
      ⟨((Keep.refl (fun _ => False) X).alloc o).cell HS0.1 (fun h => h), ((Keep.refl (fun _ => False) X).alloc o).cell HS0.2.1 (fun h => h), ((Keep.refl (fun _ => False) X).alloc o).cell HS0.2.2 (fun h => h)⟩
     refine lx_one 14 (by kernel_rfl) (stepT_val (w' := X.alloc (.cells #[.pointer (some ⟨rd, 0, none⟩), .int .i64 (l.most : Int), .int .u64 ((l.ch.g : Int) + 1), .slice none 0 0, .int .i64 0, .int .i64 0, .bool false, .bool false] 90)) (.pointer (some ⟨X.heap.size, 0, none⟩)) rfl rfl rfl ?r14 (fun _ => HS1 _) ?_)
     case r14 => first | (go_simp; rfl) | go_simp
     simp only [lxa, lxb, lxc]
     replace HS1 := HS1 (.cells #[.pointer (some ⟨rd, 0, none⟩), .int .i64 (l.most : Int), .int .u64 ((l.ch.g : Int) + 1), .slice none 0 0, .int .i64 0, .int .i64 0, .bool false, .bool false] 90)
     generalize X.alloc (.cells #[.pointer (some ⟨rd, 0, none⟩), .int .i64 (l.most : Int), .int .u64 ((l.ch.g : Int) + 1), .slice none 0 0, .int .i64 0, .int .i64 0, .bool false, .bool false] 90) = Y at *
     rw [hsh]
     generalize w.heap.size = rh at HT0 ⊢
     refine lx_r 15 (.pointer (some ⟨rh, 0, none⟩)) HS1 ?_; simp only [lxa, lxb, lxc]
     refine lx_nil (by kernel_rfl) ?_
     have HQ2 : Hid (rb1L l rs (room1 (layAllL l.most (rs.drop 0) ⟨l.ch.g + 1, 0, 0, false⟩ false k)) = Q) := by
      show _ = _
      rw [← HQ1.out, List.drop_zero]
      unfold rebaseL
      rw [hd]
     clear HS0 HS1 hsh hbX HQ1
     go_upto_region 12 with fail
     go_loopw [7, 8] (fun s7 _ wr => ∃ (j : Nat) (G1 K1 : Nat → Prop) (ch : Ch) (k1 : Dk), s7 = .int .i64 j ∧ j ≤ n ∧ k1.steps ≤ k.steps + 2 * j ∧ k1.fs.length ≤ k.fs.length + 2 * j ∧ ch.g = l.ch.g + 1 ∧ ch.cnt ≤ j + 1 ∧ ch.size ≤ j * 1048584 ∧ Hid (ch.cnt = 0 → ch.size = 0) ∧ Hid (RTwo w G H rl rh rd l v wr G1 K1 false ⟨l.most, rs.take j, ch, false⟩ k1) ∧ Hid (rb1L l rs (room1 (layAllL l.most (rs.drop j) ch false k1)) = Q)) (fun s7 _ _ => n - (intOf s7).toNat)
     case atStart => exact ⟨0, G, fun _ => False, _, k, rfl, by omega, by omega, by omega, rfl, by show 0 ≤ 1; omega, by show 0 ≤ _; omega, fun _ => rfl, HT0.out, HQ2.out⟩
     case round =>
      clear HT0 HQ2
      obtain ⟨j, G1, K1, ch, k1, rfl, hjn, hs1, hf1, hchg, hchc, hchs, Hz0, HT, HQ⟩ := hrel
      by_cases hlt : j < n
      ·have hcl : (j : Int) < (n : Int) := by omega
       have hRr := hR.keepS hnS HT.out.kp
       obtain ⟨bb, off, rfl, hce⟩ := hRr.flat (by omega)
       obtain ⟨aj, nj, cj, hcj, hrj⟩ := hce j hlt
       have hjl : j < rs.length := by rw [Hn.out]; exact hlt
       have HQn : Hid (rb1L l rs (room1 (layAllL l.most (rs.getD j [] :: rs.drop (j + 1)) ch false k1)) = Q) := by
        show _ = _
        rw [← drop_head hjl]
        exact HQ.out
       have Htk : Hid (rs.take (j + 1) = rs.take j ++ [rs.getD j []]) := take_next hjl
       have hrlen : (rs.getD j []).length ≤ 1048576 := by
        have hm : rs.getD j [] ∈ rs := by
         rw [List.getD_eq_getElem?_getD, List.getElem?_eq_getElem hjl]
         exact List.getElem_mem hjl
        exact bigs_no HB.out _ hm
       clear hce hRr HQ hjl
       obtain ⟨r, Hr⟩ : ∃ r, Hid (rs.getD j [] = r) := ⟨_, rfl⟩
       rw [Hr.out] at HQn Htk hrlen hrj
       have hnl := hrj.len
       have hcap := hrj.cap
       have hmx : cj ≤ 9223372036854775807 := hrj.most
       have hbr := hrj.bytes
       have hfo := rform_any aj nj cj r wr hrj (by omega)
       have hfb : Bd (formL r) := by unfold formL; exact ((bigL_bd _ _).append (bigL_bd _ _)).append hbr
       have hfl2 : (formL r).length = 8 + nj := by unfold formL; simp [bigL_len, hnl]; omega
       obtain ⟨vh, hDh, hRh⟩ := HT.out.A.ex
       dsimp only at hDh hRh
       have hGl := hDh.R.lt
       have hrhl := hDh.lt
       have hla := fun w' (hb : Below wr.heap.size wr w') a' n' c' hR' (hn' : n' ≤ 2000000) hRG' => rlay_any w' G1 rh rd l.most vh ch k1 (hDh.below hb) (by omega) (by omega) (by omega) (by omega) Hz0.out (by omega) (by omega) a' n' c' (formL r) hR' hn' hRG'
       have lg := lay_gr l.most ch (formL r) false k1
       have ldn := lay_dn l.most ch (formL r) k1
       have lcn := lay_cnt l.most ch (formL r) k1
       obtain ⟨P, HP⟩ : ∃ P, layL l.most ch (formL r) false k1 = P := ⟨_, rfl⟩
       rw [HP] at lg ldn lcn
       simp only [HP] at hla
       have HP' : Hid (layL l.most ch (formL r) false k1 = P) := HP
       clear HP
       obtain ⟨en, c2, dn2, k2⟩ := P
       dsimp only at hla lg ldn lcn
       rw [hfl2] at lg
       obtain ⟨lg1, lg2, lg3, lg4, lg5⟩ := lg
       have hgc : c2.g < 18446744073709551616 := by omega
       clear hDh
       go_upto_region 15 with (first
        | (go_at_call 76; refine hfo.mono ?_; clear hfo; rintro e w3 ⟨v3, rfl, o3, hb3⟩; obtain ⟨a3, c3, rfl, r3⟩ := Rd.ofOwn o3 hfb)
        | (go_at_call 75; refine (hla w3 hb3 a3 (8 + nj) c3 r3 (by omega) (fun ad had => by
          rcases o3.2 with ⟨e, _⟩ | ⟨g, cap, cur, e, hg3, hgc3, _⟩
          ·injection e with e1; rw [e1] at had; cases had
          ·injection e with e1; rw [e1] at had; cases had
           exact ⟨fun hf => by have := hGl _ hf; dsimp only at this; omega, by dsimp only; omega, (Array.getElem?_eq_some_iff.1 hgc3).1⟩)).mono ?_; clear hla; rintro e w4 ⟨rfl, hp4⟩; obtain ⟨G4, T4⟩ := (HT.out.below hb3).callH (hRh.keep (S := fun _ => False) (Keep.ofBelow hb3) (fun _ _ h => h) (fun _ h => h)) hp4; have hdw := rdown_any w4 G4 rl rd l.most v l.ch false k2 T4.L en)
        | (go_at_call 74; refine hdw.mono ?_; clear hdw; rintro e w5 ⟨rfl, hp5⟩; obtain ⟨G5, T5⟩ := T4.callL hp5))
       have hdd : (if en = 13 then true else false) = dn2 := by
        rw [ldn]
        by_cases e13 : en = 13
        ·rw [if_pos e13, decide_eq_true e13]
        ·rw [if_neg e13, decide_eq_false e13]
       rw [hdd] at T5
       clear hdd hp4 hp5 T4 hRh r3 o3 hrj
       by_cases h0 : en = 0
       ·subst h0
        have e2 : dn2 = false := ldn
        subst e2
        have HQ2 : Hid (rb1L l rs (room1 (layAllL l.most (rs.drop (j + 1)) c2 false k2)) = Q) := by
         show _ = _
         rw [← layAll_ok (r := r) HP'.out]
         exact HQn.out
        clear HQn HP'
        have hcnt1 := lcn rfl
        clear ldn lcn
        rw [show ((0 : Nat) : Int) = 0 from rfl]
        have hRr5 := hR.keepS hnS T5.kp
        obtain ⟨bb5, off5, e5, hce5⟩ := hRr5.flat (by omega)
        injection e5 with e5
        injection e5 with e51 e52
        subst e51 e52
        obtain ⟨ak, nk, ck, hck, hrk⟩ := hce5 j hlt
        rw [Hr.out] at hrk
        clear hce5 hRr5 hcj
        have hbX : Below w5.heap.size w5 w5.drew := (Below.refl _ _).drew
        have TX := T5.below hbX
        obtain ⟨v2, hDX, hRX⟩ := TX.A.ex
        dsimp only at hDX hRX
        have hrX := hrk.carry (Nat.le_refl _) hbX
        have HSX : w5.drew.cell? ⟨rh, 3, none⟩ = some v2 ∧ w5.drew.cell? ⟨bb, off + j, none⟩ = some (.slice ak nk ck) := ⟨hDX.c3, (hbX.cell (World.block_lt_of_cell? _ _ hck)).trans hck⟩
        have hnk := hrk.len
        have htl : (rs.take j).length = j := by rw [List.length_take, Hn.out]; omega
        clear hck hrk hbX T5
        go_upto_region 19 with fail
        refine wp_region_lx (fun w' => w'.cell? ⟨rh, 3, none⟩ = some v2 ∧ w'.cell? ⟨bb, off + j, none⟩ = some (.slice ak nk ck)) [15] 16 (by kernel_rfl) (by kernel_rfl) ?_
        generalize w5.drew = X at *
        refine lx_r 0 (.pointer (some ⟨rh, 0, none⟩)) HSX ?_; simp only [lxa, lxb, lxc]
        refine lx_r 1 (.pointer (some ⟨rh, 0, none⟩)) HSX ?_; simp only [lxa, lxb, lxc]
        refine lx_r 2 (.pointer (some ⟨rh, 0, none⟩)) HSX ?_; simp only [lxa, lxb, lxc]
        refine lx_r 3 (.pointer (some ⟨rh, 3, none⟩)) HSX ?_; simp only [lxa, lxb, lxc]
        refine lx_r 4 v2 HSX ?_ (hv := fun w' hS => by have q := hS.1; first | (go_simp; rfl) | go_simp); simp only [lxa, lxb, lxc]
        refine lx_r 6 (.slice (some ⟨bb, off, none⟩) n cc) HSX ?_; simp only [lxa, lxb, lxc]
        refine lx_r 7 (.int .i64 (j : Int)) HSX ?_; simp only [lxa, lxb, lxc]
        refine lx_r 8 (.pointer (some ⟨bb, off + j, none⟩)) HSX ?_; simp only [lxa, lxb, lxc]
        refine lx_r 9 (.slice ak nk ck) HSX ?_ (hv := fun w' hS => by have q := hS.2; first | (go_simp; rfl) | go_simp); simp only [lxa, lxb, lxc]
        have t5 : ∀ p x, X.cell? p = some x → (X.alloc (.cells #[] 5)).cell? p = some x := fun p x hx => ((Keep.refl (fun _ => False) X).alloc _).cell hx (fun h => h)
        refine lx_one 5 (by kernel_rfl) (stepT_val (w' := X.alloc (.cells #[] 5)) (.slice (some ⟨X.heap.size, 0, none⟩) 0 0) rfl rfl rfl ?r5 (fun _ => ⟨t5 _ _ HSX.1, t5 _ _ HSX.2⟩) ?_)
        case r5 => first | (go_simp; rfl) | go_simp
        simp only [lxa, lxb, lxc]
        have hown5 : (X.alloc (.cells #[] 5)).ownsRow X.heap.size 5 1 (.slice (some ⟨X.heap.size, 0, none⟩) 0 0) 0 (bc []) := World.ownsRow_made X #[] 0 (Nat.le_refl _) (by unfold maxLen; omega) rfl
        have hb5 : Below X.heap.size X (X.alloc (.cells #[] 5)) := (Below.refl _ _).alloc (Nat.le_refl _) _
        obtain ⟨v7, w7, hrun7, o7, hb7⟩ := run_appJ 29 hown5 (hrX.carry (Nat.le_refl _) hb5) (by omega) hb5.size
        rw [Nat.zero_add, List.nil_append] at o7
        have hbX7 : Below X.heap.size X w7 := hb5.trans hb7
        obtain ⟨a7, c7, rfl, _⟩ := Rd.ofOwn o7 hbr
        have t7 : w7.cell? ⟨rh, 3, none⟩ = some v2 ∧ w7.cell? ⟨bb, off + j, none⟩ = some (.slice ak nk ck) := ⟨(hbX7.cell (World.block_lt_of_cell? _ _ HSX.1)).trans HSX.1, (hbX7.cell (World.block_lt_of_cell? _ _ HSX.2)).trans HSX.2⟩
        refine lx_one 10 (by kernel_rfl) (stepT_val (w' := w7) (.slice a7 nk c7) rfl rfl rfl (exec_appJ rfl rfl rfl hrun7) (fun _ => t7) ?_)
        simp only [lxa, lxb, lxc]
        have t8 : ∀ p x, w7.cell? p = some x → (w7.alloc (.cells #[.slice a7 nk c7] 29)).cell? p = some x := fun p x hx => ((Keep.refl (fun _ => False) w7).alloc _).cell hx (fun h => h)
        refine lx_one 11 (by kernel_rfl) (stepT_val (w' := w7.alloc (.cells #[.slice a7 nk c7] 29)) (.slice (some ⟨w7.heap.size, 0, none⟩) 1 1) rfl rfl rfl ?r8 (fun _ => ⟨t8 _ _ t7.1, t8 _ _ t7.2⟩) ?_)
        case r8 => first | (go_simp; rfl) | go_simp
        simp only [lxa, lxb, lxc]
        obtain ⟨⟨vs, ov, hvs⟩, hvo⟩ := hRX.keep (S := fun _ => False) (H' := K1) (Keep.ofBelow hbX7) (fun _ _ h => h) (fun _ h => h)
        obtain ⟨v9, w9, hrun9, ov9, hk9, hwh9⟩ := run_appW 30 ov a7 nk c7 (by rw [htl]; omega) (Nat.zero_le _)
        obtain ⟨a9, c9, rfl⟩ := own_sl ov9
        have hKlt := TX.A.lt
        have nrh : ¬ v2.ownBlock = some rh := fun hv => TX.A.hl (hvo rh hv)
        have nbb : ¬ v2.ownBlock = some bb := fun hv => by
         have h9 := TX.Kn _ (hvo bb hv)
         have h8 := TX.kp.size
         obtain ⟨b9, o9, e9, hc9⟩ := hR.flat (by omega)
         injection e9 with e9
         injection e9 with e91 e92
         subst e91 e92
         obtain ⟨_, _, _, hc10, _⟩ := hc9 j hlt
         have := World.block_lt_of_cell? _ _ hc10
         dsimp only at this
         omega
        have t9 : w9.cell? ⟨rh, 3, none⟩ = some v2 ∧ w9.cell? ⟨bb, off + j, none⟩ = some (.slice ak nk ck) := ⟨hk9.cell (p := ⟨rh, 3, none⟩) t7.1 nrh, hk9.cell (p := ⟨bb, off + j, none⟩) t7.2 nbb⟩
        obtain ⟨K9, hA9, hkA9, hK9, f9⟩ := radd_rec (l := ⟨l.most, rs.take j, c2, false⟩) TX.A hDX hRX hbX7 o7 hnk hbr ov hvs ov9 hk9 hwh9
        dsimp only at hA9 hkA9
        rw [htl] at hrun9 hA9 hkA9
        rw [← Htk.out] at hA9
        refine lx_one 12 (by kernel_rfl) (stepT_val (w' := w9) (.slice a9 (j + 1) c9) rfl rfl rfl (exec_appW rfl rfl rfl hrun9) (fun _ => t9) ?_)
        simp only [lxa, lxb, lxc]
        refine lx_one 13 (by kernel_rfl) (stepT_val (w' := w9) (.pointer (some ⟨rh, 0, none⟩)) rfl rfl rfl ?r13 (fun _ => t9) ?_)
        case r13 => first | (go_simp; rfl) | go_simp
        simp only [lxa, lxb, lxc]
        refine lx_one 14 (by kernel_rfl) (stepT_val (w' := w9) (.pointer (some ⟨rh, 3, none⟩)) rfl rfl rfl ?r14 (fun _ => t9) ?_)
        case r14 => first | (go_simp; rfl) | go_simp
        simp only [lxa, lxb, lxc]
        have q9 := t9.1
        refine lx_one 15 (by kernel_rfl) (stepT_store (w' := w9.setCell ⟨rh, 3, none⟩ (.slice a9 (j + 1) c9)) rfl rfl rfl ?r15 (fun h => by cases h) ?_)
        case r15 => first | (go_simp; rfl) | go_simp
        refine lx_nil (by kernel_rfl) ?_
        have T9 := TX.add hA9 hkA9 hK9
        clear TX hA9 hkA9 hK9 f9 q9 t9 ov9 hrun9 hk9 hwh9 hvs ov hrun7 o7 hb7 hown5 t7 t8 t5 HSX hDX hRX hrX hvo
        generalize w9.setCell ⟨rh, 3, none⟩ (.slice a9 (j + 1) c9) = V at *
        go_wp2
        exact ⟨⟨j + 1, G5, K9, c2, k2, by go_num, by omega, by omega, by omega, by omega, by omega, by omega, fun h9 => by omega, T9, HQ2.out⟩, by simp [intOf]; omega⟩
       ·have z0 : ((en : Int) == 0) = false := by rw [beq_eq_false_iff_ne]; omega
        have z0' : ¬ (en : Int) = 0 := by omega
        by_cases h8 : en = 8
        ·subst h8
         have e2 : dn2 = false := ldn
         subst e2
         have HE : Hid (Q = ((undoL c2 false k2).1, ⟨l.most, l.recs, l.ch, (undoL c2 false k2).2.1⟩, (undoL c2 false k2).2.2)) := by
          show _ = _
          rw [← HQn.out, layAll_no HP'.out h0, room1_undo]
          unfold rb1L
          rw [if_pos (undo_ne0 c2 false k2)]
         obtain ⟨vh5, hDh5, _⟩ := T5.A.ex
         dsimp only at hDh5
         have hun := rundo_any w5 G5 rl rd l.most v l.ch k2 T5.L rh l.most vh5 c2 false hDh5.blk ⟨hDh5.nf, T5.ne⟩ false hgc (by omega) (by omega) (by omega)
         generalize undoL c2 false k2 = U at *
         clear HQn HP' hDh5 lcn ldn
         have z8 : ((8 : Nat) : Int) = 8 := rfl
         go_wp2_with (first
          | (go_at_call 77; refine hun.mono ?_; clear hun; rintro e w6 ⟨rfl, hp6⟩))
         go_ret
         obtain ⟨G6, T6⟩ := T5.callL hp6
         exact ⟨by rw [HE.out]; rfl, by rw [HE.out]; exact T6.out⟩
        ·have z8 : ((en : Int) == 8) = false := by rw [beq_eq_false_iff_ne]; omega
         have z8' : ¬ (en : Int) = 8 := by omega
         have HE : Hid (Q = (en, ⟨l.most, l.recs, l.ch, dn2⟩, k2)) := by
          show _ = _
          rw [← HQn.out, layAll_no HP'.out h0, room1_id h8]
          unfold rb1L
          rw [if_pos h0]
         clear HQn HP' lcn ldn h0 h8 lg1 lg2 lg3 lg4 lg5 hchg hgc
         have z0n : ((en : Int) != 0) = true := by simpa using z0'
         clear z0
         go_wp2
         go_ret
         exact ⟨by rw [HE.out]; rfl, by rw [HE.out]; exact T5.out⟩
      ·have hcl : ¬ (j : Int) < (n : Int) := by omega
       have HQs : Hid (rb1L l rs (room1 (settleL ch false k1)) = Q) := by
        show _ = _
        have h9 := HQ.out
        rw [List.drop_of_length_le (by rw [Hn.out]; omega)] at h9
        exact h9
       have htk : rs.take j = rs := List.take_of_length_le (by rw [Hn.out]; omega)
       have T := HT.out
       rw [htk] at T
       clear HQ HT htk hlt hR hnS
       obtain ⟨vh, hDh, hRh⟩ := T.A.ex
       dsimp only at hDh hRh
       have hco := rcommit_any wr G1 rh rd l.most vh ch false k1 hDh (by omega) (by omega) (by omega)
       have sg := settle_gr ch false k1
       have sdn := settle_dn ch k1
       have sn8 := settle_ne8 ch k1
       obtain ⟨P, HP⟩ : ∃ P, settleL ch false k1 = P := ⟨_, rfl⟩
       have HP' : Hid (settleL ch false k1 = P) := HP
       rw [HP] at hco sg sdn sn8
       clear HP hDh
       obtain ⟨en, c2, dn2, k2⟩ := P
       dsimp only at hco sg sdn sn8
       obtain ⟨sg1, sg2, sg3, sg4⟩ := sg
       have hgc : c2.g < 18446744073709551616 := by omega
       go_upto_region 21 with (first
        | (go_at_call 41; refine hco.mono ?_; clear hco; rintro e w4 ⟨rfl, hp4⟩; obtain ⟨G4, T4⟩ := T.callH hRh hp4; have hdw := rdown_any w4 G4 rl rd l.most v l.ch false k2 T4.L en)
        | (go_at_call 74; refine hdw.mono ?_; clear hdw; rintro e w5 ⟨rfl, hp5⟩; obtain ⟨G5, T5⟩ := T4.callL hp5))
       have hdd : (if en = 13 then true else false) = dn2 := by
        rw [sdn]
        by_cases e13 : en = 13
        ·rw [if_pos e13, decide_eq_true e13]
        ·rw [if_neg e13, decide_eq_false e13]
       rw [hdd] at T5
       clear hdd hp4 hp5 T4 hRh T sdn
       by_cases h0 : en = 0
       ·subst h0
        obtain ⟨ti1, ti2, ti3⟩ := settle_tight HP'.out
        subst ti3
        have HQ2 : Hid (rb2L l rs (room2 (wrB c2 false k2)) = Q) := by
         show _ = _
         have h9 := HQs.out
         rw [HP'.out, room1_id (by simp)] at h9
         unfold rb1L at h9
         rw [if_neg (by simp)] at h9
         exact h9
        clear HQs HP' sn8
        rw [show ((0 : Nat) : Int) = 0 from rfl]
        rw [wrB_rd] at HQ2
        have hap := fun w' G' (hr : RefAt w' G' rd k2) a' n' c' hY hYG => refAppend_any rd G' k2 sNew (by decide) a' n' c' (baseL c2.g) (by omega) (by omega) w' hr hY hYG
        have ag := app_gr k2 sNew (baseL c2.g)
        obtain ⟨P, HP⟩ : ∃ P, appK k2 sNew (baseL c2.g) = P := ⟨_, rfl⟩
        rw [HP] at HQ2 ag
        simp only [HP] at hap
        clear HP
        obtain ⟨en, k3⟩ := P
        dsimp only at hap ag HQ2
        have hbX : Below w5.heap.size w5 w5.drew := (Below.refl _ _).drew
        have TX := T5.below hbX
        obtain ⟨vX, hDX, hRX⟩ := TX.A.ex
        dsimp only at hDX hRX
        have HSX : w5.drew.cell? ⟨rl, 0, none⟩ = some (.pointer (some ⟨rd, 0, none⟩)) ∧ w5.drew.cell? ⟨rh, 2, none⟩ = some (.int .u64 (c2.g : Int)) := ⟨TX.L.c0, hDX.c2⟩
        have hba := rbase_any c2.g w5.drew
        have hbb : Bd (baseL c2.g) := by unfold baseL; exact (bigL_bd _ _).append (bigL_bd _ _)
        have hGl := hDX.R.lt
        clear hbX T5 hDX sg3 ti2 hchg
        go_upto_region 23 with fail
        unfold sNew at *
        refine wp_region_lx (fun w' => w'.cell? ⟨rl, 0, none⟩ = some (.pointer (some ⟨rd, 0, none⟩)) ∧ w'.cell? ⟨rh, 2, none⟩ = some (.int .u64 (c2.g : Int))) [] 13 (by kernel_rfl) (by kernel_rfl) ?_
        generalize w5.drew = X at *
        refine lx_r 0 (.pointer (some ⟨rl, 0, none⟩)) HSX ?_; simp only [lxa, lxb, lxc]
        refine lx_r 1 (.pointer (some ⟨rl, 0, none⟩)) HSX ?_; simp only [lxa, lxb, lxc]
        refine lx_r 2 (.pointer (some ⟨rl, 0, none⟩)) HSX ?_; simp only [lxa, lxb, lxc]
        refine lx_r 3 (.pointer (some ⟨rl, 0, none⟩)) HSX ?_; simp only [lxa, lxb, lxc]
        refine lx_r 4 (.pointer (some ⟨rd, 0, none⟩)) HSX ?_ (hv := fun w' hS => by have q := hS.1; first | (go_simp; rfl) | go_simp); simp only [lxa, lxb, lxc]
        refine lx_r 5 (.pointer (some ⟨rh, 0, none⟩)) HSX ?_; simp only [lxa, lxb, lxc]
        refine lx_r 6 (.pointer (some ⟨rh, 0, none⟩)) HSX ?_; simp only [lxa, lxb, lxc]
        refine lx_r 7 (.pointer (some ⟨rh, 2, none⟩)) HSX ?_; simp only [lxa, lxb, lxc]
        refine lx_r 8 (.int .u64 (c2.g : Int)) HSX ?_ (hv := fun w' hS => by have q := hS.2; first | (go_simp; rfl) | go_simp); simp only [lxa, lxb, lxc]
        refine lx_one 9 (by kernel_rfl) (stepT_call 78 ?a9 rfl rfl rfl ?r9 ?_)
        case r9 => first | (go_simp; rfl) | go_simp
        refine hba.mono ?_
        rintro e w6 ⟨v6, rfl, o6, hb6⟩
        obtain ⟨a6, c6, rfl, r6⟩ := Rd.ofOwn o6 hbb
        have T6 := TX.below hb6
        obtain ⟨vh6, hDh6, _⟩ := T6.A.ex
        dsimp only at hDh6
        refine ⟨_, rfl, fun _ => ⟨T6.L.c0, hDh6.c2⟩, ?_⟩
        simp only [lxa, lxb, lxc]
        refine lx_one 10 (by kernel_rfl) (stepT_call 18 ?a10 rfl rfl rfl ?r10 ?_)
        case r10 => first | (go_simp; rfl) | go_simp
        refine (hap w6 G5 T6.L.R a6 12 c6 r6 (fun ad had hf => by
         rcases o6.2 with ⟨e, _⟩ | ⟨g, cap, cur, e, hg6, hgc6, _⟩
         ·injection e with e1; rw [e1] at had; cases had
         ·injection e with e1; rw [e1] at had; cases had
          have := hGl _ hf
          dsimp only at this
          omega)).mono ?_
        rintro e w7 ⟨rfl, hp7⟩
        obtain ⟨G7, T7⟩ := T6.callL (T6.L.rp hp7)
        obtain ⟨vh7, hDh7, _⟩ := T7.A.ex
        dsimp only at hDh7
        refine ⟨_, rfl, fun _ => ⟨T7.L.c0, hDh7.c2⟩, ?_⟩
        simp only [lxa, lxb, lxc]
        have hdw := rdown_any w7 G7 rl rd l.most v l.ch false k3 T7.L en
        refine lx_one 11 (by kernel_rfl) (stepT_call 74 ?a11 rfl rfl rfl ?r11 ?_)
        case r11 => first | (go_simp; rfl) | go_simp
        refine hdw.mono ?_
        rintro e w8 ⟨rfl, hp8⟩
        obtain ⟨G8, T8⟩ := T7.callL hp8
        obtain ⟨vh8, hDh8, _⟩ := T8.A.ex
        dsimp only at hDh8
        have HS8 : w8.cell? ⟨rl, 0, none⟩ = some (.pointer (some ⟨rd, 0, none⟩)) ∧ w8.cell? ⟨rh, 2, none⟩ = some (.int .u64 (c2.g : Int)) := ⟨T8.L.c0, hDh8.c2⟩
        refine ⟨_, rfl, fun _ => HS8, ?_⟩
        simp only [lxa, lxb, lxc]
        refine lx_r 12 (.int .i64 (en : Int)) HS8 ?_; simp only [lxa, lxb, lxc]
        refine lx_nil (by kernel_rfl) ?_
        clear HSX HS8 T6 T7 TX hba hap hdw hp7 hp8 o6 r6 hDh6 hDh7 hRX hGl hbb
        by_cases h0 : en = 0
        ·subst h0
         rw [if_neg (by decide)] at T8 HQ2
         have HQ3 : Hid (rb3L l rs c2 (stp false k3 (syncK k3 sNew)) = Q) := by
          show _ = _
          have h9 := HQ2.out
          rw [room2_id (by simp)] at h9
          unfold rb2L at h9
          rw [if_neg (by simp)] at h9
          exact h9
         rw [stp_rd false k3 _ rfl] at HQ3
         rw [show ((0 : Nat) : Int) = 0 from rfl]
         have hsy := refSync_any rd G8 k3 sNew (by decide) (by omega) w8 T8.L.R
         have sg := sync_gr k3 sNew
         unfold sNew at HQ3 hsy sg
         obtain ⟨P, HP⟩ : ∃ P, syncK k3 ⟨#[98, 97, 115, 101, 46, 110, 101, 119]⟩ = P := ⟨_, rfl⟩
         rw [HP] at HQ3 hsy sg
         clear HP HQ2
         obtain ⟨en, k4⟩ := P
         dsimp only at HQ3 hsy sg
         have q8 := T8.L.c0
         go_upto_region 28 with (first
          | (go_at_call 79; refine hsy.mono ?_; clear hsy; rintro e w9 ⟨rfl, hp9⟩; obtain ⟨G9, T9⟩ := T8.callL (T8.L.rp hp9); have hdw := rdown_any w9 G9 rl rd l.most v l.ch false k4 T9.L en)
          | (go_at_call 74; refine hdw.mono ?_; clear hdw; rintro e w10 ⟨rfl, hp10⟩; obtain ⟨G10, T10⟩ := T9.callL hp10))
         clear T8 T9 hp9 hp10 q8 hDh8
         by_cases h0 : en = 0
         ·subst h0
          rw [if_neg (by decide)] at T10 HQ3
          have HQ4 : Hid (rb4L l rs c2 (stp false k4 (renameK k4 sNew sBase)) = Q) := by
           show _ = _
           have h9 := HQ3.out
           unfold rb3L at h9
           rw [if_neg (by simp)] at h9
           exact h9
          rw [stp_rd false k4 _ rfl] at HQ4
          rw [show ((0 : Nat) : Int) = 0 from rfl]
          have hre := refRename_any rd G10 k4 sNew sBase (by decide) (by decide) (by omega) (by omega) w10 T10.L.R
          have rg := ren_gr k4 sNew sBase
          unfold sNew sBase at HQ4 hre rg
          obtain ⟨P, HP⟩ : ∃ P, renameK k4 ⟨#[98, 97, 115, 101, 46, 110, 101, 119]⟩ ⟨#[98, 97, 115, 101]⟩ = P := ⟨_, rfl⟩
          rw [HP] at HQ4 hre rg
          clear HP HQ3
          obtain ⟨en, k5⟩ := P
          dsimp only at HQ4 hre rg
          have q10 := T10.L.c0
          go_upto_region 30 with (first
           | (go_at_call 80; refine hre.mono ?_; clear hre; rintro e w11 ⟨rfl, hp11⟩; obtain ⟨G11, T11⟩ := T10.callL (T10.L.rp hp11); have hdw := rdown_any w11 G11 rl rd l.most v l.ch false k5 T11.L en)
           | (go_at_call 74; refine hdw.mono ?_; clear hdw; rintro e w12 ⟨rfl, hp12⟩; obtain ⟨G12, T12⟩ := T11.callL hp12))
          clear T10 T11 hp11 hp12 q10
          by_cases h0 : en = 0
          ·subst h0
           rw [if_neg (by decide)] at T12 HQ4
           have HQ5 : Hid (((remC l.ch false k5).1, (⟨l.most, rs, c2, (remC l.ch false k5).2.1⟩ : Lg), (remC l.ch false k5).2.2) = Q) := by
            show _ = _
            have h9 := HQ4.out
            unfold rb4L at h9
            rw [if_neg (by simp)] at h9
            exact h9
           clear HQ4
           rw [show ((0 : Nat) : Int) = 0 from rfl]
           have y4 := T12.L.c4
           have y2 := T12.L.c2
           go_upto_region 32 with fail
           go_quiet (fail)
           have T13 := T12.below (show Below w12.heap.size w12 (w12.drewN nq) from ⟨rfl, rfl, rfl, Nat.le_refl _, fun _ _ => rfl⟩)
           clear T12 y4 y2
           generalize w12.drewN nq = w13 at *
           have hbX : Below w13.heap.size w13 w13.drew := (Below.refl _ _).drew
           have TX := T13.below hbX
           obtain ⟨vX, hDX, hRX⟩ := TX.A.ex
           dsimp only at hDX hRX
           have HSX : w13.drew.cell? ⟨rh, 2, none⟩ = some (.int .u64 (c2.g : Int)) ∧ w13.drew.cell? ⟨rh, 3, none⟩ = some vX ∧ w13.drew.cell? ⟨rh, 4, none⟩ = some (.int .i64 (c2.cnt : Int)) ∧ w13.drew.cell? ⟨rh, 5, none⟩ = some (.int .i64 (c2.size : Int)) := ⟨hDX.c2, hDX.c3, hDX.c4, hDX.c5⟩
           clear hbX T13
           have hTl := TX.L
           have w2 := hTl.c2
           have f2 := hTl.fz 2
           go_upto_region 33 with fail
           refine wp_region_lx (fun w' => w'.cell? ⟨rh, 2, none⟩ = some (.int .u64 (c2.g : Int)) ∧ w'.cell? ⟨rh, 3, none⟩ = some vX ∧ w'.cell? ⟨rh, 4, none⟩ = some (.int .i64 (c2.cnt : Int)) ∧ w'.cell? ⟨rh, 5, none⟩ = some (.int .i64 (c2.size : Int))) [] 36 (by kernel_rfl) (by kernel_rfl) ?_
           generalize w13.drew = X at *
           refine lx_r 0 (.pointer (some ⟨rl, 0, none⟩)) HSX ?_; simp only [lxa, lxb, lxc]
           refine lx_r 1 (.pointer (some ⟨rl, 0, none⟩)) HSX ?_; simp only [lxa, lxb, lxc]
           refine lx_r 2 (.pointer (some ⟨rl, 0, none⟩)) HSX ?_; simp only [lxa, lxb, lxc]
           refine lx_r 3 (.pointer (some ⟨rl, 0, none⟩)) HSX ?_; simp only [lxa, lxb, lxc]
           refine lx_r 4 (.pointer (some ⟨rl, 0, none⟩)) HSX ?_; simp only [lxa, lxb, lxc]
           refine lx_r 5 (.pointer (some ⟨rh, 0, none⟩)) HSX ?_; simp only [lxa, lxb, lxc]
           refine lx_r 6 (.pointer (some ⟨rh, 0, none⟩)) HSX ?_; simp only [lxa, lxb, lxc]
           refine lx_r 7 (.pointer (some ⟨rh, 2, none⟩)) HSX ?_; simp only [lxa, lxb, lxc]
           refine lx_r 8 (.int .u64 (c2.g : Int)) HSX ?_ (hv := fun w' hS => by have q := hS.1; first | (go_simp; rfl) | go_simp); simp only [lxa, lxb, lxc]
           refine lx_r 9 (.pointer (some ⟨rh, 0, none⟩)) HSX ?_; simp only [lxa, lxb, lxc]
           refine lx_r 10 (.pointer (some ⟨rh, 0, none⟩)) HSX ?_; simp only [lxa, lxb, lxc]
           refine lx_r 11 (.pointer (some ⟨rh, 3, none⟩)) HSX ?_; simp only [lxa, lxb, lxc]
           refine lx_r 12 vX HSX ?_ (hv := fun w' hS => by have q := hS.2.1; first | (go_simp; rfl) | go_simp); simp only [lxa, lxb, lxc]
           refine lx_r 13 (.pointer (some ⟨rh, 0, none⟩)) HSX ?_; simp only [lxa, lxb, lxc]
           refine lx_r 14 (.pointer (some ⟨rh, 0, none⟩)) HSX ?_; simp only [lxa, lxb, lxc]
           refine lx_r 15 (.pointer (some ⟨rh, 4, none⟩)) HSX ?_; simp only [lxa, lxb, lxc]
           refine lx_r 16 (.int .i64 (c2.cnt : Int)) HSX ?_ (hv := fun w' hS => by have q := hS.2.2.1; first | (go_simp; rfl) | go_simp); simp only [lxa, lxb, lxc]
           refine lx_r 17 (.pointer (some ⟨rh, 0, none⟩)) HSX ?_; simp only [lxa, lxb, lxc]
           refine lx_r 18 (.pointer (some ⟨rh, 0, none⟩)) HSX ?_; simp only [lxa, lxb, lxc]
           refine lx_r 19 (.pointer (some ⟨rh, 5, none⟩)) HSX ?_; simp only [lxa, lxb, lxc]
           refine lx_r 20 (.int .i64 (c2.size : Int)) HSX ?_ (hv := fun w' hS => by have q := hS.2.2.2; first | (go_simp; rfl) | go_simp); simp only [lxa, lxb, lxc]
           refine lx_r 21 (.pointer (some ⟨rl, 0, none⟩)) HSX ?_; simp only [lxa, lxb, lxc]
           refine lx_r 22 (.pointer (some ⟨rl, 2, none⟩)) HSX ?_; simp only [lxa, lxb, lxc]
           have hne : ∀ i j : Nat, (⟨rl, i, none⟩ : Addr) ≠ ⟨rh, j, none⟩ := fun i j e => TX.ne (congrArg Addr.block e).symm
           have hSw : ∀ (W : World) (i : Nat) (u : Value), (W.cell? ⟨rh, 2, none⟩ = some (.int .u64 (c2.g : Int)) ∧ W.cell? ⟨rh, 3, none⟩ = some vX ∧ W.cell? ⟨rh, 4, none⟩ = some (.int .i64 (c2.cnt : Int)) ∧ W.cell? ⟨rh, 5, none⟩ = some (.int .i64 (c2.size : Int))) → ((W.setCell ⟨rl, i, none⟩ u).cell? ⟨rh, 2, none⟩ = some (.int .u64 (c2.g : Int)) ∧ (W.setCell ⟨rl, i, none⟩ u).cell? ⟨rh, 3, none⟩ = some vX ∧ (W.setCell ⟨rl, i, none⟩ u).cell? ⟨rh, 4, none⟩ = some (.int .i64 (c2.cnt : Int)) ∧ (W.setCell ⟨rl, i, none⟩ u).cell? ⟨rh, 5, none⟩ = some (.int .i64 (c2.size : Int))) := fun W i u hW =>
            ⟨(World.cell?_setCell_other _ _ _ _ (hne _ _)).trans hW.1, (World.cell?_setCell_other _ _ _ _ (hne _ _)).trans hW.2.1, (World.cell?_setCell_other _ _ _ _ (hne _ _)).trans hW.2.2.1, (World.cell?_setCell_other _ _ _ _ (hne _ _)).trans hW.2.2.2⟩
           have R1 : RD (X.setCell ⟨rl, 2, none⟩ (.int .u64 (c2.g : Int))) G12 rl rd l.most v { l.ch with g := c2.g } false k5 := hTl.set 2 _ rfl
           have HS1 := hSw X 2 (.int .u64 (c2.g : Int)) HSX
           have KX : Keep (fun i => i = rl) X (X.setCell ⟨rl, 2, none⟩ (.int .u64 (c2.g : Int))) := (Keep.refl (fun i => i = rl) X).setCell (p := ⟨rl, 2, none⟩) rfl _
           refine lx_one 23 (by kernel_rfl) (stepT_store (w' := X.setCell ⟨rl, 2, none⟩ (.int .u64 (c2.g : Int))) rfl rfl rfl ?r23 (fun _ => HS1) ?_)
           case r23 => first | (go_simp; rfl) | go_simp
           clear w2 f2 hTl
           have w3 := R1.c3
           have f3 := R1.fz 3
           have KX1 := KX.setCell (p := ⟨rl, 3, none⟩) rfl vX
           have R2 : RD ((X.setCell ⟨rl, 2, none⟩ (.int .u64 (c2.g : Int))).setCell ⟨rl, 3, none⟩ vX) G12 rl rd l.most vX { l.ch with g := c2.g } false k5 := R1.set 3 _ rfl
           have HS2 := hSw _ 3 vX HS1
           generalize X.setCell ⟨rl, 2, none⟩ (.int .u64 (c2.g : Int)) = X1 at *
           obtain ⟨aX, cX, eX⟩ : ∃ a c, vX = .slice a rs.length c := by
            obtain ⟨⟨vs, ov, _⟩, _⟩ := hRX
            exact own_sl ov
           subst eX
           refine lx_r 24 (.pointer (some ⟨rl, 0, none⟩)) HS1 ?_; simp only [lxa, lxb, lxc]
           refine lx_r 25 (.pointer (some ⟨rl, 3, none⟩)) HS1 ?_; simp only [lxa, lxb, lxc]
           refine lx_one 26 (by kernel_rfl) (stepT_store (w' := X1.setCell ⟨rl, 3, none⟩ (.slice aX rs.length cX)) rfl rfl rfl ?r26 (fun _ => HS2) ?_)
           case r26 => first | (go_simp; rfl) | go_simp
           clear w3 f3 R1 HS1
           have w4 := R2.c4
           have f4 := R2.fz 4
           have KX2 := KX1.setCell (p := ⟨rl, 4, none⟩) rfl (.int .i64 (c2.cnt : Int))
           have R3 : RD ((X1.setCell ⟨rl, 3, none⟩ (.slice aX rs.length cX)).setCell ⟨rl, 4, none⟩ (.int .i64 (c2.cnt : Int))) G12 rl rd l.most (.slice aX rs.length cX) { l.ch with g := c2.g, cnt := c2.cnt } false k5 := R2.set 4 _ rfl
           have HS3 := hSw _ 4 (.int .i64 (c2.cnt : Int)) HS2
           generalize X1.setCell ⟨rl, 3, none⟩ (.slice aX rs.length cX) = X2 at *
           refine lx_r 27 (.pointer (some ⟨rl, 0, none⟩)) HS2 ?_; simp only [lxa, lxb, lxc]
           refine lx_r 28 (.pointer (some ⟨rl, 4, none⟩)) HS2 ?_; simp only [lxa, lxb, lxc]
           refine lx_one 29 (by kernel_rfl) (stepT_store (w' := X2.setCell ⟨rl, 4, none⟩ (.int .i64 (c2.cnt : Int))) rfl rfl rfl ?r29 (fun _ => HS3) ?_)
           case r29 => first | (go_simp; rfl) | go_simp
           clear w4 f4 R2 HS2
           have w5' := R3.c5
           have f5 := R3.fz 5
           have KX3 := KX2.setCell (p := ⟨rl, 5, none⟩) rfl (.int .i64 (c2.size : Int))
           have R4 : RD ((X2.setCell ⟨rl, 4, none⟩ (.int .i64 (c2.cnt : Int))).setCell ⟨rl, 5, none⟩ (.int .i64 (c2.size : Int))) G12 rl rd l.most (.slice aX rs.length cX) { l.ch with g := c2.g, cnt := c2.cnt, size := c2.size } false k5 := R3.set 5 _ rfl
           have HS4 := hSw _ 5 (.int .i64 (c2.size : Int)) HS3
           generalize X2.setCell ⟨rl, 4, none⟩ (.int .i64 (c2.cnt : Int)) = X3 at *
           refine lx_r 30 (.pointer (some ⟨rl, 0, none⟩)) HS3 ?_; simp only [lxa, lxb, lxc]
           refine lx_r 31 (.pointer (some ⟨rl, 5, none⟩)) HS3 ?_; simp only [lxa, lxb, lxc]
           refine lx_one 32 (by kernel_rfl) (stepT_store (w' := X3.setCell ⟨rl, 5, none⟩ (.int .i64 (c2.size : Int))) rfl rfl rfl ?r32 (fun _ => HS4) ?_)
           case r32 => first | (go_simp; rfl) | go_simp
           clear w5' f5 R3 HS3
           have w6' := R4.c6
           have f6 := R4.fz 6
           have KX4 := KX3.setCell (p := ⟨rl, 6, none⟩) rfl (.bool false)
           have R5 : RD ((X3.setCell ⟨rl, 5, none⟩ (.int .i64 (c2.size : Int))).setCell ⟨rl, 6, none⟩ (.bool false)) G12 rl rd l.most (.slice aX rs.length cX) ⟨c2.g, c2.cnt, c2.size, false⟩ false k5 := R4.set 6 _ rfl
           have HS5 := hSw _ 6 (.bool false) HS4
           generalize X3.setCell ⟨rl, 5, none⟩ (.int .i64 (c2.size : Int)) = X4 at *
           refine lx_r 33 (.pointer (some ⟨rl, 0, none⟩)) HS4 ?_; simp only [lxa, lxb, lxc]
           refine lx_r 34 (.pointer (some ⟨rl, 6, none⟩)) HS4 ?_; simp only [lxa, lxb, lxc]
           refine lx_one 35 (by kernel_rfl) (stepT_store (w' := X4.setCell ⟨rl, 6, none⟩ (.bool false)) rfl rfl rfl ?r35 (fun _ => HS5) ?_)
           case r35 => first | (go_simp; rfl) | go_simp
           refine lx_nil (by kernel_rfl) ?_
           clear w6' f6 R4 HS4 HS5 HSX hSw
           generalize X4.setCell ⟨rl, 6, none⟩ (.bool false) = X5 at *
           have hc2 : (⟨c2.g, c2.cnt, c2.size, false⟩ : Ch) = c2 := by rw [← ti1]
           rw [hc2] at R5
           have hfin : Rgp w G H rl rd ⟨l.most, rs, c2, false⟩ k5 X5 := by
            refine ⟨G12, K1, ⟨⟨_, R5, hRX.keep KX4 (fun i hi e => ?_) (fun _ h => h)⟩, TX.A.hf, fun h9 => ?_, fun i hi => Nat.lt_of_lt_of_le (TX.A.lt i hi) KX4.size⟩, (TX.kp.trans (KX4.mono (fun _ e => Or.inr e))).mono (fun _ h9 => h9.elim Or.inl (fun e => Or.inr (Or.inr e))), TX.Gn, fun i hi => Or.inr (TX.Kn i hi)⟩
            ·have := TX.Kn i hi; have := TX.rll; omega
            ·have := TX.Kn _ h9; have := TX.rll; omega
           obtain ⟨N, HN⟩ : ∃ N, Hid (l.ch.cnt = N) := ⟨_, rfl⟩
           obtain ⟨g, Hg⟩ : ∃ g, Hid (l.ch.g = g) := ⟨_, rfl⟩
           obtain ⟨eR, dnR, kR, HR⟩ : ∃ eR dnR kR, Hid (remAll (segs g 0 (N - 0)) false k5 = (eR, dnR, kR)) := ⟨_, _, _, rfl⟩
           have HQ6 : Hid ((eR, (⟨l.most, rs, c2, dnR⟩ : Lg), kR) = Q) := by
            show _ = _
            have h9 := HQ5.out
            unfold remC at h9
            rw [Hg.out, HN.out] at h9
            have h8 := HR.out
            rw [Nat.sub_zero] at h8
            rw [h8] at h9
            exact h9
           rw [HN.out] at hcnt ⊢
           rw [Hg.out] at hg ⊢
           have HF : Hid (Rgp w G H rl rd ⟨l.most, rs, c2, false⟩ k5 X5) := hfin
           clear HQ5 hfin R5 KX4 KX3 KX2 KX1 KX TX hRX hne hc2 ti1 HB Hz0 hgb hgb0 hgw hgm
           go_upto_region 35 with fail
           go_loopw [12, 13] (fun s12 _ wr => ∃ (j : Nat) (k1 : Dk), s12 = .int .i64 ((j : Int) + 1) ∧ j ≤ N ∧ k1.steps + (N - j) < 999990 ∧ k1.fs.length < 999990 ∧ Hid (Rgp w G H rl rd ⟨l.most, rs, c2, false⟩ k1 wr) ∧ Hid (remAll (segs g j (N - j)) false k1 = (eR, dnR, kR))) (fun s12 _ _ => N + 1 - (intOf s12).toNat)
           case atStart => exact ⟨0, k5, rfl, Nat.zero_le _, by omega, by omega, HF.out, HR.out⟩
           case round =>
            clear HF HR
            obtain ⟨j, k1, rfl, hjN, hs1, hf1, HF, HR⟩ := hrel
            by_cases hle : j + 1 ≤ N
            ·have hz : (j : Int) + 1 ≤ (N : Int) := by omega
             have HRn : Hid (remAll (segN g (j + 1) :: segs g (j + 1) (N - (j + 1))) false k1 = (eR, dnR, kR)) := by
              have h9 := HR.out
              have e : N - j = (N - (j + 1)) + 1 := by omega
              rw [e, segs_cons] at h9
              exact h9
             clear HR
             obtain ⟨G1', H1, hA, hkA, hGA, hHA⟩ := HF.out
             have hbX : Below wr.heap.size wr wr.drew := (Below.refl _ _).drew
             have hAX := hA.below hbX
             obtain ⟨v1, hDX, hRX⟩ := hAX.ex
             dsimp only at hDX hRX
             have HSX : wr.drew.cell? ⟨rl, 0, none⟩ = some (.pointer (some ⟨rd, 0, none⟩)) := hDX.c0
             have hfi := rfile_any g (j + 1) hg (by omega) wr.drew
             have hj1 : ((j + 1 : Nat) : Int) = (j : Int) + 1 := by omega
             rw [hj1] at hfi
             have hnm2 := segN_size g (j + 1) hg (by omega)
             obtain ⟨sn, Hs⟩ : ∃ s, Hid (segN g (j + 1) = s) := ⟨_, rfl⟩
             rw [Hs.out] at hfi hnm2 HRn
             have hrm := fun w' (hr : RefAt w' G1' rd k1) => refRemove_any rd G1' k1 sn (by omega) (by omega) (by omega) w' hr
             have hstp := stpR_gr false k1 sn
             have hst2 := stp_rd false k1 (removeK k1 sn) rfl
             obtain ⟨P, HP⟩ : ∃ P, removeK k1 sn = P := ⟨_, rfl⟩
             have HP' : Hid (removeK k1 sn = P) := HP
             rw [HP] at hstp hst2
             simp only [HP] at hrm
             clear HP
             obtain ⟨en, k2'⟩ := P
             dsimp only at hrm hst2
             rw [hst2] at hstp
             dsimp only at hstp
             have Hst2 : Hid (stp false k1 (en, k2') = (en, (if en = 13 then true else false), k2')) := hst2
             clear hst2 hj1 hA
             have hsh : wr.drew.heap.size = wr.heap.size := rfl
             go_upto_region 37 with fail
             refine wp_region_lx (fun w' => w'.cell? ⟨rl, 0, none⟩ = some (.pointer (some ⟨rd, 0, none⟩))) [] 11 (by kernel_rfl) (by kernel_rfl) ?_
             generalize wr.drew = X at *
             refine lx_r 0 (.pointer (some ⟨rl, 0, none⟩)) HSX ?_; simp only [lxa, lxb, lxc]
             refine lx_r 1 (.pointer (some ⟨rl, 0, none⟩)) HSX ?_; simp only [lxa, lxb, lxc]
             refine lx_r 2 (.pointer (some ⟨rl, 0, none⟩)) HSX ?_; simp only [lxa, lxb, lxc]
             refine lx_r 3 (.pointer (some ⟨rl, 0, none⟩)) HSX ?_; simp only [lxa, lxb, lxc]
             refine lx_r 4 (.pointer (some ⟨rd, 0, none⟩)) HSX ?_ (hv := fun w' hS => by have q := hS; first | (go_simp; rfl) | go_simp); simp only [lxa, lxb, lxc]
             refine lx_r 5 (.int .u64 (g : Int)) HSX ?_; simp only [lxa, lxb, lxc]
             refine lx_r 6 (.int .i64 ((j : Int) + 1)) HSX ?_; simp only [lxa, lxb, lxc]
             refine lx_one 7 (by kernel_rfl) (stepT_call 82 ?a7z rfl rfl rfl ?r7z ?_)
             case r7z => first | (go_simp; rfl) | go_simp
             refine hfi.mono ?_
             rintro e w3 ⟨rfl, hb3⟩
             have hA3 := hAX.below hb3
             have h3 := hDX.below hb3
             have hR3 := hRX.keep (S := fun _ => False) (H' := H1) (Keep.ofBelow hb3) (fun _ _ h => h) (fun _ h => h)
             refine ⟨_, rfl, fun _ => h3.c0, ?_⟩
             simp only [lxa, lxb, lxc]
             refine lx_one 8 (by kernel_rfl) (stepT_call 81 ?a8z rfl rfl rfl ?r8z ?_)
             case r8z => first | (go_simp; rfl) | go_simp
             refine (hrm w3 h3.R).mono ?_
             rintro e w4 ⟨rfl, hp4⟩
             obtain ⟨G4, h4, hk4, hG4⟩ := h3.rp hp4
             refine ⟨_, rfl, fun _ => h4.c0, ?_⟩
             simp only [lxa, lxb, lxc]
             refine lx_one 9 (by kernel_rfl) (stepT_call 74 ?a9z rfl rfl rfl ?r9z ?_)
             case r9z => first | (go_simp; rfl) | go_simp
             refine (rdown_any w4 G4 rl rd l.most v1 c2 false k2' h4 en).mono ?_
             rintro e w5 ⟨rfl, hp5⟩
             have hp35 := Rlp.next hk4 hG4 hp5
             have q5 : w5.cell? ⟨rl, 0, none⟩ = some (.pointer (some ⟨rd, 0, none⟩)) := by
              obtain ⟨_, h5, _, _⟩ := hp5
              exact h5.c0
             refine ⟨_, rfl, fun _ => q5, ?_⟩
             simp only [lxa, lxb, lxc]
             refine lx_r 10 (.int .i64 (en : Int)) q5 ?_; simp only [lxa, lxb, lxc]
             refine lx_nil (by kernel_rfl) ?_
             have hall : Rgp w G H rl rd ⟨l.most, rs, c2, (if en = 13 then true else false)⟩ k2' w5 := Rgp.next hkA hGA hHA (Rgp.from hbX (Rgp.from hb3 (hA3.rlp hR3 hp35)))
             have HFn : Hid (Rgp w G H rl rd ⟨l.most, rs, c2, (if en = 13 then true else false)⟩ k2' w5) := hall
             clear HSX q5 hk4 hG4 hp4 hp5 hp35 hfi hrm h4 h3 hA3 hR3 hDX hRX hAX hall HF hkA hGA hHA
             by_cases h0 : en = 0
             ·subst h0
              rw [if_neg (by decide)] at HFn Hst2
              have HR2 : Hid (remAll (segs g (j + 1) (N - (j + 1))) false k2' = (eR, dnR, kR)) := by
               show _ = _
               rw [← remAll_ok (s := sn) (dn := false) (k := k1) (by rw [HP'.out]; exact Hst2.out)]
               exact HRn.out
              clear HRn Hst2 HP'
              rw [show ((0 : Nat) : Int) = 0 from rfl]
              go_wp2
              exact ⟨⟨j + 1, k2', by first | rfl | go_num, hle, by omega, by omega, HFn.out, HR2.out⟩, by simp [intOf]; omega⟩
             ·have z0' : ¬ (en : Int) = 0 := by omega
              have z0n : ((en : Int) != 0) = true := by simpa using z0'
              have HE : Hid (Q = (en, ⟨l.most, rs, c2, (if en = 13 then true else false)⟩, k2')) := by
               show _ = _
               have hres := HRn.out.symm.trans (remAll_no (s := sn) (dn := false) (k := k1) (by rw [HP'.out]; exact Hst2.out) h0)
               simp only [Prod.mk.injEq] at hres
               obtain ⟨e1, e2, e3⟩ := hres
               rw [← HQ6.out, e1, e2, e3]
              clear HRn Hst2 HP' h0
              go_wp2
              go_ret
              exact ⟨by rw [HE.out]; rfl, by rw [HE.out]; exact HFn.out⟩
            ·have hz : ¬ (j : Int) + 1 ≤ (N : Int) := by omega
             have HE : Hid (Q = (0, ⟨l.most, rs, c2, false⟩, k1)) := by
              show _ = _
              have h9 := HR.out
              rw [show N - j = 0 from by omega] at h9
              have h8 : (0, false, k1) = (eR, dnR, kR) := h9
              simp only [Prod.mk.injEq] at h8
              obtain ⟨e1, e2, e3⟩ := h8
              rw [← HQ6.out, ← e1, ← e2, ← e3]
             go_wp2
             go_ret
             exact ⟨by rw [HE.out]; rfl, by rw [HE.out]; exact HF.out⟩
          ·have z0' : ¬ (en : Int) = 0 := by omega
           have z0n : ((en : Int) != 0) = true := by simpa using z0'
           have HE : Hid (Q = (en, ⟨l.most, l.recs, l.ch, (if en = 13 then true else false)⟩, k5)) := by
            show _ = _
            rw [← HQ4.out]
            unfold rb4L
            rw [if_pos h0]
           clear HQ4 h0
           go_wp2
           go_ret
           exact ⟨by rw [HE.out]; rfl, by rw [HE.out]; exact T12.out⟩
         ·have z0' : ¬ (en : Int) = 0 := by omega
          have z0n : ((en : Int) != 0) = true := by simpa using z0'
          have z0 : ((en : Int) == 0) = false := by simpa using z0'
          clear z0'
          have HE : Hid (Q = (en, ⟨l.most, l.recs, l.ch, (if en = 13 then true else false)⟩, k4)) := by
           show _ = _
           rw [← HQ3.out]
           unfold rb3L
           rw [if_pos h0]
          clear HQ3 h0
          go_wp2
          go_ret
          exact ⟨by rw [HE.out]; rfl, by rw [HE.out]; exact T10.out⟩
        ·have z0' : ¬ (en : Int) = 0 := by omega
         have z0n : ((en : Int) != 0) = true := by simpa using z0'
         have z0 : ((en : Int) == 0) = false := by simpa using z0'
         clear z0'
         by_cases h8 : en = 8
         ·subst h8
          rw [if_neg (by decide)] at T8 HQ2
          have HE : Hid (Q = ((undoL c2 true k3).1, ⟨l.most, l.recs, l.ch, (undoL c2 true k3).2.1⟩, (undoL c2 true k3).2.2)) := by
           show _ = _
           rw [← HQ2.out, room2_undo]
           unfold rb2L
           rw [if_pos (undo_ne0 c2 true k3)]
          have hun := rundo_any w8 G8 rl rd l.most v l.ch k3 T8.L rh l.most vh8 c2 false hDh8.blk ⟨hDh8.nf, T8.ne⟩ true hgc (by omega) (by omega) (by omega)
          generalize undoL c2 true k3 = U at *
          clear HQ2 hDh8 z0 z0n
          have z8 : ((8 : Nat) : Int) = 8 := rfl
          go_wp2_with (first
           | (go_at_call 77; refine hun.mono ?_; clear hun; rintro e w9 ⟨rfl, hp9⟩))
          go_ret
          obtain ⟨G9, T9⟩ := T8.callL hp9
          exact ⟨by rw [HE.out]; rfl, by rw [HE.out]; exact T9.out⟩
         ·have z8 : ((en : Int) == 8) = false := by rw [beq_eq_false_iff_ne]; omega
          have z8' : ¬ (en : Int) = 8 := by omega
          have HE : Hid (Q = (en, ⟨l.most, l.recs, l.ch, (if en = 13 then true else false)⟩, k3)) := by
           show _ = _
           rw [← HQ2.out, room2_id h8]
           unfold rb2L
           rw [if_pos h0]
          clear HQ2 h0 h8 hDh8
          go_wp2
          go_ret
          exact ⟨by rw [HE.out]; rfl, by rw [HE.out]; exact T8.out⟩
       ·have z0' : ¬ (en : Int) = 0 := by omega
        have z0n : ((en : Int) != 0) = true := by simpa using z0'
        have HE : Hid (Q = (en, ⟨l.most, l.recs, l.ch, dn2⟩, k2)) := by
         show _ = _
         rw [← HQs.out, HP'.out, room1_id sn8]
         unfold rb1L
         rw [if_pos h0]
        clear HQs HP' sn8 h0
        go_wp2
        go_ret
        exact ⟨by rw [HE.out]; rfl, by rw [HE.out]; exact T5.out⟩
end Go.Proofs.YtikkieaokfailaaGreatDoor
