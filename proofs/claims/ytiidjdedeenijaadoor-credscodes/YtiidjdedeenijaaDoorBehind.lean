/- octet.behind: bytes and forms, laid behind one another in new memory (with no form, one, two). -/
import Derived.Test.YtiidjdedeenijaaDoorBytes
namespace Go.Proofs.YtiidjdedeenijaaDoor
open Go.RowKit

theorem rd_none {w : World} {a : Option Addr} {n c : Nat} {xs : List Int} (h : Rd w a n c xs) : a = none → n = 0 ∧ c = 0 := fun ha => by
  have := h.nil ha; have := h.cap; omega

theorem rd_news {w w' : World} {a : Option Addr} {n c : Nat} {xs : List Int} (h : Rd w a n c xs) (hb : Below w.heap.size w w') : ∀ ad, a = some ad → ∀ j u, (bc xs)[j]? = some u → w'.cell? (ad.add j) = some u :=
  fun _ ha => (h.carry (Nat.le_refl _) hb).news ha

theorem grown_none {w w1 : World} {B : Nat} (h : w.grownBy w1 none) (hB : B ≤ w.heap.size) : Below B w w1 :=
  (Below.refl _ _).grown h hB (fun k hk => by cases hk)

set_option maxHeartbeats 800000 in
theorem behind0_any (a : Option Addr) (n c : Nat) (xs : List Int) (w : World) (h : Rd w a n c xs) (hn : n ≤ 1000000) :
    Calls Tryd.prog 54 #[.slice a n c, .slice none 0 0] w fun e w' =>
      e = .returned (.slice (some ⟨w.heap.size, 0, none⟩) n n) ∧ w'.ownsRow w.heap.size 5 1 (.slice (some ⟨w.heap.size, 0, none⟩) n n) n (bc xs) ∧ Below w.heap.size w w' := by
  obtain ⟨i0, hi, hz0, hz1, hz2⟩ := info_parts Tryd.info5
  have hl := h.len
  have hbl : (bc xs).length = n * 1 := by rw [bc_len, h.len]; omega
  have hno := rd_none h
  go_enter Tryd.func54, Tryd.ntmps54
  go_wp2
  refine wp_loop_rounds 1 ?_
  rw [rounds_succ]
  go_wp2_with (first
    | (at_make; refine wpList_make_own _ rfl _ _ 22 rfl w.heap.size 5 i0 (.int .u8 0) 1 Tryd.underlying22 hi hz0 hz1 .i64 .i64 _ n rfl rfl (by omega) (by rw [hz2]; omega) (by unfold maxLen; omega) (Nat.le_refl _) ?_; intro w1 hown1 hgrow1)
    | (at_builtin; refine wpList_append_fits_any _ rfl (.tmp 26) (.tmp 27) 22 rfl w.heap.size 5 i0 1 Tryd.underlying22 hi hz1 w.heap.size 0 n [] rfl hown1 a n c (bc xs) rfl hbl hno (rd_news h (grown_none hgrow1 (Nat.le_refl _))) (bc_one xs) (by omega) ?_; intro w2 hown2 hgrow2))
  refine wp_loop_rounds 1 ?_
  rw [rounds_succ]
  have hb2 := (grown_none hgrow1 (Nat.le_refl _)).grown hgrow2 (hgrow1.size) (fun k hk => by cases hk; exact Nat.le_refl _)
  simp only [Nat.zero_add, List.nil_append] at hown2
  clear hown1 hgrow1 hgrow2
  go_wp2
  go_ret
  exact ⟨rfl, hown2, hb2⟩

theorem below_fit {B : Nat} {w w1 w2 : World} (h : Below B w w1) (hB : B ≤ w.heap.size) (hg : w1.grownBy w2 (some w.heap.size)) : Below B w w2 :=
  h.grown hg (Nat.le_trans hB h.size) (fun k hk => by cases hk; exact hB)

set_option maxHeartbeats 1600000 in
theorem behind1_any (a : Option Addr) (n c : Nat) (xs : List Int) (fb : Nat) (a1 : Option Addr) (n1 c1 : Nat) (ys : List Int) (w : World) (h : Rd w a n c xs) (h1 : Rd w a1 n1 c1 ys) (hf : w.cell? ⟨fb, 0, none⟩ = some (.slice a1 n1 c1)) (hn : n ≤ 1000000) (hn1 : n1 ≤ 1000000) :
    Calls Tryd.prog 54 #[.slice a n c, .slice (some ⟨fb, 0, none⟩) 1 1] w fun e w' =>
      e = .returned (.slice (some ⟨w.heap.size, 0, none⟩) (n + n1) (n + n1)) ∧ w'.ownsRow w.heap.size 5 1 (.slice (some ⟨w.heap.size, 0, none⟩) (n + n1) (n + n1)) (n + n1) (bc (xs ++ ys)) ∧ Below w.heap.size w w' := by
  obtain ⟨i0, hi, hz0, hz1, hz2⟩ := info_parts Tryd.info5
  have hbl : (bc xs).length = n * 1 := by rw [bc_len, h.len]; omega
  have hbl1 : (bc ys).length = n1 * 1 := by rw [bc_len, h1.len]; omega
  have hno := rd_none h
  have hno1 := rd_none h1
  have hfb : fb < w.heap.size := World.block_lt_of_cell? w _ hf
  go_enter Tryd.func54, Tryd.ntmps54
  go_wp2
  refine wp_loop_rounds 2 ?_
  rw [rounds_succ]
  go_wp2
  rw [rounds_succ]
  go_wp2_with (first
    | (at_make; refine wpList_make_own _ rfl _ _ 22 rfl w.heap.size 5 i0 (.int .u8 0) 1 Tryd.underlying22 hi hz0 hz1 .i64 .i64 _ (n + n1) rfl rfl (by omega) (by rw [hz2]; omega) (by unfold maxLen; omega) (Nat.le_refl _) ?_; intro w1 hown1 hgrow1)
    | (at_builtin; refine wpList_append_fits_any _ rfl (.tmp 26) (.tmp 27) 22 rfl w.heap.size 5 i0 1 Tryd.underlying22 hi hz1 w.heap.size 0 (n + n1) [] rfl hown1 a n c (bc xs) rfl hbl hno (rd_news h (grown_none hgrow1 (Nat.le_refl _))) (bc_one xs) (by omega) ?_; intro w2 hown2 hgrow2))
  have hb2 := below_fit (grown_none hgrow1 (Nat.le_refl _)) (Nat.le_refl _) hgrow2
  simp only [Nat.zero_add, List.nil_append] at hown2
  have hf2 : w2.cell? ⟨fb, 0, none⟩ = some (.slice a1 n1 c1) := (hb2.cell (p := ⟨fb, 0, none⟩) hfb).trans hf
  clear hown1 hgrow1 hgrow2
  refine wp_loop_rounds 2 ?_
  rw [rounds_succ]
  go_wp2_with (first
    | (at_builtin; refine wpList_append_fits_any _ rfl (.tmp 35) (.tmp 36) 22 rfl w.heap.size 5 i0 1 Tryd.underlying22 hi hz1 w.heap.size n (n + n1) (bc xs) rfl hown2 a1 n1 c1 (bc ys) rfl hbl1 hno1 (rd_news h1 hb2) (bc_one ys) (by omega) ?_; intro w3 hown3 hgrow3))
  have hb3 := below_fit hb2 (Nat.le_refl _) hgrow3
  rw [← bc_append] at hown3
  clear hown2 hgrow3 hb2 hf2
  rw [rounds_succ]
  go_wp2
  go_ret
  exact ⟨rfl, hown3, hb3⟩

set_option maxHeartbeats 1600000 in
theorem behind2_any (a : Option Addr) (n c : Nat) (xs : List Int) (fb : Nat) (a1 : Option Addr) (n1 c1 : Nat) (ys : List Int) (a2 : Option Addr) (n2 c2 : Nat) (zs : List Int) (w : World) (h : Rd w a n c xs) (h1 : Rd w a1 n1 c1 ys) (h2 : Rd w a2 n2 c2 zs)
    (hf : w.cell? ⟨fb, 0, none⟩ = some (.slice a1 n1 c1)) (hg : w.cell? ⟨fb, 1, none⟩ = some (.slice a2 n2 c2)) (hn : n ≤ 1000000) (hn1 : n1 ≤ 1000000) (hn2 : n2 ≤ 1000000) :
    Calls Tryd.prog 54 #[.slice a n c, .slice (some ⟨fb, 0, none⟩) 2 2] w fun e w' =>
      e = .returned (.slice (some ⟨w.heap.size, 0, none⟩) (n + n1 + n2) (n + n1 + n2)) ∧ w'.ownsRow w.heap.size 5 1 (.slice (some ⟨w.heap.size, 0, none⟩) (n + n1 + n2) (n + n1 + n2)) (n + n1 + n2) (bc (xs ++ ys ++ zs)) ∧ Below w.heap.size w w' := by
  obtain ⟨i0, hi, hz0, hz1, hz2⟩ := info_parts Tryd.info5
  have hbl : (bc xs).length = n * 1 := by rw [bc_len, h.len]; omega
  have hbl1 : (bc ys).length = n1 * 1 := by rw [bc_len, h1.len]; omega
  have hbl2 : (bc zs).length = n2 * 1 := by rw [bc_len, h2.len]; omega
  have hno := rd_none h
  have hno1 := rd_none h1
  have hno2 := rd_none h2
  have hfb : fb < w.heap.size := World.block_lt_of_cell? w _ hf
  go_enter Tryd.func54, Tryd.ntmps54
  go_wp2
  refine wp_loop_rounds 3 ?_
  rw [rounds_succ]
  go_wp2
  rw [rounds_succ]
  go_wp2
  rw [rounds_succ]
  go_wp2_with (first
    | (at_make; refine wpList_make_own _ rfl _ _ 22 rfl w.heap.size 5 i0 (.int .u8 0) 1 Tryd.underlying22 hi hz0 hz1 .i64 .i64 _ (n + n1 + n2) rfl rfl (by omega) (by rw [hz2]; omega) (by unfold maxLen; omega) (Nat.le_refl _) ?_; intro w1 hown1 hgrow1)
    | (at_builtin; refine wpList_append_fits_any _ rfl (.tmp 26) (.tmp 27) 22 rfl w.heap.size 5 i0 1 Tryd.underlying22 hi hz1 w.heap.size 0 (n + n1 + n2) [] rfl hown1 a n c (bc xs) rfl hbl hno (rd_news h (grown_none hgrow1 (Nat.le_refl _))) (bc_one xs) (by omega) ?_; intro w2 hown2 hgrow2))
  have hb2 := below_fit (grown_none hgrow1 (Nat.le_refl _)) (Nat.le_refl _) hgrow2
  simp only [Nat.zero_add, List.nil_append] at hown2
  have hf2 : w2.cell? ⟨fb, 0, none⟩ = some (.slice a1 n1 c1) := (hb2.cell (p := ⟨fb, 0, none⟩) hfb).trans hf
  clear hown1 hgrow1 hgrow2
  refine wp_loop_rounds 3 ?_
  rw [rounds_succ]
  go_wp2_with (first
    | (at_builtin; refine wpList_append_fits_any _ rfl (.tmp 35) (.tmp 36) 22 rfl w.heap.size 5 i0 1 Tryd.underlying22 hi hz1 w.heap.size n (n + n1 + n2) (bc xs) rfl hown2 a1 n1 c1 (bc ys) rfl hbl1 hno1 (rd_news h1 hb2) (bc_one ys) (by omega) ?_; intro w3 hown3 hgrow3))
  have hb3 := below_fit hb2 (Nat.le_refl _) hgrow3
  rw [← bc_append] at hown3
  have hg3 : w3.cell? ⟨fb, 1, none⟩ = some (.slice a2 n2 c2) := (hb3.cell (p := ⟨fb, 1, none⟩) hfb).trans hg
  clear hown2 hgrow3 hb2 hf2
  rw [rounds_succ]
  go_wp2_with (first
    | (at_builtin; refine wpList_append_fits_any _ rfl (.tmp 35) (.tmp 36) 22 rfl w.heap.size 5 i0 1 Tryd.underlying22 hi hz1 w.heap.size (n + n1) (n + n1 + n2) (bc (xs ++ ys)) rfl hown3 a2 n2 c2 (bc zs) rfl hbl2 hno2 (rd_news h2 hb3) (bc_one zs) (by omega) ?_; intro w4 hown4 hgrow4))
  have hb4 := below_fit hb3 (Nat.le_refl _) hgrow4
  rw [← bc_append] at hown4
  clear hown3 hgrow4 hb3 hg3
  rw [rounds_succ]
  go_wp2
  go_ret
  exact ⟨rfl, hown4, hb4⟩

theorem own_weaken {w : World} {B B' : Nat} {v : Value} {n : Nat} {xs : List Value} (h : w.ownsRow B 5 1 v n xs) (hB : B' ≤ B) : w.ownsRow B' 5 1 v n xs :=
  ⟨h.1, h.2.elim .inl (fun ⟨g, cap, cur, hv, hg, r⟩ => .inr ⟨g, cap, cur, hv, Nat.le_trans hB hg, r⟩)⟩

end Go.Proofs.YtiidjdedeenijaaDoor
