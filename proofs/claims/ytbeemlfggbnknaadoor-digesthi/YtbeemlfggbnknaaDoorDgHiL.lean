/- DigestHi's walk. -/
import Derived.Test.YtbeemlfggbnknaaDoorDgHj
import Derived.Test.YtbeemlfggbnknaaDoorDgRoL
import Derived.Test.YtbeemlfggbnknaaDoorDgShL
namespace Go.Proofs.YtbeemlfggbnknaaDoor
open Go.RowKit

set_option maxRecDepth 100000 in
set_option maxHeartbeats 800000 in
theorem refHi_bad (a : Option Addr) (n c : Nat) (a' : Option Addr) (n' c' : Nat) (N : Int) (w : World) (hN : N < 1 ∨ 4096 < N) :
    Calls Tryd.prog 17 #[.slice a n c, .slice a' n' c', .int .i64 N] w fun e w' => e = .returned (.tuple #[.agg (ic .u8 (List.replicate 32 0)).toArray, .int .i64 3]) ∧ Below w.heap.size w w' := by
  have hi23 := (size_of Tryd.u23).2
  have hz23 : Tryd.prog.built 23 [] = some (ic .u8 (List.replicate 32 0)).toArray := by kernel_rfl
  rcases hN with hN | hN
  · go_enter Tryd.func17, Tryd.ntmps17
    go_wp2_with (first
      | (refine wp_alloc_ar rfl 23 rfl .u8 (List.replicate 32 0) 32 Tryd.z23 ?_; intro g1 w1 A1 hg1 hb1)
      | (refine wp_build_ar rfl 23 rfl .u8 (List.replicate 32 0) hz23 ?_)
      | (refine wp_store_ar rfl 23 (.tmp 6) (.tmp 17) rfl g1 rfl .u8 (List.replicate 32 0) rfl 23 _ A1 rfl (by simpa using hi23) ?_; intro w2 A2 hk2 hs2))
    exact bodyPost_ret (results_hi rfl _ _ g1 23 .u8 _ 5 32 _ rfl rfl A2 Tryd.u23 rfl) rfl ⟨rfl, hb1.trans (hk2.below hb1.size (fun q hq => by omega))⟩
  · have hN1 : ¬ N < 1 := by omega
    go_enter Tryd.func17, Tryd.ntmps17
    go_wp2_with (first
      | (refine wp_alloc_ar rfl 23 rfl .u8 (List.replicate 32 0) 32 Tryd.z23 ?_; intro g1 w1 A1 hg1 hb1)
      | (refine wp_build_ar rfl 23 rfl .u8 (List.replicate 32 0) hz23 ?_)
      | (refine wp_store_ar rfl 23 (.tmp 6) (.tmp 17) rfl g1 rfl .u8 (List.replicate 32 0) rfl 23 _ A1 rfl (by simpa using hi23) ?_; intro w2 A2 hk2 hs2))
    exact bodyPost_ret (results_hi rfl _ _ g1 23 .u8 _ 5 32 _ rfl rfl A2 Tryd.u23 rfl) rfl ⟨rfl, hb1.trans (hk2.below hb1.size (fun q hq => by omega))⟩


theorem hi_both (X S : List Int) (M : Int) : ∃ (H : List Int) (E : Int), H.length = 32 ∧
    (∀ (a : Option Addr) (n c : Nat) (a' : Option Addr) (n' c' : Nat) (w : World), Rd w a n c X → n ≤ 10000 → Rd w a' n' c' S → n' ≤ 10000 → Kt w → Calls Tryd.prog 16 #[.slice a n c, .slice a' n' c', .int .i64 M] w fun e w' => e = .returned (.tuple #[.agg (ic .u8 H).toArray, .int .i64 E]) ∧ Below w.heap.size w w') ∧
    (∀ (a : Option Addr) (n c : Nat) (a' : Option Addr) (n' c' : Nat) (w : World), Rd w a n c X → n ≤ 10000 → Rd w a' n' c' S → n' ≤ 10000 → Calls Tryd.prog 17 #[.slice a n c, .slice a' n' c', .int .i64 M] w fun e w' => e = .returned (.tuple #[.agg (ic .u8 H).toArray, .int .i64 E]) ∧ Below w.heap.size w w') := by
  by_cases h : M < 1 ∨ 4096 < M
  · exact ⟨List.replicate 32 0, 3, by simp, fun a n c a' n' c' w _ _ _ _ _ => hi_bad a n c a' n' c' M w h, fun a n c a' n' c' w _ _ _ _ => refHi_bad a n c a' n' c' M w h⟩
  · have hM : M = ((M.toNat : Nat) : Int) := by omega
    refine ⟨sumK X S (M.toNat - 1), 0, sumK_len _ _ _, fun a n c a' n' c' w h1 h2 h3 h4 h5 => ?_, fun a n c a' n' c' w h1 h2 h3 h4 => ?_⟩
    · rw [hM]; exact hi_any a n c X a' n' c' S M.toNat w h1 h2 h3 h4 (by omega) (by omega) h5
    · rw [hM]; exact refHi_any a n c X a' n' c' S M.toNat w h1 h2 h3 h4 (by omega) (by omega)

set_option maxRecDepth 100000 in
set_option maxHeartbeats 1600000 in
theorem digestHi_any (a : Option Addr) (n c : Nat) (xs : List Int) (a' : Option Addr) (n' c' : Nat) (ys : List Int) (z : Int) (w : World) (hR : Rd w a n c xs) (hR' : Rd w a' n' c' ys) (hK : Kt w) :
    Calls Tryd.prog 5 #[.slice a n c, .slice a' n' c', .int .i64 z] w fun e w' => e = .returned (.bool true) ∧ Below w.heap.size w w' := by
  have hi23 := (size_of Tryd.u23).2
  obtain ⟨X, HX⟩ := hidE (xs.take 1000)
  obtain ⟨S, HS⟩ := hidE (ys.take 100)
  have HTX : Hid (X.take 1000 = X) := by show _ = _; rw [← HX.out, List.take_take, Nat.min_self]
  have HTS : Hid (S.take 1000 = S) := by show _ = _; rw [← HS.out, List.take_take]; congr 1
  by_cases hz : 60 < z ∧ z ≤ 4096
  · obtain ⟨hz1, hz2⟩ := hz
    obtain ⟨H, E, hHl, h1, h2⟩ := hi_both X S (z % 60 + 1)
    go_enter Tryd.func5, Tryd.ntmps5
    have t1 : True := trivial
    have t2 : True := trivial
    have t3 : True := trivial
    have t4 : True := trivial
    go_wp2_with (first
      | (go_at_call 10; clear t1; refine (fewR a n c xs _ hR).mono ?_; rw [HX.out]; rintro e w1 ⟨a8, n8, c8, rfl, hn8, hX1, hb1⟩)
      | (go_at_call 15; refine (twinR a' n' c' ys 100 _ (hR'.carry (Nat.le_refl _) hb1) (by omega)).mono ?_; rw [HS.out]; rintro e w2 ⟨a9, n9, c9, rfl, hn9, hS2, hb2⟩; have hX2 := hX1.carry (Nat.le_refl _) hb2; have e2 := hb1.trans (hb2.mono hb1.size))
      | (go_at_call 10; clear t2; refine (fewR a8 n8 c8 X _ hX2).mono ?_; rw [HTX.out]; rintro e w3 ⟨a3, n3, c3, rfl, hn3, hX3, hb3⟩; have e3 := e2.trans (hb3.mono e2.size))
      | (go_at_call 10; refine (fewR a9 n9 c9 S _ (hS2.carry (Nat.le_refl _) hb3)).mono ?_; rw [HTS.out]; rintro e w4 ⟨a4, n4, c4, rfl, hn4, hS4, hb4⟩; have e4 := e3.trans (hb4.mono e3.size))
      | (go_at_call 16; refine (h1 a3 n3 c3 a4 n4 c4 _ (hX3.carry (Nat.le_refl _) hb4) (by omega) hS4 (by omega) (hK.below (Nat.le_refl _) e4)).mono ?_; rintro e w5 ⟨rfl, hb5⟩; have e5 := e4.trans (hb5.mono e4.size))
      | (clear t3; refine wp_alloc_ar rfl 23 rfl .u8 (List.replicate 32 0) 32 Tryd.z23 ?_; intro ga w6 A6 hga hb6; have e6 := e5.trans (hb6.mono e5.size))
      | (clear t4; refine wp_store_ar rfl 23 (.tmp 10) (.tmp 35) rfl ga rfl .u8 H rfl 23 _ A6 (by rw [hHl]; rfl) (by rw [hHl]; exact hi23) ?_; intro w7 A7 hk7 hs7; clear hs7; have e7 : Below w.heap.size w w7 := e6.trans (hk7.below e6.size (fun q hq => by have := e5.size; omega)); have b3 := hb3.trans (hb4.mono hb3.size); have b5 := b3.trans (hb5.mono b3.size); have b6 := b5.trans (hb6.mono b5.size); have b7 : Below w2.heap.size w2 w7 := b6.trans (hk7.below b6.size (fun q hq => by have := b5.size; omega)))
      | (go_at_call 17; refine (h2 a8 n8 c8 a9 n9 c9 _ (hX2.carry (Nat.le_refl _) b7) (by omega) (hS2.carry (Nat.le_refl _) b7) (by omega)).mono ?_; rintro e w8 ⟨rfl, hb8⟩; have e8 := e7.trans (hb8.mono e7.size); have A8 := A7.below hb8 A7.lt)
      | (refine wp_alloc_ar rfl 23 rfl .u8 (List.replicate 32 0) 32 Tryd.z23 ?_; intro gb w9 A9 hgb hb9; have e9 := e8.trans (hb9.mono e8.size))
      | (refine wp_store_ar rfl 23 (.tmp 12) (.tmp 42) rfl gb rfl .u8 H rfl 23 _ A9 (by rw [hHl]; rfl) (by rw [hHl]; exact hi23) ?_; intro w10 A10 hk10 hs10; clear hs10; have A11 : Ar w10 ga 23 .u8 H := (A8.below hb9 A8.lt).keep hk10 (by have := A8.lt; omega); have e10 : Below w.heap.size w w10 := e9.trans (hk10.below e9.size (fun q hq => by have := e8.size; omega)))
      | (refine wp_load_ar rfl 23 (.tmp 10) rfl ga rfl 23 .u8 H 5 32 A11 Tryd.u23 hHl ?_)
      | (refine wp_load_ar rfl 23 (.tmp 12) rfl gb rfl 23 .u8 H 5 32 A10 Tryd.u23 hHl ?_)
      | (refine wp_eql23 rfl (.tmp 44) (.tmp 45) rfl H H rfl rfl hHl hHl ?_; rw [show decide (H = H) = true from by simp])
      | (go_at_call 12; refine (wakes_any _ (hK.below (Nat.le_refl _) e10)).mono ?_; rintro e w11 ⟨rfl, hb11⟩))
    go_ret
    exact ⟨rfl, e10.trans (hb11.mono e10.size)⟩
  by_cases hz1 : 60 < z
  · have hz2 : ¬ z ≤ 4096 := fun h => hz ⟨hz1, h⟩
    obtain ⟨H, E, hHl, h1, h2⟩ := hi_both X S z
    clear hz
    go_enter Tryd.func5, Tryd.ntmps5
    have t1 : True := trivial
    have t2 : True := trivial
    have t3 : True := trivial
    have t4 : True := trivial
    go_wp2_with (first
      | (go_at_call 10; clear t1; refine (fewR a n c xs _ hR).mono ?_; rw [HX.out]; rintro e w1 ⟨a8, n8, c8, rfl, hn8, hX1, hb1⟩)
      | (go_at_call 15; refine (twinR a' n' c' ys 100 _ (hR'.carry (Nat.le_refl _) hb1) (by omega)).mono ?_; rw [HS.out]; rintro e w2 ⟨a9, n9, c9, rfl, hn9, hS2, hb2⟩; have hX2 := hX1.carry (Nat.le_refl _) hb2; have e2 := hb1.trans (hb2.mono hb1.size))
      | (go_at_call 10; clear t2; refine (fewR a8 n8 c8 X _ hX2).mono ?_; rw [HTX.out]; rintro e w3 ⟨a3, n3, c3, rfl, hn3, hX3, hb3⟩; have e3 := e2.trans (hb3.mono e2.size))
      | (go_at_call 10; refine (fewR a9 n9 c9 S _ (hS2.carry (Nat.le_refl _) hb3)).mono ?_; rw [HTS.out]; rintro e w4 ⟨a4, n4, c4, rfl, hn4, hS4, hb4⟩; have e4 := e3.trans (hb4.mono e3.size))
      | (go_at_call 16; refine (h1 a3 n3 c3 a4 n4 c4 _ (hX3.carry (Nat.le_refl _) hb4) (by omega) hS4 (by omega) (hK.below (Nat.le_refl _) e4)).mono ?_; rintro e w5 ⟨rfl, hb5⟩; have e5 := e4.trans (hb5.mono e4.size))
      | (clear t3; refine wp_alloc_ar rfl 23 rfl .u8 (List.replicate 32 0) 32 Tryd.z23 ?_; intro ga w6 A6 hga hb6; have e6 := e5.trans (hb6.mono e5.size))
      | (clear t4; refine wp_store_ar rfl 23 (.tmp 10) (.tmp 35) rfl ga rfl .u8 H rfl 23 _ A6 (by rw [hHl]; rfl) (by rw [hHl]; exact hi23) ?_; intro w7 A7 hk7 hs7; clear hs7; have e7 : Below w.heap.size w w7 := e6.trans (hk7.below e6.size (fun q hq => by have := e5.size; omega)); have b3 := hb3.trans (hb4.mono hb3.size); have b5 := b3.trans (hb5.mono b3.size); have b6 := b5.trans (hb6.mono b5.size); have b7 : Below w2.heap.size w2 w7 := b6.trans (hk7.below b6.size (fun q hq => by have := b5.size; omega)))
      | (go_at_call 17; refine (h2 a8 n8 c8 a9 n9 c9 _ (hX2.carry (Nat.le_refl _) b7) (by omega) (hS2.carry (Nat.le_refl _) b7) (by omega)).mono ?_; rintro e w8 ⟨rfl, hb8⟩; have e8 := e7.trans (hb8.mono e7.size); have A8 := A7.below hb8 A7.lt)
      | (refine wp_alloc_ar rfl 23 rfl .u8 (List.replicate 32 0) 32 Tryd.z23 ?_; intro gb w9 A9 hgb hb9; have e9 := e8.trans (hb9.mono e8.size))
      | (refine wp_store_ar rfl 23 (.tmp 12) (.tmp 42) rfl gb rfl .u8 H rfl 23 _ A9 (by rw [hHl]; rfl) (by rw [hHl]; exact hi23) ?_; intro w10 A10 hk10 hs10; clear hs10; have A11 : Ar w10 ga 23 .u8 H := (A8.below hb9 A8.lt).keep hk10 (by have := A8.lt; omega); have e10 : Below w.heap.size w w10 := e9.trans (hk10.below e9.size (fun q hq => by have := e8.size; omega)))
      | (refine wp_load_ar rfl 23 (.tmp 10) rfl ga rfl 23 .u8 H 5 32 A11 Tryd.u23 hHl ?_)
      | (refine wp_load_ar rfl 23 (.tmp 12) rfl gb rfl 23 .u8 H 5 32 A10 Tryd.u23 hHl ?_)
      | (refine wp_eql23 rfl (.tmp 44) (.tmp 45) rfl H H rfl rfl hHl hHl ?_; rw [show decide (H = H) = true from by simp])
      | (go_at_call 12; refine (wakes_any _ (hK.below (Nat.le_refl _) e10)).mono ?_; rintro e w11 ⟨rfl, hb11⟩))
    go_ret
    exact ⟨rfl, e10.trans (hb11.mono e10.size)⟩
  · obtain ⟨H, E, hHl, h1, h2⟩ := hi_both X S z
    clear hz
    go_enter Tryd.func5, Tryd.ntmps5
    have t1 : True := trivial
    have t2 : True := trivial
    have t3 : True := trivial
    have t4 : True := trivial
    go_wp2_with (first
      | (go_at_call 10; clear t1; refine (fewR a n c xs _ hR).mono ?_; rw [HX.out]; rintro e w1 ⟨a8, n8, c8, rfl, hn8, hX1, hb1⟩)
      | (go_at_call 15; refine (twinR a' n' c' ys 100 _ (hR'.carry (Nat.le_refl _) hb1) (by omega)).mono ?_; rw [HS.out]; rintro e w2 ⟨a9, n9, c9, rfl, hn9, hS2, hb2⟩; have hX2 := hX1.carry (Nat.le_refl _) hb2; have e2 := hb1.trans (hb2.mono hb1.size))
      | (go_at_call 10; clear t2; refine (fewR a8 n8 c8 X _ hX2).mono ?_; rw [HTX.out]; rintro e w3 ⟨a3, n3, c3, rfl, hn3, hX3, hb3⟩; have e3 := e2.trans (hb3.mono e2.size))
      | (go_at_call 10; refine (fewR a9 n9 c9 S _ (hS2.carry (Nat.le_refl _) hb3)).mono ?_; rw [HTS.out]; rintro e w4 ⟨a4, n4, c4, rfl, hn4, hS4, hb4⟩; have e4 := e3.trans (hb4.mono e3.size))
      | (go_at_call 16; refine (h1 a3 n3 c3 a4 n4 c4 _ (hX3.carry (Nat.le_refl _) hb4) (by omega) hS4 (by omega) (hK.below (Nat.le_refl _) e4)).mono ?_; rintro e w5 ⟨rfl, hb5⟩; have e5 := e4.trans (hb5.mono e4.size))
      | (clear t3; refine wp_alloc_ar rfl 23 rfl .u8 (List.replicate 32 0) 32 Tryd.z23 ?_; intro ga w6 A6 hga hb6; have e6 := e5.trans (hb6.mono e5.size))
      | (clear t4; refine wp_store_ar rfl 23 (.tmp 10) (.tmp 35) rfl ga rfl .u8 H rfl 23 _ A6 (by rw [hHl]; rfl) (by rw [hHl]; exact hi23) ?_; intro w7 A7 hk7 hs7; clear hs7; have e7 : Below w.heap.size w w7 := e6.trans (hk7.below e6.size (fun q hq => by have := e5.size; omega)); have b3 := hb3.trans (hb4.mono hb3.size); have b5 := b3.trans (hb5.mono b3.size); have b6 := b5.trans (hb6.mono b5.size); have b7 : Below w2.heap.size w2 w7 := b6.trans (hk7.below b6.size (fun q hq => by have := b5.size; omega)))
      | (go_at_call 17; refine (h2 a8 n8 c8 a9 n9 c9 _ (hX2.carry (Nat.le_refl _) b7) (by omega) (hS2.carry (Nat.le_refl _) b7) (by omega)).mono ?_; rintro e w8 ⟨rfl, hb8⟩; have e8 := e7.trans (hb8.mono e7.size); have A8 := A7.below hb8 A7.lt)
      | (refine wp_alloc_ar rfl 23 rfl .u8 (List.replicate 32 0) 32 Tryd.z23 ?_; intro gb w9 A9 hgb hb9; have e9 := e8.trans (hb9.mono e8.size))
      | (refine wp_store_ar rfl 23 (.tmp 12) (.tmp 42) rfl gb rfl .u8 H rfl 23 _ A9 (by rw [hHl]; rfl) (by rw [hHl]; exact hi23) ?_; intro w10 A10 hk10 hs10; clear hs10; have A11 : Ar w10 ga 23 .u8 H := (A8.below hb9 A8.lt).keep hk10 (by have := A8.lt; omega); have e10 : Below w.heap.size w w10 := e9.trans (hk10.below e9.size (fun q hq => by have := e8.size; omega)))
      | (refine wp_load_ar rfl 23 (.tmp 10) rfl ga rfl 23 .u8 H 5 32 A11 Tryd.u23 hHl ?_)
      | (refine wp_load_ar rfl 23 (.tmp 12) rfl gb rfl 23 .u8 H 5 32 A10 Tryd.u23 hHl ?_)
      | (refine wp_eql23 rfl (.tmp 44) (.tmp 45) rfl H H rfl rfl hHl hHl ?_; rw [show decide (H = H) = true from by simp])
      | (go_at_call 12; refine (wakes_any _ (hK.below (Nat.le_refl _) e10)).mono ?_; rintro e w11 ⟨rfl, hb11⟩))
    go_ret
    exact ⟨rfl, e10.trans (hb11.mono e10.size)⟩
end Go.Proofs.YtbeemlfggbnknaaDoor
