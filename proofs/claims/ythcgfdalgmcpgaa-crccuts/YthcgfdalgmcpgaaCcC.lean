/- CrcCuts, walked. -/
import Derived.Test.YthcgfdalgmcpgaaCcW
namespace Go.Proofs.Ythcgfdalgmcpgaa
open Go.RowKit
namespace crcCuts

theorem tm20 (z : Int) : ∃ k : Nat, (wrap64 (z.tmod 20 + 20)).tmod 20 = (k : Int) ∧ k < 20 := by
  have h1 : z.tmod 20 < 20 := Int.tmod_lt_of_pos z (by omega)
  have h2 : -20 < z.tmod 20 := by
    have : (-z).tmod 20 < 20 := Int.tmod_lt_of_pos (-z) (by omega)
    rw [Int.neg_tmod] at this; omega
  have h3 : wrap64 (z.tmod 20 + 20) = z.tmod 20 + 20 := by unfold wrap64; omega
  rw [h3, Int.tmod_eq_emod_of_nonneg (by omega)]
  exact ⟨((z.tmod 20 + 20) % 20).toNat, by omega, by omega⟩

theorem rd_zero {w : World} {b f f' n c : Nat} {Z : List Int} (h : Rd w (some ⟨b, f, none⟩) n c Z) (hn : n = 0) : Rd w (some ⟨b, f', none⟩) 0 0 Z :=
  ⟨h.len.trans hn, Nat.le_refl _, by unfold maxLen; omega, (fun e => by cases e), h.bytes, fun _ _ j hj => by omega⟩
theorem rd_n {w : World} {a : Option Addr} {n c : Nat} {Z : List Int} (h : Rd w a n c Z) (hn : n = 0) : Rd w a 0 c Z := by subst hn; exact h

set_option maxRecDepth 100000 in
set_option maxHeartbeats 1600000 in
theorem walk (a : Option Addr) (n c : Nat) (xs : List Int) (ac : Option Addr) (nc cc : Nat) (w : World) (hR : Rd w a n c xs) (hnc : nc ≤ 9223372036854775807)
    (hI : 0 < nc → ∃ b off, ac = some ⟨b, off, none⟩ ∧ ∀ j, j < nc → ∃ z, w.cell? ⟨b, off + j, none⟩ = some (.int .i64 z) ∧ -9223372036854775808 ≤ z ∧ z ≤ 9223372036854775807) :
    Calls Try.prog 4 #[.slice a n c, .slice ac nc cc] w fun e w' => e = .returned (.bool true) ∧ Below w.heap.size w w' := by
  have hF := fun u (h : Rd u a n c xs) => fewF a n c xs u h
  have tk1 : True := trivial
  obtain ⟨X, HX⟩ : ∃ X, Hid (xs.take 1000 = X) := ⟨_, rfl⟩
  simp only [HX.out] at hF
  have HR : Hid (Rd w a n c xs) := hR
  clear hR
  go_enter Try.func4, Try.ntmps4
  go_wp2_with (first
    | (go_at_call 8; clear tk1; refine (hF _ HR.out).mono ?_; rintro e w1 ⟨a1, n1, c1, rfl, hn1, ho1, hbd, hb1⟩; have hr1 := own_rd ho1 hbd; clear ho1)
    | (go_at_call 8; refine (hF _ (HR.out.carry (Nat.le_refl _) hb1)).mono ?_; rintro e w2 ⟨a2, n2, c2, rfl, hn2, ho2, _, hb2'⟩; have hr2 := own_rd ho2 hbd; clear ho2 hbd; have hb2 := hb1.trans (hb2'.mono hb1.size)))
  have hrx := hr1.carry (Nat.le_refl _) hb2'
  clear hr1 hb1 hb2' hF HR
  have HI : Hid (0 < nc → ∃ b off, ac = some ⟨b, off, none⟩ ∧ ∀ j, j < nc → ∃ z, w2.cell? ⟨b, off + j, none⟩ = some (.int .i64 z) ∧ -9223372036854775808 ≤ z ∧ z ≤ 9223372036854775807) := fun h => by
    obtain ⟨b, off, e, hc⟩ := hI h
    refine ⟨b, off, e, fun j hj => ?_⟩
    obtain ⟨z, h1, h2⟩ := hc j hj
    exact ⟨z, by rw [hb2.cell (World.block_lt_of_cell? w _ h1)]; exact h1, h2⟩
  clear hI
  go_loopw [6, 7, 8, 9] (fun v r i _ wr => ∃ (k : Nat) (s : BitVec 32) (ar fr nr cr : Nat) (Y : List Int), k ≤ nc ∧ k ≤ 50 ∧ i = .int .i64 k ∧ v = .int .u32 (uw s) ∧ r = .slice (some ⟨ar, fr, none⟩) nr cr ∧ nr ≤ 1000 ∧ Hid (Rd wr (some ⟨ar, fr, none⟩) nr cr Y) ∧ Hid (more s Y = more 0#32 X) ∧ Hid (Below w2.heap.size w2 wr)) (fun _ _ i _ _ => 50 - (intOf i).toNat)
  case atStart => exact ⟨0, 0#32, a2, 0, n2, c2, X, by omega, by omega, rfl, rfl, rfl, hn2, hr2, rfl, Below.refl _ _⟩
  case round =>
    obtain ⟨k, s, ar, fr, nr, cr, Y, hk, hk50, rfl, rfl, rfl, hnr, HY, HM, HB⟩ := hrel
    clear hr2
    by_cases hlt : k < nc
    · have hcl : (k : Int) < (nc : Int) := by omega
      by_cases hlt50 : k < 50
      · have hcl50 : (k : Int) < 50 := by omega
        obtain ⟨b, off, rfl, hce⟩ := HI.out (by omega)
        obtain ⟨z, hz, hz1, hz2⟩ := hce k hlt
        have hzr : wr.cell? ⟨b, off + k, none⟩ = some (.int .i64 z) := by rw [HB.out.cell (World.block_lt_of_cell? w2 _ hz)]; exact hz
        obtain ⟨kk, hkk, hkk20⟩ := tm20 z
        clear hce hz
        have hyc := HY.out.cap
        have hym : cr ≤ 9223372036854775807 := HY.out.most
        obtain ⟨e, he, hen, hek⟩ : ∃ e : Nat, e ≤ nr ∧ ((nr : Int) < (kk : Int) → e = nr) ∧ (¬ (nr : Int) < (kk : Int) → e = kk) := by
          by_cases h : nr < kk
          · exact ⟨nr, Nat.le_refl _, fun _ => rfl, fun g => absurd (by omega) g⟩
          · exact ⟨kk, by omega, fun g => absurd g (by omega), fun _ => rfl⟩
        have HT := HY.out.takeK he
        have HD := HY.out.drop he
        have HE : Hid (more (more s (Y.take e)) (Y.drop e) = more 0#32 X) := by
          show _ = _
          rw [← more_append, List.take_append_drop]; exact HM.out
        have HL : Hid (Y.length = nr) := HY.out.len
        have tk2 : True := trivial
        have hMo := fun u p q r (h : Rd u p q r (Y.take e)) => more_any s p q r (Y.take e) u h
        clear HY HM HI
        by_cases hg : (nr : Int) < (kk : Int)
        · obtain rfl := hen hg
          clear hen hek
          by_cases hce : cr = e
          · subst hce
            go_wp2_with (first
              | (at_builtin; clear tk2; refine wp_app0K rfl _ _ rfl rfl _ _ _ _ rfl HT (by omega) ?_; rintro v' w3 ho3 hb3 ⟨g3, c3, rfl⟩; have hr3 := own_rd ho3 HT.bytes; clear ho3)
              | (go_at_call 10; refine (hMo _ _ _ _ hr3).mono ?_; rintro ee w4 ⟨rfl, rfl⟩))
            exact ⟨⟨k + 1, _, ar, fr, 0, 0, Y.drop cr, by omega, by omega, by go_num, rfl, rfl, by omega, rd_zero (HD.carry (Nat.le_refl _) hb3) (by omega), HE, HB.out.trans (hb3.mono HB.out.size)⟩, by simp [intOf]; omega⟩
          · go_wp2_with (first
              | (at_builtin; clear tk2; refine wp_app0K rfl _ _ rfl rfl _ _ _ _ rfl HT (by omega) ?_; rintro v' w3 ho3 hb3 ⟨g3, c3, rfl⟩; have hr3 := own_rd ho3 HT.bytes; clear ho3)
              | (go_at_call 10; refine (hMo _ _ _ _ hr3).mono ?_; rintro ee w4 ⟨rfl, rfl⟩))
            exact ⟨⟨k + 1, _, ar, fr + e, 0, cr - e, Y.drop e, by omega, by omega, by go_num, rfl, by first | rfl | simp, by omega, rd_n (HD.carry (Nat.le_refl _) hb3) (by omega), HE, HB.out.trans (hb3.mono HB.out.size)⟩, by simp [intOf]; omega⟩
        · obtain rfl := hek hg
          clear hen hek
          by_cases hce : cr = e
          · subst hce
            obtain rfl : nr = cr := by omega
            go_wp2_with (first
              | (at_builtin; clear tk2; refine wp_app0K rfl _ _ rfl rfl _ _ _ _ rfl HT (by omega) ?_; rintro v' w3 ho3 hb3 ⟨g3, c3, rfl⟩; have hr3 := own_rd ho3 HT.bytes; clear ho3)
              | (go_at_call 10; refine (hMo _ _ _ _ hr3).mono ?_; rintro ee w4 ⟨rfl, rfl⟩))
            exact ⟨⟨k + 1, _, ar, fr, 0, 0, Y.drop nr, by omega, by omega, by go_num, rfl, rfl, by omega, rd_zero (HD.carry (Nat.le_refl _) hb3) (by omega), HE, HB.out.trans (hb3.mono HB.out.size)⟩, by simp [intOf]; omega⟩
          · go_wp2_with (first
              | (at_builtin; clear tk2; refine wp_app0K rfl _ _ rfl rfl _ _ _ _ rfl HT (by omega) ?_; rintro v' w3 ho3 hb3 ⟨g3, c3, rfl⟩; have hr3 := own_rd ho3 HT.bytes; clear ho3)
              | (go_at_call 10; refine (hMo _ _ _ _ hr3).mono ?_; rintro ee w4 ⟨rfl, rfl⟩))
            exact ⟨⟨k + 1, _, ar, fr + e, nr - e, cr - e, Y.drop e, by omega, by omega, by go_num, rfl, by first | rfl | simp, by omega, HD.carry (Nat.le_refl _) hb3, HE, HB.out.trans (hb3.mono HB.out.size)⟩, by simp [intOf]; omega⟩
      · have hcl50 : ¬ (k : Int) < 50 := by omega
        have tk3 : True := trivial
        have HX0 := hrx.carry (Nat.le_refl _) HB.out
        clear HI hrx
        go_wp2_with (first
          | (go_at_call 10; clear tk3; refine (more_any s _ _ _ Y _ HY.out).mono ?_; rintro ee w4 ⟨rfl, rfl⟩; rw [HM.out])
          | (go_at_call 7; refine (sum_any _ _ _ X _ HX0).mono ?_; rintro ee w4 ⟨rfl, rfl⟩)
          | (go_at_call 10; refine (more_any s none 0 0 [] _ (rd_nilK _)).mono ?_; rintro ee w4 ⟨rfl, rfl⟩; rw [more_nil])
          | (go_at_call 12; refine (wakes_any _).mono ?_; rintro e w5 ⟨rfl, hb5⟩))
        go_ret
        exact ⟨rfl, hb2.trans ((HB.out.trans (hb5.mono HB.out.size)).mono hb2.size)⟩
    · have hcl : ¬ (k : Int) < (nc : Int) := by omega
      have tk3 : True := trivial
      have HX0 := hrx.carry (Nat.le_refl _) HB.out
      clear HI hrx
      go_wp2_with (first
        | (go_at_call 10; clear tk3; refine (more_any s _ _ _ Y _ HY.out).mono ?_; rintro ee w4 ⟨rfl, rfl⟩; rw [HM.out])
        | (go_at_call 7; refine (sum_any _ _ _ X _ HX0).mono ?_; rintro ee w4 ⟨rfl, rfl⟩)
        | (go_at_call 10; refine (more_any s none 0 0 [] _ (rd_nilK _)).mono ?_; rintro ee w4 ⟨rfl, rfl⟩; rw [more_nil])
        | (go_at_call 12; refine (wakes_any _).mono ?_; rintro e w5 ⟨rfl, hb5⟩))
      go_ret
      exact ⟨rfl, hb2.trans ((HB.out.trans (hb5.mono HB.out.size)).mono hb2.size)⟩
end crcCuts
end Go.Proofs.Ythcgfdalgmcpgaa
