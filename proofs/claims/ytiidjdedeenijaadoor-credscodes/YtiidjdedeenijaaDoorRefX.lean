/- The document's Text. -/
import Derived.Test.YtiidjdedeenijaaDoorRefI
import Derived.Test.YtiidjdedeenijaaDoorRefV
import Derived.Deep.CutRange
namespace Go.Proofs.YtiidjdedeenijaaDoor
open Go.RowKit

theorem ownRN {B : Nat} {w' : World} {v : Value} {M : Nat} {Z : List Int} (hZ : Bd Z) (h : w'.ownsRow B 5 1 v M (bc Z)) : ∃ a' n' c', v = .slice a' n' c' ∧ Rd w' a' n' c' Z ∧ ∀ ad, a' = some ad → B ≤ ad.block := by
  have h2 := h.2
  obtain ⟨a1, c1, rfl, hr1⟩ := Rd.ofOwn h hZ
  refine ⟨a1, _, c1, rfl, hr1, fun ad had => ?_⟩
  subst had
  rcases h2 with ⟨hv, _⟩ | ⟨g, cap, cur, hv, hg, _⟩
  · cases hv
  · cases hv; exact hg

set_option maxHeartbeats 6400000 in
set_option maxRecDepth 100000 in
theorem refTextN (a : Option Addr) (n c : Nat) (xs : List Int) (most : Int) (w : World) (hR : Rd w a n c xs) (hn : n ≤ 1000000) (hm0 : -9223372036854775808 ≤ most) (hm1 : most ≤ 9223372036854775807) :
    Calls Tryd.prog 38 #[.slice a n c, .int .i64 most] w fun e w' =>
      (terr xs most ≠ 0 ∧ e = .returned (.tuple #[.string ⟨#[]⟩, .slice none 0 0, .int .i64 (terr xs most)]) ∧ Ext w w') ∨
      (terr xs most = 0 ∧ ∃ a' n' c', e = .returned (.tuple #[.string (strOfNums ((xs.drop (scan xs 0 0).2.1).take (scan xs 0 0).1)), .slice a' n' c', .int .i64 0]) ∧ Rd w' a' n' c' ((xs.drop (scan xs 0 0).2.1).drop (scan xs 0 0).1) ∧ Ext w w' ∧ ∀ ad, a' = some ad → w.heap.size ≤ ad.block) := by
  have hlt := scan_lt xs 0 0 hR.bytes (by omega) (by decide)
  have hl := hR.len
  have HN := refUintR a n c xs w hR hn
  have hbd := hR.bytes
  obtain ⟨E, hE0⟩ : ∃ E, E = terr xs most := ⟨_, rfl⟩
  rw [← hE0]
  unfold terr at hE0
  obtain ⟨p, s, e, hs⟩ : ∃ p s e, scan xs 0 0 = (p, s, e) := ⟨_, _, _, rfl⟩
  rw [hs] at HN hlt hE0
  rw [hs]
  simp only at HN hlt hE0 ⊢
  clear hs hR
  by_cases he : e = 0
  · subst he
    have HN' : Calls Tryd.prog 39 #[.slice a n c] w fun e w' => ∃ a' n' c', e = .returned (.tuple #[.int .u64 p, .slice a' n' c', .int .i64 0]) ∧ Rd w' a' n' c' (xs.drop s) ∧ Ext w w' :=
      HN.mono (by rintro e w' (⟨h1, _⟩ | ⟨_, g⟩); exact absurd rfl h1; exact g)
    clear HN
    rw [if_neg (by omega)] at hE0
    have hdl : (xs.drop s).length = n - s := by rw [List.length_drop, hl]
    obtain ⟨ys, hys⟩ : ∃ ys, ys = xs.drop s := ⟨_, rfl⟩
    have hyb : Bd ys := by rw [hys]; exact hbd.drop s
    rw [← hys] at HN' hE0 hdl
    rw [← hys]
    have hxl : xs.length - s = ys.length := by omega
    rw [hxl] at hE0
    have hyn : ys.length ≤ 1000000 := by omega
    clear hxl hys hbd hl hdl
    by_cases hneg : most < 0
    · skip
      have hmx : max most 0 = 0 := by omega
      rw [hmx] at hE0
      clear hmx
      by_cases hbig : 0 < (p : Int)
      · have HE : Hid (E = 5) := (by rw [hE0, if_pos hbig] : E = 5)
        clear hE0
        go_enter Tryd.func38, Tryd.ntmps38
        go_wp2_with (go_at_call 39; refine HN'.mono ?_; rintro e w1 ⟨a1, n1, c1, rfl, hr1, hx1⟩)
        go_ret3
        exact .inl ⟨by rw [HE.out]; decide, ret_txt (by rw [HE.out]; rfl), hx1⟩
      · rw [if_neg hbig] at hE0
        by_cases hshort : ys.length < p
        · exfalso; omega
        · rw [if_neg hshort] at hE0
          have hp : p ≤ ys.length := by omega
          have hvn : nums (strOfNums (ys.take p)) = ys.take p := nums_str (hyb.take p)
          have hvs : (strOfNums (ys.take p)).size ≤ 1000000 := by rw [strOfNums_size, List.length_take]; omega
          have HVAL := fun w => refValid_any (strOfNums (ys.take p)) w hvs
          rw [hvn] at HVAL
          clear hvn hvs
          obtain ⟨T, hT⟩ : ∃ T, T = strOfNums (ys.take p) := ⟨_, rfl⟩
          rw [← hT] at HVAL
          rw [← hT]
          have HT : Hid (T = strOfNums (ys.take p)) := hT
          clear hT
          by_cases hv : vld (ys.take p) = true
          · have HE : Hid (E = 0) := (by rw [hE0, if_pos hv] : E = 0)
            clear hE0
            rw [hv] at HVAL
            go_enter Tryd.func38, Tryd.ntmps38
            go_upto_region 13 with (first | (go_at_call 39; refine HN'.mono ?_; rintro e w1 ⟨a1, n1, c1, rfl, hr1, hx1⟩; have hn1 := hr1.len; have hc1 := hr1.cap; have hq1 : c1 ≤ 9223372036854775807 := hr1.most; have hs1 : p ≤ n1 := (by omega); have hs2 : ¬ ((n1 : Int) < (p : Int)) := (by omega); have hst := (hr1.take hs1).string; rw [← HT.out] at hst) | (go_at_call 25; refine (HVAL _).mono ?_; rintro e w2 ⟨rfl, rfl⟩))
            by_cases hcp : c1 = p
            · subst hcp
              go_wp2_with (at_builtin; refine wp_app0 rfl _ _ rfl rfl _ _ _ _ rfl hr1.cutAll (by omega) ?_; intro v2 w2 hown2 hb2)
              go_ret3
              have e2 : ys.drop c1 = [] := List.drop_of_length_le (by omega)
              obtain ⟨a2, n2, c2, rfl, hr, hnew⟩ := ownRN Bd.nil hown2
              exact .inr ⟨HE.out, a2, n2, c2, rfl, by rw [e2]; exact hr, hx1.trans hb2, fun ad he => Nat.le_trans (Below.size hx1) (hnew ad he)⟩
            · have hRp := hr1.cut p
              go_wp2_with (at_builtin; refine wp_app0 rfl _ _ rfl rfl _ _ _ _ rfl hRp (by omega) ?_; intro v2 w2 hown2 hb2)
              go_ret3
              obtain ⟨a2, n2, c2, rfl, hr, hnew⟩ := ownRN (hyb.drop p) hown2
              exact .inr ⟨HE.out, a2, n2, c2, rfl, hr, hx1.trans hb2, fun ad he => Nat.le_trans (Below.size hx1) (hnew ad he)⟩
          · have hv' : vld (ys.take p) = false := by simpa using hv
            have HE : Hid (E = 4) := (by rw [hE0, if_neg hv] : E = 4)
            clear hE0 hv
            rw [hv'] at HVAL
            go_enter Tryd.func38, Tryd.ntmps38
            go_wp2_with (first | (go_at_call 39; refine HN'.mono ?_; rintro e w1 ⟨a1, n1, c1, rfl, hr1, hx1⟩; have hn1 := hr1.len; have hc1 := hr1.cap; have hq1 : c1 ≤ 9223372036854775807 := hr1.most; have hs1 : p ≤ n1 := (by omega); have hs2 : ¬ ((n1 : Int) < (p : Int)) := (by omega); have hst := (hr1.take hs1).string; rw [← HT.out] at hst) | (go_at_call 25; refine (HVAL _).mono ?_; rintro e w2 ⟨rfl, rfl⟩))
            go_ret3
            exact .inl ⟨by rw [HE.out]; decide, ret_txt (by rw [HE.out]; rfl), hx1⟩
    · have hpos : 0 ≤ most := by omega
      have hmx : max most 0 = most := by omega
      rw [hmx] at hE0
      clear hmx
      by_cases hbig : most < (p : Int)
      · have HE : Hid (E = 5) := (by rw [hE0, if_pos hbig] : E = 5)
        clear hE0
        go_enter Tryd.func38, Tryd.ntmps38
        go_wp2_with (go_at_call 39; refine HN'.mono ?_; rintro e w1 ⟨a1, n1, c1, rfl, hr1, hx1⟩)
        go_ret3
        exact .inl ⟨by rw [HE.out]; decide, ret_txt (by rw [HE.out]; rfl), hx1⟩
      · rw [if_neg hbig] at hE0
        by_cases hshort : ys.length < p
        · have HE : Hid (E = 2) := (by rw [hE0, if_pos hshort] : E = 2)
          clear hE0
          go_enter Tryd.func38, Tryd.ntmps38
          go_wp2_with (go_at_call 39; refine HN'.mono ?_; rintro e w1 ⟨a1, n1, c1, rfl, hr1, hx1⟩; have hn1 := hr1.len; have hc1 := hr1.cap; have hq1 : c1 ≤ 9223372036854775807 := hr1.most; have hs1 : (n1 : Int) < (p : Int) := (by omega))
          go_ret3
          exact .inl ⟨by rw [HE.out]; decide, ret_txt (by rw [HE.out]; rfl), hx1⟩
        · rw [if_neg hshort] at hE0
          have hp : p ≤ ys.length := by omega
          have hvn : nums (strOfNums (ys.take p)) = ys.take p := nums_str (hyb.take p)
          have hvs : (strOfNums (ys.take p)).size ≤ 1000000 := by rw [strOfNums_size, List.length_take]; omega
          have HVAL := fun w => refValid_any (strOfNums (ys.take p)) w hvs
          rw [hvn] at HVAL
          clear hvn hvs
          obtain ⟨T, hT⟩ : ∃ T, T = strOfNums (ys.take p) := ⟨_, rfl⟩
          rw [← hT] at HVAL
          rw [← hT]
          have HT : Hid (T = strOfNums (ys.take p)) := hT
          clear hT
          by_cases hv : vld (ys.take p) = true
          · have HE : Hid (E = 0) := (by rw [hE0, if_pos hv] : E = 0)
            clear hE0
            rw [hv] at HVAL
            go_enter Tryd.func38, Tryd.ntmps38
            go_upto_region 13 with (first | (go_at_call 39; refine HN'.mono ?_; rintro e w1 ⟨a1, n1, c1, rfl, hr1, hx1⟩; have hn1 := hr1.len; have hc1 := hr1.cap; have hq1 : c1 ≤ 9223372036854775807 := hr1.most; have hs1 : p ≤ n1 := (by omega); have hs2 : ¬ ((n1 : Int) < (p : Int)) := (by omega); have hst := (hr1.take hs1).string; rw [← HT.out] at hst) | (go_at_call 25; refine (HVAL _).mono ?_; rintro e w2 ⟨rfl, rfl⟩))
            by_cases hcp : c1 = p
            · subst hcp
              go_wp2_with (at_builtin; refine wp_app0 rfl _ _ rfl rfl _ _ _ _ rfl hr1.cutAll (by omega) ?_; intro v2 w2 hown2 hb2)
              go_ret3
              have e2 : ys.drop c1 = [] := List.drop_of_length_le (by omega)
              obtain ⟨a2, n2, c2, rfl, hr, hnew⟩ := ownRN Bd.nil hown2
              exact .inr ⟨HE.out, a2, n2, c2, rfl, by rw [e2]; exact hr, hx1.trans hb2, fun ad he => Nat.le_trans (Below.size hx1) (hnew ad he)⟩
            · have hRp := hr1.cut p
              go_wp2_with (at_builtin; refine wp_app0 rfl _ _ rfl rfl _ _ _ _ rfl hRp (by omega) ?_; intro v2 w2 hown2 hb2)
              go_ret3
              obtain ⟨a2, n2, c2, rfl, hr, hnew⟩ := ownRN (hyb.drop p) hown2
              exact .inr ⟨HE.out, a2, n2, c2, rfl, hr, hx1.trans hb2, fun ad he => Nat.le_trans (Below.size hx1) (hnew ad he)⟩
          · have hv' : vld (ys.take p) = false := by simpa using hv
            have HE : Hid (E = 4) := (by rw [hE0, if_neg hv] : E = 4)
            clear hE0 hv
            rw [hv'] at HVAL
            go_enter Tryd.func38, Tryd.ntmps38
            go_wp2_with (first | (go_at_call 39; refine HN'.mono ?_; rintro e w1 ⟨a1, n1, c1, rfl, hr1, hx1⟩; have hn1 := hr1.len; have hc1 := hr1.cap; have hq1 : c1 ≤ 9223372036854775807 := hr1.most; have hs1 : p ≤ n1 := (by omega); have hs2 : ¬ ((n1 : Int) < (p : Int)) := (by omega); have hst := (hr1.take hs1).string; rw [← HT.out] at hst) | (go_at_call 25; refine (HVAL _).mono ?_; rintro e w2 ⟨rfl, rfl⟩))
            go_ret3
            exact .inl ⟨by rw [HE.out]; decide, ret_txt (by rw [HE.out]; rfl), hx1⟩
  · have HN' : Calls Tryd.prog 39 #[.slice a n c] w fun e' w' => e' = .returned (.tuple #[.int .u64 0, .slice none 0 0, .int .i64 e]) ∧ Ext w w' :=
      HN.mono (by rintro e' w' (⟨_, g⟩ | ⟨h1, _⟩); exact g; exact absurd h1 he)
    clear HN
    have HE : Hid (E = e) := (by rw [hE0, if_pos he] : E = e)
    clear hE0
    have he' : ((e : Int) != 0) = true := by simp; omega
    go_enter Tryd.func38, Tryd.ntmps38
    go_wp2_with (go_at_call 39; refine HN'.mono ?_; rintro e' w1 ⟨rfl, hx1⟩)
    go_ret3
    exact .inl ⟨by rw [HE.out]; exact he, ret_txt (by rw [HE.out]), hx1⟩

theorem refTextR (a : Option Addr) (n c : Nat) (xs : List Int) (most : Int) (w : World) (hR : Rd w a n c xs) (hn : n ≤ 1000000) (hm0 : -9223372036854775808 ≤ most) (hm1 : most ≤ 9223372036854775807) :
    Calls Tryd.prog 38 #[.slice a n c, .int .i64 most] w fun e w' =>
      (terr xs most ≠ 0 ∧ e = .returned (.tuple #[.string ⟨#[]⟩, .slice none 0 0, .int .i64 (terr xs most)]) ∧ Ext w w') ∨
      (terr xs most = 0 ∧ ∃ a' n' c', e = .returned (.tuple #[.string (strOfNums ((xs.drop (scan xs 0 0).2.1).take (scan xs 0 0).1)), .slice a' n' c', .int .i64 0]) ∧ Rd w' a' n' c' ((xs.drop (scan xs 0 0).2.1).drop (scan xs 0 0).1) ∧ Ext w w') :=
  (refTextN a n c xs most w hR hn hm0 hm1).mono fun _ _ g => g.imp id (fun ⟨h0, a', n', c', e, r, x, _⟩ => ⟨h0, a', n', c', e, r, x⟩)

end Go.Proofs.YtiidjdedeenijaaDoor
