/- The document's Int, Same, Float. -/
import Derived.Test.YtomkcmkbehcjnaaDoorRefU
import Derived.Test.YtomkcmkbehcjnaaDoorReadI
import Derived.Test.YtomkcmkbehcjnaaDoorReadF
import Derived.Test.YtomkcmkbehcjnaaDoorBackC
namespace Go.Proofs.YtomkcmkbehcjnaaDoor
open Go.RowKit

/-- The document's Uint, as the laws use it. -/
theorem refUintR (a : Option Addr) (n c : Nat) (xs : List Int) (w : World) (h : Rd w a n c xs) (hn : n ≤ 1000000) :
    Calls Tryd.prog 39 #[.slice a n c] w fun e w' =>
      ((scan xs 0 0).2.2 ≠ 0 ∧ e = .returned (.tuple #[.int .u64 0, .slice none 0 0, .int .i64 (scan xs 0 0).2.2]) ∧ Ext w w') ∨
      ((scan xs 0 0).2.2 = 0 ∧ ∃ a' n' c', e = .returned (.tuple #[.int .u64 (scan xs 0 0).1, .slice a' n' c', .int .i64 0]) ∧ Rd w' a' n' c' (xs.drop (scan xs 0 0).2.1) ∧ Ext w w') := by
  refine (refUint_any a n c xs w h hn).mono ?_
  rintro e w' (⟨h1, rfl, rfl⟩ | ⟨h1, v, rfl, ho, hb⟩)
  · exact .inl ⟨h1, rfl, Ext.refl _⟩
  · obtain ⟨a1, n1, c1, rfl, hr⟩ := ownR (h.bytes.drop _) ho
    exact .inr ⟨h1, a1, n1, c1, rfl, hr, hb⟩

set_option maxHeartbeats 1600000 in
theorem refIntR (a : Option Addr) (n c : Nat) (xs : List Int) (w : World) (h : Rd w a n c xs) (hn : n ≤ 1000000) :
    Calls Tryd.prog 42 #[.slice a n c] w fun e w' =>
      ((scan xs 0 0).2.2 ≠ 0 ∧ e = .returned (.tuple #[.int .i64 0, .slice none 0 0, .int .i64 (scan xs 0 0).2.2]) ∧ Ext w w') ∨
      ((scan xs 0 0).2.2 = 0 ∧ ∃ a' n' c', e = .returned (.tuple #[.int .i64 (unfv (scan xs 0 0).1), .slice a' n' c', .int .i64 0]) ∧ Rd w' a' n' c' (xs.drop (scan xs 0 0).2.1) ∧ Ext w w') := by
  have hlt := scan_lt xs 0 0 h.bytes (by omega) (by decide)
  have HN := refUintR a n c xs w h hn
  obtain ⟨p, s, e, hs⟩ : ∃ p s e, scan xs 0 0 = (p, s, e) := ⟨_, _, _, rfl⟩
  rw [hs] at HN hlt
  rw [hs]
  simp only at HN hlt ⊢
  clear hs h
  by_cases he : e = 0
  · subst he
    have HN' : Calls Tryd.prog 39 #[.slice a n c] w fun e w' => ∃ a' n' c', e = .returned (.tuple #[.int .u64 p, .slice a' n' c', .int .i64 0]) ∧ Rd w' a' n' c' (xs.drop s) ∧ Ext w w' :=
      HN.mono (by rintro e w' (⟨h1, _⟩ | ⟨_, g⟩); exact absurd rfl h1; exact g)
    clear HN
    by_cases hp : p % 2 = 1
    · have HF : Hid (unfv p = -((p / 2 : Nat) : Int) - 1) := (by unfold unfv; rw [if_pos hp] : unfv p = -((p / 2 : Nat) : Int) - 1)
      have h1 : ((p : Int) % 2 == 0) = false := by simp; omega
      clear hp
      go_enter Tryd.func42, Tryd.ntmps42
      go_wp2_with (go_at_call 39; refine HN'.mono ?_; rintro e w1 ⟨a1, n1, c1, rfl, hr1, hx1⟩)
      go_ret3
      refine .inr ⟨trivial, a1, n1, c1, retU ?_, hr1, hx1⟩
      rw [HF.out]
      omega
    · have HF : Hid (unfv p = ((p / 2 : Nat) : Int)) := (by unfold unfv; rw [if_neg hp] : unfv p = ((p / 2 : Nat) : Int))
      have h1 : ((p : Int) % 2 == 0) = true := by simp; omega
      clear hp
      go_enter Tryd.func42, Tryd.ntmps42
      go_wp2_with (go_at_call 39; refine HN'.mono ?_; rintro e w1 ⟨a1, n1, c1, rfl, hr1, hx1⟩)
      go_ret3
      refine .inr ⟨trivial, a1, n1, c1, retU ?_, hr1, hx1⟩
      rw [HF.out]
      omega
  · have HN' : Calls Tryd.prog 39 #[.slice a n c] w fun e' w' => e' = .returned (.tuple #[.int .u64 0, .slice none 0 0, .int .i64 e]) ∧ Ext w w' :=
      HN.mono (by rintro e' w' (⟨_, g⟩ | ⟨h1, _⟩); exact g; exact absurd h1 he)
    clear HN
    have he' : ((e : Int) != 0) = true := by simp; omega
    go_enter Tryd.func42, Tryd.ntmps42
    go_wp2_with (go_at_call 39; refine HN'.mono ?_; rintro e' w1 ⟨rfl, hx1⟩)
    go_ret3
    exact .inl ⟨he, rfl, hx1⟩

set_option maxHeartbeats 800000 in
theorem refSame (x : Nat) (w : World) : Calls Tryd.prog 45 #[.float .f64 x, .float .f64 x] w fun e w' => e = .returned (.bool true) ∧ w' = w := by
  go_enter Tryd.func45, Tryd.ntmps45
  go_wp2_with (go_at_call 56; refine (refBits_any x _).mono ?_; rintro e w1 ⟨rfl, rfl⟩)
  go_ret
  exact ⟨rfl, rfl⟩

set_option maxHeartbeats 3200000 in
theorem refFloatR (a : Option Addr) (n c : Nat) (xs : List Int) (w : World) (hR : Rd w a n c xs) (hn : n ≤ 1000000) :
    Calls Tryd.prog 43 #[.slice a n c] w fun e w' =>
      (fbad xs = true ∧ e = .returned (.tuple #[.float .f64 0, .slice none 0 0, .int .i64 2]) ∧ Ext w w') ∨
      (fbad xs = false ∧ ∃ a' n' c', e = .returned (.tuple #[.float .f64 (fv xs 8), .slice a' n' c', .int .i64 0]) ∧ Rd w' a' n' c' (xs.drop 8) ∧ Ext w w') := by
  have hl := hR.len
  have hcp := hR.cap
  have hmost : c ≤ 9223372036854775807 := hR.most
  have hfr := run_from
  by_cases h8 : (n : Int) < 8
  · have hb : fbad xs = true := by unfold fbad; rw [decide_eq_true (by omega), Bool.true_or]
    go_enter Tryd.func43, Tryd.ntmps43
    go_wp2
    go_ret3
    exact .inl ⟨hb, rfl, Ext.refl _⟩
  · obtain ⟨b, off, rfl, hcell⟩ := hR.flat (by omega)
    have HC : Hid (∀ j, j < n → w.cell? ⟨b, off + j, none⟩ = some (.int .u8 (xs.getD j 0))) := hcell
    clear hcell
    have hbd := hR.bytes
    have h8n : 8 ≤ n := by omega
    have hVlt := fv_lt8 hbd (Nat.le_refl 8)
    go_enter Tryd.func43, Tryd.ntmps43
    go_wp2
    go_loop [5, 6] (fun t i => ∃ k : Nat, k ≤ 8 ∧ i = .int .i64 k ∧ t = .int .u64 (fv xs k)) (fun _ i => 8 - (intOf i).toNat)
    case atStart => exact ⟨0, by omega, rfl, rfl⟩
    case round =>
      obtain ⟨k, hk, rfl, rfl⟩ := hrel
      by_cases hlt : k < 8
      · have hck := HC.out k (by omega)
        have hb := hbd.get k
        have hv7 := fv_lt7 hbd (show k ≤ 7 by omega)
        obtain ⟨z, hz⟩ : ∃ z, z = xs.getD k 0 := ⟨_, rfl⟩
        rw [← hz] at hck hb
        have HF : Hid (fv xs (k + 1) = fv xs k * 256 + z.toNat) := (by rw [hz]; rfl : fv xs (k + 1) = fv xs k * 256 + z.toNat)
        clear hz
        obtain ⟨hb0, hb1⟩ := hb
        have HO : Hid (bits .or .u64 ((fv xs k : Int) * 256) z = ((fv xs k * 256 + z.toNat : Nat) : Int)) := or_byte hv7 hb0 hb1
        have hkn : k < n := by omega
        go_wp2
        go_round
        case rel => exact ⟨k + 1, by omega, by go_num, by rw [HO.out, HF.out]⟩
        case measure => simp [intOf]; omega
      · have hk8 : k = 8 := by omega
        subst hk8
        by_cases hna : Fl.nan (fv xs 8) = true
        · have f2 : (FloatKind.f64.format.order (fv xs 8) (fv xs 8) != some .eq) = true := by rw [nan_neq]; exact hna
          by_cases hnf : fv xs 8 = NANF
          · have hb : Hid (fbad xs = false) := (by unfold fbad; rw [decide_eq_false (by omega), hna, decide_eq_false (by simpa using hnf)]; rfl : fbad xs = false)
            have hne : (((fv xs 8 : Nat) : Int) != 9221120237041090560) = false := by
              simp; unfold NANF at hnf; omega
            clear hnf hna
            have hR8 := hR.cut 8
            rw [Option.map_some, add_flat] at hR8
            by_cases hcs : c = 8
            · subst hcs
              go_wp2_with (at_builtin; refine wp_app0 rfl _ _ rfl rfl _ _ _ _ rfl hR.cutAll (by omega) ?_; intro v2 w2 hown2 hb2)
              go_ret3
              have e2 : xs.drop 8 = [] := List.drop_of_length_le (by omega)
              obtain ⟨a1, n1, c1, rfl, hr⟩ := ownR Bd.nil hown2
              exact .inr ⟨hb.out, a1, n1, c1, rfl, by rw [e2]; exact hr, hb2⟩
            · go_wp2_with (at_builtin; refine wp_app0 rfl _ _ rfl rfl _ _ _ _ rfl hR8 (by omega) ?_; intro v2 w2 hown2 hb2)
              go_ret3
              obtain ⟨a1, n1, c1, rfl, hr⟩ := ownR (hbd.drop 8) hown2
              exact .inr ⟨hb.out, a1, n1, c1, rfl, hr, hb2⟩
          · have hb : Hid (fbad xs = true) := (by unfold fbad; rw [hna, decide_eq_true hnf]; simp : fbad xs = true)
            have hne : (((fv xs 8 : Nat) : Int) != 9221120237041090560) = true := by
              simp; unfold NANF at hnf; omega
            clear hna
            go_wp2
            go_ret3
            exact .inl ⟨hb.out, rfl, Ext.refl _⟩
        · have hna' : Fl.nan (fv xs 8) = false := by simpa using hna
          have f2 : (FloatKind.f64.format.order (fv xs 8) (fv xs 8) != some .eq) = false := by rw [nan_neq]; exact hna'
          have hb : Hid (fbad xs = false) := (by unfold fbad; rw [decide_eq_false (by omega), hna']; rfl : fbad xs = false)
          clear hna hna'
          have hR8 := hR.cut 8
          rw [Option.map_some, add_flat] at hR8
          by_cases hcs : c = 8
          · subst hcs
            go_wp2_with (at_builtin; refine wp_app0 rfl _ _ rfl rfl _ _ _ _ rfl hR.cutAll (by omega) ?_; intro v2 w2 hown2 hb2)
            go_ret3
            have e2 : xs.drop 8 = [] := List.drop_of_length_le (by omega)
            obtain ⟨a1, n1, c1, rfl, hr⟩ := ownR Bd.nil hown2
            exact .inr ⟨hb.out, a1, n1, c1, rfl, by rw [e2]; exact hr, hb2⟩
          · go_wp2_with (at_builtin; refine wp_app0 rfl _ _ rfl rfl _ _ _ _ rfl hR8 (by omega) ?_; intro v2 w2 hown2 hb2)
            go_ret3
            obtain ⟨a1, n1, c1, rfl, hr⟩ := ownR (hbd.drop 8) hown2
            exact .inr ⟨hb.out, a1, n1, c1, rfl, hr, hb2⟩

end Go.Proofs.YtomkcmkbehcjnaaDoor
