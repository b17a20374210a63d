/- The document's Uint: the number at the beginning, and a copy of what is behind it. -/
import Derived.Test.YtiidjdedeenijaaDoorUint
import Derived.Test.YtiidjdedeenijaaDoorTwin
import Derived.Test.YtiidjdedeenijaaDoorLate
import Derived.Test.YtiidjdedeenijaaDoorReadT
namespace Go.Proofs.YtiidjdedeenijaaDoor
open Go.RowKit

theorem retU {k : IntKind} {v : Value} {a b c : Int} (h : a = b) : Ending.returned (.tuple #[.int k a, v, .int .i64 c]) = .returned (.tuple #[.int k b, v, .int .i64 c]) := by rw [h]

set_option maxHeartbeats 3200000 in
theorem refUint_any (a : Option Addr) (n c : Nat) (xs : List Int) (w : World) (h : Rd w a n c xs) (hn : n ≤ 1000000) :
    Calls Tryd.prog 39 #[.slice a n c] w fun e w' =>
      ((scan xs 0 0).2.2 ≠ 0 ∧ e = .returned (.tuple #[.int .u64 0, .slice none 0 0, .int .i64 (scan xs 0 0).2.2]) ∧ w' = w) ∨
      ((scan xs 0 0).2.2 = 0 ∧ ∃ v, e = .returned (.tuple #[.int .u64 (scan xs 0 0).1, v, .int .i64 0]) ∧ w'.ownsRow w.heap.size 5 1 v (n - (scan xs 0 0).2.1) (bc (xs.drop (scan xs 0 0).2.1)) ∧ Below w.heap.size w w') := by
  by_cases h0 : n = 0
  · subst h0
    have hx : xs = [] := List.eq_nil_of_length_eq_zero h.len
    subst hx
    go_enter Tryd.func39, Tryd.ntmps39
    go_wp2
    refine wp_loop_rounds 1 ?_
    rw [rounds_succ]
    go_wp2
    go_ret3
    exact .inl ⟨by decide, rfl, rfl⟩
  · obtain ⟨b, off, rfl, hc⟩ := h.flat (by omega)
    have hl := h.len
    have hbd := h.bytes
    have hcp := h.cap
    have hmost : c ≤ 9223372036854775807 := h.most
    have HC : Hid (∀ j, j < n → w.cell? ⟨b, off + j, none⟩ = some (.int .u8 (xs.getD j 0))) := hc
    clear hc
    go_enter Tryd.func39, Tryd.ntmps39
    go_wp2
    go_loop [5, 6] (fun t i => ∃ k acc : Nat, k ≤ n ∧ k ≤ 9 ∧ acc < 2 ^ (7 * k) ∧ i = .int .i64 k ∧ t = .int .u64 acc ∧ scan (xs.drop k) k acc = scan xs 0 0) (fun _ i => n - (intOf i).toNat)
    case atStart => exact ⟨0, 0, by omega, by omega, by decide, rfl, rfl, rfl⟩
    case round =>
      obtain ⟨k, acc, hk, hk9, hacc, rfl, rfl, hsc⟩ := hrel
      have h10 : ((k : Int) == 10) = false := by simp; omega
      by_cases hlt : k < n
      · have hck := HC.out k hlt
        have hb := hbd.get k
        have hd := drop_cons (xs := xs) (k := k) (by omega)
        rw [hd] at hsc
        obtain ⟨z, hz⟩ : ∃ z, z = xs.getD k 0 := ⟨_, rfl⟩
        rw [← hz] at hck hb hsc
        have HS : Hid (scan (z :: xs.drop (k + 1)) k acc = scan xs 0 0) := hsc
        clear hz hsc hd
        obtain ⟨hb0, hb1⟩ := hb
        by_cases h9 : k = 9
        · subst h9
          by_cases hz1 : 1 < z
          · go_wp2
            go_ret3
            rw [← HS.out, scan_far hz1]
            exact .inl ⟨by decide, rfl, rfl⟩
          · by_cases hz0 : z = 0
            · subst hz0
              go_wp2
              go_ret3
              rw [← HS.out, scan_zero (by omega)]
              exact .inl ⟨by decide, rfl, rfl⟩
            · have hov := or_val (acc := acc) (k := 9) hb0 hb1 hk9 (fun _ => by omega) hacc
              have e9 : IntKind.u64.wrap (z % 128 * 2 ^ (7 * 9)) = z % 128 * 9223372036854775808 := by
                have : (2 : Int) ^ (7 * 9) = 9223372036854775808 := by decide
                rw [this, IntKind.wrap_u64]; omega
              rw [e9] at hov
              have HV : Hid (bits .or .u64 (acc : Int) (z % 128 * 9223372036854775808) = ((acc + (z % 128).toNat * 2 ^ (7 * 9) : Nat) : Int)) := hov.1
              clear e9
              clear hov
              have hRk := h.cut (9 + 1)
              rw [Option.map_some, add_flat] at hRk
              by_cases hcs : c = 9 + 1
              · subst hcs
                go_wp2_with (at_builtin; refine wp_app0 rfl _ _ rfl rfl _ _ _ _ rfl h.cutAll (by omega) ?_; intro v2 w2 hown2 hb2)
                go_ret3
                rw [← HS.out, scan_end (by omega) (by omega) (by omega)]
                have e1 : n - (9 + 1) = 0 := by omega
                have e2 : xs.drop (9 + 1) = [] := List.drop_of_length_le (by omega)
                refine .inr ⟨rfl, v2, retU HV.out, ?_, hb2⟩
                show w2.ownsRow w.heap.size 5 1 v2 (n - (9 + 1)) (bc (xs.drop (9 + 1)))
                rw [e1, e2]
                exact hown2
              · go_wp2_with (at_builtin; refine wp_app0 rfl _ _ rfl rfl _ _ _ _ rfl hRk (by omega) ?_; intro v2 w2 hown2 hb2)
                go_ret3
                rw [← HS.out, scan_end (by omega) (by omega) (by omega)]
                exact .inr ⟨rfl, v2, retU HV.out, hown2, hb2⟩
        · have h9' : ((k : Int) == 9) = false := by simp; omega
          have hov := or_val (acc := acc) (k := k) hb0 hb1 hk9 (fun h => absurd h h9) hacc
          have HV : Hid (bits .or .u64 (acc : Int) (IntKind.u64.wrap (z % 128 * 2 ^ (7 * k))) = ((acc + (z % 128).toNat * 2 ^ (7 * k) : Nat) : Int)) := hov.1
          have HN : Hid (acc + (z % 128).toNat * 2 ^ (7 * k) < 2 ^ (7 * (k + 1))) := hov.2.1
          clear hov
          by_cases h128 : 128 ≤ z
          · go_wp2
            go_round
            case rel => exact ⟨k + 1, _, by omega, by omega, HN.out, by go_num, by rw [HV.out], by rw [← HS.out, scan_more (by omega) h128]⟩
            case measure => simp [intOf]; omega
          · by_cases hz0 : z = 0
            · subst hz0
              by_cases hk0 : 0 < k
              · go_wp2
                go_ret3
                rw [← HS.out, scan_zero hk0]
                exact .inl ⟨by decide, rfl, rfl⟩
              · have e0 : IntKind.u64.wrap (0 % 128 * 2 ^ (7 * k)) = 0 := by rw [show (0 : Int) % 128 = 0 from rfl, Int.zero_mul]; decide
                have HV0 := HV.out
                rw [e0] at HV0
                have HV0' : Hid (bits .or .u64 (acc : Int) 0 = ((acc + ((0 : Int) % 128).toNat * 2 ^ (7 * k) : Nat) : Int)) := HV0
                clear e0 HV0 HV
                have hRk := h.cut (k + 1)
                rw [Option.map_some, add_flat] at hRk
                by_cases hcs : c = k + 1
                · subst hcs
                  go_wp2_with (at_builtin; refine wp_app0 rfl _ _ rfl rfl _ _ _ _ rfl h.cutAll (by omega) ?_; intro v2 w2 hown2 hb2)
                  go_ret3
                  rw [← HS.out, scan_end (by omega) (by omega) (by omega)]
                  have e1 : n - (k + 1) = 0 := by omega
                  have e2 : xs.drop (k + 1) = [] := List.drop_of_length_le (by omega)
                  refine .inr ⟨rfl, v2, retU HV0'.out, ?_, hb2⟩
                  show w2.ownsRow w.heap.size 5 1 v2 (n - (k + 1)) (bc (xs.drop (k + 1)))
                  rw [e1, e2]
                  exact hown2
                · go_wp2_with (at_builtin; refine wp_app0 rfl _ _ rfl rfl _ _ _ _ rfl hRk (by omega) ?_; intro v2 w2 hown2 hb2)
                  go_ret3
                  rw [← HS.out, scan_end (by omega) (by omega) (by omega)]
                  exact .inr ⟨rfl, v2, retU HV0'.out, hown2, hb2⟩
            · skip
              have hRk := h.cut (k + 1)
              rw [Option.map_some, add_flat] at hRk
              by_cases hcs : c = k + 1
              · subst hcs
                go_wp2_with (at_builtin; refine wp_app0 rfl _ _ rfl rfl _ _ _ _ rfl h.cutAll (by omega) ?_; intro v2 w2 hown2 hb2)
                go_ret3
                rw [← HS.out, scan_end (by omega) (by omega) (by omega)]
                have e1 : n - (k + 1) = 0 := by omega
                have e2 : xs.drop (k + 1) = [] := List.drop_of_length_le (by omega)
                refine .inr ⟨rfl, v2, retU HV.out, ?_, hb2⟩
                show w2.ownsRow w.heap.size 5 1 v2 (n - (k + 1)) (bc (xs.drop (k + 1)))
                rw [e1, e2]
                exact hown2
              · go_wp2_with (at_builtin; refine wp_app0 rfl _ _ rfl rfl _ _ _ _ rfl hRk (by omega) ?_; intro v2 w2 hown2 hb2)
                go_ret3
                rw [← HS.out, scan_end (by omega) (by omega) (by omega)]
                exact .inr ⟨rfl, v2, retU HV.out, hown2, hb2⟩
      · have hkn : k = n := by omega
        have HS : Hid (scan (xs.drop k) k acc = scan xs 0 0) := hsc
        clear hsc
        go_wp2
        go_ret3
        rw [← HS.out, List.drop_of_length_le (by omega)]
        exact .inl ⟨by simp [scan], rfl, rfl⟩

end Go.Proofs.YtiidjdedeenijaaDoor

/- The document's Uint, as the laws use it. -/
namespace Go.Proofs.YtiidjdedeenijaaDoor
open Go.RowKit

theorem ownR {w w' : World} {v : Value} {M : Nat} {Z : List Int} (hZ : Bd Z) (h : w'.ownsRow w.heap.size 5 1 v M (bc Z)) : ∃ a' n' c', v = .slice a' n' c' ∧ Rd w' a' n' c' Z := by
  obtain ⟨a1, c1, rfl, hr1⟩ := Rd.ofOwn h hZ
  exact ⟨a1, _, c1, rfl, hr1⟩

/-- The document's Uint, as the laws use it. -/
theorem refUintR (a : Option Addr) (n c : Nat) (xs : List Int) (w : World) (h : Rd w a n c xs) (hn : n ≤ 1000000) :
    Calls Tryd.prog 39 #[.slice a n c] w fun e w' =>
      ((scan xs 0 0).2.2 ≠ 0 ∧ e = .returned (.tuple #[.int .u64 0, .slice none 0 0, .int .i64 (scan xs 0 0).2.2]) ∧ Ext w w') ∨
      ((scan xs 0 0).2.2 = 0 ∧ ∃ a' n' c', e = .returned (.tuple #[.int .u64 (scan xs 0 0).1, .slice a' n' c', .int .i64 0]) ∧ Rd w' a' n' c' (xs.drop (scan xs 0 0).2.1) ∧ Ext w w') := by
  refine (refUint_any a n c xs w h hn).mono ?_
  rintro e w' (⟨h1, rfl, rfl⟩ | ⟨h1, v, rfl, ho, hb⟩)
  · exact .inl ⟨h1, rfl, Ext.refl _⟩
  · obtain ⟨a1, n1, c1, rfl, hr⟩ := ownR (h.bytes.drop _) ho
    exact .inr ⟨h1, a1, n1, c1, rfl, hr, hb⟩

end Go.Proofs.YtiidjdedeenijaaDoor
