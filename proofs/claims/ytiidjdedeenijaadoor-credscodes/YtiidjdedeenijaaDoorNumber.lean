/- octet.number: the number at the beginning of some bytes. -/
import Derived.Test.YtiidjdedeenijaaDoorBytes
namespace Go.Proofs.YtiidjdedeenijaaDoor
open Go.RowKit

theorem drop_cons {xs : List Int} {k : Nat} (h : k < xs.length) : xs.drop k = xs.getD k 0 :: xs.drop (k + 1) := by
  rw [List.drop_eq_getElem_cons h]; simp [List.getD, List.getElem?_eq_getElem h]

set_option maxHeartbeats 1600000 in
theorem number_any (a : Option Addr) (n c : Nat) (xs : List Int) (w : World) (h : Rd w a n c xs) :
    Calls Tryd.prog 93 #[.slice a n c] w fun e w' =>
      e = .returned (.tuple #[.int .u64 (scan xs 0 0).1, .int .i64 (scan xs 0 0).2.1, .int .i64 (scan xs 0 0).2.2]) ∧ w' = w := by
  by_cases h0 : n = 0
  · subst h0
    have hx : xs = [] := List.eq_nil_of_length_eq_zero h.len
    subst hx
    go_enter Tryd.func93, Tryd.ntmps93
    go_wp2
    refine wp_loop_rounds 1 ?_
    rw [rounds_succ]
    go_wp2
    go_ret3
    exact ⟨rfl, rfl⟩
  · obtain ⟨b, off, rfl, hc⟩ := h.flat (by omega)
    have hl := h.len
    have hbd := h.bytes
    have hmost : n ≤ 9223372036854775807 := Nat.le_trans h.cap h.most
    have HC : Hid (∀ j, j < n → w.cell? ⟨b, off + j, none⟩ = some (.int .u8 (xs.getD j 0))) := hc
    clear hc
    go_enter Tryd.func93, Tryd.ntmps93
    go_wp2
    go_loop [2, 9] (fun t i => ∃ k acc : Nat, k ≤ n ∧ k ≤ 9 ∧ acc < 2 ^ (7 * k) ∧ i = .int .i64 k ∧ t = .int .u64 acc ∧ scan (xs.drop k) k acc = scan xs 0 0) (fun _ i => n - (intOf i).toNat)
    case atStart => exact ⟨0, 0, by omega, by omega, by decide, rfl, rfl, rfl⟩
    case round =>
      obtain ⟨k, acc, hk, hk9, hacc, rfl, rfl, hsc⟩ := hrel
      by_cases hlt : k < n
      · have hck := HC.out k hlt
        have hb := hbd.get k
        have hd := drop_cons (xs := xs) (k := k) (by omega)
        rw [hd] at hsc
        obtain ⟨z, hz⟩ : ∃ z, z = xs.getD k 0 := ⟨_, rfl⟩
        rw [← hz] at hck hb hsc
        have HZ : Hid (z = xs.getD k 0) := hz
        have HS : Hid (scan (z :: xs.drop (k + 1)) k acc = scan xs 0 0) := hsc
        clear hz hsc hd
        obtain ⟨hb0, hb1⟩ := hb
        by_cases h9 : k = 9
        · subst h9
          by_cases hz1 : 1 < z
          · go_wp2
            go_ret3
            refine ⟨?_, rfl⟩
            rw [← HS.out, scan_far hz1]; rfl
          · by_cases hz0 : z = 0
            · subst hz0
              go_wp2
              go_ret3
              refine ⟨?_, rfl⟩
              rw [← HS.out, scan_zero (by omega)]; rfl
            · have hov := or_val (acc := acc) (k := 9) hb0 hb1 hk9 (fun _ => by omega) hacc
              have e9 : IntKind.u64.wrap (z % 128 * 2 ^ (7 * 9)) = z % 128 * 9223372036854775808 := by
                have : (2 : Int) ^ (7 * 9) = 9223372036854775808 := by decide
                rw [this, IntKind.wrap_u64]; omega
              rw [e9] at hov
              have HV : Hid (bits .or .u64 (acc : Int) (z % 128 * 9223372036854775808) = ((acc + (z % 128).toNat * 2 ^ (7 * 9) : Nat) : Int)) := hov.1
              clear e9
              clear hov
              go_wp2
              go_ret3
              refine ⟨?_, rfl⟩
              rw [← HS.out, scan_end (by omega) (by omega) (by omega)]
              exact ret3 HV.out rfl rfl
        · have h9' : ((k : Int) == 9) = false := by simp; omega
          have hov := or_val (acc := acc) (k := k) hb0 hb1 hk9 (fun h => absurd h h9) hacc
          have HV : Hid (bits .or .u64 (acc : Int) (IntKind.u64.wrap (z % 128 * 2 ^ (7 * k))) = ((acc + (z % 128).toNat * 2 ^ (7 * k) : Nat) : Int)) := hov.1
          have HN : Hid (acc + (z % 128).toNat * 2 ^ (7 * k) < 2 ^ (7 * (k + 1))) := hov.2.1
          clear hov
          by_cases h128 : 128 ≤ z
          · go_wp2
            go_round
            case rel => exact ⟨k + 1, _, by omega, by omega, HN.out, by go_num, by rw [HV.out], by rw [← HS.out, scan_more (by omega) h128]⟩
            case measure => simp [intOf]; omega
          · by_cases hz0 : z = 0
            · subst hz0
              by_cases hk0 : 0 < k
              · go_wp2
                go_ret3
                refine ⟨?_, rfl⟩
                rw [← HS.out, scan_zero hk0]; rfl
              · have e0 : IntKind.u64.wrap (0 % 128 * 2 ^ (7 * k)) = 0 := by rw [show (0 : Int) % 128 = 0 from rfl, Int.zero_mul]; decide
                have HV0 := HV.out
                rw [e0] at HV0
                have HV0' : Hid (bits .or .u64 (acc : Int) 0 = ((acc + ((0 : Int) % 128).toNat * 2 ^ (7 * k) : Nat) : Int)) := HV0
                clear e0 HV0 HV
                go_wp2
                go_ret3
                refine ⟨?_, rfl⟩
                rw [← HS.out, scan_end (by omega) (by omega) (by omega)]
                exact ret3 HV0'.out rfl rfl
            · go_wp2
              go_ret3
              refine ⟨?_, rfl⟩
              rw [← HS.out, scan_end (by omega) (by omega) (by omega)]
              exact ret3 HV.out rfl rfl
      · have hkn : k = n := by omega
        have HS : Hid (scan (xs.drop k) k acc = scan xs 0 0) := hsc
        clear hsc
        go_wp2
        go_ret3
        refine ⟨?_, rfl⟩
        rw [← HS.out, List.drop_of_length_le (by omega)]; rfl

end Go.Proofs.YtiidjdedeenijaaDoor
