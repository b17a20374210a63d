/- digest.Sha, Equal; copies. -/
import Derived.Test.YtmilcknboaefkaaGreatDoorDgG
import Derived.Laws.BitsAll
set_option maxRecDepth 100000
namespace Go.Proofs.YtmilcknboaefkaaGreatDoor
open Go.RowKit

theorem shaB_len (ah : Nat) (hs xs : List Int) : (shaB ah hs xs).length = 32 := bo_len _ _
theorem bo_bd (hs : List Int) : ∀ i, Bd (bo hs i)
  | 0 => bd_zeros 32
  | i + 1 => by unfold bo; exact (bo_bd hs i).set _ (by omega) (by omega)
theorem shaB_bd (ah : Nat) (hs xs : List Int) : Bd (shaB ah hs xs) := bo_bd _ _

set_option maxRecDepth 100000 in
set_option maxHeartbeats 800000 in
theorem sha_any (a : Option Addr) (n c : Nat) (xs : List Int) (w : World) (hR : Rd w a n c xs) (hn : n ≤ 1000000000) (hK : Kt w) :
    Calls Tryz.prog 25 #[.slice a n c] w fun e w' => e = .returned (.agg (ic .u8 (sha xs)).toArray) ∧ Below w.heap.size w w' := by
  have hi45 := (size_of Tryz.u45)
  have hi23 := (size_of Tryz.u23).2
  have hl := shaB_len 0 h0s xs
  go_enter Tryz.func25, Tryz.ntmps25
  go_wp2_with (first
    | (refine wp_alloc_ar rfl 27 rfl .u8 (List.replicate 32 0) 32 Tryz.z23 ?_; intro g1 w1 A1 hg1 hb1)
    | (refine wpList_load_mid rfl 90 (.global 0) rfl _ 0 rfl (ic .u32 h0s) _ (hK.below (Nat.le_refl _) hb1).load hi45.1 rfl hi45.2 ?_)
    | (go_at_call 53; refine (shaBehind_any h0s 0 a n c xs _ rfl (by omega) (hR.carry (Nat.le_refl _) hb1) hn (hK.below (Nat.le_refl _) hb1)).mono ?_; rintro e w2 ⟨rfl, hb2⟩)
    | (refine wp_store_ar rfl 27 (.tmp 2) (.tmp 5) rfl g1 rfl .u8 (shaB 0 h0s xs) rfl 27 _ (A1.below hb2 A1.lt) (by rw [hl]; rfl) (by rw [hl]; exact hi23) ?_; intro w3 A3 hk3 hs3))
  refine bodyPost_ret (v := .agg (ic .u8 (sha xs)).toArray) (ar_results rfl _ _ g1 27 .u8 _ 5 32 rfl A3 Tryz.u23 hl) rfl ⟨rfl, ?_⟩
  have e2 := hb1.trans (hb2.mono hb1.size)
  exact e2.trans (hk3.below e2.size (fun q hq => by omega))

/-! ### Equal -/
theorem or8_zero {a b : Int} (h1 : 0 ≤ a ∧ a ≤ 255) (h2 : 0 ≤ b ∧ b ≤ 255) : bits .or .u8 a b = 0 ↔ a = 0 ∧ b = 0 := by
  rw [u8_or a b h1.1 (by omega) h2.1 (by omega)]
  have := @Nat.or_eq_zero_iff a.toNat b.toNat
  omega
theorem xor8_zero {a b : Int} (h1 : 0 ≤ a ∧ a ≤ 255) (h2 : 0 ≤ b ∧ b ≤ 255) : bits .xor .u8 a b = 0 ↔ a = b := by
  rw [u8_xor a b h1.1 (by omega) h2.1 (by omega)]
  have h : a.toNat ^^^ b.toNat = 0 ↔ a.toNat = b.toNat := by
    constructor
    · intro h
      have := congrArg (· ^^^ b.toNat) h
      simpa [Nat.xor_assoc] using this
    · intro h; rw [h, Nat.xor_self]
  omega
theorem take_snocI (xs : List Int) (k : Nat) (h : k < xs.length) : xs.take (k + 1) = xs.take k ++ [xs.getD k 0] := by
  rw [List.take_succ_eq_append_getElem h]; simp [List.getD, h]

set_option maxHeartbeats 800000 in
theorem equal_any (a : Option Addr) (n c : Nat) (xs : List Int) (a' : Option Addr) (n' c' : Nat) (ys : List Int) (w : World) (hR : Rd w a n c xs) (hR' : Rd w a' n' c' ys) :
    Calls Tryz.prog 69 #[.slice a n c, .slice a' n' c'] w fun e w' => e = .returned (.bool (decide (xs = ys))) ∧ ∃ d, w' = w.drewN d := by
  have hl := hR.len
  have hl' := hR'.len
  have hcp := hR.cap
  have hcp' := hR'.cap
  have hmx : c ≤ 9223372036854775807 := hR.most
  have hmx' : c' ≤ 9223372036854775807 := hR'.most
  have HL : Hid (xs.length = n) := hl
  have HL' : Hid (ys.length = n') := hl'
  by_cases hnn : n = n'
  · subst hnn
    have hne : (((n : Int) != (n : Int))) = false := by simp
    clear hl hl'
    go_enter Tryz.func69, Tryz.ntmps69
    go_wp2
    go_loopw [5, 14] (fun v i wr => ∃ (k d : Nat) (x : Int), k ≤ n ∧ i = .int .i64 k ∧ v = .int .u8 x ∧ (0 ≤ x ∧ x ≤ 255) ∧ Hid (x = 0 ↔ xs.take k = ys.take k) ∧ wr = w.drewN d) (fun _ i _ => n - (intOf i).toNat)
    case atStart => exact ⟨0, 0, 0, by omega, rfl, rfl, by omega, (by show _ ↔ _; simp), rfl⟩
    case round =>
      obtain ⟨k, d, x, hk, rfl, rfl, hx, HX, rfl⟩ := hrel
      by_cases hlt : k < n
      · obtain ⟨b, off, rfl, hc⟩ := hR.flat (by omega)
        obtain ⟨b', off', rfl, hc'⟩ := hR'.flat (by omega)
        have hck := hc k hlt
        have hck' := hc' k hlt
        have hb := hR.bytes.get k
        have hb' := hR'.bytes.get k
        obtain ⟨p, HP⟩ : ∃ p, Hid (xs.getD k 0 = p) := ⟨_, rfl⟩
        obtain ⟨q, HQ⟩ : ∃ p, Hid (ys.getD k 0 = p) := ⟨_, rfl⟩
        rw [HP.out] at hck hb
        rw [HQ.out] at hck' hb'
        have hlz : (k : Int) < (n : Int) := by omega
        clear hc hc' hR hR' hne
        go_wp2
        go_quiet (fail)
        go_wp2
        go_roundw
        case rel =>
          refine ⟨k + 1, _, _, by omega, by go_num, rfl, bits8 _ _ _, ?_, rfl⟩
          show _ ↔ _
          rw [or8_zero hx (bits8 _ _ _), xor8_zero hb hb', HX.out, take_snocI xs k (by have := HL.out; omega), take_snocI ys k (by have := HL'.out; omega), HP.out, HQ.out]
          constructor
          · rintro ⟨h1, h2⟩; rw [h1, h2]
          · intro h
            have h3 := List.append_inj' h rfl
            exact ⟨h3.1, by simpa using h3.2⟩
        case measure => simp [intOf]; omega
      · obtain rfl : k = n := by omega
        have hlz : ¬ (k : Int) < (k : Int) := by omega
        have hxs : xs.take k = xs := List.take_of_length_le (by have := HL.out; omega)
        have hys : ys.take k = ys := List.take_of_length_le (by have := HL'.out; omega)
        have HD : Hid (decide (xs = ys) = (x == 0)) := by
          show _ = _
          have := HX.out
          rw [hxs, hys] at this
          rw [Bool.eq_iff_iff]; simp; exact this.symm
        clear hxs hys
        go_wp2
        go_ret
        exact ⟨by rw [HD.out]; rfl, _, rfl⟩
  · have hne : (((n : Int) != (n' : Int))) = true := by simp; omega
    have HD : Hid (decide (xs = ys) = false) := by
      show _ = _
      have : xs ≠ ys := fun e => hnn (by rw [← HL.out, ← HL'.out, e])
      simp [this]
    rw [HD.out]
    clear hl hl'
    go_enter Tryz.func69, Tryz.ntmps69
    go_wp2
    go_ret
    exact ⟨rfl, 0, rfl⟩

end Go.Proofs.YtmilcknboaefkaaGreatDoor
