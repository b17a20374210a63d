/- The document's small functions of scram: starts, at, Nonce, plain. -/
import Derived.Test.YtmilcknboaefkaaGreatDoorScI
namespace Go.Proofs.YtmilcknboaefkaaGreatDoor
open Go.RowKit Go.Shelf

theorem starts_any (L p : Tx) (w : World) (_hL : L.length ≤ 1000000) (_hp : p.length ≤ 1000) :
    Calls Tryz.prog 65 #[.string ⟨L.toArray⟩, .string ⟨p.toArray⟩] w fun e w' => e = .returned (.tuple #[.string ⟨((sgn p L).getD []).toArray⟩, .bool (sgn p L).isSome]) ∧ w' = w := by
  have hz := size_tx L
  have hz1 := size_tx p
  by_cases h1 : L.length < p.length
  · have e : sgn p L = none := by
      cases h : sgn p L with
      | none => rfl
      | some r => rw [sgn_some.1 h, List.length_append] at h1; omega
    rw [e]
    have hd : (L.length : Int) < (p.length : Int) := by omega
    obtain ⟨S, HS⟩ : ∃ S, Hid ((⟨L.toArray⟩ : ByteArray) = S) := ⟨_, rfl⟩
    obtain ⟨T, HT⟩ : ∃ S, Hid ((⟨p.toArray⟩ : ByteArray) = S) := ⟨_, rfl⟩
    rw [HS.out] at hz ⊢
    rw [HT.out] at hz1 ⊢
    clear e
    go_enter Tryz.func65, Tryz.ntmps65
    go_wp2
    go_ret2
    exact ⟨rfl, rfl⟩
  have hd : ¬ ((L.length : Int) < (p.length : Int)) := by omega
  have hd2 : (p.length : Int) ≤ (L.length : Int) := by omega
  have hx := take_tx L p.length
  have hy := drop_tx L p.length
  have heq := tx_eq (L.take p.length) p
  rw [← hx] at heq
  cases h : sgn p L with
  | none =>
    have hne : L.take p.length ≠ p := fun e => by
      have : L = p ++ L.drop p.length := by conv => lhs; rw [← List.take_append_drop p.length L, e]
      rw [sgn_some.2 this] at h; cases h
    rw [decide_eq_false hne] at heq
    obtain ⟨n, Hn⟩ : ∃ n, Hid (L.length = n) := ⟨_, rfl⟩
    obtain ⟨m, Hm⟩ : ∃ n, Hid (p.length = n) := ⟨_, rfl⟩
    obtain ⟨S, HS⟩ : ∃ S, Hid ((⟨L.toArray⟩ : ByteArray) = S) := ⟨_, rfl⟩
    obtain ⟨T, HT⟩ : ∃ S, Hid ((⟨p.toArray⟩ : ByteArray) = S) := ⟨_, rfl⟩
    rw [HS.out] at hz heq ⊢
    rw [HT.out] at hz1 heq ⊢
    rw [Hn.out] at hz hd hd2
    rw [Hm.out] at hz1 hd hd2 heq
    clear h hne hx hy h1
    go_enter Tryz.func65, Tryz.ntmps65
    go_wp2
    go_ret2
    exact ⟨rfl, rfl⟩
  | some r =>
    have hL' := sgn_some.1 h
    have ht : L.take p.length = p := by rw [hL']; simp
    have hr : L.drop p.length = r := by rw [hL']; simp
    rw [decide_eq_true ht] at heq
    rw [hr] at hy
    simp only [Option.getD_some, Option.isSome_some]
    obtain ⟨n, Hn⟩ : ∃ n, Hid (L.length = n) := ⟨_, rfl⟩
    obtain ⟨m, Hm⟩ : ∃ n, Hid (p.length = n) := ⟨_, rfl⟩
    obtain ⟨S, HS⟩ : ∃ S, Hid ((⟨L.toArray⟩ : ByteArray) = S) := ⟨_, rfl⟩
    obtain ⟨T, HT⟩ : ∃ S, Hid ((⟨p.toArray⟩ : ByteArray) = S) := ⟨_, rfl⟩
    obtain ⟨U, HU⟩ : ∃ S, Hid ((⟨r.toArray⟩ : ByteArray) = S) := ⟨_, rfl⟩
    rw [HS.out] at hz heq hy ⊢
    rw [HT.out] at hz1 heq ⊢
    rw [HU.out] at hy ⊢
    rw [Hn.out] at hz hd hd2 hy
    rw [Hm.out] at hz1 hd hd2 heq hy
    clear h hx h1 hL' ht hr
    go_enter Tryz.func65, Tryz.ntmps65
    go_wp2
    go_ret2
    exact ⟨rfl, rfl⟩

theorem tx_ix (L : Tx) (k : Nat) (hk : k < L.length) (w : World) : (Instr.index 9 (.string ⟨L.toArray⟩) (.int .i64 k)).run Tryz.prog w = .ok (.int .u8 ((L.getD k 0).toNat : Int)) w := by
  rw [run_index_string w 9 _ .i64 _ Tryz.underlying9, dif_pos ⟨by omega, by rw [size_tx]; omega⟩]
  have e : ((k : Int)).toNat = k := by omega
  have h1 : ∀ j (hj : j < (⟨L.toArray⟩ : ByteArray).size), (⟨L.toArray⟩ : ByteArray)[j] = L.getD j 0 := fun j hj => by
    have hj' : j < L.length := by rw [size_tx] at hj; exact hj
    have : (⟨L.toArray⟩ : ByteArray)[j] = L[j] := by rfl
    rw [this]; simp [List.getD, List.getElem?_eq_getElem hj']
  rw [h1]
  rw [e]
theorem ix_spec (c : UInt8) (L : Tx) (k : Nat) (hk : k < L.length) (h : L.getD k 0 = c) (hb : ∀ j, j < k → L.getD j 0 ≠ c) : ix c L = k := by
  induction L generalizing k with
  | nil => simp at hk
  | cons b L ih =>
    cases k with
    | zero => simp at h; subst h; exact ix_eq _ _
    | succ k =>
      have h0 := hb 0 (by omega)
      simp at h0
      rw [ix_ne L h0, ih k (by simpa using hk) (by simpa using h) (fun j hj => by have := hb (j + 1) (by omega); simpa using this)]
theorem ix_none (c : UInt8) (L : Tx) (hb : ∀ j, j < L.length → L.getD j 0 ≠ c) : ix c L = L.length := by
  induction L with
  | nil => rfl
  | cons b L ih =>
    have h0 := hb 0 (by simp)
    simp at h0
    rw [ix_ne L h0, ih (fun j hj => by have := hb (j + 1) (by simpa using hj); simpa using this), List.length_cons]

set_option maxHeartbeats 1000000 in
theorem at_any (L : Tx) (c : UInt8) (w : World) (hL : L.length ≤ 1000000) :
    Calls Tryz.prog 66 #[.string ⟨L.toArray⟩, .int .u8 (c.toNat : Int)] w fun e w' => e = .returned (.int .i64 (if ix c L < L.length then (ix c L : Int) else -1)) ∧ w' = w := by
  have hz := size_tx L
  have HX : Hid (∀ k, k < L.length → ∀ w, (Instr.index 9 (.string ⟨L.toArray⟩) (.int .i64 k)).run Tryz.prog w = .ok (.int .u8 ((L.getD k 0).toNat : Int)) w) := fun k hk w => tx_ix L k hk w
  obtain ⟨S, HS⟩ : ∃ S, Hid ((⟨L.toArray⟩ : ByteArray) = S) := ⟨_, rfl⟩
  rw [HS.out] at hz HX ⊢
  obtain ⟨R, HR⟩ : ∃ R, Hid ((if ix c L < L.length then (ix c L : Int) else -1) = R) := ⟨_, rfl⟩
  rw [HR.out]
  obtain ⟨n, Hn⟩ : ∃ n, Hid (L.length = n) := ⟨_, rfl⟩
  rw [Hn.out] at hz HX hL
  go_enter Tryz.func66, Tryz.ntmps66
  go_wp2
  go_loop [5] (fun i => ∃ k : Nat, k ≤ n ∧ i = .int .i64 (k : Int) ∧ Hid (∀ j, j < k → L.getD j 0 ≠ c)) (fun i => n - nV i)
  case atStart => exact ⟨0, Nat.zero_le _, rfl, fun j hj => by omega⟩
  case round =>
    obtain ⟨k, hk, rfl, Hb⟩ := hrel
    rcases Nat.lt_or_ge k n with hlt | hge
    · have hli : (k : Int) < (n : Int) := by omega
      have hix := HX.out k hlt w
      by_cases hc : L.getD k 0 = c
      · have hR : R = (k : Int) := by
          have e := ix_spec c L k (by rw [Hn.out]; exact hlt) hc Hb.out
          rw [← HR.out, e, if_pos (by rw [Hn.out]; exact hlt)]
        subst hR
        rw [hc] at hix
        clear hc Hb HX HR
        go_wp2
        go_ret
        exact ⟨rfl, rfl⟩
      · have hne : (((L.getD k 0).toNat : Int) == (c.toNat : Int)) = false := by
          rw [beq_eq_false_iff_ne]
          intro e
          exact hc (UInt8.toNat_inj.1 (by omega))
        have Hb2 : Hid (∀ j, j < k + 1 → L.getD j 0 ≠ c) := fun j hj => by
          rcases Nat.lt_or_ge j k with h | h
          · exact Hb.out j h
          · rw [show j = k by omega]; exact hc
        obtain ⟨x, Hx⟩ : ∃ x, Hid (((L.getD k 0).toNat : Int) = x) := ⟨_, rfl⟩
        rw [Hx.out] at hix hne
        clear hc Hb HX
        go_wp2
        go_round
        case rel => exact ⟨k + 1, by omega, by push_cast; rfl, Hb2⟩
        case measure => simp [nV]; omega
    · have hli : ¬ ((k : Int) < (n : Int)) := by omega
      have hR : R = -1 := by
        have e := ix_none c L (fun j hj => Hb.out j (by rw [Hn.out] at hj; omega))
        rw [← HR.out, e, if_neg (by omega)]
      subst hR
      go_wp2
      go_ret
      exact ⟨rfl, rfl⟩

set_option maxHeartbeats 1000000 in
theorem refNonce_any (L : Tx) (most : Nat) (w : World) (hL : L.length ≤ 1000000) (_hm : most ≤ 100000) :
    Calls Tryz.prog 33 #[.string ⟨L.toArray⟩, .int .i64 most] w fun e w' => e = .returned (.bool (nonceB most L)) ∧ w' = w := by
  have hz := size_tx L
  have HX : Hid (∀ k, k < L.length → ∀ w, (Instr.index 9 (.string ⟨L.toArray⟩) (.int .i64 k)).run Tryz.prog w = .ok (.int .u8 ((L.getD k 0).toNat : Int)) w) := fun k hk w => tx_ix L k hk w
  obtain ⟨S, HS⟩ : ∃ S, Hid ((⟨L.toArray⟩ : ByteArray) = S) := ⟨_, rfl⟩
  rw [HS.out] at hz HX ⊢
  obtain ⟨R, HR⟩ : ∃ R, Hid (nonceB most L = R) := ⟨_, rfl⟩
  rw [HR.out]
  obtain ⟨n, Hn⟩ : ∃ n, Hid (L.length = n) := ⟨_, rfl⟩
  rw [Hn.out] at hz HX hL
  go_enter Tryz.func33, Tryz.ntmps33
  go_wp2
  go_loop [5] (fun i => ∃ k : Nat, k ≤ n ∧ i = .int .i64 (k : Int) ∧ Hid ((L.take k).all okN = true)) (fun i => n - nV i)
  case atStart => exact ⟨0, Nat.zero_le _, rfl, by show _ = _; simp⟩
  case round =>
    obtain ⟨k, hk, rfl, Hb⟩ := hrel
    rcases Nat.lt_or_ge k n with hlt | hge
    · have hli : (k : Int) < (n : Int) := by omega
      have hix := HX.out k hlt w
      by_cases hc : okN (L.getD k 0) = true
      · have Hb2 : Hid ((L.take (k + 1)).all okN = true) := take_all L k (by rw [Hn.out]; exact hlt) Hb.out hc
        have hb : 33 ≤ (L.getD k 0).toNat ∧ (L.getD k 0).toNat ≤ 126 ∧ (L.getD k 0).toNat ≠ 44 := by simpa [okN] using hc
        obtain ⟨x, Hx⟩ : ∃ x, Hid ((L.getD k 0).toNat = x) := ⟨_, rfl⟩
        rw [Hx.out] at hix hb
        have g1 : ¬ ((x : Int) < 33) := by omega
        have g2 : ¬ ((x : Int) > 126) := by omega
        have g3 : ((x : Int) == 44) = false := by simp; omega
        clear hc Hb HX hb
        go_wp2
        go_round
        case rel => exact ⟨k + 1, by omega, by push_cast; rfl, Hb2⟩
        case measure => simp [nV]; omega
      · have hR : R = false := by rw [← HR.out]; exact nonce_off L most k (by rw [Hn.out]; exact hlt) (by simpa using hc)
        subst hR
        have hb : (L.getD k 0).toNat < 33 ∨ 126 < (L.getD k 0).toNat ∨ (L.getD k 0).toNat = 44 := by
          have : ¬ (33 ≤ (L.getD k 0).toNat ∧ (L.getD k 0).toNat ≤ 126 ∧ (L.getD k 0).toNat ≠ 44) := fun h => hc (by simpa [okN] using h)
          omega
        obtain ⟨x, Hx⟩ : ∃ x, Hid ((L.getD k 0).toNat = x) := ⟨_, rfl⟩
        rw [Hx.out] at hix hb
        clear hc Hb HX
        rcases hb with g | g | g
        · have g1 : (x : Int) < 33 := by omega
          go_wp2
          go_ret
          exact ⟨rfl, rfl⟩
        · have g1 : ¬ ((x : Int) < 33) := by omega
          have g2 : (x : Int) > 126 := by omega
          go_wp2
          go_ret
          exact ⟨rfl, rfl⟩
        · subst g
          go_wp2
          go_ret
          exact ⟨rfl, rfl⟩
    · have hli : ¬ ((k : Int) < (n : Int)) := by omega
      have hall := Hb.out
      rw [List.take_of_length_le (by rw [Hn.out]; omega)] at hall
      by_cases h0 : 0 < n
      · have g0 : (n : Int) > 0 := by omega
        have hne : L ≠ [] := fun e => by rw [e] at Hn; have := Hn.out; simp at this; omega
        by_cases h1 : n ≤ most
        · have hR : R = true := by rw [← HR.out, nonce_parts]; exact ⟨hne, by rw [Hn.out]; exact h1, hall⟩
          subst hR
          have g1 : (n : Int) ≤ (most : Int) := by omega
          clear hall Hb hne
          go_wp2
          go_ret
          exact ⟨rfl, rfl⟩
        · have hR : R = false := by
            rw [← HR.out]
            cases h : nonceB most L with
            | false => rfl
            | true => have := (nonce_parts.1 h).2.1; rw [Hn.out] at this; omega
          subst hR
          have g1 : ¬ ((n : Int) ≤ (most : Int)) := by omega
          clear hall Hb hne
          go_wp2
          go_ret
          exact ⟨rfl, rfl⟩
      · have hR : R = false := by
          rw [← HR.out]
          cases h : nonceB most L with
          | false => rfl
          | true =>
            have h2 := (nonce_parts.1 h).1
            have : L.length = 0 := by rw [Hn.out]; omega
            exact absurd (List.length_eq_zero_iff.1 this) h2
        subst hR
        have g0 : ¬ ((n : Int) > 0) := by omega
        clear hall Hb
        go_wp2
        go_ret
        exact ⟨rfl, rfl⟩
end Go.Proofs.YtmilcknboaefkaaGreatDoor
