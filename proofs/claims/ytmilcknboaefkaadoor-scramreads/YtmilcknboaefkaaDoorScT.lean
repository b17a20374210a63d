/- The document's plain: a name without its marks. -/
import Derived.Test.YtmilcknboaefkaaDoorScS
import Derived.Test.YtmilcknboaefkaaDoorRefV
namespace Go.Proofs.YtmilcknboaefkaaDoor
open Go.RowKit Go.Shelf

theorem refValidT_any (L : Tx) (w : World) (hL : L.length ≤ 1000000) : Calls Tryd.prog 28 #[.string ⟨L.toArray⟩] w fun e w' => e = .returned (.bool (Lib.validD L)) ∧ w' = w := by
  have c := refValid_any ⟨L.toArray⟩ w (by rw [size_tx]; exact hL)
  rw [vld_nums] at c
  exact c
theorem one_tx (L : Tx) (k : Nat) (hk : k < L.length) : (⟨L.toArray⟩ : ByteArray).extract k (k + 1) = ⟨#[L.getD k 0]⟩ := by
  rw [cut_mid]
  have : (L.drop k).take 1 = [L.getD k 0] := by rw [List.drop_eq_getElem_cons hk, List.take_succ_cons, List.take_zero]; simp [List.getD, List.getElem?_eq_getElem hk]
  rw [this]
theorem getD_drop {L : Tx} {k : Nat} (hk : k < L.length) : L.drop k = L.getD k 0 :: L.drop (k + 1) := by
  rw [List.drop_eq_getElem_cons hk]; simp [List.getD, hk]

/-- How plain answers. -/
def PlainA (R : Option Tx) (e : Ending) : Prop := ∃ out : Tx, e = .returned (.tuple #[.string ⟨out.toArray⟩, .bool R.isSome]) ∧ ∀ U, R = some U → out = U

set_option maxHeartbeats 4000000 in
set_option maxRecDepth 100000 in
theorem plain_any (L : Tx) (w : World) (hL : L.length ≤ 1000000) :
    Calls Tryd.prog 19 #[.string ⟨L.toArray⟩] w fun e w' => PlainA (nameO L) e ∧ w' = w := by
  have hz := size_tx L
  have hE := isEmpty_tx L
  have cV := refValidT_any L w hL
  have HX : Hid (∀ k, k < L.length → ∀ w, (Instr.index 9 (.string ⟨L.toArray⟩) (.int .i64 k)).run Tryd.prog w = .ok (.int .u8 ((L.getD k 0).toNat : Int)) w) := fun k hk w => tx_ix L k hk w
  have H1 : Hid (∀ k, k < L.length → (⟨L.toArray⟩ : ByteArray).extract k (k + 1) = ⟨#[L.getD k 0]⟩) := fun k hk => one_tx L k hk
  have H3 : Hid (∀ k, (⟨L.toArray⟩ : ByteArray).extract k (k + 3) = ⟨((L.drop k).take 3).toArray⟩) := fun k => cut_mid L k 3
  obtain ⟨S, HS⟩ : ∃ S, Hid ((⟨L.toArray⟩ : ByteArray) = S) := ⟨_, rfl⟩
  rw [HS.out] at hz HX hE cV H1 H3 ⊢
  have HNO : Hid (nameO L = if L ≠ [] ∧ Lib.validD L = true then unesc L else none) := rfl
  obtain ⟨R, HR⟩ : ∃ R, Hid (nameO L = R) := ⟨_, rfl⟩
  rw [HR.out]
  rw [HR.out] at HNO
  obtain ⟨X, HXX⟩ : ∃ X, Hid (unesc L = X) := ⟨_, rfl⟩
  rw [HXX.out] at HNO
  obtain ⟨n, Hn⟩ : ∃ n, Hid (L.length = n) := ⟨_, rfl⟩
  rw [Hn.out] at hz HX hL H1
  go_enter Tryd.func19, Tryd.ntmps19
  go_wp2
  go_loop [4, 5] (fun so si => ∃ (k : Nat) (acc : Tx), k ≤ n ∧ so = .string ⟨acc.toArray⟩ ∧ si = .int .i64 (k : Int) ∧ Hid (acc.length ≤ k) ∧ Hid ((unesc (L.drop k)).map (acc ++ ·) = X)) (fun _ si => n - nV si)
  case atStart => exact ⟨0, [], Nat.zero_le _, rfl, rfl, Nat.zero_le _, (by show _ = _; rw [List.drop_zero, HXX.out]; simp)⟩
  case round =>
    obtain ⟨k, acc, hk, rfl, rfl, Hac, HU⟩ := hrel
    have hac := Hac.out
    have hza := size_tx acc
    rcases Nat.lt_or_ge k n with hlt | hge
    · have hli : (k : Int) < (n : Int) := by omega
      have hix := HX.out k hlt w
      have hkL : k < L.length := by rw [Hn.out]; exact hlt
      by_cases hc : L.getD k 0 = 61
      · rw [hc] at hix
        have hix' : (Instr.index 9 (.string S) (.int .i64 k)).run Tryd.prog w = .ok (.int .u8 61) w := hix
        by_cases h2 : k + 2 < n
        · have g2 : ¬ ((k : Int) + 2 ≥ (n : Int)) := by omega
          have g3 : (k : Int) + 3 ≤ (n : Int) := by omega
          have hd : L.drop k = 61 :: L.getD (k + 1) 0 :: L.getD (k + 2) 0 :: L.drop (k + 3) := by
            rw [getD_drop hkL, getD_drop (k := k + 1) (by rw [Hn.out]; omega), getD_drop (k := k + 2) (by rw [Hn.out]; omega), hc]
          have h3 := H3.out k
          rw [hd] at h3
          simp only [List.take_succ_cons, List.take_zero] at h3
          have hu := HU.out
          rw [hd] at hu
          have e1 := tx_eq [61, L.getD (k + 1) 0, L.getD (k + 2) 0] [61, 50, 67]
          have e2 := tx_eq [61, L.getD (k + 1) 0, L.getD (k + 2) 0] [61, 51, 68]
          by_cases hq1 : L.getD (k + 1) 0 = 50 ∧ L.getD (k + 2) 0 = 67
          · rw [hq1.1, hq1.2] at hu h3
            rw [unesc_c] at hu
            have HU2 : Hid ((unesc (L.drop (k + 3))).map ((acc ++ [44]) ++ ·) = X) := by show _ = _; rw [← hu]; simp [Function.comp_def]
            have e3 := app_tx acc [44]
            have y1 : (⟨#[44]⟩ : ByteArray).size = 1 := rfl
            clear e1 e2 hq1 hu hd HU hc hix HX H1 H3
            go_wp2
            go_round
            case rel => exact ⟨k + 3, acc ++ [44], by omega, rfl, by push_cast; rfl, (by show _ ≤ _; simp; omega), HU2⟩
            case measure => simp [nV]; omega
          · rw [decide_eq_false (fun e => hq1 (by simpa using e))] at e1
            by_cases hq2 : L.getD (k + 1) 0 = 51 ∧ L.getD (k + 2) 0 = 68
            · rw [hq2.1, hq2.2] at hu h3 e1
              rw [unesc_e] at hu
              have HU2 : Hid ((unesc (L.drop (k + 3))).map ((acc ++ [61]) ++ ·) = X) := by show _ = _; rw [← hu]; simp [Function.comp_def]
              have e3 := app_tx acc [61]
              have y1 : (⟨#[61]⟩ : ByteArray).size = 1 := rfl
              clear e2 hq1 hq2 hu hd HU hc hix HX H1 H3
              go_wp2
              go_round
              case rel => exact ⟨k + 3, acc ++ [61], by omega, rfl, by push_cast; rfl, (by show _ ≤ _; simp; omega), HU2⟩
              case measure => simp [nV]; omega
            · rw [decide_eq_false (fun e => hq2 (by simpa using e))] at e2
              have hX : X = none := by
                rw [← hu, unesc.eq_def]
                simp only [if_true]
                rw [if_neg hq1, if_neg hq2]; rfl
              have hR : R = none := by rw [HNO.out, hX]; simp
              subst hR
              obtain ⟨Q, HQ⟩ : ∃ Q, Hid ((⟨#[61, L.getD (k + 1) 0, L.getD (k + 2) 0]⟩ : ByteArray) = Q) := ⟨_, rfl⟩
              rw [HQ.out] at h3 e1 e2
              have e1' : (Q.toList == [61, 50, 67]) = false := by rw [tx_list [61, 50, 67]] at e1; exact e1
              have e2' : (Q.toList == [61, 51, 68]) = false := by rw [tx_list [61, 51, 68]] at e2; exact e2
              clear hq1 hq2 hu hd HU hc hix HX H1 H3 hX
              go_wp2
              go_ret2
              exact ⟨⟨[], rfl, fun U h => by cases h⟩, rfl⟩
        · have g2 : (k : Int) + 2 ≥ (n : Int) := by omega
          have hX : X = none := by
            have hd : ∃ t, L.drop k = 61 :: t ∧ t.length ≤ 1 := ⟨L.drop (k + 1), by rw [getD_drop hkL, hc], by rw [List.length_drop, Hn.out]; omega⟩
            obtain ⟨t, hd, ht⟩ := hd
            have hu := HU.out
            rw [hd] at hu
            rw [← hu]
            match t, ht with
            | [], _ => rfl
            | [_], _ => rfl
          have hR : R = none := by rw [HNO.out, hX]; simp
          subst hR
          clear HU hc hix HX H1 H3 hX
          go_wp2
          go_ret2
          exact ⟨⟨[], rfl, fun U h => by cases h⟩, rfl⟩
      · have hne : (((L.getD k 0).toNat : Int) == 61) = false := by
          rw [beq_eq_false_iff_ne]
          intro e
          exact hc (UInt8.toNat_inj.1 (by show _ = 61; omega))
        have hu := HU.out
        rw [getD_drop hkL, unesc_ne _ hc] at hu
        have HU2 : Hid ((unesc (L.drop (k + 1))).map ((acc ++ [L.getD k 0]) ++ ·) = X) := by show _ = _; rw [← hu]; simp [Function.comp_def]
        have h1 := H1.out k hlt
        obtain ⟨ch, Hch⟩ : ∃ c, Hid (L.getD k 0 = c) := ⟨_, rfl⟩
        rw [Hch.out] at h1 hix hne HU2
        have e3 := app_tx acc [ch]
        have y1 : (⟨#[ch]⟩ : ByteArray).size = 1 := rfl
        have g3 : (k : Int) + 1 ≤ (n : Int) := by omega
        obtain ⟨x, Hx⟩ : ∃ x, Hid ((ch.toNat : Int) = x) := ⟨_, rfl⟩
        rw [Hx.out] at hix hne
        obtain ⟨Q, HQ⟩ : ∃ Q, Hid ((⟨#[ch]⟩ : ByteArray) = Q) := ⟨_, rfl⟩
        rw [HQ.out] at h1 e3 y1
        clear hu HU hc HX H1 H3
        go_wp2
        go_round
        case rel => exact ⟨k + 1, acc ++ [ch], by omega, rfl, by push_cast; rfl, (by show _ ≤ _; simp; omega), HU2⟩
        case measure => simp [nV]; omega
    · have hli : ¬ ((k : Int) < (n : Int)) := by omega
      have hX : X = some acc := by
        rw [← HU.out, List.drop_of_length_le (by rw [Hn.out]; omega)]
        simp [unesc]
      subst hX
      have hR := HNO.out
      by_cases h0 : L = []
      · rw [decide_eq_true h0] at hE
        rw [if_neg (by simp [h0])] at hR
        subst hR
        clear HU HX H1 H3 h0
        go_wp2
        go_ret2
        exact ⟨⟨acc, rfl, fun U h => by cases h⟩, rfl⟩
      · rw [decide_eq_false h0] at hE
        cases hV : Lib.validD L with
        | true =>
          rw [if_pos ⟨h0, hV⟩] at hR
          subst hR
          rw [hV] at cV
          clear HU HX H1 H3 h0 hV
          go_wp2_with (go_at_call 28; refine cV.mono ?_; rintro e w1 ⟨rfl, rfl⟩)
          go_ret2
          exact ⟨⟨acc, rfl, fun U h => by cases h; rfl⟩, rfl⟩
        | false =>
          rw [if_neg (by simp [hV])] at hR
          subst hR
          rw [hV] at cV
          clear HU HX H1 H3 h0 hV
          go_wp2_with (go_at_call 28; refine cV.mono ?_; rintro e w1 ⟨rfl, rfl⟩)
          go_ret2
          exact ⟨⟨acc, rfl, fun U h => by cases h⟩, rfl⟩
end Go.Proofs.YtmilcknboaefkaaDoor
