/- The document's Begin; two messages held against one another; wakes; a text that is cut. -/
import Derived.Test.YtmilcknboaefkaaDoorScG
import Derived.Test.YtmilcknboaefkaaDoorScT
namespace Go.Proofs.YtmilcknboaefkaaDoor
open Go.RowKit Go.Shelf

theorem cutL_any (T : Tx) (w : World) (hT : T.length ≤ 9223372036854775807) : Calls Tryd.prog 5 #[.string ⟨T.toArray⟩] w fun e w' => e = .returned (.string ⟨(T.take 1100).toArray⟩) ∧ w' = w := by
  have c := fun w => text_any ⟨T.toArray⟩ 1100 w (by rw [size_tx]; exact hT) (by omega)
  have e1 : strOfNums ((nums ⟨T.toArray⟩).take 1100) = ⟨(T.take 1100).toArray⟩ := by
    show strOfNums ((il T).take 1100) = _
    rw [show (il T).take 1100 = il (T.take 1100) by simp [il, List.map_take], str_il]
  rw [e1] at c
  obtain ⟨S, HS⟩ : ∃ S, Hid ((⟨T.toArray⟩ : ByteArray) = S) := ⟨_, rfl⟩
  rw [HS.out] at c ⊢
  clear e1
  go_enter Tryd.func5, Tryd.ntmps5
  go_wp2_with (go_at_call 16; refine (c _).mono ?_; rintro e w1 ⟨rfl, rfl⟩)
  go_ret
  exact ⟨rfl, rfl⟩

/-! ### the document's Begin -/
def esc1 (b : UInt8) : Tx := if b = 44 then [61, 50, 67] else if b = 61 then [61, 51, 68] else [b]
theorem esc_take (u : Tx) (k : Nat) (hk : k < u.length) : esc (u.take (k + 1)) = esc (u.take k) ++ esc1 (u.getD k 0) := by
  have e : u.take (k + 1) = u.take k ++ [u.getD k 0] := by
    rw [List.take_succ_eq_append_getElem hk]; simp [List.getD, List.getElem?_eq_getElem hk]
  unfold esc
  rw [e, List.flatMap_append]
  simp [esc1]

set_option maxHeartbeats 4000000 in
set_option maxRecDepth 100000 in
theorem refBegin_any (u n : Tx) (w : World) (hu : u.length ≤ 10000) (hn : n.length ≤ 10000) :
    Calls Tryd.prog 12 #[.string ⟨u.toArray⟩, .string ⟨n.toArray⟩] w fun e w' => e = .returned (ToldT (beginE u n)) ∧ w' = w := by
  have hE := isEmpty_tx u
  by_cases h0 : u = []
  · have e : beginE u n = ([], 2) := by unfold beginE; rw [if_pos (.inl h0)]
    rw [e, ToldT]
    subst h0
    go_enter Tryd.func12, Tryd.ntmps12
    go_wp2
    go_ret2
    exact ⟨rfl, rfl⟩
  rw [decide_eq_false h0] at hE
  have cV := refValidT_any u w (by omega)
  cases hV : Lib.validD u with
  | false =>
    have e : beginE u n = ([], 2) := by unfold beginE; rw [if_pos (.inr (.inl hV))]
    rw [e, ToldT]
    rw [hV] at cV
    obtain ⟨S, HS⟩ : ∃ S, Hid ((⟨u.toArray⟩ : ByteArray) = S) := ⟨_, rfl⟩
    rw [HS.out] at cV hE ⊢
    clear h0 hV e
    go_enter Tryd.func12, Tryd.ntmps12
    go_wp2_with (go_at_call 28; refine cV.mono ?_; rintro e w1 ⟨rfl, rfl⟩)
    go_ret2
    exact ⟨rfl, rfl⟩
  | true =>
    rw [hV] at cV
    have cN := fun w => refNonce_any n 128 w (by omega) (by omega)
    cases hN : nonceB 128 n with
    | false =>
      have e : beginE u n = ([], 2) := by unfold beginE; rw [if_pos (.inr (.inr hN))]
      rw [e, ToldT]
      rw [hN] at cN
      obtain ⟨S, HS⟩ : ∃ S, Hid ((⟨u.toArray⟩ : ByteArray) = S) := ⟨_, rfl⟩
      rw [HS.out] at cV hE ⊢
      clear h0 hV e hN
      go_enter Tryd.func12, Tryd.ntmps12
      go_wp2_with (first
        | (go_at_call 28; refine cV.mono ?_; rintro e w1 ⟨rfl, rfl⟩)
        | (go_at_call 20; refine (cN _).mono ?_; rintro e w2 ⟨rfl, rfl⟩))
      go_ret2
      exact ⟨rfl, rfl⟩
    | true =>
      rw [hN] at cN
      have HB : Hid (beginE u n = if 1024 < (beginT u n).length then ([], 5) else (beginT u n, 0)) := by
        show _ = _; unfold beginE; rw [if_neg (by simp [h0, hV, hN])]
      have hz := size_tx u
      have hzn := size_tx n
      have HX : Hid (∀ k, k < u.length → ∀ w, (Instr.index 9 (.string ⟨u.toArray⟩) (.int .i64 k)).run Tryd.prog w = .ok (.int .u8 ((u.getD k 0).toNat : Int)) w) := fun k hk w => tx_ix u k hk w
      have H1 : Hid (∀ k, k < u.length → (⟨u.toArray⟩ : ByteArray).extract k (k + 1) = ⟨#[u.getD k 0]⟩) := fun k hk => one_tx u k hk
      obtain ⟨S, HS⟩ : ∃ S, Hid ((⟨u.toArray⟩ : ByteArray) = S) := ⟨_, rfl⟩
      obtain ⟨T, HT⟩ : ∃ S, Hid ((⟨n.toArray⟩ : ByteArray) = S) := ⟨_, rfl⟩
      rw [HS.out] at cV hE hz HX H1 ⊢
      rw [HT.out] at cN hzn ⊢
      obtain ⟨m, Hm⟩ : ∃ m, Hid (u.length = m) := ⟨_, rfl⟩
      rw [Hm.out] at hz HX H1 hu
      obtain ⟨R, HR⟩ : ∃ R, Hid (beginE u n = R) := ⟨_, rfl⟩
      rw [HR.out]
      rw [HR.out] at HB
      clear h0 hV hN
      go_enter Tryd.func12, Tryd.ntmps12
      go_wp2_with (first
        | (go_at_call 28; refine cV.mono ?_; rintro e w1 ⟨rfl, rfl⟩)
        | (go_at_call 20; refine (cN _).mono ?_; rintro e w2 ⟨rfl, rfl⟩))
      go_loop [6, 7] (fun st si => ∃ (k : Nat) (acc : Tx), k ≤ m ∧ st = .string ⟨acc.toArray⟩ ∧ si = .int .i64 (k : Int) ∧ Hid (acc.length ≤ 5 + 3 * k) ∧ Hid (acc = [110, 44, 44, 110, 61] ++ esc (u.take k))) (fun _ si => m - nV si)
      case atStart => exact ⟨0, [110, 44, 44, 110, 61], Nat.zero_le _, rfl, rfl, (by show 5 ≤ 5 + 3 * 0; omega), (by show _ = _; simp [esc])⟩
      case round =>
        obtain ⟨k, acc, hk, rfl, rfl, Hac, HA⟩ := hrel
        have hac := Hac.out
        have hza := size_tx acc
        rcases Nat.lt_or_ge k m with hlt | hge
        · have hli : (k : Int) < (m : Int) := by omega
          have hix := HX.out k hlt
          have het := esc_take u k (by rw [Hm.out]; exact hlt)
          have h1 := H1.out k hlt
          obtain ⟨ch, Hch⟩ : ∃ c, Hid (u.getD k 0 = c) := ⟨_, rfl⟩
          rw [Hch.out] at hix het h1
          by_cases hc : ch = 44
          · subst hc
            have HA2 : Hid (acc ++ [61, 50, 67] = [110, 44, 44, 110, 61] ++ esc (u.take (k + 1))) := by show _ = _; rw [het, HA.out, show esc1 44 = [61, 50, 67] from rfl]; simp
            have e3 := app_tx acc [61, 50, 67]
            have y1 : (⟨#[61, 50, 67]⟩ : ByteArray).size = 3 := rfl
            have hix' : ∀ w, (Instr.index 9 (.string S) (.int .i64 k)).run Tryd.prog w = .ok (.int .u8 44) w := hix
            clear het HA HX H1 h1 hix
            go_wp2
            go_round
            case rel => exact ⟨k + 1, acc ++ [61, 50, 67], by omega, rfl, by push_cast; rfl, (by show _ ≤ _; simp; omega), HA2⟩
            case measure => simp [nV]; omega
          · by_cases hc2 : ch = 61
            · subst hc2
              have HA2 : Hid (acc ++ [61, 51, 68] = [110, 44, 44, 110, 61] ++ esc (u.take (k + 1))) := by show _ = _; rw [het, HA.out, show esc1 61 = [61, 51, 68] from rfl]; simp
              have e3 := app_tx acc [61, 51, 68]
              have y1 : (⟨#[61, 51, 68]⟩ : ByteArray).size = 3 := rfl
              have hix' : ∀ w, (Instr.index 9 (.string S) (.int .i64 k)).run Tryd.prog w = .ok (.int .u8 61) w := hix
              clear het HA HX H1 h1 hix hc
              go_wp2
              go_round
              case rel => exact ⟨k + 1, acc ++ [61, 51, 68], by omega, rfl, by push_cast; rfl, (by show _ ≤ _; simp; omega), HA2⟩
              case measure => simp [nV]; omega
            · have HA2 : Hid (acc ++ [ch] = [110, 44, 44, 110, 61] ++ esc (u.take (k + 1))) := by show _ = _; rw [het, HA.out, show esc1 ch = [ch] by unfold esc1; rw [if_neg hc, if_neg hc2]]; simp
              have e3 := app_tx acc [ch]
              have y1 : (⟨#[ch]⟩ : ByteArray).size = 1 := rfl
              have g1 : ((ch.toNat : Int) == 44) = false := by rw [beq_eq_false_iff_ne]; intro e; exact hc (UInt8.toNat_inj.1 (by show _ = 44; omega))
              have g2 : ((ch.toNat : Int) == 61) = false := by rw [beq_eq_false_iff_ne]; intro e; exact hc2 (UInt8.toNat_inj.1 (by show _ = 61; omega))
              have g3 : (k : Int) + 1 ≤ (m : Int) := by omega
              obtain ⟨x, Hx⟩ : ∃ x, Hid ((ch.toNat : Int) = x) := ⟨_, rfl⟩
              rw [Hx.out] at hix g1 g2
              obtain ⟨Q, HQ⟩ : ∃ Q, Hid ((⟨#[ch]⟩ : ByteArray) = Q) := ⟨_, rfl⟩
              rw [HQ.out] at h1 e3 y1
              clear het HA HX H1 hc hc2
              go_wp2
              go_round
              case rel => exact ⟨k + 1, acc ++ [ch], by omega, rfl, by push_cast; rfl, (by show _ ≤ _; simp; omega), HA2⟩
              case measure => simp [nV]; omega
        · have hli : ¬ ((k : Int) < (m : Int)) := by omega
          have hfin : acc ++ [44, 114, 61] ++ n = beginT u n := by rw [HA.out, List.take_of_length_le (by rw [Hm.out]; omega)]; rfl
          obtain ⟨x2, hx2⟩ : ∃ x : Tx, x = acc ++ [44, 114, 61] := ⟨_, rfl⟩
          rw [← hx2] at hfin
          have e2 := app_tx acc [44, 114, 61]
          rw [← hx2] at e2
          have e3 := app_tx x2 n
          rw [hfin] at e3
          have z2 := size_tx x2
          rw [show x2.length = acc.length + 3 by rw [hx2, List.length_append]; rfl] at z2
          have z3 := size_tx (beginT u n)
          have y2 : (⟨#[44, 114, 61]⟩ : ByteArray).size = 3 := rfl
          have hl3 : (beginT u n).length = acc.length + 3 + n.length := by rw [← hfin, List.length_append, hx2, List.length_append]; rfl
          obtain ⟨T2, H2⟩ : ∃ S, Hid ((⟨x2.toArray⟩ : ByteArray) = S) := ⟨_, rfl⟩
          obtain ⟨T3, H3⟩ : ∃ S, Hid ((⟨(beginT u n).toArray⟩ : ByteArray) = S) := ⟨_, rfl⟩
          rw [H2.out] at e2 e3 z2
          rw [H3.out] at e3 z3
          rw [HT.out] at e3
          obtain ⟨q, Hq⟩ : ∃ m, Hid ((beginT u n).length = m) := ⟨_, rfl⟩
          rw [Hq.out] at z3 hl3
          have hB := HB.out
          rw [Hq.out] at hB
          clear HA HX H1 hfin hx2 HB
          by_cases hb : 1024 < q
          · rw [if_pos hb] at hB
            subst hB
            have hb' : (q : Int) > 1024 := by omega
            go_wp2
            go_ret2
            exact ⟨rfl, rfl⟩
          · rw [if_neg hb] at hB
            subst hB
            have hb' : ¬ ((q : Int) > 1024) := by omega
            go_wp2
            go_ret2
            exact ⟨by rw [← H3.out]; rfl, rfl⟩

/-! ### two messages held against one another -/
set_option maxHeartbeats 1000000 in
theorem sameFirst_true (f : FP) (w : World) : Calls Tryd.prog 7 #[.agg (fcells f), .agg (fcells f)] w fun e w' => e = .returned (.bool true) ∧ Below w.heap.size w w' := by
  unfold fcells
  have hb : Below w.heap.size w ((w.alloc (.cells #[.string ⟨f.hd.toArray⟩, .string ⟨f.us.toArray⟩, .string ⟨f.no.toArray⟩, .string ⟨f.ba.toArray⟩] 25)).alloc (.cells #[.string ⟨f.hd.toArray⟩, .string ⟨f.us.toArray⟩, .string ⟨f.no.toArray⟩, .string ⟨f.ba.toArray⟩] 25)) := ((Below.refl _ _).alloc (Nat.le_refl _) _).alloc (by simp) _
  go_enter Tryd.func7, Tryd.ntmps7
  go_wp2
  go_ret
  exact ⟨rfl, hb⟩
end Go.Proofs.YtmilcknboaefkaaDoor
