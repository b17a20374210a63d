/- base64.Decode. -/
import Derived.Test.YtmilcknboaefkaaGreatDoorB6F
namespace Go.Proofs.YtmilcknboaefkaaGreatDoor
open Go.RowKit

def errB (D : Option (List Int)) : Int := match D with
  | none => 2
  | some _ => 0
def gotB (D : Option (List Int)) : List Int := D.getD []

theorem or6 {h v : Nat} (hh : h < 64) (hv : v < 64) : bits .or .u32 ((h : Int) * 64 % 4294967296) (v : Int) = ((h * 64 + v : Nat) : Int) := by
  have e : ((h : Int) * 64 % 4294967296) = ((h * 64 : Nat) : Int) := by omega
  rw [e, u32_or_nat _ _ (by omega) (by omega)]
  have : (h * 64 ||| v) = h * 64 + v := by
    rw [show h * 64 = h <<< 6 from by rw [Nat.shiftLeft_eq]]
    exact (Nat.shiftLeft_add_eq_or_of_lt (i := 6) (by omega) h).symm
  rw [this]
/-- s[k]. -/
theorem str_ix {S : List Int} (hb : Bd S) {k : Nat} (hk : k < S.length) (w : World) : (Instr.index 9 (.string (strOfNums S)) (.int .i64 k)).run Tryz.prog w = .ok (.int .u8 (S.getD k 0)) w := by
  have hs := str_size S
  rw [run_index_string w 9 _ .i64 _ Tryz.underlying9, dif_pos ⟨by omega, by omega⟩]
  have e2 := byte_at (strOfNums S) ((k : Int)).toNat (by omega)
  have e3 : (((strOfNums S).data.toList.getD ((k : Int)).toNat 0).toNat : Int) = S.getD k 0 := by
    have hq := hb.get k
    rw [show ((k : Int)).toNat = k from by omega]
    simp only [strOfNums, List.getD, List.getElem?_map, List.getElem?_eq_getElem hk, Option.map_some, Option.getD_some] at hq ⊢
    rw [UInt8.toNat_ofNat']
    omega
  exact congrArg (fun z => Result.ok (Value.int .u8 z) w) ((congrArg (fun b : UInt8 => (b.toNat : Int)) e2).trans e3)
theorem drop_cons {S : List Int} {k : Nat} (hk : k < S.length) : S.drop k = S.getD k 0 :: S.drop (k + 1) := by
  rw [List.drop_eq_getElem_cons hk]
  simp [List.getD, List.getElem?_eq_getElem hk]

set_option maxHeartbeats 4000000 in
theorem b6bytesOf_any (S : List Int) (M : Nat) (w : World) (hb : Bd S) (hn : S.length ≤ 1000000) (hM : M ≤ 10000000) :
    Calls Tryz.prog 108 #[.string (strOfNums S), .int .i64 M] w fun e w' => ∃ v, e = .returned (.tuple #[v, .int .i64 (errB (bof S 0 0 []))]) ∧ New w w' v (gotB (bof S 0 0 [])) ∧ Below w.heap.size w w' := by
  obtain ⟨w1, hmk, ho1, hb1⟩ := mk0 w M (by omega)
  have hsz := str_size S
  have HX : Hid (∀ {k : Nat}, k < S.length → ∀ u, (Instr.index 9 (.string (strOfNums S)) (.int .i64 k)).run Tryz.prog u = .ok (.int .u8 (S.getD k 0)) u) := fun h u => str_ix hb h u
  have HBd : Hid (Bd S) := hb
  obtain ⟨T, HT⟩ : ∃ T, Hid (strOfNums S = T) := ⟨_, rfl⟩
  rw [HT.out] at HX hsz ⊢
  obtain ⟨D, HD⟩ : ∃ D, Hid (bof S 0 0 [] = D) := ⟨_, rfl⟩
  rw [HD.out]
  obtain ⟨N, HN⟩ : ∃ N, Hid (S.length = N) := ⟨_, rfl⟩
  rw [HN.out] at hsz hn
  clear hb
  go_enter Tryz.func108, Tryz.ntmps108
  go_wp2
  clear hmk
  go_loopw [6, 7, 8, 15] (fun s6 s7 s8 s15 wr => ∃ (k h t : Nat) (out : List Int), s15 = .int .i64 (k : Int) ∧ s7 = .int .u32 (h : Int) ∧ s8 = .int .i64 (t : Int) ∧ k ≤ N ∧ h < 2 ^ t ∧ (t = 0 ∨ t = 2 ∨ t = 4 ∨ t = 6) ∧ Hid (out.length ≤ k) ∧ Bd out ∧ Hid (bof (S.drop k) h t out = D) ∧ wr.ownsRow w.heap.size 5 1 s6 out.length (bc out) ∧ Below w.heap.size w wr) (fun _ _ _ s15 _ => N - natV s15)
  case atStart => exact ⟨0, 0, 0, [], rfl, rfl, rfl, Nat.zero_le _, by decide, .inl rfl, Nat.zero_le _, Bd.nil, by show bof (S.drop 0) 0 0 [] = D; rw [List.drop_zero]; exact HD.out, ho1, hb1⟩
  case round =>
    clear ho1 hb1 HD
    obtain ⟨k, h, t, out, rfl, rfl, rfl, hk, hh, ht, Ho, hbo, HB, hown, hbel⟩ := hrel
    have HBel : Hid (Below w.heap.size w wr) := hbel
    clear hbel
    rcases Nat.lt_or_ge k N with hlt | hge
    · have hki : (k : Int) < (N : Int) := by omega
      have hix := HX.out (k := k) (by rw [HN.out]; exact hlt)
      have hc := HBd.out.get k
      have HB2 := HB
      obtain ⟨c, Hc⟩ : ∃ c, Hid (S.getD k 0 = c) := ⟨_, rfl⟩
      have HB3 : Hid (bof (c :: S.drop (k + 1)) h t out = D) := by show _ = _; rw [← Hc.out, ← drop_cons (by rw [HN.out]; exact hlt)]; exact HB.out
      rw [Hc.out] at hix hc
      have cI := fun u => index_any c u hc.1 hc.2
      clear HB HB2 Hc HX HBd hc
      by_cases hd : dv c = 64
      · have hv : ixv c = -1 := by unfold ixv; rw [if_pos hd]
        have hD : D = none := by rw [← HB3.out, bof_no hd]
        subst hD
        rw [hv] at cI
        clear hd hv HB3 hh ht hown hbo Ho
        go_wp2_with (go_at_call 128; refine (cI _).mono ?_; rintro e w' ⟨rfl, rfl⟩)
        refine bodyPost_ret (results_tmp2 Tryz.results108 _ _ _) rfl ?_
        exact ⟨.slice none 0 0, rfl, ⟨⟨rfl, .inl ⟨rfl, rfl⟩⟩, Bd.nil⟩, HBel.out⟩
      · have hd64 := dv_lt hd
        obtain ⟨V, hV, HV⟩ : ∃ V : Int, ixv c = V ∧ Hid (V = ((dv c : Nat) : Int)) := ⟨_, rfl, by show _ = _; unfold ixv; rw [if_neg hd]⟩
        rw [hV] at cI
        have hol : out.length ≤ 10000000 := by have := Ho.out; omega
        have hnn : decide (V < 0) = false := by rw [HV.out]; simp
        have hwr : V % 4294967296 = V := by rw [HV.out]; omega
        clear hV
        rcases ht with rfl | rfl | rfl | rfl
        · have h0 : h = 0 := by have := hh; simp at this; exact this
          subst h0
          have HB4 : Hid (bof (S.drop (k + 1)) (dv c) 6 out = D) := by show _ = _; rw [← HB3.out, bof_less hd (by omega)]; simp
          have hor : bits .or .u32 0 V = ((dv c : Nat) : Int) := by rw [HV.out]; have := or6 (h := 0) (v := dv c) (by omega) hd64; simpa using this
          clear HB3 hh HV hd
          generalize dv c = v at *
          go_wp2_with (go_at_call 128; refine (cI _).mono ?_; rintro e w' ⟨rfl, rfl⟩)
          refine ⟨⟨k + 1, v, 6, out, rfl, rfl, rfl, by omega, by show v < 64; exact hd64, by simp, by show _ ≤ _; have := Ho.out; omega, hbo, HB4, hown, HBel.out⟩, by simp only [natV]; omega⟩
        · have hh64 : h < 64 := by have := hh; simp at this; omega
          have HB4 : Hid (bof (S.drop (k + 1)) ((h * 64 + dv c) % 1) 0 (out ++ [(((h * 64 + dv c) / 1 % 256 : Nat) : Int)]) = D) := by show _ = _; rw [← HB3.out, bof_more hd (by omega)]
          have hor : bits .or .u32 ((h : Int) * 64 % 4294967296) V = _ := (HV.out ▸ or6 (h := h) (v := dv c) hh64 hd64)
          have HQ : Hid ((h * 64 + dv c) / 1 < 256) := by show _ < _; have := hh; simp at this; omega
          obtain ⟨q, Hq⟩ : ∃ q, Hid (h * 64 + dv c = q) := ⟨_, rfl⟩
          rw [Hq.out] at hor HB4 HQ
          have e1 : ((q : Nat) : Int) % 256 = ((q / 1 % 256 : Nat) : Int) := by omega
          rw [Nat.mod_one] at HB4
          obtain ⟨y, Hy⟩ : ∃ y : Nat, Hid (q / 1 % 256 = y) := ⟨_, rfl⟩
          have hy : y < 256 := by rw [← Hy.out]; omega
          rw [Hy.out] at HB4 e1
          clear HB3 hh Hq HQ Hy hh64 hd64 HV hd
          go_wp2_with (first
            | (go_at_call 128; refine (cI _).mono ?_; rintro e w' ⟨rfl, rfl⟩)
            | (at_builtin; refine wp_app1K rfl (.tmp 35) (.tmp 40) rfl w.heap.size _ out.length out rfl hown (y : Int) (by omega) (by omega) rfl (by omega) HBel.out.size ?_; intro v3 w3 ho3 hb3))
          refine ⟨⟨k + 1, 0, 0, out ++ [(y : Int)], rfl, rfl, rfl, by omega, by decide, by simp, by show _ ≤ _; rw [List.length_append]; have := Ho.out; simp; omega, hbo.append (fun x hx => by simp at hx; omega), HB4, (by rw [List.length_append]; exact ho3), HBel.out.trans hb3⟩, by simp only [natV]; omega⟩
        · have hh64 : h < 64 := by have := hh; simp at this; omega
          have HB4 : Hid (bof (S.drop (k + 1)) ((h * 64 + dv c) % 4) 2 (out ++ [(((h * 64 + dv c) / 4 % 256 : Nat) : Int)]) = D) := by show _ = _; rw [← HB3.out, bof_more hd (by omega)]
          have hor : bits .or .u32 ((h : Int) * 64 % 4294967296) V = _ := (HV.out ▸ or6 (h := h) (v := dv c) hh64 hd64)
          have HQ : Hid ((h * 64 + dv c) / 4 < 256) := by show _ < _; have := hh; simp at this; omega
          obtain ⟨q, Hq⟩ : ∃ q, Hid (h * 64 + dv c = q) := ⟨_, rfl⟩
          rw [Hq.out] at hor HB4 HQ
          have e1 : (((q : Nat) : Int) / 4) % 256 = ((q / 4 % 256 : Nat) : Int) := by omega
          have e2 : ((q : Nat) : Int) % 4 = ((q % 4 : Nat) : Int) := by omega
          obtain ⟨y, Hy⟩ : ∃ y : Nat, Hid (q / 4 % 256 = y) := ⟨_, rfl⟩
          have hy : y < 256 := by rw [← Hy.out]; omega
          rw [Hy.out] at HB4 e1
          clear HB3 hh Hq HQ Hy hh64 hd64 HV hd
          go_wp2_with (first
            | (go_at_call 128; refine (cI _).mono ?_; rintro e w' ⟨rfl, rfl⟩)
            | (at_builtin; refine wp_app1K rfl (.tmp 35) (.tmp 40) rfl w.heap.size _ out.length out rfl hown (y : Int) (by omega) (by omega) rfl (by omega) HBel.out.size ?_; intro v3 w3 ho3 hb3))
          refine ⟨⟨k + 1, q % 4, 2, out ++ [(y : Int)], rfl, rfl, rfl, by omega, by show q % 4 < 4; omega, by simp, by show _ ≤ _; rw [List.length_append]; have := Ho.out; simp; omega, hbo.append (fun x hx => by simp at hx; omega), HB4, (by rw [List.length_append]; exact ho3), HBel.out.trans hb3⟩, by simp only [natV]; omega⟩
        · have hh64 : h < 64 := by have := hh; simp at this; omega
          have HB4 : Hid (bof (S.drop (k + 1)) ((h * 64 + dv c) % 16) 4 (out ++ [(((h * 64 + dv c) / 16 % 256 : Nat) : Int)]) = D) := by show _ = _; rw [← HB3.out, bof_more hd (by omega)]
          have hor : bits .or .u32 ((h : Int) * 64 % 4294967296) V = _ := (HV.out ▸ or6 (h := h) (v := dv c) hh64 hd64)
          have HQ : Hid ((h * 64 + dv c) / 16 < 256) := by show _ < _; have := hh; simp at this; omega
          obtain ⟨q, Hq⟩ : ∃ q, Hid (h * 64 + dv c = q) := ⟨_, rfl⟩
          rw [Hq.out] at hor HB4 HQ
          have e1 : (((q : Nat) : Int) / 16) % 256 = ((q / 16 % 256 : Nat) : Int) := by omega
          have e2 : ((q : Nat) : Int) % 16 = ((q % 16 : Nat) : Int) := by omega
          obtain ⟨y, Hy⟩ : ∃ y : Nat, Hid (q / 16 % 256 = y) := ⟨_, rfl⟩
          have hy : y < 256 := by rw [← Hy.out]; omega
          rw [Hy.out] at HB4 e1
          clear HB3 hh Hq HQ Hy hh64 hd64 HV hd
          go_wp2_with (first
            | (go_at_call 128; refine (cI _).mono ?_; rintro e w' ⟨rfl, rfl⟩)
            | (at_builtin; refine wp_app1K rfl (.tmp 35) (.tmp 40) rfl w.heap.size _ out.length out rfl hown (y : Int) (by omega) (by omega) rfl (by omega) HBel.out.size ?_; intro v3 w3 ho3 hb3))
          refine ⟨⟨k + 1, q % 16, 4, out ++ [(y : Int)], rfl, rfl, rfl, by omega, by show q % 16 < 16; omega, by simp, by show _ ≤ _; rw [List.length_append]; have := Ho.out; simp; omega, hbo.append (fun x hx => by simp at hx; omega), HB4, (by rw [List.length_append]; exact ho3), HBel.out.trans hb3⟩, by simp only [natV]; omega⟩
    · have hkn : k = N := by omega
      subst hkn
      have HB5 : Hid ((if h = 0 then some out else none) = D) := by show _ = _; rw [← HB.out, List.drop_of_length_le (by rw [HN.out]; exact Nat.le_refl _), bof]
      clear HB ht HX hk
      by_cases h0 : h = 0
      · subst h0
        have hD : D = some out := by rw [← HB5.out, if_pos rfl]
        subst hD
        go_wp2
        refine bodyPost_ret (results_tmp2 Tryz.results108 _ _ _) rfl ?_
        exact ⟨_, rfl, ⟨hown, hbo⟩, HBel.out⟩
      · have hD : D = none := by rw [← HB5.out, if_neg h0]
        subst hD
        have hz : (((h : Nat) : Int) == 0) = false := by simp; omega
        go_wp2
        refine bodyPost_ret (results_tmp2 Tryz.results108 _ _ _) rfl ?_
        exact ⟨.slice none 0 0, rfl, ⟨⟨rfl, .inl ⟨rfl, rfl⟩⟩, Bd.nil⟩, HBel.out⟩

theorem tr_len (S : List Int) : (tr S).length ≤ S.length ∧ S.length ≤ (tr S).length + 1 := by
  unfold tr
  split
  · rw [List.length_dropLast]; omega
  · omega
theorem tr_bd {S : List Int} (h : Bd S) : Bd (tr S) := by
  unfold tr
  split
  · exact fun x hx => h x (List.dropLast_subset _ hx)
  · exact h

set_option maxHeartbeats 2000000 in
theorem decode_any (S : List Int) (w : World) (hb : Bd S) (hn : S.length ≤ 1000000) :
    Calls Tryz.prog 86 #[.string (strOfNums S)] w fun e w' => ∃ v, e = .returned (.tuple #[v, .int .i64 (errB (dec S))]) ∧ New w w' v (gotB (dec S)) ∧ Below w.heap.size w w' := by
  have hsz := str_size S
  by_cases h4 : S.length % 4 = 0
  · have l1 := tr_len S
    have l2 := tr_len (tr S)
    have hs2 := str_size (tr (tr S))
    have c1 := fun u => trim_any S u hb hn
    have c2 := fun u => trim_any (tr S) u (tr_bd hb) (by omega)
    obtain ⟨m, hm⟩ : ∃ m, S.length = 4 * m := ⟨S.length / 4, by omega⟩
    have hD := bof_dec m S hm
    obtain ⟨M, hM, hM1⟩ : ∃ M : Nat, ((tr (tr S)).length : Int) - (S.length : Int) / 4 = (M : Int) ∧ M ≤ 10000000 := ⟨(tr (tr S)).length - m, by omega, by omega⟩
    have c3 := fun u => b6bytesOf_any (tr (tr S)) M u (tr_bd (tr_bd hb)) (by omega) hM1
    simp only [hD] at c3
    have h4i : ((S.length : Int)).tmod 4 = 0 := by rw [Int.tmod_eq_emod_of_nonneg (by omega)]; omega
    have h4e : ((S.length : Int)) % 4 = 0 := by omega
    obtain ⟨T0, H0⟩ : ∃ T, Hid (strOfNums S = T) := ⟨_, rfl⟩
    obtain ⟨T1, H1⟩ : ∃ T, Hid (strOfNums (tr S) = T) := ⟨_, rfl⟩
    obtain ⟨T2, H2⟩ : ∃ T, Hid (strOfNums (tr (tr S)) = T) := ⟨_, rfl⟩
    obtain ⟨N2, HN2⟩ : ∃ N, Hid ((tr (tr S)).length = N) := ⟨_, rfl⟩
    obtain ⟨N, HN⟩ : ∃ N, Hid (S.length = N) := ⟨_, rfl⟩
    simp only [H0.out, H1.out, H2.out] at hsz hs2 c1 c2 c3 ⊢
    rw [HN2.out] at hM hs2
    rw [HN.out] at hM hsz h4i h4e hn
    have hN2 : N2 ≤ 1000000 := by have := HN2.out; have := HN.out; omega
    obtain ⟨D, HD⟩ : ∃ D, Hid (dec S = D) := ⟨_, rfl⟩
    simp only [HD.out] at c3 ⊢
    clear l1 l2 hD hm h4 hb
    go_enter Tryz.func86, Tryz.ntmps86
    go_wp2
    refine wp_loop_rounds 3 ?_
    rw [rounds_succ]
    go_wp2_with (go_at_call 107; refine (c1 _).mono ?_; rintro e w' ⟨rfl, rfl⟩)
    rw [rounds_succ]
    go_wp2_with (go_at_call 107; refine (c2 _).mono ?_; rintro e w' ⟨rfl, rfl⟩)
    rw [rounds_succ]
    go_wp2_with (go_at_call 108; refine (c3 _).mono ?_; rintro e w' ⟨v, rfl, hN, hb⟩)
    go_ret2
    exact ⟨_, rfl, hN, hb⟩
  · have hD : dec S = none := by unfold dec; rw [if_neg (fun k => h4 k.1)]
    rw [hD]
    have h4i : (((S.length : Int)).tmod 4 == 0) = false := by rw [Int.tmod_eq_emod_of_nonneg (by omega)]; simp; omega
    have h4e : (((S.length : Int)) % 4 == 0) = false := by simp; omega
    obtain ⟨T0, H0⟩ : ∃ T, Hid (strOfNums S = T) := ⟨_, rfl⟩
    obtain ⟨N, HN⟩ : ∃ N, Hid (S.length = N) := ⟨_, rfl⟩
    rw [H0.out] at hsz ⊢
    rw [HN.out] at hsz h4i h4e hn
    clear hb h4 hD
    go_enter Tryz.func86, Tryz.ntmps86
    go_wp2
    go_ret2
    exact ⟨.slice none 0 0, rfl, ⟨⟨rfl, .inl ⟨rfl, rfl⟩⟩, Bd.nil⟩, Below.refl _ _⟩
theorem decodeR (S X : List Int) (E : Int) (w : World) (hb : Bd S) (hn : S.length ≤ 1000000) (hX : gotB (dec S) = X) (hE : errB (dec S) = E) :
    Calls Tryz.prog 86 #[.string (strOfNums S)] w fun e w' => ∃ a n c, e = .returned (.tuple #[.slice a n c, .int .i64 E]) ∧ Rd w' a n c X ∧ New w w' (.slice a n c) X ∧ Below w.heap.size w w' := by
  refine (decode_any S w hb hn).mono ?_
  rintro e w1 ⟨v, rfl, hN, hb1⟩
  rw [hX] at hN
  obtain ⟨a, c, rfl, hr⟩ := hN.rd
  exact ⟨a, _, c, by rw [hE], hr, hN, hb1⟩
end Go.Proofs.YtmilcknboaefkaaGreatDoor
