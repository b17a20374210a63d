/- ScramAgrees: the law, all ways together. -/
import Derived.Test.YtmilcknboaefkaaGreatDoorScAh
import Derived.Test.YtmilcknboaefkaaGreatDoorScAi
import Derived.Test.YtmilcknboaefkaaGreatDoorCards
import Derived.Test.YtmilcknboaefkaaGreatDoorTie
import Derived.Test.YtmilcknboaefkaaGreatDoorScLe
import Derived.WalkKit
import Derived.ProofKit
import Derived.OpenShut
import Derived.Deep.DeepHandedRow
import Derived.Lib.LaidTab
import Derived.ChangeMaps5
namespace Go.Proofs.YtmilcknboaefkaaGreatDoor
open Go.RowKit Go.Shelf

theorem xb_getA (xs ys : List Int) : ∀ k i, i < xs.length → (xb xs ys k).getD i 0 = if i < k then bits .xor .u8 (xs.getD i 0) (ys.getD i 0) else xs.getD i 0
  | 0, i, _ => by simp [xb]
  | k + 1, i, h => by
    have hl := xb_len xs ys k
    unfold xb
    by_cases e : k = i
    · subst e
      have h1 := xb_getA xs ys k k h
      rw [if_neg (by omega)] at h1
      rw [h1, if_pos (by omega)]
      simp [List.getD, show k < (xb xs ys k).length by omega]
    · have h1 := xb_getA xs ys k i h
      have h2 : ((xb xs ys k).set k (bits .xor .u8 ((xb xs ys k).getD k 0) (ys.getD k 0))).getD i 0 = (xb xs ys k).getD i 0 := by simp [List.getD, e]
      rw [h2, h1]
      by_cases hik : i < k
      · rw [if_pos hik, if_pos (by omega)]
      · rw [if_neg hik, if_neg (by omega)]
theorem ext32A {xs ys : List Int} (hx : xs.length = 32) (hy : ys.length = 32) (h : ∀ i, i < 32 → xs.getD i 0 = ys.getD i 0) : xs = ys := by
  refine List.ext_getElem (by omega) fun i h1 h2 => ?_
  have := h i (by omega)
  simpa [List.getD, h1, h2] using this
theorem xor_self8 (a : Int) (h : 0 ≤ a ∧ a ≤ 255) : bits .xor .u8 a a = 0 := by rw [u8_xor a a h.1 (by omega) h.1 (by omega), Nat.xor_self]; rfl
theorem xor_undo (a b : Int) (ha : 0 ≤ a ∧ a ≤ 255) (hb : 0 ≤ b ∧ b ≤ 255) : bits .xor .u8 (bits .xor .u8 a b) b = a := by
  have h2 := bits8 .xor a b
  have e : (bits .xor .u8 a b).toNat = a.toNat ^^^ b.toNat := by rw [u8_xor a b ha.1 (by omega) hb.1 (by omega)]; simp
  rw [u8_xor _ b h2.1 (by omega) hb.1 (by omega), e, Nat.xor_assoc, Nat.xor_self, Nat.xor_zero]
  omega
theorem xb_xb {xs ys : List Int} (hx : xs.length = 32) (bx : Bd xs) (b_y : Bd ys) : xb (xb xs ys 32) ys 32 = xs := by
  refine ext32A (by rw [xb_len, xb_len]; exact hx) hx fun i hi => ?_
  rw [xb_getA _ _ 32 i (by rw [xb_len]; omega), if_pos hi, xb_getA _ _ 32 i (by omega), if_pos hi]
  exact xor_undo _ _ (bx.get i) (b_y.get i)
theorem esc_ge : ∀ l : Tx, l.length ≤ (esc l).length
  | [] => Nat.le_refl _
  | b :: l => by
    have := esc_ge l
    rw [esc_cons, List.length_append, List.length_cons]
    split
    · simp; omega
    · split
      · simp; omega
      · simp; omega
theorem begin_zero {u n s : Tx} (h : beginE u n = (s, 0)) : u ≠ [] ∧ Lib.validD u = true ∧ nonceB 128 n = true ∧ (beginT u n).length ≤ 1024 ∧ s = beginT u n := by
  unfold beginE at h
  by_cases h1 : u = [] ∨ Lib.validD u = false ∨ nonceB 128 n = false
  · rw [if_pos h1] at h; cases h
  · rw [if_neg h1] at h
    by_cases h2 : 1024 < (beginT u n).length
    · rw [if_pos h2] at h; cases h
    · rw [if_neg h2] at h
      refine ⟨fun e => h1 (.inl e), ?_, ?_, by omega, (congrArg Prod.fst h).symm⟩
      · cases hv : Lib.validD u with
        | true => rfl
        | false => exact absurd (.inr (.inl hv)) h1
      · cases hv : nonceB 128 n with
        | true => rfl
        | false => exact absurd (.inr (.inr hv)) h1
theorem tm32 (z : Int) : ∃ k : Nat, k < 32 ∧ (wrap64 (z.tmod 32 + 32)).tmod 32 = (k : Int) := by
  have h1 : z.tmod 32 < 32 := Int.tmod_lt_of_pos z (by omega)
  have h2 : -32 < z.tmod 32 := by
    have : (-z).tmod 32 < 32 := Int.tmod_lt_of_pos (-z) (by omega)
    rw [Int.neg_tmod] at this; omega
  have h3 : wrap64 (z.tmod 32 + 32) = z.tmod 32 + 32 := by unfold wrap64; omega
  rw [h3, Int.tmod_eq_emod_of_nonneg (by omega)]
  exact ⟨((z.tmod 32 + 32) % 32).toNat, by omega, by omega⟩
theorem final_fin (H n : Tx) (pf : List Int) (hH : H.length ≤ 3) (hn : nonceB 256 n = true) (hp : pf.length = 32) (hb : Bd pf) (u : World) (hM : Mx u) :
    Calls Tryz.prog 21 #[.string ⟨(finT H n pf).toArray⟩] u fun e w' => (∃ va vc, e = .returned (.tuple #[.agg #[.string ⟨H.toArray⟩, .string ⟨n.toArray⟩, .slice va 32 vc, .string ⟨(bareT H n).toArray⟩], .int .i64 0]) ∧ New u w' (.slice va 32 vc) pf) ∧ Below u.heap.size u w' := by
  have c := final_any (finT H n pf) u hM
  rw [last_fin H n pf hH hn hp hb] at c
  refine c.mono ?_
  rintro e w' ⟨⟨v, rfl, hnew⟩, hbl⟩
  have hnew : New u w' v pf := hnew
  obtain ⟨va, vc, rfl, _⟩ := hnew.rd
  rw [hp] at hnew ⊢
  exact ⟨⟨va, vc, rfl, hnew⟩, hbl⟩
theorem check_flag {H B C no ba : Tx} {pf K V : List Int} (hf : fullO C = some no) (hp : pf.length = 32) : ((checkE H B C H no pf ba K V).2 == 0) = decide (sha (xb pf (hmac K (il (authT B C ba))) 32) = K) := by
  unfold checkE provesB
  by_cases h : sha (xb pf (hmac K (il (authT B C ba))) 32) = K
  · rw [if_pos ⟨rfl, hf, by simp [hp, h]⟩, decide_eq_true h]; rfl
  · rw [if_neg (fun e => h (of_decide_eq_true e.2.2).2), decide_eq_false h]; rfl
theorem chal_len (F M : Tx) (ss : List Int) (N : Nat) (hF : F.length ≤ 128) (hM : M.length ≤ 128) (hs : ss.length ≤ 60) (hN : N ≤ 4096) : (chalT F M ss N).length ≤ 1000 := by
  have d := (dig_some N hN).1
  have hd : (Lib.decDigits N).length ≤ 4 := by
    unfold digO at d
    split at d
    · split at d
      · rename_i h; exact h.2.1
      · cases d
    · cases d
  unfold chalT
  simp only [List.length_append, List.length_cons, List.length_nil, tx, List.length_map, enc_len]
  omega

set_option maxHeartbeats 1000000 in
theorem scramAgrees_any (P U O T R : Tx) (a : Option Addr) (n c : Nat) (ss : List Int) (N turn : Int) (w : World) (h1 : P.length ≤ 9223372036854775807) (h2 : U.length ≤ 9223372036854775807) (h3 : O.length ≤ 9223372036854775807) (h4 : T.length ≤ 9223372036854775807) (h5 : R.length ≤ 9223372036854775807) (hR : Rd w a n c ss) (hK : Kt w) (hM : Mx w) (hT : Lib.Utf8Tabs 1 2 w) (hP : Pw w) (hEr : Er w) :
    Calls Tryz.prog 5 #[.agg #[.string ⟨P.toArray⟩, .string ⟨U.toArray⟩, .string ⟨O.toArray⟩, .string ⟨T.toArray⟩, .slice a n c, .int .i64 N], .string ⟨R.toArray⟩, .int .i64 turn] w fun e w' => e = .returned (.bool true) ∧ Below w.heap.size w w' := by
  obtain ⟨P2, HP2⟩ : ∃ A, Hid (P.take 200 = A) := ⟨_, rfl⟩
  obtain ⟨U2, HU2⟩ : ∃ A, Hid (U.take 1100 = A) := ⟨_, rfl⟩
  obtain ⟨O2, HO2⟩ : ∃ A, Hid (O.take 1100 = A) := ⟨_, rfl⟩
  obtain ⟨T2, HT2⟩ : ∃ A, Hid (T.take 1100 = A) := ⟨_, rfl⟩
  obtain ⟨R2, HR2⟩ : ∃ A, Hid (R.take 200 = A) := ⟨_, rfl⟩
  obtain ⟨X, HX⟩ : ∃ A, Hid (ss.take 60 = A) := ⟨_, rfl⟩
  obtain ⟨M, HM⟩ : ∃ M, Hid (rnd N = M) := ⟨_, rfl⟩
  have lP2 : P2.length ≤ 200 := by rw [← HP2.out, List.length_take]; omega
  have lR2 : R2.length ≤ 200 := by rw [← HR2.out, List.length_take]; omega
  have lU2 : U2.length ≤ 1100 := by rw [← HU2.out, List.length_take]; omega
  have lO2 : O2.length ≤ 1100 := by rw [← HO2.out, List.length_take]; omega
  have lT2 : T2.length ≤ 1100 := by rw [← HT2.out, List.length_take]; omega
  have lX : X.length ≤ 60 := by rw [← HX.out, List.length_take]; omega
  have bX : Bd X := by rw [← HX.out]; exact hR.bytes.take 60
  have hg1 := World.block_lt_of_cell? w _ (hT.1 0 (by omega))
  have hg2 := World.block_lt_of_cell? w _ (hT.2 0 (by omega)).1
  obtain ⟨SB, EBn, hbe⟩ : ∃ s e, beginE U2 O2 = (s, e) := ⟨_, _, rfl⟩
  have cG : ∀ u, Below w.heap.size w u → Calls Tryz.prog 19 #[.string ⟨U2.toArray⟩, .string ⟨O2.toArray⟩] u fun e w' => e = .returned (.tuple #[.string ⟨SB.toArray⟩, .int .i64 (EBn : Int)]) ∧ Below u.heap.size u w' := fun u hb => by
    have c := begin_any U2 O2 u (by omega) (by omega) (hM.below hb) (tabs_below hT hb)
    rw [hbe] at c
    exact c
  by_cases hMb : M < 1 ∨ 4096 < M
  · have cK : ∀ (u : World) (a : Option Addr) (n c : Nat), Rd u a n c X → n ≤ 10000 → Kt u → Calls Tryz.prog 8 #[.string ⟨P2.toArray⟩, .slice a n c, .int .i64 M] u fun e w' => e = .returned (.tuple #[.agg (ic .u8 (List.replicate 32 0)).toArray, .agg (ic .u8 (List.replicate 32 0)).toArray, .int .i64 3]) ∧ Below u.heap.size u w' := fun u a n c _ _ _ => keys_bad P2 a n c M u (by omega) hMb
    by_cases hE : EBn = 0
    · subst hE
      exact agrees_a2 P U O T R a n c ss N turn w h1 h2 h3 h4 h5 hR hK hM hT P2 U2 O2 T2 SB X _ _ M _ 3 HP2 HU2 HO2 HT2 HX HM (by simp) (by simp) cG cK (by decide) (by decide) rfl
    · exact agrees_a1 P U O T R a n c ss N turn w h1 h2 h3 h4 h5 hR hK hM hT P2 U2 O2 T2 SB X _ _ M _ 3 HP2 HU2 HO2 HT2 HX HM (by simp) (by simp) cG cK (by simpa using hE) (by simpa using hE)
  · obtain ⟨NN, rfl⟩ : ∃ k : Nat, M = (k : Int) := ⟨M.toNat, by omega⟩
    have hN1 : 1 ≤ NN := by omega
    have hN2 : NN ≤ 4096 := by omega
    have cK : ∀ (u : World) (a : Option Addr) (n c : Nat), Rd u a n c X → n ≤ 10000 → Kt u → Calls Tryz.prog 8 #[.string ⟨P2.toArray⟩, .slice a n c, .int .i64 (NN : Int)] u fun e w' => e = .returned (.tuple #[.agg (ic .u8 (sha (hmac (sumK (il P2) X (NN - 1)) ckey))).toArray, .agg (ic .u8 (hmac (sumK (il P2) X (NN - 1)) skey)).toArray, .int .i64 0]) ∧ Below u.heap.size u w' := fun u a n c hr hn hk => keys_ok P2 a n c X NN u (by omega) hr hn hN1 hN2 hk
    have lA : (sha (hmac (sumK (il P2) X (NN - 1)) ckey)).length = 32 := shaB_len _ _ _
    have lB : (hmac (sumK (il P2) X (NN - 1)) skey).length = 32 := hmac_len _ _
    by_cases hE : EBn = 0
    · subst hE
      obtain ⟨hU0, hUv, hOn, hBl, rfl⟩ := begin_zero hbe
      have hOl : O2.length ≤ 128 := (nonce_parts.1 hOn).2.1
      have hUl : U2.length ≤ 1024 := by
        have := esc_ge U2
        unfold beginT at hBl
        simp only [List.length_append, List.length_cons, List.length_nil] at hBl
        omega
      have hUU : Hid (U = U2) := by
        show U = U2
        have e := HU2.out
        have l : (U.take 1100).length = U2.length := by rw [e]
        rw [List.length_take] at l
        rw [← e, List.take_of_length_le (by omega)]
      have hlB : ([110, 61] ++ esc U2 ++ [44, 114, 61] ++ O2).length ≤ 1024 := by
        unfold beginT at hBl
        simp only [List.length_append, List.length_cons, List.length_nil] at hBl ⊢
        omega
      obtain ⟨BA, hBAe⟩ : ∃ b : Tx, [110, 61] ++ esc U2 ++ [44, 114, 61] ++ O2 = b := ⟨_, rfl⟩
      have HBA : Hid ([110, 61] ++ esc U2 ++ [44, 114, 61] ++ O2 = BA) := hBAe
      clear hBAe
      rw [HBA.out] at hlB
      have cFi : ∀ u, Below w.heap.size w u → Calls Tryz.prog 20 #[.string ⟨(beginT U2 O2).toArray⟩] u fun e w' => e = .returned (.tuple #[.agg #[.string ⟨([110, 44, 44] : Tx).toArray⟩, .string ⟨U2.toArray⟩, .string ⟨O2.toArray⟩, .string ⟨BA.toArray⟩], .int .i64 0]) ∧ Below u.heap.size u w' := fun u hb => by
        have c := first_any (beginT U2 O2) u (hM.below hb) (tabs_below hT hb) (Nat.lt_of_lt_of_le hg1 hb.size) (Nat.lt_of_lt_of_le hg2 hb.size)
        rw [first_begin U2 O2 hU0 hUv hOn hBl, HBA.out] at c
        exact c
      cases hTn : nonceB 128 T2 with
      | false =>
        have cCh : ∀ (u : World) (a : Option Addr) (n c : Nat), Rd u a n c X → n ≤ 10000 → Below w.heap.size w u → Calls Tryz.prog 11 #[.agg (fcells ⟨[110, 44, 44], U2, O2, BA⟩), .string ⟨T2.toArray⟩, .slice a n c, .int .i64 (NN : Int)] u fun e w' => e = .returned (.tuple #[.string ⟨([] : Tx).toArray⟩, .int .i64 2]) ∧ Below u.heap.size u w' := fun u a n c _ _ _ => by
          have c := challenge_bad [110, 44, 44] U2 O2 BA T2 a n c (NN : Int) u (by omega) (.inl hTn)
          rw [hTn, if_pos rfl] at c
          exact c
        exact agrees_b P U O T R a n c ss N turn w h1 h2 h3 h4 h5 hR hK hM hT P2 U2 O2 T2 _ X _ _ (NN : Int) 0 0 HP2 HU2 HO2 HT2 HX HM lA lB cG cK [110, 44, 44] BA hUU rfl rfl cFi [] 2 cCh (by decide) (by decide)
      | true =>
        have hTl : T2.length ≤ 128 := (nonce_parts.1 hTn).2.1
        have hCl := chal_len O2 T2 X NN hOl hTl lX hN2
        have hfull := full_chal O2 T2 X NN hOn hTn
        have hqO := quest_chal O2 T2 X NN hOn hTn bX hN2
        have cCh : ∀ (u : World) (a : Option Addr) (n c : Nat), Rd u a n c X → n ≤ 10000 → Below w.heap.size w u → Calls Tryz.prog 11 #[.agg (fcells ⟨[110, 44, 44], U2, O2, BA⟩), .string ⟨T2.toArray⟩, .slice a n c, .int .i64 (NN : Int)] u fun e w' => e = .returned (.tuple #[.string ⟨(chalT O2 T2 X NN).toArray⟩, .int .i64 0]) ∧ Below u.heap.size u w' := fun u a n c hr hn hb => challenge_ok [110, 44, 44] U2 O2 BA T2 a n c X NN u (by omega) (by omega) hr hn hTn hN1 hN2 (hP.below hb)
        obtain ⟨CT, HCT⟩ : ∃ t, Hid (chalT O2 T2 X NN = t) := ⟨_, rfl⟩
        rw [HCT.out] at hCl hfull hqO cCh
        have hq : questE CT = (⟨O2 ++ T2, X, NN⟩, 0) := by unfold questE; rw [hqO]
        have hNO : nonceB 256 (O2 ++ T2) = true := nonce_app hOn hTn
        obtain ⟨k, hk32, hkk⟩ := tm32 turn
        have hlb : (bareT [110, 44, 44] (O2 ++ T2)).length ≤ 1000 := by
          unfold bareT tx
          simp only [List.length_append, List.length_cons, List.length_nil, List.length_map, enc_len, il_len]
          omega
        have cPr : ∀ (Q2 : Tx), Q2.length ≤ 200 → ∀ u, Below w.heap.size w u → Calls Tryz.prog 15 #[.string ⟨Q2.toArray⟩, .agg (fcells ⟨[110, 44, 44], U2, O2, BA⟩), .string ⟨CT.toArray⟩] u fun e w' => e = .returned (.tuple #[.string ⟨(finT [110, 44, 44] (O2 ++ T2) (prf Q2 [110, 44, 44] BA CT ⟨O2 ++ T2, X, NN⟩)).toArray⟩, .int .i64 0]) ∧ Below u.heap.size u w' := fun Q2 hQ u hb =>
          prove_ok Q2 [110, 44, 44] U2 O2 BA CT ⟨O2 ++ T2, X, NN⟩ u (by omega) (hM.below hb) (hEr.below hb) (hP.below hb) (hK.below (Nat.le_refl _) hb) hq hN1 hN2 (by omega) (by simp) (by omega) (by simp only [List.length_append]; omega) (by show X.length ≤ 10000; omega)
        have cFn : ∀ (Q2 : Tx) (u : World), Below w.heap.size w u → _ := fun Q2 u hb => final_fin [110, 44, 44] (O2 ++ T2) (prf Q2 [110, 44, 44] BA CT ⟨O2 ++ T2, X, NN⟩) (by simp) hNO (prf_len _ _ _ _ _) (prf_bd _ _ _ _ _) u (hM.below hb)
        have bA : Bd (sha (hmac (sumK (il P2) X (NN - 1)) ckey)) := sha_bd _
        have bB : Bd (hmac (sumK (il P2) X (NN - 1)) skey) := hmac_bd _ _
        have hPF : xb (prf P2 [110, 44, 44] BA CT ⟨O2 ++ T2, X, NN⟩) (hmac (sha (hmac (sumK (il P2) X (NN - 1)) ckey)) (il (authT BA CT (bareT [110, 44, 44] (O2 ++ T2))))) 32 = hmac (sumK (il P2) X (NN - 1)) ckey := xb_xb (hmac_len _ _) (hmac_bd _ _) (hmac_bd _ _)
        obtain ⟨A, HA⟩ : ∃ A, Hid (sha (hmac (sumK (il P2) X (NN - 1)) ckey) = A) := ⟨_, rfl⟩
        obtain ⟨B, HB⟩ : ∃ B, Hid (hmac (sumK (il P2) X (NN - 1)) skey = B) := ⟨_, rfl⟩
        have hs0 : sha (xb (prf P2 [110, 44, 44] BA CT ⟨O2 ++ T2, X, NN⟩) (hmac A (il (authT BA CT (bareT [110, 44, 44] (O2 ++ T2))))) 32) = A := by rw [← HA.out, hPF]
        rw [HA.out] at lA bA
        rw [HB.out] at lB bB
        simp only [HA.out, HB.out] at cK
        clear hPF
        have cCk := fun (pf : List Int) (u : World) (a : Option Addr) (c : Nat) (hr : Rd u a 32 c pf) (hb : Below w.heap.size w u) => check_any (.string ⟨#[]⟩) (.slice none 0 0) (.int .i64 (NN : Int)) A B [110, 44, 44] U2 O2 BA CT [110, 44, 44] (O2 ++ T2) (bareT [110, 44, 44] (O2 ++ T2)) pf a 32 c u lA bA lB bB (by omega) (by omega) (by simp only [List.length_append]; omega) (by omega) hr (hK.below (Nat.le_refl _) hb) (hM.below hb)
        obtain ⟨AU, hAUe⟩ : ∃ t, authT BA CT (bareT [110, 44, 44] (O2 ++ T2)) = t := ⟨_, rfl⟩
        have HAU : Hid (authT BA CT (bareT [110, 44, 44] (O2 ++ T2)) = AU) := hAUe
        clear hAUe
        obtain ⟨PF, hPFe⟩ : ∃ t, prf P2 [110, 44, 44] BA CT ⟨O2 ++ T2, X, NN⟩ = t := ⟨_, rfl⟩
        have HPF : Hid (prf P2 [110, 44, 44] BA CT ⟨O2 ++ T2, X, NN⟩ = PF) := hPFe
        clear hPFe
        obtain ⟨PF2, hPF2e⟩ : ∃ t, prf R2 [110, 44, 44] BA CT ⟨O2 ++ T2, X, NN⟩ = t := ⟨_, rfl⟩
        have HPF2 : Hid (prf R2 [110, 44, 44] BA CT ⟨O2 ++ T2, X, NN⟩ = PF2) := hPF2e
        clear hPF2e
        have lPF : PF.length = 32 := by rw [← HPF.out]; exact prf_len _ _ _ _ _
        have bPF : Bd PF := by rw [← HPF.out]; exact prf_bd _ _ _ _ _
        have lPF2 : PF2.length = 32 := by rw [← HPF2.out]; exact prf_len _ _ _ _ _
        have bPF2 : Bd PF2 := by rw [← HPF2.out]; exact prf_bd _ _ _ _ _
        have cPr1 := cPr P2 lP2
        have cPr2 := cPr R2 lR2
        have cFn1 := cFn P2
        have cFn2 := cFn R2
        rw [HPF.out] at cPr1 cFn1 hs0
        rw [HPF2.out] at cPr2 cFn2
        rw [HAU.out] at hs0
        have hck : checkE [110, 44, 44] BA CT [110, 44, 44] (O2 ++ T2) PF (bareT [110, 44, 44] (O2 ++ T2)) A B = ([118, 61] ++ tx (enc (hmac B (il AU))), 0) := by
          unfold checkE provesB
          rw [HAU.out, if_pos ⟨rfl, hfull, by simp [lPF, hs0]⟩]
        have cC1 := cCk PF
        rw [hck] at cC1
        have b8 := bits8 .xor (PF.getD k 0) 1
        have lPG : (PF.set k (bits .xor .u8 (PF.getD k 0) 1)).length = 32 := by rw [List.length_set]; exact lPF
        have bPG : Bd (PF.set k (bits .xor .u8 (PF.getD k 0) 1)) := bPF.set _ b8.1 b8.2
        obtain ⟨PG, HPG⟩ : ∃ t, Hid (PF.set k (bits .xor .u8 (PF.getD k 0) 1) = t) := ⟨_, rfl⟩
        rw [HPG.out] at lPG bPG
        have cC2 := cCk PG
        have cC3 := cCk PF2
        have f2 := check_flag (H := [110, 44, 44]) (B := BA) (C := CT) (no := O2 ++ T2) (ba := bareT [110, 44, 44] (O2 ++ T2)) (pf := PG) (K := A) (V := B) hfull lPG
        have f3 := check_flag (H := [110, 44, 44]) (B := BA) (C := CT) (no := O2 ++ T2) (ba := bareT [110, 44, 44] (O2 ++ T2)) (pf := PF2) (K := A) (V := B) hfull lPF2
        rw [HAU.out] at f2 f3
        obtain ⟨VG, EG, hvg⟩ : ∃ v e, checkE [110, 44, 44] BA CT [110, 44, 44] (O2 ++ T2) PG (bareT [110, 44, 44] (O2 ++ T2)) A B = (v, e) := ⟨_, _, rfl⟩
        obtain ⟨V3, E3, hv3⟩ : ∃ v e, checkE [110, 44, 44] BA CT [110, 44, 44] (O2 ++ T2) PF2 (bareT [110, 44, 44] (O2 ++ T2)) A B = (v, e) := ⟨_, _, rfl⟩
        rw [hvg] at cC2 f2
        rw [hv3] at cC3 f3
        exact agrees_c P U O T R a n c ss N turn w h1 h2 h3 h4 h5 hR hK hM hT P2 U2 O2 T2 _ X A B (NN : Int) 0 0 HP2 HU2 HO2 HT2 HX HM lA lB cG cK [110, 44, 44] BA hUU rfl rfl cFi CT 0 cCh rfl (O2 ++ T2) (bareT [110, 44, 44] (O2 ++ T2)) _ _ AU PF (hmac B (il AU)) (hmac A (il AU)) lPF (by omega) (by omega) (by omega) bA bB (hmac_len _ _) (hmac_bd _ _) cPr1 cFn1 cC1 HAU rfl rfl k hk32 hkk PG _ _ VG EG HPG lPG rfl (hmac_len _ _) cC2 rfl (by rw [xb_len]; exact lPG) (xb_bd bPG 32) rfl (shaB_len _ _ _) f2 R2 _ V3 HR2 PF2 _ _ E3 lPF2 cPr2 cFn2 cC3 rfl (by rw [xb_len]; exact lPF2) (xb_bd bPF2 32) rfl (shaB_len _ _ _) f3
    · exact agrees_a1 P U O T R a n c ss N turn w h1 h2 h3 h4 h5 hR hK hM hT P2 U2 O2 T2 SB X _ _ (NN : Int) _ 0 HP2 HU2 HO2 HT2 HX HM lA lB cG cK (by simpa using hE) (by simpa using hE)
/-- The same, of strings. -/
theorem agr (P U O T : Tx) (a : Option Addr) (n c : Nat) (ss : List Int) (N : Int) (R : ByteArray) (turn : Int) (w : World) (h1 : P.length ≤ 9223372036854775807) (h2 : U.length ≤ 9223372036854775807) (h3 : O.length ≤ 9223372036854775807) (h4 : T.length ≤ 9223372036854775807) (h5 : R.size ≤ 9223372036854775807) (hR : Rd w a n c ss) (hK : Kt w) (hM : Mx w) (hT : Lib.Utf8Tabs 1 2 w) (hP : Pw w) (hEr : Er w) :
    Calls Tryz.prog 5 #[.agg #[.string ⟨P.toArray⟩, .string ⟨U.toArray⟩, .string ⟨O.toArray⟩, .string ⟨T.toArray⟩, .slice a n c, .int .i64 N], .string R, .int .i64 turn] w fun e w' => e = .returned (.bool true) ∧ Below w.heap.size w w' := by
  have h := scramAgrees_any P U O T R.data.toList a n c ss N turn w h1 h2 h3 h4 (by simpa using h5) hR hK hM hT hP hEr
  have e : (⟨R.data.toList.toArray⟩ : ByteArray) = R := by cases R; simp
  rw [e] at h
  exact h
end Go.Proofs.YtmilcknboaefkaaGreatDoor

/- ScramAgrees's card: whatever the input, the call answers true and the arguments read as before. Conditions: Go's tables (UTF-8, powers of ten, bits) and the digest's two hold at the start what the program's text lays in them (the row's list; the card ties it). -/
namespace Go.Proofs.YtmilcknboaefkaaGreatDoor.scramAgrees
open Go.ChangeShapes Go.WideShapes Go.ChangeAt Go.RowKit
open Go.Proofs.YtmilcknboaefkaaGreatDoor

theorem own : ownKnob Tryz.prog.godebug = none := by kernel_rfl
theorem laidOut : laidOutB Tryz.prog = true := by kernel_rfl

set_option maxRecDepth 100000 in
theorem contract (H : Type) (enc : TypeId × Value → H) (W : World) (base : Nat) (args : Array Value) (ds gs : List (DataW H)) (before : List MemPlace)
    (hval : ∀ (j : Nat) t v, Tryz.f5.params[j]? = some t → args[j]? = some v → Value.okWide Tryz.prog W .any base t v)
    (hW : DataW.Whole enc Tryz.prog Tryz.f5.params.toList Rows.scramAgreesSpec.vars false W args.toList ds gs before) (hL : laidMetH Tryz.prog Rows.scramAgreesRow.laid W) (hsh : W.ShapedOpen Tryz.prog) :
    Calls Tryz.prog 5 args W fun e W' => ∃ v, e = .returned v ∧ Rows.scramAgreesSpec.post enc Tryz.prog Tryz.f5 false true false false W args v W' := by
  have hW' := hW
  obtain ⟨p, q, hA0, hV, rfl, hfz, hnd⟩ := hW
  have hA : DataW.TrodAll enc Tryz.prog W 0 (fun _ => true) true Tryz.f5.params.toList args.toList ds p := hA0
  rw [Tryz.params5] at hA hval
  obtain ⟨v0, vs0, d0, ds0, p0, q0, hargs, rfl, rfl, h0, r0⟩ := trodAll_cons hA
  obtain ⟨v1, vs1, d1, ds1, p1, q1, rfl, rfl, rfl, h1, r1⟩ := trodAll_cons r0
  obtain ⟨v2, vs2, d2, ds2, p2, q2, rfl, rfl, rfl, h2, r2⟩ := trodAll_cons r1
  obtain ⟨rfl, rfl, rfl⟩ := trodAll_nil r2
  obtain rfl : args = #[v0, v1, v2] := by cases args; simp_all
  obtain ⟨rfl, rfl⟩ := trodVars_none hV
  have lt0 : ∀ x ∈ p0, x.block < W.heap.size := by obtain ⟨m, hm⟩ := h0; exact DataW.trod_lt m _ _ _ hm
  have lt1 : ∀ x ∈ p1, x.block < W.heap.size := by obtain ⟨m, hm⟩ := h1; exact DataW.trod_lt m _ _ _ hm
  have lt2 : ∀ x ∈ p2, x.block < W.heap.size := by obtain ⟨m, hm⟩ := h2; exact DataW.trod_lt m _ _ _ hm
  obtain ⟨tP0, tU0, tO0, tT0, ta0, tn0, tc0, ts0, tN0, e0, hP0, hU0, hO0, hT0, hR0, wN0⟩ := open_talk (hval 0 24 v0 rfl rfl) h0
  subst e0
  obtain ⟨s1, e1, _, _, hs1⟩ := Go.ChangeMaps.open_string Tryz.underlying9 (hval 1 9 v1 rfl rfl) h1
  subst e1
  obtain ⟨x2, eI2, _, _, wI2⟩ := open_int Tryz.underlying3 (hval 2 3 v2 rfl rfl) h2
  subst eI2
  obtain ⟨hK, hT, hPw, hEr⟩ := le_of hL
  have hM := mx_of hsh
  clear hA0 hL
  refine (agr tP0 tU0 tO0 tT0 ta0 tn0 tc0 ts0 tN0 s1 x2 W hP0 hU0 hO0 hT0 hs1 hR0 hK hM hT hPw hEr).mono fun e W' ⟨he, bel⟩ => ?_
  subst he
  exact ⟨_, rfl, _, _, _, [], _, [], hW', trodAll_mk1 (shut_bool Tryz.underlying4 _), (trodAll_cons_mk (Below.trod laidOut (by kernel_rfl) (of_decide_eq_true (by kernel_rfl)) h0 bel lt0) (trodAll_cons_mk (Below.trod laidOut (by kernel_rfl) (of_decide_eq_true (by kernel_rfl)) h1 bel lt1) (trodAll_cons_mk (Below.trod laidOut (by kernel_rfl) (of_decide_eq_true (by kernel_rfl)) h2 bel lt2) trodAll_mk0))), rfl, bel.frame _, fun h => by cases h⟩

/-- The block with other cells. -/
def relay (vs : List Value) : Obj → Obj
  | .cells _ t frozen => .cells vs.toArray t frozen
  | o => o
def vals : DataW Unit → List Value
  | .agg l => l.filterMap fun d => match d with
    | .lit (.int k z) => some (Value.int k z)
    | _ => none
  | _ => []
/-- The listed variables, laid. -/
def layAll (h : Array Obj) : Array Obj := ((((((((((h.modify 1 (relay (Go.Pinned.utf8FirstZ.map fun (n : Nat) => Value.int .u8 (n : Int)))).modify 2 (relay (accTab.flatMap fun x => [Value.int .u8 x.1, Value.int .u8 x.2]))).modify 0 (relay (ic .u32 h0s))).modify 3 (relay (ic .u32 kws))).modify 4 (relay (Lib.pow10Tab.map fun z => Value.int .u64 z))).modify 8 (relay (vals Rows.laid_math_bits_deBruijn32tab))).modify 9 (relay (vals Rows.laid_math_bits_deBruijn64tab))).modify 7 (relay [.iface 185 (.pointer (some ⟨h.size, 0, none⟩))])).modify 6 (relay [.iface 185 (.pointer (some ⟨h.size + 1, 0, none⟩))])).push (.cells #[.string ⟨#[118, 97, 108, 117, 101, 32, 111, 117, 116, 32, 111, 102, 32, 114, 97, 110, 103, 101]⟩] 187)).push (.cells #[.string ⟨#[105, 110, 118, 97, 108, 105, 100, 32, 115, 121, 110, 116, 97, 120]⟩] 187)
abbrev wargs : Array Value := #[.agg #[.string ⟨#[]⟩, .string ⟨#[]⟩, .string ⟨#[]⟩, .string ⟨#[]⟩, .slice none 0 0, .int .i64 0], .string ⟨#[]⟩, .int .i64 0]
theorem laid_met (os : Os) : laidMet Tryz.prog Rows.scramAgreesRow.laid (({ World.holding Tryz.prog os ⟨#[], #[], []⟩ with heap := layAll (World.holding Tryz.prog os ⟨#[], #[], []⟩).heap } : World).forCall (fun _ _ => 0) ⟨#[], wargs, []⟩).memory :=
  laidMet_of_run' 8 (by kernel_rfl) (by kernel_rfl)
theorem reads (os : Os) {H : Type} (enc : TypeId × Value → H) : ∃ places, DataW.whole enc Tryz.prog (({ World.holding Tryz.prog os ⟨#[], #[], []⟩ with heap := layAll (World.holding Tryz.prog os ⟨#[], #[], []⟩).heap } : World).forCall (fun _ _ => 0) ⟨#[], wargs, []⟩).memory Tryz.f5.params.toList Rows.scramAgreesSpec.vars false wargs.toList 8 = some ([.agg [.lit (.string []), .lit (.string []), .lit (.string []), .lit (.string []), .nil, .lit (.int .i64 0)], .lit (.string []), .lit (.int .i64 0)], [], places) :=
  ⟨[], by kernel_rfl⟩

set_option maxRecDepth 100000 in
theorem lifted (os : Os) (started : os.Started) (H : Type) (enc : TypeId × Value → H) (F : Stop.Interp) :
    ReturnsInHanded {} Tryz.checked os 5 .any ((OpenSpec.ofChange Rows.scramAgreesSpec).preRow enc Tryz.prog Tryz.f5 Rows.scramAgreesRow.domain false Rows.scramAgreesRow.laid) (((OpenSpec.ofChange Rows.scramAgreesSpec).at F).post enc Tryz.prog Tryz.f5 false true false false) := by
  obtain ⟨places, hx⟩ := reads os enc
  refine returnsInHanded_of_row (C := Tryz.checked) (s := OpenSpec.ofChange Rows.scramAgreesSpec) own started (by kernel_rfl) Tryz.func5
    (witness_row_at (enc := enc) (C := Tryz.checked) false ({ World.holding Tryz.prog os ⟨#[], #[], []⟩ with heap := layAll (World.holding Tryz.prog os ⟨#[], #[], []⟩).heap } : World) wargs rfl (by kernel_rfl) (by kernel_rfl) (by kernel_rfl)
      (OpenSpec.preRow_of_cond 8 hx (by kernel_rfl) (fun k hk => by cases hk) (by kernel_rfl) (laid_met os))) ?_
  intro W base args ds gs before hval hW _ _ _ hL hsh _
  exact contract H enc W base args ds gs before hval hW hL hsh

theorem said : Rows.ScramAgreesSaid :=
  OpenClaim.holds_of_cond 5 Tryz.f5 rfl rfl rfl rfl rfl rfl rfl ⟨rfl, rfl, rfl, rfl, rfl⟩ rfl rfl rfl rfl rfl (by kernel_rfl) Tryz.func5 (by kernel_rfl)
    (of_decide_eq_true (by kernel_rfl)) (by unfold Func.isWrapper; first | (rw [if_pos (by decide +kernel)]; kernel_rfl) | (rw [if_neg (by decide +kernel)]; exact ⟨rfl, rfl⟩))
    (fun os started H enc _ F => by rw [OpenClaim.pre_eq_preRow]; exact lifted os started H enc F)

/-- No parameter wants a stand-in; the program's own looks are off. -/
theorem plain (f : FuncId) (fn : Func) (hf : Tryz.pinned.checked.prog.funcNamed "roost/roostlaw07.ScramAgrees" = some f) (hfn : Tryz.pinned.checked.prog.funcs[f]? = some fn) :
    true = Tryz.pinned.checked.prog.looks [] ∧ ∀ (j : Nat) t, fn.params[j]? = some t → Tryz.pinned.checked.prog.wantsStandIn t = false := by
  obtain rfl : f = 5 := Option.some.inj ((show Tryz.prog.funcNamed "roost/roostlaw07.ScramAgrees" = some 5 by kernel_rfl).symm.trans hf) |>.symm
  obtain rfl : fn = Tryz.f5 := (Option.some.inj (Tryz.func5.symm.trans hfn)).symm
  refine ⟨by kernel_rfl, fun j t ht => ?_⟩
  rw [Tryz.params5] at ht
  have hm : t = 24 ∨ t = 9 ∨ t = 3 := by simpa using Array.mem_of_getElem? ht
  rcases hm with rfl | rfl | rfl
  · exact (show Tryz.prog.wantsStandIn 24 = false by kernel_rfl)
  · exact (show Tryz.prog.wantsStandIn 9 = false by kernel_rfl)
  · exact (show Tryz.prog.wantsStandIn 3 = false by kernel_rfl)

end Go.Proofs.YtmilcknboaefkaaGreatDoor.scramAgrees

namespace Go.Proofs.YtmilcknboaefkaaGreatDoor
theorem scramAgrees_holds : Rows.ScramAgreesCardSaid :=
  Claim7.holds_tied_plain_at .later [] _ _ _ _ scramAgrees.said (fun _ h => by cases h) (by kernel_rfl) (fun _ h => by cases h) scramAgrees_row_tie rfl ⟨rfl, rfl⟩ (by kernel_rfl) rfl scramAgrees.plain (by kernel_rfl)
#print axioms scramAgrees_holds
end Go.Proofs.YtmilcknboaefkaaGreatDoor
