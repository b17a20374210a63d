/- strings.Replace and ReplaceAll of one byte; a name with its marks. -/
import Derived.Test.YtmilcknboaefkaaGreatDoorScB
namespace Go.Proofs.YtmilcknboaefkaaGreatDoor
open Go.RowKit Go.Shelf

def nV : Value → Nat
  | .int _ n => n.toNat
  | _ => 0
def rp (c : UInt8) (new l : Tx) : Tx := l.flatMap fun b => if b = c then new else [b]
theorem rp_none (c : UInt8) (new : Tx) : ∀ l : Tx, l.count c = 0 → rp c new l = l
  | [], _ => rfl
  | b :: l, h => by
    have hb : b ≠ c := fun e => by subst e; simp at h
    rw [List.count_cons_of_ne (by simpa using hb)] at h
    rw [rp, List.flatMap_cons, if_neg hb]
    have ih := rp_none c new l h
    rw [rp] at ih
    rw [ih]; rfl
theorem rp_step (c : UInt8) (new : Tx) : ∀ l : Tx, 0 < l.count c → ix c l < l.length ∧ rp c new l = l.take (ix c l) ++ new ++ rp c new (l.drop (ix c l + 1)) ∧ (l.drop (ix c l + 1)).count c + 1 = l.count c
  | [], h => by simp at h
  | b :: l, h => by
    by_cases hb : b = c
    · subst hb
      rw [ix_eq]
      refine ⟨by simp, ?_, by simp⟩
      rw [rp, List.flatMap_cons, if_pos rfl]; simp [rp]
    · rw [List.count_cons_of_ne (by simpa using hb)] at h ⊢
      obtain ⟨h1, h2, h3⟩ := rp_step c new l h
      rw [ix_ne l hb]
      refine ⟨by simpa using h1, ?_, by simpa using h3⟩
      have e : rp c new (b :: l) = b :: rp c new l := by rw [rp, List.flatMap_cons, if_neg hb]; rfl
      rw [e, h2]; simp
theorem cut_mid (l : Tx) (i j : Nat) : (⟨l.toArray⟩ : ByteArray).extract i (i + j) = ⟨((l.drop i).take j).toArray⟩ := by
  rw [Lib.extract_eq]
  show (⟨((l.drop i).take (i + j - i)).toArray⟩ : ByteArray) = _
  rw [Nat.add_sub_cancel_left]

theorem count_any (L : Tx) (c : UInt8) (w : World) (hs : L.length ≤ 1000000) (hM : Mx w) : Calls Tryz.prog 112 #[.string ⟨L.toArray⟩, .string ⟨#[c]⟩] w fun e w' => e = .returned (.int .i64 (L.count c : Nat)) ∧ w' = w := by
  obtain ⟨m, hm⟩ := hM
  refine (Any.strings_Count_any Tryz.lays138 ⟨L.toArray⟩ ⟨#[c]⟩ m w (by rw [size_tx]; omega) hm (show 1 ≤ 1 from Nat.le_refl 1)).mono ?_
  rintro e w' ⟨rfl, rfl⟩
  have h : Lib.countB ⟨L.toArray⟩ ⟨#[c]⟩ = L.count c := Lib.count_one c L
  rw [h]
  exact ⟨rfl, rfl⟩
theorem indexL_any (L : Tx) (c : UInt8) (w : World) (hs : L.length ≤ 1000000) (hM : Mx w) (h : ix c L < L.length) : Calls Tryz.prog 114 #[.string ⟨L.toArray⟩, .string ⟨#[c]⟩] w fun e w' => e = .returned (.int .i64 (ix c L : Nat)) ∧ w' = w := by
  obtain ⟨m, hm⟩ := hM
  refine (Any.strings_Index Tryz.lays143 ⟨L.toArray⟩ ⟨#[c]⟩ m w (by rw [size_tx]; omega) hm).mono ?_
  rintro e w' ⟨rfl, rfl⟩
  have h : Lib.index L [c] = (ix c L : Int) := by rw [index_ix, if_pos h]
  rw [← h]
  exact ⟨rfl, rfl⟩

set_option maxHeartbeats 8000000 in
set_option maxRecDepth 1000000 in
theorem replace_any (L new : Tx) (c : UInt8) (w : World) (hL : L.length ≤ 100000) (hn1 : new.length = 3) (hM : Mx w) :
    Calls Tryz.prog 89 #[.string ⟨L.toArray⟩, .string ⟨#[c]⟩, .string ⟨new.toArray⟩, .int .i64 (-1)] w fun e w' => e = .returned (.string ⟨(rp c new L).toArray⟩) ∧ Below w.heap.size w w' := by
  have cC := count_any L c w (by omega) hM
  have hz := size_tx L
  have hzn := size_tx new
  have hzo : (⟨#[c]⟩ : ByteArray).size = 1 := rfl
  have heq : ((⟨#[c]⟩ : ByteArray).toList == (⟨new.toArray⟩ : ByteArray).toList) = false := by
    have := tx_eq [c] new
    rw [decide_eq_false (fun e => by rw [← e] at hn1; simp at hn1)] at this
    exact this
  have HA : Hid (∀ n k, (⟨L.toArray⟩ : ByteArray).extract n (n + k) = ⟨((L.drop n).take k).toArray⟩) := fun n k => cut_mid L n k
  have HD : Hid (∀ n, (⟨L.toArray⟩ : ByteArray).extract n L.length = ⟨(L.drop n).toArray⟩) := fun n => drop_tx L n
  obtain ⟨S, HS⟩ : ∃ S, Hid ((⟨L.toArray⟩ : ByteArray) = S) := ⟨_, rfl⟩
  obtain ⟨O, HO⟩ : ∃ O, Hid ((⟨#[c]⟩ : ByteArray) = O) := ⟨_, rfl⟩
  obtain ⟨N, HN⟩ : ∃ N, Hid ((⟨new.toArray⟩ : ByteArray) = N) := ⟨_, rfl⟩
  obtain ⟨len, Hlen⟩ : ∃ n, Hid (L.length = n) := ⟨_, rfl⟩
  have cX : Hid (∀ M w, M.length ≤ 1000000 → Mx w → ix c M < M.length → Calls Tryz.prog 114 #[.string ⟨M.toArray⟩, .string O] w fun e w' => e = .returned (.int .i64 (ix c M : Nat)) ∧ w' = w) := by
    intro M w h1 h2 h3; rw [← HO.out]; exact indexL_any M c w h1 h2 h3
  rw [HS.out] at cC hz HA HD ⊢
  rw [HO.out] at cC hzo heq ⊢
  rw [HN.out] at hzn heq ⊢
  rw [hn1] at hzn
  rw [Hlen.out] at hz HD hL
  obtain ⟨K, HK⟩ : ∃ K, Hid (L.count c = K) := ⟨_, rfl⟩
  rw [HK.out] at cC
  have hKl : K ≤ len := by rw [← HK.out, ← Hlen.out]; exact List.count_le_length
  obtain ⟨R, HR⟩ : ∃ R, Hid (rp c new L = R) := ⟨_, rfl⟩
  rw [HR.out]
  have HM : Hid (Mx w) := hM
  by_cases h0 : K = 0
  · subst h0
    have e : R = L := by rw [← HR.out]; exact rp_none c new L HK.out
    subst e
    rw [HS.out]
    clear hM
    go_enter Tryz.func89, Tryz.ntmps89
    go_wp2_with (go_at_call 112; refine cC.mono ?_; rintro e w1 ⟨rfl, rfl⟩)
    go_ret
    exact ⟨rfl, Below.refl _ _⟩
  have hk0 : ((K : Int) == 0) = false := by simp; omega
  have cG := bGrow_any (len + K * 2) w (by omega)
  have hga : ((len : Int) + ((K : Int) * 2 + 9223372036854775808) % 18446744073709551616 - 9223372036854775808 + 9223372036854775808) % 18446744073709551616 - 9223372036854775808 = ((len + K * 2 : Nat) : Int) := by omega
  clear hM
  go_enter Tryz.func89, Tryz.ntmps89
  go_wp2_with (first
    | (go_at_call 112; refine cC.mono ?_; rintro e w1 ⟨rfl, rfl⟩)
    | (go_at_call 113; refine cG.mono ?_; rintro e w2 ⟨rfl, hI, hb⟩))
  go_loopw [11, 53] (fun s11 s53 wr => ∃ (i st : Nat) (acc : Tx), s11 = .int .i64 (st : Int) ∧ s53 = .int .i64 (i : Int) ∧ i ≤ K ∧ st ≤ len ∧ Hid (acc.length ≤ 3 * st) ∧ Hid (acc ++ rp c new (L.drop st) = R) ∧ Hid ((L.drop st).count c + i = K) ∧ Lib.IsBuilderF 139 5 w1.heap.size w1.heap.size (Lib.byteCells acc) wr ∧ Below w1.heap.size w1 wr) (fun _ s53 _ => K - nV s53)
  case atStart => exact ⟨0, 0, [], rfl, rfl, Nat.zero_le _, Nat.zero_le _, Nat.zero_le _, (by show [] ++ rp c new (L.drop 0) = R; rw [List.drop_zero]; exact HR.out), (by show (L.drop 0).count c + 0 = K; rw [List.drop_zero]; exact HK.out), hI, hb⟩
  case round =>
    clear hI hb cC cG hga
    obtain ⟨i, st, acc, rfl, rfl, hi, hst, Hac, HR2, HK2, hI, hbw⟩ := hrel
    have hzw := hbw.size
    rcases Nat.lt_or_ge i K with hlt | hge
    · have hli : (i : Int) < (K : Int) := by omega
      have hcnt : 0 < (L.drop st).count c := by have := HK2.out; omega
      obtain ⟨h1, h2, h3⟩ := rp_step c new (L.drop st) hcnt
      have hMl : (L.drop st).length = len - st := by rw [List.length_drop, Hlen.out]
      have cI := cX.out (L.drop st) wr (by omega) (HM.out.below hbw) h1
      rw [← HD.out st] at cI
      have HE2 := HA.out st (ix c (L.drop st))
      rw [hMl] at h1
      have HR3 : Hid ((acc ++ (L.drop st).take (ix c (L.drop st)) ++ new) ++ rp c new (L.drop (st + ix c (L.drop st) + 1)) = R) := by
        show _ = _; rw [← HR2.out, h2, List.drop_drop]; simp [Nat.add_assoc]
      have HK3 : Hid ((L.drop (st + ix c (L.drop st) + 1)).count c + (i + 1) = K) := by
        show _ = _; have := HK2.out; rw [← h3, List.drop_drop, ← Nat.add_assoc] at this; omega
      have hTl : ((L.drop st).take (ix c (L.drop st))).length = ix c (L.drop st) := by rw [List.length_take, hMl]; omega
      obtain ⟨k, hk⟩ : ∃ k, ix c (L.drop st) = k := ⟨_, rfl⟩
      obtain ⟨T, hT⟩ : ∃ T, (L.drop st).take k = T := ⟨_, rfl⟩
      rw [hk] at cI HE2 HR3 HK3 hTl h1
      rw [hT] at HE2 HR3 hTl
      have hzT := size_tx T
      rw [hTl] at hzT
      obtain ⟨X1, HX1⟩ : ∃ X, Hid (S.extract st len = X) := ⟨_, rfl⟩
      have hX1 := HX1.out
      rw [hX1] at cI
      obtain ⟨X2, HX2⟩ : ∃ X, Hid ((⟨T.toArray⟩ : ByteArray) = X) := ⟨_, rfl⟩
      rw [HX2.out] at HE2 hzT
      clear h2 h3 hk hT hcnt HR2 HK2 hMl
      have j2 : (st : Int) + (k : Int) ≤ (len : Int) := by omega
      have j3 : (st : Int) ≤ (len : Int) := by omega
      have j4 : (st : Int) ≤ (st : Int) + (k : Int) := by omega
      have j5 : ((st : Int) + (k : Int)).toNat = st + k := by omega
      have Hac2 := Hac.out
      have tk1 : True := trivial
      go_wp2_with (first
        | (go_at_call 114; refine cI.mono ?_; rintro e w3 ⟨rfl, rfl⟩)
        | (clear tk1; go_at_call 94; refine (writeString_any _ _ _ _ _ hI (by rw [Lib.byteCells_length]; omega) (by omega)).mono ?_; rintro e w4 ⟨⟨n, rfl⟩, hI4, hb4, _⟩; have hz4 := hb4.size)
        | (go_at_call 94; refine (writeString_any _ _ _ _ _ hI4 (by rw [List.length_append, Lib.byteCells_length, Lib.strCells_length]; omega) (by omega)).mono ?_; rintro e w5 ⟨⟨n', rfl⟩, hI5, hb5, _⟩))
      go_roundw
      case rel =>
        refine ⟨i + 1, st + k + 1, acc ++ T ++ new, by push_cast; rfl, by push_cast; rfl, by omega, by omega, (by show _ ≤ _; rw [List.length_append, List.length_append, hTl, hn1]; omega), HR3, HK3, ?_, (hbw.trans hb4).trans hb5⟩
        rw [Lib.byteCells_append, Lib.byteCells_append, ← strCells_tx T, ← strCells_tx new, HX2.out, HN.out]
        exact hI5
      case measure => simp [nV]; omega
    · have hli : ¬ ((i : Int) < (K : Int)) := by omega
      have hcnt : (L.drop st).count c = 0 := by have := HK2.out; omega
      have hR := HR2.out
      rw [rp_none c new _ hcnt] at hR
      have hMl : (L.drop st).length = len - st := by rw [List.length_drop, Hlen.out]
      have hE := HD.out st
      have hzT := size_tx (L.drop st)
      rw [hMl] at hzT
      obtain ⟨X2, HX2⟩ : ∃ X, Hid ((⟨(L.drop st).toArray⟩ : ByteArray) = X) := ⟨_, rfl⟩
      rw [HX2.out] at hE hzT
      have hacc := Hac.out
      have j3 : (st : Int) ≤ (len : Int) := by omega
      have HRF : Hid (acc ++ L.drop st = R) := hR
      clear hR hcnt HK2 HR2 hMl
      go_wp2_with (go_at_call 94; refine (writeString_any _ _ _ _ _ hI (by rw [Lib.byteCells_length]; omega) (by omega)).mono ?_; rintro e w4 ⟨⟨n, rfl⟩, hI4, hb4, _⟩; have hz4 := hb4.size)
      have hI5 : Lib.IsBuilderF 139 5 w1.heap.size w1.heap.size (Lib.byteCells R) w4 := by
        rw [← HRF.out, Lib.byteCells_append, ← strCells_tx (L.drop st), HX2.out]; exact hI4
      go_wp2_with (go_at_call 95; refine (bString_any _ _ R _ hI5 (by omega)).mono ?_; rintro e w5 ⟨rfl, hb5⟩)
      go_ret
      exact ⟨rfl, (hbw.trans hb4).trans hb5⟩

theorem replaceAll_any (L new : Tx) (c : UInt8) (w : World) (hL : L.length ≤ 100000) (hn1 : new.length = 3) (hM : Mx w) :
    Calls Tryz.prog 71 #[.string ⟨L.toArray⟩, .string ⟨#[c]⟩, .string ⟨new.toArray⟩] w fun e w' => e = .returned (.string ⟨(rp c new L).toArray⟩) ∧ Below w.heap.size w w' := by
  have cR := replace_any L new c w hL hn1 hM
  clear hn1 hL hM
  obtain ⟨S, HS⟩ : ∃ S, Hid ((⟨L.toArray⟩ : ByteArray) = S) := ⟨_, rfl⟩
  obtain ⟨O, HO⟩ : ∃ O, Hid ((⟨#[c]⟩ : ByteArray) = O) := ⟨_, rfl⟩
  obtain ⟨N, HN⟩ : ∃ N, Hid ((⟨new.toArray⟩ : ByteArray) = N) := ⟨_, rfl⟩
  rw [HS.out, HO.out, HN.out] at cR ⊢
  go_enter Tryz.func71, Tryz.ntmps71
  go_wp2_with (go_at_call 89; refine cR.mono ?_; rintro e w1 ⟨rfl, hb1⟩)
  go_ret
  exact ⟨rfl, hb1⟩

theorem rp_len (c : UInt8) (new : Tx) (h : new.length = 3) : ∀ l : Tx, (rp c new l).length ≤ 3 * l.length
  | [] => by simp [rp]
  | b :: l => by
    have ih := rp_len c new h l
    rw [rp] at ih ⊢
    rw [List.flatMap_cons, List.length_append, List.length_cons]
    have : (if b = c then new else [b]).length ≤ 3 := by split <;> simp [h]
    omega
theorem rp_esc (l : Tx) : rp 44 [61, 50, 67] (rp 61 [61, 51, 68] l) = esc l := by
  have h := rep_rep l
  rw [rep_all _ _ _ (by decide), rep_all _ _ _ (by decide)] at h
  exact h
theorem nameForm_any (L : Tx) (w : World) (hL : L.length ≤ 10000) (hM : Mx w) :
    Calls Tryz.prog 45 #[.string ⟨L.toArray⟩] w fun e w' => e = .returned (.string ⟨(esc L).toArray⟩) ∧ Below w.heap.size w w' := by
  have hl := rp_len 61 [61, 51, 68] rfl L
  have c1 := replaceAll_any L [61, 51, 68] 61 w (by omega) rfl hM
  have c2 := fun w h => replaceAll_any (rp 61 [61, 51, 68] L) [61, 50, 67] 44 w (by omega) rfl h
  rw [rp_esc] at c2
  have HM : Hid (Mx w) := hM
  obtain ⟨S, HS⟩ : ∃ S, Hid ((⟨L.toArray⟩ : ByteArray) = S) := ⟨_, rfl⟩
  obtain ⟨T, HT⟩ : ∃ T, Hid ((⟨(rp 61 [61, 51, 68] L).toArray⟩ : ByteArray) = T) := ⟨_, rfl⟩
  rw [HS.out, HT.out] at c1
  rw [HT.out] at c2
  rw [HS.out]
  clear hM hl
  have tk1 : True := trivial
  go_enter Tryz.func45, Tryz.ntmps45
  go_wp2_with (first
    | (clear tk1; go_at_call 71; refine c1.mono ?_; rintro e w1 ⟨rfl, hb1⟩)
    | (go_at_call 71; refine (c2 _ (HM.out.below hb1)).mono ?_; rintro e w2 ⟨rfl, hb2⟩))
  go_ret
  exact ⟨rfl, hb1.trans (hb2.mono hb1.size)⟩
end Go.Proofs.YtmilcknboaefkaaGreatDoor
