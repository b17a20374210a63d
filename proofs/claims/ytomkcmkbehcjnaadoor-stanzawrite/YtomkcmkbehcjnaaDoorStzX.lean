/- The document's word on a stanza that may be written: its error. -/
import Derived.Test.YtomkcmkbehcjnaaDoorStzQ
namespace Go.Proofs.YtomkcmkbehcjnaaDoor
open Go.RowKit

theorem andNotL : ∀ x, x < 256 → ∀ y, y < 64 → bits .andNot .i64 ((x : Nat) : Int) ((y : Nat) : Int) = bits .andNot .u8 ((x : Nat) : Int) ((y : Nat) : Int) := by decide +kernel
theorem kpL_lt : ∀ k, kp k < 64 := by
  intro k
  by_cases h : k < 47
  · have : ∀ k, k < 47 → kp k < 64 := by decide +kernel
    exact this k h
  · have : kp k = 0 := by unfold kp kindTab; simp [List.getD]; rw [List.getElem?_eq_none (by simp; omega)]; rfl
    omega

theorem rtext_any (s : ByteArray) (w : World) (hs : s.size ≤ 1000000) : Calls Tryd.prog 30 #[.string s] w fun e w' => e = .returned (.int .i64 ((terr1 s : Nat) : Int)) ∧ w' = w := by
  go_enter Tryd.func30, Tryd.ntmps30
  by_cases h1 : (1024 : Int) < (s.size : Int)
  · have HT : Hid (terr1 s = 5) := by unfold terr1; rw [if_pos (by omega)]; rfl
    go_wp2
    go_ret
    rw [HT.out]
    exact ⟨rfl, rfl⟩
  · have cV := refValid_any s w hs
    cases hv : vld (nums s) with
    | false =>
      have HT : Hid (terr1 s = 4) := by unfold terr1; rw [if_neg (by omega), hv]; rfl
      rw [hv] at cV
      clear hv
      go_wp2_with (go_at_call 57; refine cV.mono ?_; rintro e w1 ⟨rfl, hw⟩; replace hw := hw.symm; subst hw)
      go_ret
      rw [HT.out]
      exact ⟨rfl, rfl⟩
    | true =>
      have HT : Hid (terr1 s = 0) := by unfold terr1; rw [if_neg (by omega), hv]; rfl
      rw [hv] at cV
      clear hv
      go_wp2_with (go_at_call 57; refine cV.mono ?_; rintro e w1 ⟨rfl, hw⟩; replace hw := hw.symm; subst hw)
      go_ret
      rw [HT.out]
      exact ⟨rfl, rfl⟩

theorem srd_threeT (w : World) (A B T : ByteArray) (t : TypeId) (hA : A.size ≤ 9223372036854775807) (hB : B.size ≤ 9223372036854775807) (hT : T.size ≤ 9223372036854775807) : SRd (w.alloc (.cells #[.string A, .string B, .string T] t)) (some ⟨w.heap.size, 0, none⟩) 3 3 [A, B, T] := by
  refine ⟨rfl, Nat.le_refl _, by unfold maxLen; omega, (fun h => by cases h), ?_, fun ad had j hj => ?_⟩
  · intro s hs; simp at hs; rcases hs with rfl | rfl | rfl <;> assumption
  · cases had
    rw [add_flat]
    match j, hj with
    | 0, _ => simp
    | 1, _ => simp
    | 2, _ => simp

theorem terrs_end {ss : List ByteArray} {n : Nat} (hn : ss.length = n) (h : terrs (ss.drop n) = terrs ss) : terrs ss = 0 := by
  rw [List.drop_of_length_le (by omega)] at h; exact h.symm

set_option maxHeartbeats 1600000 in
theorem refCheck_any (K : Int) (I : Nat) (A B T : ByteArray) (la : Option Addr) (ln lc : Nat) (N : Int) (F : Nat) (L : List ByteArray) (w : World) (hR : SRd w la ln lc L) (hA : A.size ≤ 1000000) (hB : B.size ≤ 1000000) (hT : T.size ≤ 1000000) (hs : ∀ s ∈ L, s.size ≤ 1000000) :
    Calls Tryd.prog 10 #[.agg #[.int .i64 K, .int .u64 I, .string A, .string B, .string T, .slice la ln lc, .int .i64 N, .float .f64 F]] w fun e w' => e = .returned (.int .i64 ((chk K A B T L N F : Nat) : Int)) ∧ Below w.heap.size w w' := by
  have hb1 : Below w.heap.size w (w.alloc (.cells #[.int .i64 K, .int .u64 I, .string A, .string B, .string T, .slice la ln lc, .int .i64 N, .float .f64 F] 26)) := (Below.refl _ _).alloc (Nat.le_refl _) _
  have hz1 := SzAt.new (K := K) (I := I) (A := A) (B := B) (T := T) (la := la) (ln := ln) (lc := lc) (N := N) (F := F) w
  go_enter Tryd.func10, Tryd.ntmps10
  go_upto_region 1 with fail
  generalize hW1 : w.alloc _ = W1 at hb1 hz1 ⊢
  clear hW1
  obtain ⟨q0, q1, q2, q3, q4, q5, q6, q7⟩ := hz1
  cases hk : kn K with
  | false =>
    have HC : Hid (chk K A B T L N F = 3) := by unfold chk; rw [if_pos hk]; rfl
    have hrp : rp K = -1 := by unfold rp; rw [hk]; rfl
    go_wp2_with (go_at_call 28; refine (parts_any K _).mono ?_; rw [hrp]; rintro e w1 ⟨rfl, hw⟩; replace hw := hw.symm; subst hw)
    go_ret
    rw [HC.out]
    exact ⟨rfl, hb1⟩
  | true =>
    have hrp : rp K = ((kp K.toNat : Nat) : Int) := by unfold rp; rw [hk]; rfl
    have cP := parts_any K W1
    have hkl := kpL_lt K.toNat
    have hln := hR.len
    have hcap := hR.cap
    have hmost := hR.most
    unfold maxLen at hmost
    rw [hrp] at cP
    cases hx : (bits .andNot .u8 ((thr A B T ln N F : Nat) : Int) ((kp K.toNat : Nat) : Int) != 0) with
    | true =>
      have HC : Hid (chk K A B T L N F = 2) := by
        unfold chk; rw [if_neg (by rw [hk]; decide), if_pos (by rw [hln]; simpa using hx)]; rfl
      have hx64 : (bits .andNot .i64 ((thr A B T ln N F : Nat) : Int) ((kp K.toNat : Nat) : Int) != 0) = true := by rw [andNotL _ (Nat.lt_trans (thr_lt ..) (by omega)) _ hkl]; exact hx
      clear hx hk hrp
      generalize kp K.toNat = kk at cP hkl hx64
      go_wp2_with (first
        | (go_at_call 28; refine cP.mono ?_; rintro e w1 ⟨rfl, hw⟩; replace hw := hw.symm; subst hw)
        | (go_at_call 29; refine (refThere_any K I A B T la ln lc N F _).mono ?_; rintro e w2 ⟨rfl, hb2⟩))
      go_ret
      rw [HC.out]
      exact ⟨rfl, hb1.trans (hb2.mono hb1.size)⟩
    | false =>
      have HC : Hid (chk K A B T L N F = if terrs [A, B, T] ≠ 0 then terrs [A, B, T] else if 64 < ln then 5 else terrs L) := by
        unfold chk; rw [if_neg (by rw [hk]; decide), if_neg (by rw [hln]; simpa using hx), hln]; rfl
      have hx64 : (bits .andNot .i64 ((thr A B T ln N F : Nat) : Int) ((kp K.toNat : Nat) : Int) != 0) = false := by rw [andNotL _ (Nat.lt_trans (thr_lt ..) (by omega)) _ hkl]; exact hx
      clear hx hk hrp
      generalize kp K.toNat = kk at cP hkl hx64
      have cH := refThere_any K I A B T la ln lc N F W1
      generalize thr A B T ln N F = th at cH hx64
      go_upto_region 6 with (first
        | (go_at_call 28; refine cP.mono ?_; rintro e w1 ⟨rfl, hw⟩; replace hw := hw.symm; subst hw)
        | (go_at_call 29; refine cH.mono ?_; rintro e w2 ⟨rfl, hb2⟩))
      have hb3 := hb1.trans (hb2.mono hb1.size)
      obtain ⟨r0, r1, r2, r3, r4, r5, r6, r7⟩ := SzAt.carry (⟨q0, q1, q2, q3, q4, q5, q6, q7⟩ : SzAt W1 w.heap.size K I A B T la ln lc N F) hb2
      clear q0 q1 q2 q3 q4 q5 q6 q7 hb1 hb2 cP cH hx64 hkl
      go_upto_region 7 with fail
      have hb4 : Below w2.heap.size w2 (w2.alloc (.cells #[.string A, .string B, .string T] 9)) := (Below.refl _ _).alloc (Nat.le_refl _) _
      have hR4 := srd_threeT w2 A B T 9 (by omega) (by omega) (by omega)
      have hz4 := SzAt.carry (⟨r0, r1, r2, r3, r4, r5, r6, r7⟩ : SzAt w2 w.heap.size K I A B T la ln lc N F) hb4
      have hb5 := hb3.trans (hb4.mono hb3.size)
      have hR5 := hR.carry hb5
      have h3s : ∀ s ∈ [A, B, T], s.size ≤ 1000000 := by intro s hs; simp at hs; rcases hs with rfl | rfl | rfl <;> assumption
      have h3l : [A, B, T].length = 3 := rfl
      clear r0 r1 r2 r3 r4 r5 r6 r7 hb3 hb4 hR hA hB hT
      generalize w2.heap.size = b2 at hR4 ⊢
      generalize w2.alloc _ = W4 at hR4 hz4 hb5 hR5 ⊢
      obtain ⟨q0, q1, q2, q3, q4, q5, q6, q7⟩ := hz4
      generalize [A, B, T] = M at HC hR4 h3s h3l
      go_wp2
      go_loopw [5] (fun i wr => ∃ k : Nat, k ≤ 3 ∧ i = .int .i64 k ∧ Hid (terrs (M.drop k) = terrs M) ∧ wr = W4) (fun i _ => 3 - (intOf i).toNat)
      case atStart => exact ⟨0, by omega, rfl, rfl, rfl⟩
      case round =>
        obtain ⟨k, hk, rfl, HE, hw⟩ := hrel
        replace hw := hw.symm
        subst hw
        by_cases hk3 : (k : Int) < 3
        · have hkl : k < M.length := by omega
          have hc := hR4.cells _ rfl k (by omega)
          rw [add_flat, Nat.zero_add] at hc
          have hsm := h3s _ (getD_mem' hkl)
          have HD : Hid (M.drop k = M.getD k ⟨#[]⟩ :: M.drop (k + 1)) := drop_cons' hkl
          clear hR4 h3l h3s hkl
          generalize M.getD k ⟨#[]⟩ = s at hc hsm HD
          by_cases ht : terr1 s = 0
          · have cT := rtext_any s W4 hsm
            rw [ht] at cT
            have HT : Hid (terr1 s = 0) := ht
            clear ht
            go_wp2_with (go_at_call 30; refine cT.mono ?_; rintro e w1 ⟨rfl, hw⟩; replace hw := hw.symm; subst hw)
            go_roundw
            case rel => exact ⟨k + 1, by omega, by go_num, (show terrs (M.drop (k + 1)) = terrs M by rw [← HE.out, HD.out, terrs_pass HT.out]), by first | rfl | trivial⟩
            case measure => simp [intOf]; omega
          · have cT := rtext_any s W4 hsm
            have ht' : ((terr1 s : Int) != 0) = true := by simp; omega
            have HT : Hid (chk K A B T L N F = terr1 s) := by
              have e : terrs M = terr1 s := by rw [← HE.out, HD.out, terrs_stop ht]
              rw [HC.out, e, if_pos ht]; rfl
            clear ht HE HD HC
            generalize terr1 s = x at cT ht' HT
            go_wp2_with (go_at_call 30; refine cT.mono ?_; rintro e w1 ⟨rfl, hw⟩; replace hw := hw.symm; subst hw)
            go_ret
            rw [HT.out]
            exact ⟨rfl, hb5⟩
        · have hke : k = 3 := by omega
          subst hke
          have HC2 : Hid (chk K A B T L N F = if 64 < ln then 5 else terrs L) := by rw [HC.out, if_neg (by rw [terrs_end h3l HE.out]; decide)]; rfl
          clear HC HE hR4 h3l h3s
          by_cases h64 : (64 : Int) < (ln : Int)
          · go_wp2
            go_ret
            rw [HC2.out, if_pos (by omega)]
            exact ⟨rfl, hb5⟩
          · have HC3 : Hid (chk K A B T L N F = terrs L) := by rw [HC2.out, if_neg (by omega)]; rfl
            clear HC2
            go_wp2
            go_loopw [7] (fun i wx => ∃ k : Nat, k ≤ ln ∧ i = .int .i64 k ∧ Hid (terrs (L.drop k) = terrs L) ∧ wx = W4) (fun i _ => ln - (intOf i).toNat)
            case atStart => exact ⟨0, by omega, rfl, rfl, rfl⟩
            case round =>
              obtain ⟨k, hk, rfl, HE, hw⟩ := hrel
              replace hw := hw.symm
              subst hw
              by_cases hkn : (k : Int) < (ln : Int)
              · have hkl : k < L.length := by omega
                obtain ⟨b, off, rfl, hcell⟩ := hR5.flat (by omega)
                have hc := hcell k (by omega)
                have hsm := hs _ (getD_mem' hkl)
                have HD : Hid (L.drop k = L.getD k ⟨#[]⟩ :: L.drop (k + 1)) := drop_cons' hkl
                clear hcell hkl
                generalize L.getD k ⟨#[]⟩ = s at hc hsm HD
                by_cases ht : terr1 s = 0
                · have cT := rtext_any s W4 hsm
                  rw [ht] at cT
                  have HT : Hid (terr1 s = 0) := ht
                  clear ht
                  go_wp2_with (go_at_call 30; refine cT.mono ?_; rintro e w1 ⟨rfl, hw⟩; replace hw := hw.symm; subst hw)
                  go_roundw
                  case rel => exact ⟨k + 1, by omega, by go_num, (show terrs (L.drop (k + 1)) = terrs L by rw [← HE.out, HD.out, terrs_pass HT.out]), by first | rfl | trivial⟩
                  case measure => simp [intOf]; omega
                · have cT := rtext_any s W4 hsm
                  have ht' : ((terr1 s : Int) != 0) = true := by simp; omega
                  have HT : Hid (chk K A B T L N F = terr1 s) := by rw [HC3.out, ← HE.out, HD.out, terrs_stop ht]; rfl
                  clear ht HE HD HC3
                  generalize terr1 s = x at cT ht' HT
                  go_wp2_with (go_at_call 30; refine cT.mono ?_; rintro e w1 ⟨rfl, hw⟩; replace hw := hw.symm; subst hw)
                  go_ret
                  rw [HT.out]
                  exact ⟨rfl, hb5⟩
              · have hke : k = ln := by omega
                subst hke
                have HN : Hid (chk K A B T L N F = 0) := by rw [HC3.out, terrs_end hln HE.out]; rfl
                clear HC3 HE
                go_wp2
                go_ret
                rw [HN.out]
                exact ⟨rfl, hb5⟩

end Go.Proofs.YtomkcmkbehcjnaaDoor
