/- scram's reader: bound, end, header; nonces. -/
import Derived.Test.YtmilcknboaefkaaGreatDoorScA
import Derived.Lib.TrimUEq
import Derived.Lib.OthersKept
namespace Go.Proofs.YtmilcknboaefkaaGreatDoor
open Go.RowKit Go.Shelf

theorem bound_ok (B : Nat) (L : Tx) (w : World) (hA : RAt w B L) (h : L.length ≤ 1024) :
    Calls Tryz.prog 73 #[.pointer (some ⟨B, 0, none⟩)] w fun e w' => e = .returned (.tuple #[]) ∧ w' = w := by
  have hc := hA.cell
  have hz := size_tx L
  have hd : ¬ ((L.length : Int) > 1024) := by omega
  clear hA
  go_enter Tryz.func73, Tryz.ntmps73
  go_wp2
  go_end0
  exact ⟨rfl, rfl⟩
theorem bound_no (B : Nat) (L : Tx) (w : World) (hA : RAt w B L) (h : 1024 < L.length) :
    Calls Tryz.prog 73 #[.pointer (some ⟨B, 0, none⟩)] w fun e w' => e = .panicked (gaveUp 5) ∧ w' = w := by
  have hc := hA.cell
  have hz := size_tx L
  have hd : (L.length : Int) > 1024 := by omega
  clear hA
  go_enter Tryz.func73, Tryz.ntmps73
  go_wp2_with (go_at_call 78; refine (giveUp_any _ _).mono ?_; rintro e w3 ⟨rfl, rfl⟩)
  exact ⟨rfl, rfl, rfl⟩

theorem isEmpty_tx (L : Tx) : (⟨L.toArray⟩ : ByteArray).toList.isEmpty = decide (L = []) := by
  rw [tx_list]; cases L <;> simp
theorem end_ok (B : Nat) (w : World) (hA : RAt w B []) :
    Calls Tryz.prog 64 #[.pointer (some ⟨B, 0, none⟩)] w fun e w' => e = .returned (.tuple #[]) ∧ w' = w := by
  have hc := hA.cell
  clear hA
  go_enter Tryz.func64, Tryz.ntmps64
  go_wp2
  go_end0
  exact ⟨rfl, rfl⟩
theorem end_no (B : Nat) (L : Tx) (w : World) (hA : RAt w B L) (h : L ≠ []) :
    Calls Tryz.prog 64 #[.pointer (some ⟨B, 0, none⟩)] w fun e w' => e = .panicked (gaveUp 2) ∧ w' = w := by
  have hc := hA.cell
  have hE := isEmpty_tx L
  rw [decide_eq_false h] at hE
  obtain ⟨S, HS⟩ : ∃ S, Hid ((⟨L.toArray⟩ : ByteArray) = S) := ⟨_, rfl⟩
  rw [HS.out] at hc hE
  clear hA h
  go_enter Tryz.func64, Tryz.ntmps64
  go_wp2_with (go_at_call 78; refine (giveUp_any _ _).mono ?_; rintro e w3 ⟨rfl, rfl⟩)
  exact ⟨rfl, rfl, rfl⟩

/-! ### the header -/
def hdr (L : Tx) : Option (Tx × Tx) := match sgn [121, 44, 44] L with
  | some R => some ([121, 44, 44], R)
  | none => (sgn [110, 44, 44] L).map fun R => ([110, 44, 44], R)
theorem sgn_pre {p L : Tx} : p.isPrefixOf L = (sgn p L).isSome := by unfold sgn; cases p.isPrefixOf L <;> simp
theorem header_ok (B : Nat) (L H R : Tx) (w : World) (hA : RAt w B L) (h : hdr L = some (H, R)) :
    Calls Tryz.prog 74 #[.pointer (some ⟨B, 0, none⟩)] w fun e w' => e = .returned (.string ⟨H.toArray⟩) ∧ RAt w' B R ∧ Keep (fun j => j = B) w w' := by
  have hc := hA.cell
  have c := hasPrefix_any L [121, 44, 44] w
  unfold hdr at h
  rw [sgn_pre] at c
  cases hy : sgn [121, 44, 44] L with
  | some R' =>
    rw [hy] at h c
    simp only [Option.some.injEq, Prod.mk.injEq] at h
    obtain ⟨rfl, rfl⟩ := h
    simp only [Option.isSome_some] at c
    have c2 := sign_ok B L _ _ w hA hy
    go_enter Tryz.func74, Tryz.ntmps74
    go_wp2_with (first
      | (go_at_call 90; refine c.mono ?_; rintro e w1 ⟨rfl, rfl⟩)
      | (go_at_call 60; refine c2.mono ?_; rintro e w2 ⟨rfl, hr, hk⟩))
    go_ret
    exact ⟨rfl, hr, hk⟩
  | none =>
    rw [hy] at h c
    simp only [Option.map_eq_some_iff, Prod.mk.injEq] at h
    obtain ⟨R', hn, rfl, rfl⟩ := h
    simp only [Option.isSome_none] at c
    have c2 := sign_ok B L _ _ w hA hn
    go_enter Tryz.func74, Tryz.ntmps74
    go_wp2_with (first
      | (go_at_call 90; refine c.mono ?_; rintro e w1 ⟨rfl, rfl⟩)
      | (go_at_call 60; refine c2.mono ?_; rintro e w2 ⟨rfl, hr, hk⟩))
    go_ret
    exact ⟨rfl, hr, hk⟩
theorem header_no (B : Nat) (L : Tx) (w : World) (hA : RAt w B L) (h : hdr L = none) :
    Calls Tryz.prog 74 #[.pointer (some ⟨B, 0, none⟩)] w fun e w' => e = .panicked (gaveUp 2) ∧ Keep (fun j => j = B) w w' := by
  have hc := hA.cell
  have c := hasPrefix_any L [121, 44, 44] w
  unfold hdr at h
  rw [sgn_pre] at c
  cases hy : sgn [121, 44, 44] L with
  | some R' => rw [hy] at h; cases h
  | none =>
    rw [hy] at h c
    simp only [Option.map_eq_none_iff] at h
    simp only [Option.isSome_none] at c
    have c2 := sign_no B L _ w hA h
    go_enter Tryz.func74, Tryz.ntmps74
    go_wp2_with (first
      | (go_at_call 90; refine c.mono ?_; rintro e w1 ⟨rfl, rfl⟩)
      | (go_at_call 60; refine c2.mono ?_; rintro e w2 ⟨rfl, hk⟩))
    exact ⟨rfl, rfl, hk⟩

/-! ### nonces -/
theorem dec_low (l : Tx) (h : (l.getD 0 0).toNat < 128) : Lib.decodeL l = ((l.getD 0 0).toNat, 1) := by
  rw [Lib.decodeL_N]; unfold Lib.decodeN; rw [if_pos h]
theorem dec_high (l : Tx) (h : ¬ (l.getD 0 0).toNat < 128) : 128 ≤ (Lib.decodeL l).1 := by
  rw [Lib.decodeL_N]; unfold Lib.decodeN; rw [if_neg h]
  repeat' split
  all_goals omega
theorem dec_rune (s : ByteArray) (pos : Nat) : (Utf8.decode s pos).1 ≤ 1114111 := by rw [← Lib.decodeL_drop]; exact Lib.decodeL_rune _

theorem drop_getD (l : Tx) (k : Nat) : (l.drop k).getD 0 0 = l.getD k 0 := by simp [List.getD]
theorem nonce_off (L : Tx) (most k : Nat) (hk : k < L.length) (hb : okN (L.getD k 0) = false) : nonceB most L = false := by
  cases h : nonceB most L with
  | false => rfl
  | true =>
    have h1 := (nonce_parts.1 h).2.2
    rw [List.all_eq_true] at h1
    have hm : L.getD k 0 ∈ L := by simp [List.getD, List.getElem?_eq_getElem hk]
    rw [h1 _ hm] at hb; cases hb
theorem take_all (L : Tx) (k : Nat) (hk : k < L.length) (h : (L.take k).all okN = true) (hb : okN (L.getD k 0) = true) : (L.take (k + 1)).all okN = true := by
  have e : L.take (k + 1) = L.take k ++ [L.getD k 0] := by
    rw [List.take_succ_eq_append_getElem hk]; simp [List.getD, List.getElem?_eq_getElem hk]
  rw [e, List.all_append, h, List.all_cons, hb]; rfl

set_option maxHeartbeats 2000000 in
theorem isNonce_any (L : Tx) (most : Nat) (w : World) (hL : L.length ≤ 1000000) (_hm : most ≤ 100000) :
    Calls Tryz.prog 31 #[.string ⟨L.toArray⟩, .int .i64 most] w fun e w' => e = .returned (.bool (nonceB most L)) ∧ Below w.heap.size w w' := by
  have hz := size_tx L
  have hE := isEmpty_tx L
  by_cases h0 : L = []
  · subst h0
    have e : nonceB most [] = false := by simp [nonceB]
    rw [e]
    go_enter Tryz.func31, Tryz.ntmps31
    go_wp2
    go_ret
    exact ⟨rfl, Below.refl _ _⟩
  rw [decide_eq_false h0] at hE
  by_cases h1 : most < L.length
  · have e : nonceB most L = false := by
      cases h : nonceB most L with
      | false => rfl
      | true => have := (nonce_parts.1 h).2.1; omega
    rw [e]
    have hd : (L.length : Int) > (most : Int) := by omega
    obtain ⟨S, HS⟩ : ∃ S, Hid ((⟨L.toArray⟩ : ByteArray) = S) := ⟨_, rfl⟩
    rw [HS.out] at hz hE ⊢
    clear h0 e
    go_enter Tryz.func31, Tryz.ntmps31
    go_wp2
    go_ret
    exact ⟨rfl, Below.refl _ _⟩
  have hd : ¬ ((L.length : Int) > (most : Int)) := by omega
  have HL : Hid (L ≠ [] ∧ L.length ≤ most) := ⟨h0, by omega⟩
  obtain ⟨S, HS⟩ : ∃ S, Hid ((⟨L.toArray⟩ : ByteArray) = S) := ⟨_, rfl⟩
  rw [HS.out] at hz hE ⊢
  clear h0 h1
  obtain ⟨N, HN⟩ : ∃ N, Hid (nonceB most L = N) := ⟨_, rfl⟩
  rw [HN.out]
  go_enter Tryz.func31, Tryz.ntmps31
  go_wp2
  go_loopw [] (fun wr => ∃ pos : Nat, pos ≤ L.length ∧ wr.heap[w.heap.size]? = some (.stringIter S pos) ∧ Below w.heap.size w wr ∧ (L.take pos).all okN = true) (fun wr => S.size - wr.iterPos w.heap.size)
  case atStart =>
    refine ⟨0, Nat.zero_le _, ?_, (Below.refl _ _).alloc (Nat.le_refl _) _, by simp⟩
    have := World.iter_heap w S 0
    simpa using this
  case round =>
    obtain ⟨pos, hp0, hit, hbw, hall⟩ := hrel
    have hsz : w.heap.size < wr.heap.size := (Array.getElem?_eq_some_iff.1 hit).1
    by_cases hp : pos < L.length
    · have hnx : ∀ ty, (Instr.next (.pointer (some ⟨w.heap.size, 0, none⟩)) true ty).run Tryz.prog wr = _ := fun ty => Lib.run_next_any_at wr w.heap.size S pos ty hit (by omega)
      have hbw2 := fun p => Lib.below_iterAt hbw (k := w.heap.size) (Nat.le_refl _) S p
      have hit2 := fun p => Lib.iterAt_heap wr w.heap.size S pos p hit
      have hdr := Lib.decodeL_drop S pos
      rw [show S.data.toList = L from by rw [← HS.out]] at hdr
      have hru := dec_rune S pos
      have hg := drop_getD L pos
      by_cases hok : okN (L.getD pos 0) = true
      · have hb : 33 ≤ (L.getD pos 0).toNat ∧ (L.getD pos 0).toNat ≤ 126 ∧ (L.getD pos 0).toNat ≠ 44 := by simpa [okN] using hok
        have hlo := dec_low (L.drop pos) (by rw [hg]; omega)
        rw [hg, hdr] at hlo
        have hall' := take_all L pos hp hall hok
        obtain ⟨b, hbq⟩ : ∃ b, (L.getD pos 0).toNat = b := ⟨_, rfl⟩
        rw [hbq] at hb hlo
        rw [hlo] at hnx
        clear hg hok hdr hbq hru hall hlo
        have g1 : ¬ ((b : Int) < 33) := by omega
        have g2 : ¬ ((b : Int) > 126) := by omega
        have g3 : ((b : Int) == 44) = false := by simp; omega
        go_wp2
        go_roundw
        case rel => exact ⟨pos + 1, by omega, hit2 _, hbw2 _, hall'⟩
        case measure =>
          simp only [World.iterPos, hit2, hit]
          omega
      · have hN : N = false := by rw [← HN.out]; exact nonce_off L most pos hp (by simpa using hok)
        subst hN
        have hbad : (Utf8.decode S pos).1 < 33 ∨ 126 < (Utf8.decode S pos).1 ∨ (Utf8.decode S pos).1 = 44 := by
          by_cases h8 : (L.getD pos 0).toNat < 128
          · have hlo := dec_low (L.drop pos) (by rw [hg]; omega)
            rw [hg, hdr] at hlo
            rw [hlo]
            have : ¬ (33 ≤ (L.getD pos 0).toNat ∧ (L.getD pos 0).toNat ≤ 126 ∧ (L.getD pos 0).toNat ≠ 44) := fun h => hok (by simpa [okN] using h)
            dsimp only
            omega
          · have hhi := dec_high (L.drop pos) (by rw [hg]; exact h8)
            rw [hdr] at hhi
            omega
        obtain ⟨r, hr⟩ : ∃ r, (Utf8.decode S pos).1 = r := ⟨_, rfl⟩
        rw [hr] at hbad hnx hru
        clear hg hok hdr hr hall
        rcases hbad with g | g | g
        · have g1 : (r : Int) < 33 := by omega
          go_wp2
          go_ret
          exact ⟨rfl, hbw2 _⟩
        · have g1 : ¬ ((r : Int) < 33) := by omega
          have g2 : (r : Int) > 126 := by omega
          go_wp2
          go_ret
          exact ⟨rfl, hbw2 _⟩
        · subst g
          go_wp2
          go_ret
          exact ⟨rfl, hbw2 _⟩
    · have hnx : ∀ ty, (Instr.next (.pointer (some ⟨w.heap.size, 0, none⟩)) true ty).run Tryz.prog wr = _ := fun ty => Lib.run_next_end_at wr w.heap.size S pos ty hit (by omega)
      have hN : N = true := by
        rw [← HN.out, nonce_parts]
        refine ⟨HL.out.1, HL.out.2, ?_⟩
        rwa [List.take_of_length_le (by omega)] at hall
      subst hN
      clear hall
      go_wp2
      go_ret
      exact ⟨rfl, hbw⟩

theorem nonce_ok (B : Nat) (L : Tx) (most : Nat) (w : World) (hA : RAt w B L) (hL : L.length ≤ 1000000) (hm : most ≤ 100000) (hM : Mx w) (h : nonceB most (prt L) = true) :
    Calls Tryz.prog 61 #[.pointer (some ⟨B, 0, none⟩), .int .i64 most] w fun e w' => e = .returned (.string ⟨(prt L).toArray⟩) ∧ RAt w' B (rst L) ∧ Keep (fun j => j = B) w w' := by
  have hle : (prt L).length ≤ L.length := by unfold prt; rw [List.length_take]; omega
  have c := part_any B L w hA hL hM
  have c1 := fun w => isNonce_any (prt L) most w (by omega) hm
  have c2 := fun w => clone_any ⟨(prt L).toArray⟩ w (by rw [size_tx]; omega)
  rw [h] at c1
  obtain ⟨S, HS⟩ : ∃ S, Hid ((⟨(prt L).toArray⟩ : ByteArray) = S) := ⟨_, rfl⟩
  rw [HS.out] at c c1 c2 ⊢
  clear h hle
  go_enter Tryz.func61, Tryz.ntmps61
  go_wp2_with (first
    | (go_at_call 85; refine c.mono ?_; rintro e w1 ⟨rfl, hr1, hk1⟩)
    | (go_at_call 31; refine (c1 _).mono ?_; rintro e w2 ⟨rfl, hb2⟩)
    | (go_at_call 75; refine (c2 _).mono ?_; rintro e w3 ⟨rfl, hb3⟩))
  go_ret
  exact ⟨rfl, (hr1.below hb2).below hb3, (hk1.trans (Keep.ofBelow hb2)).trans (Keep.ofBelow hb3)⟩
theorem nonce_no (B : Nat) (L : Tx) (most : Nat) (w : World) (hA : RAt w B L) (hL : L.length ≤ 1000000) (hm : most ≤ 100000) (hM : Mx w) (h : nonceB most (prt L) = false) :
    Calls Tryz.prog 61 #[.pointer (some ⟨B, 0, none⟩), .int .i64 most] w fun e w' => e = .panicked (gaveUp 2) ∧ Keep (fun j => j = B) w w' := by
  have hle : (prt L).length ≤ L.length := by unfold prt; rw [List.length_take]; omega
  have c := part_any B L w hA hL hM
  have c1 := fun w => isNonce_any (prt L) most w (by omega) hm
  rw [h] at c1
  obtain ⟨S, HS⟩ : ∃ S, Hid ((⟨(prt L).toArray⟩ : ByteArray) = S) := ⟨_, rfl⟩
  rw [HS.out] at c c1
  clear h hle
  go_enter Tryz.func61, Tryz.ntmps61
  go_wp2_with (first
    | (go_at_call 85; refine c.mono ?_; rintro e w1 ⟨rfl, hr1, hk1⟩)
    | (go_at_call 31; refine (c1 _).mono ?_; rintro e w2 ⟨rfl, hb2⟩)
    | (go_at_call 78; refine (giveUp_any _ _).mono ?_; rintro e w3 ⟨rfl, rfl⟩))
  exact ⟨rfl, rfl, hk1.trans (Keep.ofBelow hb2)⟩
end Go.Proofs.YtmilcknboaefkaaGreatDoor
