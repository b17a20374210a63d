/- FrameFeed: whatever two bounds and whatever pieces, fed to two readers in turns: a reader and the document's tell the same payloads and the same error, and hold as many bytes; the law returns true and nothing that was there is written. For every input, no condition. -/
import Derived.Test.YtmpoddgmkneffaaRows
import Derived.Test.YtmpoddgmkneffaaFrDuo
namespace Go.Proofs.Ytmpoddgmkneffaa.frameFeed
open Go.ChangeShapes Go.WideShapes Go.ChangeAt Go.RowKit
open Go.Proofs.Ytmpoddgmkneffaa

/-- Both pairs, apart, in new memory. -/
structure Two (B : Nat) (W : World) (p1 : Nat) (v1 : Value) (q1 : Nat) (u1 : Value) (M1 : Nat) (h1 : List Int) (b1 : Bool) (p2 : Nat) (v2 : Value) (q2 : Nat) (u2 : Value) (M2 : Nat) (h2 : List Int) (b2 : Bool) : Prop where
  d1 : Duo W p1 v1 q1 u1 M1 h1 b1 h1 b1
  d2 : Duo W p2 v2 q2 u2 M2 h2 b2 h2 b2
  ap : ∀ k, FP p1 v1 q1 u1 k → ¬ FP p2 v2 q2 u2 k
  n1 : ∀ k, FP p1 v1 q1 u1 k → B ≤ k
  n2 : ∀ k, FP p2 v2 q2 u2 k → B ≤ k

theorem Two.swap {B : Nat} {W : World} {p1 : Nat} {v1 : Value} {q1 : Nat} {u1 : Value} {M1 : Nat} {h1 : List Int} {b1 : Bool} {p2 : Nat} {v2 : Value} {q2 : Nat} {u2 : Value} {M2 : Nat} {h2 : List Int} {b2 : Bool}
    (T : Two B W p1 v1 q1 u1 M1 h1 b1 p2 v2 q2 u2 M2 h2 b2) : Two B W p2 v2 q2 u2 M2 h2 b2 p1 v1 q1 u1 M1 h1 b1 :=
  ⟨T.d2, T.d1, fun k h h' => T.ap k h' h, T.n2, T.n1⟩
theorem Two.below {B : Nat} {W W' : World} {p1 : Nat} {v1 : Value} {q1 : Nat} {u1 : Value} {M1 : Nat} {h1 : List Int} {b1 : Bool} {p2 : Nat} {v2 : Value} {q2 : Nat} {u2 : Value} {M2 : Nat} {h2 : List Int} {b2 : Bool}
    (T : Two B W p1 v1 q1 u1 M1 h1 b1 p2 v2 q2 u2 M2 h2 b2) (hb : Below W.heap.size W W') : Two B W' p1 v1 q1 u1 M1 h1 b1 p2 v2 q2 u2 M2 h2 b2 :=
  ⟨T.d1.below hb, T.d2.below hb, T.ap, T.n1, T.n2⟩

/-- One piece fed to the first pair. -/
theorem Two.next {B : Nat} {W0 W1 W2 W3 W4 : World} {p1 : Nat} {v1 : Value} {q1 : Nat} {u1 : Value} {M1 : Nat} {h1 : List Int} {b1 : Bool} {p2 : Nat} {v2 : Value} {q2 : Nat} {u2 : Value} {M2 : Nat} {h2 : List Int} {b2 : Bool}
    (T : Two B W0 p1 v1 q1 u1 M1 h1 b1 p2 v2 q2 u2 M2 h2 b2) (hB : B ≤ W0.heap.size) (hb1 : Below W0.heap.size W0 W1) (hb3 : Below W2.heap.size W2 W3) {v' : Value} {a' : Option Addr} {n' c' : Nat} {r : List (List Int) × List Int × Bool}
    (hC : RC W2 p1 M1 v' r.2.2) (ho : W2.ownsRow 0 5 1 v' r.2.1.length (bc r.2.1)) (hw : ∀ k, v'.ownBlock = some k → v1.ownBlock = some k ∨ W1.heap.size ≤ k) (hk : Keep (fun k => k = p1 ∨ v1.ownBlock = some k) W1 W2) (hbd : Bd r.2.1) (hnil : r.2.2 = true → r.2.1 = [])
    (hC' : RF W4 q1 M1 (.slice a' n' c') r.2.2) (hr' : Rd W4 a' n' c' r.2.1) (hlt : ∀ ad, a' = some ad → ad.block < W4.heap.size) (hw' : ∀ k, (Value.slice a' n' c').ownBlock = some k → u1.ownBlock = some k ∨ W3.heap.size ≤ k) (hk' : Keep (fun k => k = q1) W3 W4) :
    Two B W4 p1 v' q1 (.slice a' n' c') M1 r.2.1 r.2.2 p2 v2 q2 u2 M2 h2 b2 ∧ Keep (FP p1 v1 q1 u1) W0 W4 := by
  have D1 := T.d1.below hb1
  have D2 := (D1.fed hC ho hw hk hbd hnil).below hb3
  have D3 := D2.fedD hC' hr' hlt hw' hk' hnil
  have K : Keep (FP p1 v1 q1 u1) W0 W4 := (((Keep.ofBelow hb1).trans (hk.mono (fun i e => e.elim .inl (fun e => .inr (.inr (.inl e)))))).trans (Keep.ofBelow hb3)).trans (hk'.mono (fun i e => .inr (.inl e)))
  have new : ∀ k, FP p1 v' q1 (.slice a' n' c') k → FP p1 v1 q1 u1 k ∨ W0.heap.size ≤ k := by
    have s1 := hb1.size
    have s2 := hk.size
    have s3 := hb3.size
    rintro k (e | e | e | e)
    · exact .inl (.inl e)
    · exact .inl (.inr (.inl e))
    · rcases hw k e with h | h
      · exact .inl (.inr (.inr (.inl h)))
      · exact .inr (by omega)
    · rcases hw' k e with h | h
      · exact .inl (.inr (.inr (.inr h)))
      · exact .inr (by omega)
  refine ⟨⟨D3, T.d2.keep K (fun k h h' => T.ap k h' h), fun k h h' => ?_, fun k h => ?_, T.n2⟩, K⟩
  · rcases new k h with e | e
    · exact T.ap k e h'
    · have := T.d2.lt k h'; omega
  · rcases new k h with e | e
    · exact T.n1 k e
    · omega

theorem duo0 {W : World} {p q M : Nat} (h1 : RC W p M (.slice none 0 0) false) (h2 : RF W q M (.slice none 0 0) false) : Duo W p (.slice none 0 0) q (.slice none 0 0) M [] false [] false :=
  ⟨h1, World.ownsRow_nil _ _ _ _, Bd.nil, (fun h => by cases h), h2, ⟨none, 0, rfl, rd_nil _⟩, (fun h => by cases h), (fun h => by cases h), (fun h => by cases h), (fun h => by cases h), (fun k h => by cases h), fun k hf => by
    rcases hf with rfl | rfl | h | h
    · exact h1.lt
    · exact h2.lt
    · cases h
    · cases h⟩

theorem two0 {B : Nat} {W : World} {p1 q1 p2 q2 M1 M2 : Nat} (h1 : RC W p1 M1 (.slice none 0 0) false) (h2 : RF W q1 M1 (.slice none 0 0) false) (h3 : RC W p2 M2 (.slice none 0 0) false) (h4 : RF W q2 M2 (.slice none 0 0) false)
    (e1 : p1 ≠ p2) (e2 : q1 ≠ q2) (e3 : p1 ≠ q2) (e4 : q1 ≠ p2) (b1 : B ≤ p1) (b2 : B ≤ q1) (b3 : B ≤ p2) (b4 : B ≤ q2) : Two B W p1 (.slice none 0 0) q1 (.slice none 0 0) M1 [] false p2 (.slice none 0 0) q2 (.slice none 0 0) M2 [] false := by
  have no : ∀ k, (Value.slice none 0 0).ownBlock ≠ some k := fun k h => by cases h
  refine ⟨duo0 h1 h2, duo0 h3 h4, fun k h h' => ?_, fun k h => ?_, fun k h => ?_⟩
  · rcases h with h | h | h | h
    · rcases h' with h' | h' | h' | h'
      · exact e1 (h.symm.trans h')
      · exact e3 (h.symm.trans h')
      · exact no _ h'
      · exact no _ h'
    · rcases h' with h' | h' | h' | h'
      · exact e4 (h.symm.trans h')
      · exact e2 (h.symm.trans h')
      · exact no _ h'
      · exact no _ h'
    · exact no _ h
    · exact no _ h
  · rcases h with h | h | h | h
    · omega
    · omega
    · exact (no _ h).elim
    · exact (no _ h).elim
  · rcases h with h | h | h | h
    · omega
    · omega
    · exact (no _ h).elim
    · exact (no _ h).elim

set_option maxHeartbeats 3200000 in
set_option maxRecDepth 100000 in
theorem walk (m1 m2 : Int) (g1 : -9223372036854775808 ≤ m1 ∧ m1 ≤ 9223372036854775807) (g2 : -9223372036854775808 ≤ m2 ∧ m2 ≤ 9223372036854775807) (br : Option Addr) (n c : Nat) (xs : List (List Int)) (w : World) (hR : RRd w br n xs) :
    Calls Try.prog 3 #[.int .i64 m1, .int .i64 m2, .slice br n c] w fun e w' => e = .returned (.bool true) ∧ Below w.heap.size w w' := by
  have hmx := hR.most
  have t1 : True := trivial
  have t2 : True := trivial
  have t3 : True := trivial
  go_enter Try.func3, Try.ntmps3
  go_wp2_with (first
    | (go_at_call 8; clear t1; refine (new_any m1 _ g1.1 g1.2).mono ?_; rintro e w1 ⟨rfl, hC1, hb1⟩)
    | (go_at_call 8; refine (new_any m2 _ g2.1 g2.2).mono ?_; rintro e w2 ⟨rfl, hC2, hb2⟩)
    | (go_at_call 9; clear t2; refine (refNew_any m1 _ g1.1 g1.2).mono ?_; rintro e w3 ⟨rfl, hC3, hb3⟩)
    | (go_at_call 9; refine (refNew_any m2 _ g2.1 g2.2).mono ?_; rintro e w4 ⟨rfl, hC4, hb4⟩)
    | (go_at_call 10; refine (wakes_any _).mono ?_; rintro e w5 ⟨rfl, hb5⟩))
  have l1 := hC1.lt
  have l2 := hC2.lt
  have l3 := hC3.lt
  have l4 := hC4.lt
  have s5 := hb5.size
  have T0 : Two w.heap.size w5 w.heap.size (.slice none 0 0) w2.heap.size (.slice none 0 0) m1.toNat [] false w1.heap.size (.slice none 0 0) w3.heap.size (.slice none 0 0) m2.toNat [] false :=
    two0 ((hb5.block _ (by omega)).trans ((hb4.block _ (by omega)).trans ((hb3.block _ (by omega)).trans ((hb2.block _ (by omega)).trans hC1)))) ((hb5.block _ (by omega)).trans ((hb4.block _ (by omega)).trans hC3)) ((hb5.block _ (by omega)).trans ((hb4.block _ (by omega)).trans ((hb3.block _ (by omega)).trans hC2))) ((hb5.block _ (by omega)).trans hC4)
      (by omega) (by omega) (by omega) (by omega) (by omega) (by omega) (by omega) (by omega)
  have hB0 : Below w.heap.size w w5 := (((hb1.trans (hb2.mono (by omega))).trans (hb3.mono (by omega))).trans (hb4.mono (by omega))).trans (hb5.mono (by omega))
  have hM1 : m1.toNat < 9223372036854775808 := by omega
  have hM2 : m2.toNat < 9223372036854775808 := by omega
  generalize m1.toNat = M1 at T0 hM1
  generalize m2.toNat = M2 at T0 hM2
  generalize hp2 : w1.heap.size = p2 at T0
  generalize hq1 : w2.heap.size = q1 at T0
  generalize hq2 : w3.heap.size = q2 at T0
  clear hC1 hC2 hC3 hC4 hb1 hb2 hb3 hb4 hb5 l1 l2 l3 l4 s5 hp2 hq1 hq2 t3
  go_loopw [11] (fun i wr => ∃ (k : Nat) (v1 u1 : Value) (h1 : List Int) (b1 : Bool) (v2 u2 : Value) (h2 : List Int) (b2 : Bool), i = .int .i64 k ∧ k ≤ n ∧ k ≤ 60 ∧ Two w.heap.size wr w.heap.size v1 q1 u1 M1 h1 b1 p2 v2 q2 u2 M2 h2 b2 ∧ h1.length ≤ 600 * k ∧ h2.length ≤ 600 * k ∧ Below w.heap.size w wr)
    (fun i _ => 60 - (intOf i).toNat)
  case atStart => exact ⟨0, _, _, [], false, _, _, [], false, rfl, by omega, by omega, T0, by simp, by simp, hB0⟩
  case round =>
    obtain ⟨k, v1, u1, h1, b1, v2, u2, h2, b2, rfl, hkn, hk60, T, hl1, hl2, hB⟩ := hrel
    by_cases hlt : k < n
    · by_cases h60 : k < 60
      · have hlz : (k : Int) < (n : Int) := by omega
        have h6z : (k : Int) < 60 := by omega
        obtain ⟨b, off, rfl, hc⟩ := hR.flat (by omega)
        obtain ⟨aj, nj, cj, hcell, hrd⟩ := hc k hlt
        have hbl : b < w.heap.size := World.block_lt_of_cell? w _ hcell
        have hcell' : wr.cell? ⟨b, off + k, none⟩ = some (.slice aj nj cj) := (hB.cell (p := ⟨b, off + k, none⟩) hbl).trans hcell
        generalize xs.getD k [] = ys at hrd
        clear hc
        have hBs := hB.size
        have tA : True := trivial
        by_cases h3 : k % 3 = 2
        · have h3z : (k : Int) % 3 = 2 := by omega
          have TT := T.swap
          have D := TT.d1
          obtain ⟨au, cu, hu, _⟩ := D.rd
          subst hu
          go_upto_region 13 with (first
            | (go_at_call 12; clear tA; refine (fewR aj nj cj ys _ (hrd.carry (Nat.le_refl _) hB)).mono ?_; rintro e wa ⟨a1, n1, c1, rfl, hn1, hr1, hb1, _⟩; have DA := D.below hb1; have hBA := hB.trans (hb1.mono hBs); have hBsA := hBA.size)
            | (go_at_call 11; refine (feedS p2 M2 v2 h2 b2 a1 n1 c1 (ys.take 600) _ DA.rc DA.own DA.bd DA.nil hr1 (by omega)).mono ?_; rintro e wb ⟨al, cl, vl, v', rfl, hC2, ho2, hw2, hrow2, hP2, _, hK2⟩; have hBB := hBA.trans (hK2.below hBsA (fun j h => TT.n1 j (h.elim .inl (fun h => .inr (.inr (.inl h)))))); have hx2 : wb.cell? ⟨b, off + k, none⟩ = some (.slice aj nj cj) := (hBB.cell (p := ⟨b, off + k, none⟩) hbl).trans hcell; have DB := DA.fed hC2 ho2 hw2 hK2 (stepS_bd DA.bd hr1.bytes) stepS_nil)
            | (go_at_call 12; refine (fewR aj nj cj ys _ (hrd.carry (Nat.le_refl _) hBB)).mono ?_; rintro e wc ⟨a3, n3, c3, rfl, hn3, hr3, hb3, _⟩; have DC := DB.below hb3; obtain ⟨a0, c0, hu0, hr0⟩ := DC.rd; cases hu0)
            | (go_at_call 13; refine (refFeedS q2 M2 _ _ _ h2 b2 a3 n3 c3 (ys.take 600) _ DC.rf (by assumption) hr0 DC.nil' hr3 (by omega) (fun ad e => DC.lt ad.block (.inr (.inr (.inr (by rw [e]; rfl)))))).mono ?_; rintro e wd ⟨am, cm, vm, a', n', c', rfl, hC4, hr4, hlt4, hw4, hrow4, hP4, hK4⟩))
          obtain ⟨TN, KN⟩ := TT.next hBs hb1 hb3 hC2 ho2 hw2 hK2 (stepS_bd DA.bd hr1.bytes) stepS_nil hC4 hr4 hlt4 hw4 hK4
          have hq := DA.lt q2 (.inr (.inl rfl))
          have hrowd := own_keep (own_keep hrow2 (Keep.ofBelow (S := fun _ => False) hb3) (fun _ _ h => h)) hK4 (fun j e h => absurd (hrow2.lt j e).1 (by omega))
          have hPd := (hP2.keep (Keep.ofBelow (S := fun _ => False) hb3) (fun _ _ _ _ h => h)).keep hK4 (fun j cur hl _ h => by omega)
          have hsl := stepS_len (M := M2) (held := h2) (big := b2) (bs := ys.take 600)
          have htk : (ys.take 600).length ≤ 600 := by rw [List.length_take]; omega
          have rl := rrd_of hrowd hPd rfl (by omega)
          have rm := rrd_of hrow4 hP4 rfl (by omega)
          have hnl := hr4.len
          clear hrowd hPd hrow2 hP2 hrow4 hP4 hC2 ho2 hw2 hK2 hC4 hr4 hlt4 hw4 hK4 DA DB DC hBA hBB hx2 hr0 hr1 hr3 hb1 hb3
          generalize stepS M2 h2 b2 (ys.take 600) = r at *
          subst hnl
          obtain ⟨av, cv, rfl, _⟩ := Rd.ofOwn TN.d1.own TN.d1.bd
          have hrc := TN.d1.rc
          have hrf := TN.d1.rf.c1
          go_quiet ((first | (go_at_call 14; exact Calls.quiet_of (same_true al am _ cl cm r.1 _ (rrd_drewN rl _) (rrd_drewN rm _))) | (go_at_call 15; exact Calls.quiet_of_same (held_any _ _ av _ cv _ _ (RC.drewN hrc _)))))
          go_wp2
          have hBN := hB.trans (KN.below hBs TT.n1)
          have hdr : Below wd.heap.size wd (wd.drewN nq) := ⟨rfl, rfl, rfl, Nat.le_refl _, fun _ _ => rfl⟩
          go_roundw
          case rel => exact ⟨k + 1, _, _, _, _, _, _, _, _, by go_num, by omega, by omega, (TN.below hdr).swap, by omega, by omega, hBN.trans (hdr.mono hBN.size)⟩
          case measure => simp [intOf]; omega
        · have h3z : ¬ (k : Int) % 3 = 2 := by omega
          have TT := T
          have D := TT.d1
          obtain ⟨au, cu, hu, _⟩ := D.rd
          subst hu
          go_upto_region 13 with (first
            | (go_at_call 12; clear tA; refine (fewR aj nj cj ys _ (hrd.carry (Nat.le_refl _) hB)).mono ?_; rintro e wa ⟨a1, n1, c1, rfl, hn1, hr1, hb1, _⟩; have DA := D.below hb1; have hBA := hB.trans (hb1.mono hBs); have hBsA := hBA.size)
            | (go_at_call 11; refine (feedS w.heap.size M1 v1 h1 b1 a1 n1 c1 (ys.take 600) _ DA.rc DA.own DA.bd DA.nil hr1 (by omega)).mono ?_; rintro e wb ⟨al, cl, vl, v', rfl, hC2, ho2, hw2, hrow2, hP2, _, hK2⟩; have hBB := hBA.trans (hK2.below hBsA (fun j h => TT.n1 j (h.elim .inl (fun h => .inr (.inr (.inl h)))))); have hx2 : wb.cell? ⟨b, off + k, none⟩ = some (.slice aj nj cj) := (hBB.cell (p := ⟨b, off + k, none⟩) hbl).trans hcell; have DB := DA.fed hC2 ho2 hw2 hK2 (stepS_bd DA.bd hr1.bytes) stepS_nil)
            | (go_at_call 12; refine (fewR aj nj cj ys _ (hrd.carry (Nat.le_refl _) hBB)).mono ?_; rintro e wc ⟨a3, n3, c3, rfl, hn3, hr3, hb3, _⟩; have DC := DB.below hb3; obtain ⟨a0, c0, hu0, hr0⟩ := DC.rd; cases hu0)
            | (go_at_call 13; refine (refFeedS q1 M1 _ _ _ h1 b1 a3 n3 c3 (ys.take 600) _ DC.rf (by assumption) hr0 DC.nil' hr3 (by omega) (fun ad e => DC.lt ad.block (.inr (.inr (.inr (by rw [e]; rfl)))))).mono ?_; rintro e wd ⟨am, cm, vm, a', n', c', rfl, hC4, hr4, hlt4, hw4, hrow4, hP4, hK4⟩))
          obtain ⟨TN, KN⟩ := TT.next hBs hb1 hb3 hC2 ho2 hw2 hK2 (stepS_bd DA.bd hr1.bytes) stepS_nil hC4 hr4 hlt4 hw4 hK4
          have hq := DA.lt q1 (.inr (.inl rfl))
          have hrowd := own_keep (own_keep hrow2 (Keep.ofBelow (S := fun _ => False) hb3) (fun _ _ h => h)) hK4 (fun j e h => absurd (hrow2.lt j e).1 (by omega))
          have hPd := (hP2.keep (Keep.ofBelow (S := fun _ => False) hb3) (fun _ _ _ _ h => h)).keep hK4 (fun j cur hl _ h => by omega)
          have hsl := stepS_len (M := M1) (held := h1) (big := b1) (bs := ys.take 600)
          have htk : (ys.take 600).length ≤ 600 := by rw [List.length_take]; omega
          have rl := rrd_of hrowd hPd rfl (by omega)
          have rm := rrd_of hrow4 hP4 rfl (by omega)
          have hnl := hr4.len
          clear hrowd hPd hrow2 hP2 hrow4 hP4 hC2 ho2 hw2 hK2 hC4 hr4 hlt4 hw4 hK4 DA DB DC hBA hBB hx2 hr0 hr1 hr3 hb1 hb3
          generalize stepS M1 h1 b1 (ys.take 600) = r at *
          subst hnl
          obtain ⟨av, cv, rfl, _⟩ := Rd.ofOwn TN.d1.own TN.d1.bd
          have hrc := TN.d1.rc
          have hrf := TN.d1.rf.c1
          go_quiet ((first | (go_at_call 14; exact Calls.quiet_of (same_true al am _ cl cm r.1 _ (rrd_drewN rl _) (rrd_drewN rm _))) | (go_at_call 15; exact Calls.quiet_of_same (held_any _ _ av _ cv _ _ (RC.drewN hrc _)))))
          go_wp2
          have hBN := hB.trans (KN.below hBs TT.n1)
          have hdr : Below wd.heap.size wd (wd.drewN nq) := ⟨rfl, rfl, rfl, Nat.le_refl _, fun _ _ => rfl⟩
          go_roundw
          case rel => exact ⟨k + 1, _, _, _, _, _, _, _, _, by go_num, by omega, by omega, TN.below hdr, by omega, by omega, hBN.trans (hdr.mono hBN.size)⟩
          case measure => simp [intOf]; omega
      · have h6z : ¬ (k : Int) < 60 := by omega
        have hlz : (k : Int) < (n : Int) := by omega
        go_wp2
        go_ret
        exact ⟨rfl, hB⟩
    · have hlz : ¬ (k : Int) < (n : Int) := by omega
      go_wp2
      go_ret
      exact ⟨rfl, hB⟩

theorem own : ownKnob Try.prog.godebug = none := by kernel_rfl
theorem laidOut : laidOutB Try.prog = true := by kernel_rfl

set_option maxRecDepth 100000 in
theorem lifted (os : Os) (started : os.Started) (H : Type) (enc : TypeId × Value → H) :
    ReturnsInHanded {} Try.checked os 3 .any (Rows.frameFeedSpec.pre6 enc Try.prog Try.f3 Rows.frameFeedRow.domain false) (Rows.frameFeedSpec.post enc Try.prog Try.f3 false true false false) := by
  refine returnsInHanded_of_change (C := Try.checked) own started (by kernel_rfl) Try.func3
    (ChangeSpec.witness6 (enc := enc) (C := Try.checked) false ⟨#[], #[.int .i64 0, .int .i64 0, .slice none 0 0], []⟩ 8 (by kernel_rfl) (by kernel_rfl) (by kernel_rfl) (by kernel_rfl)) ?_
  intro W base args ds gs before hval0 hW hcnd _
  have hval : ∀ (j : Nat) t v, Try.f3.params[j]? = some t → args[j]? = some v → Value.okWide Try.prog W .any base t v := hval0
  have hW' := hW
  obtain ⟨p, q, hA0, hV, rfl, hfz, hnd⟩ := hW
  have hA : DataW.TrodAll enc Try.prog W 0 (fun _ => true) true Try.f3.params.toList args.toList ds p := hA0
  rw [Try.params3] at hA hval
  obtain ⟨v0, vs0, d0, ds0, p0, q0, hargs, rfl, rfl, h0, r0⟩ := trodAll_cons hA
  obtain ⟨v1, vs1, d1, ds1, p1, q1, rfl, rfl, rfl, h1, r1⟩ := trodAll_cons r0
  obtain ⟨v2, vs2, d2, ds2, p2, q2, rfl, rfl, rfl, h2, r2⟩ := trodAll_cons r1
  obtain ⟨rfl, rfl, rfl⟩ := trodAll_nil r2
  obtain rfl : args = #[v0, v1, v2] := by cases args; simp_all
  obtain ⟨rfl, rfl⟩ := trodVars_none hV
  obtain ⟨a0, rfl, rfl, rfl, w0⟩ := open_int Try.underlying3 (hval 0 3 v0 rfl rfl) h0
  have g0 := bounds_i64 w0
  obtain ⟨a1, rfl, rfl, rfl, w1⟩ := open_int Try.underlying3 (hval 1 3 v1 rfl rfl) h1
  have g1 := bounds_i64 w1
  obtain ⟨a2, len2, cap2, rfl⟩ := okWide_slice Try.underlying22 (hval 2 22 v2 rfl rfl)
  have k2 := h2
  have lt2 : ∀ x ∈ p2, x.block < W.heap.size := by obtain ⟨m, hm⟩ := k2; exact DataW.trod_lt m _ _ _ hm
  obtain ⟨z2, hR2⟩ : ∃ zs, RRd W a2 len2 zs := rrd_of_trod h2
  clear hA0 hval0
  refine (walk a0 a1 g0 g1 a2 len2 cap2 z2 W hR2).mono fun e W' ⟨he, bel⟩ => ?_
  subst he
  exact ⟨_, rfl, _, _, _, [], _, [], hW', trodAll_mk1 (shut_bool Try.underlying4 _), (trodAll_cons_mk (shut_int Try.underlying3 w0) (trodAll_cons_mk (shut_int Try.underlying3 w1) (trodAll_cons_mk (Below.trod laidOut (by kernel_rfl) (of_decide_eq_true (by kernel_rfl)) k2 bel lt2) trodAll_mk0))), rfl, bel.frame _, fun h => by cases h⟩

end Go.Proofs.Ytmpoddgmkneffaa.frameFeed

namespace Go.Proofs.Ytmpoddgmkneffaa
theorem frameFeed_holds : Rows.FrameFeedSaid :=
  OpenClaim.holds_of_wide 3 Try.f3 rfl rfl rfl rfl rfl rfl rfl ⟨rfl, rfl, rfl, rfl, rfl⟩ rfl rfl rfl rfl rfl (by kernel_rfl) Try.func3 (by kernel_rfl)
    (of_decide_eq_true (by kernel_rfl)) (by unfold Func.isWrapper; first | (rw [if_pos (by decide +kernel)]; kernel_rfl) | (rw [if_neg (by decide +kernel)]; exact ⟨rfl, rfl⟩))
    (fun os started H enc _ => frameFeed.lifted os started H enc)
#print axioms frameFeed_holds
end Go.Proofs.Ytmpoddgmkneffaa
