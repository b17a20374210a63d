/- StanzaBack: what is written is read again; what is read is written again, byte for byte. -/
import Derived.Test.YtomkcmkbehcjnaaDoorStzBq
import Derived.Test.YtomkcmkbehcjnaaDoorStzR
namespace Go.Proofs.YtomkcmkbehcjnaaDoor.stanzaBack
open Go.RowKit
open Go.Proofs.YtomkcmkbehcjnaaDoor

theorem readGood (a : Option Addr) (n c : Nat) (X : List Int) (w : World) (hR : Rd w a n c X) (hn : n ≤ 100000) (hL : Lays w) (k I : Nat) (A B T : ByteArray) (L : List ByteArray) (N : Int) (F : Nat) (h : rdSt X = (k, I, ⟨A, B, T, L, N, F⟩, 0)) :
    Calls Tryd.prog 16 #[.slice a n c] w fun e w' => ∃ la ln lc, e = .returned (.tuple #[.agg #[.int .i64 (k : Int), .int .u64 (I : Nat), .string A, .string B, .string T, .slice la ln lc, .int .i64 N, .float .f64 F], .int .i64 0]) ∧ L.length = ln ∧ SRd w' la ln lc L ∧ Below w.heap.size w w' := by
  refine (read_any a n c X w hR hn hL).mono ?_
  rw [h]
  rintro e w' ⟨la, ln, lc, rfl, hlo, hb⟩
  exact ⟨la, ln, lc, rfl, hlo.len, hlo.srd, hb⟩
theorem readBad (a : Option Addr) (n c : Nat) (X : List Int) (w : World) (hR : Rd w a n c X) (hn : n ≤ 100000) (hL : Lays w) (E : Nat) (h : rdSt X = (0, 0, sz0, E)) :
    Calls Tryd.prog 16 #[.slice a n c] w fun e w' => ∃ la, e = .returned (.tuple #[.agg #[.int .i64 0, .int .u64 0, .string ⟨#[]⟩, .string ⟨#[]⟩, .string ⟨#[]⟩, .slice la 0 0, .int .i64 0, .float .f64 0], .int .i64 (E : Int)]) ∧ SRd w' la 0 0 [] ∧ Below w.heap.size w w' := by
  refine (read_any a n c X w hR hn hL).mono ?_
  rw [h]
  rintro e w' ⟨la, ln, lc, rfl, hlo, hb⟩
  have hl : 0 = ln := hlo.len
  subst hl
  have hlc : lc = 0 := by
    rcases hlo.2 with ⟨_, _, q, _⟩ | ⟨g, _, _, _, q, _⟩
    · exact q
    · exact q
  subst hlc
  exact ⟨la, rfl, hlo.srd, hb⟩
theorem twinX (a : Option Addr) (n c : Nat) (xs : List Int) (w : World) (hR : Rd w a n c xs) :
    Calls Tryd.prog 15 #[.slice a n c, .int .i64 5000] w fun e w' => ∃ a' n' c', e = .returned (.slice a' n' c') ∧ n' ≤ 5000 ∧ Rd w' a' n' c' (xs.take 5000) ∧ Below w.heap.size w w' := by
  refine (twin_any a n c xs 5000 w hR (by omega)).mono ?_
  rintro e w1 ⟨v1, rfl, ho1, hb1⟩
  obtain ⟨a1, c1, rfl, hr1⟩ := Rd.ofOwn ho1 (hR.bytes.take 5000)
  exact ⟨a1, _, c1, rfl, by rw [List.length_take]; omega, hr1, hb1⟩
/-- append onto a new empty slice, its block's number told otherwise. -/
theorem wp_app0S {w : World} {ops : Array Oper} {rest : List Oper} {o : Oper} {a : Act} {Q : Exit → Act → World → Prop} (b : Nat) (hb0 : w.heap.size = b) (hgd : o.guard = none) (s x : Operand)
    (ho : o.op = .call { callee := .builtin .append, args := #[s, x], argTypes := #[28, 28] })
    (hs : a.eval s = .slice (some ⟨b, 0, none⟩) 0 0)
    (ao : Option Addr) (m c : Nat) (ys : List Int) (hx : a.eval x = .slice ao m c) (hr : Rd w ao m c ys) (hb : m ≤ 1000000000)
    (h : ∀ v' w', w'.ownsRow w.heap.size 5 1 v' m (bc ys) → Below w.heap.size w w' → wpList Tryd.prog ops Q rest (a.put o.dst v') w') : wpList Tryd.prog ops Q (o :: rest) a (w.alloc (.cells #[] 5)) := by
  subst hb0
  exact wp_app0K hgd s x ho hs ao m c ys hx hr hb (fun v' w' h1 h2 _ => h v' w' h1 h2)
theorem str_same (s : ByteArray) : (s.toList == s.toList) = true := by simp

set_option maxHeartbeats 6400000 in
set_option maxRecDepth 100000 in
theorem walk11 (K : Int) (I : Nat) (A B T : ByteArray) (la : Option Addr) (ln lc : Nat) (N : Int) (F : Nat) (L : List ByteArray) (rb : Option Addr) (nr cr : Nat) (zs : List Int) (J : Int) (w : World) (hR : SRd w la ln lc L) (hRr : Rd w rb nr cr zs) (hL : Lays w) (hA : A.size ≤ 9223372036854775807) (hB : B.size ≤ 9223372036854775807) (hT : T.size ≤ 9223372036854775807) (hI : I < 18446744073709551616) (hN0 : -9223372036854775808 ≤ N) (hN1 : N ≤ 9223372036854775807) (hF : F < 18446744073709551616) (hJ0 : 0 ≤ J) (hJ1 : J ≤ 255)
    (hE :  (chk K (cutS A 1100) (cutS B 1100) (cutS T 1100) (cutL L 70 1100) N F = 0)) (hQ :  ((rdSt (zs.take 5000)).2.2.2 = 0)) :
    Calls Tryd.prog 5 #[.agg #[.int .i64 K, .int .u64 I, .string A, .string B, .string T, .slice la ln lc, .int .i64 N, .float .f64 F], .slice rb nr cr, .int .u8 J] w fun e w' => e = .returned (.bool true) ∧ Below w.heap.size w w' := by
  have hsf := run_store_float
  obtain ⟨hfit, hkn, hand⟩ := fit_of hN0 hN1 hF hE
  obtain ⟨k, rfl⟩ : ∃ k : Nat, K = (k : Int) := ⟨K.toNat, by have := kn_bd hkn; omega⟩
  have hb1 : Below w.heap.size w (w.alloc (.cells #[.int .i64 (k : Int), .int .u64 I, .string A, .string B, .string T, .slice la ln lc, .int .i64 N, .float .f64 F] 26)) := (Below.refl _ _).alloc (Nat.le_refl _) _
  have cT := stwin_any (k : Int) I A B T la ln lc N F L _ (hR.carry hb1) hA hB hT
  have hA' := cutS_size A 1100
  have hB' := cutS_size B 1100
  have hT' := cutS_size T 1100
  have hl' := cutL_len L 70 1100
  have hs' := cutL_size L 70 1100
  have hL1 := hL.carry hb1
  generalize cutS A 1100 = A2 at cT hA' hE hfit hand
  generalize cutS B 1100 = B2 at cT hB' hE hfit hand
  generalize cutS T 1100 = T2 at cT hT' hE hfit hand
  generalize cutL L 70 1100 = L2 at cT hl' hs' hE hfit hand
  have HTW : Hid (∀ (a : Option Addr) (n c : Nat) (w : World), SRd w a n c L2 → Calls Tryd.prog 8 #[.agg #[.int .i64 (k : Int), .int .u64 I, .string A2, .string B2, .string T2, .slice a n c, .int .i64 N, .float .f64 F]] w fun e w' => ∃ la' ln' lc', e = .returned (.agg #[.int .i64 (k : Int), .int .u64 I, .string A2, .string B2, .string T2, .slice la' ln' lc', .int .i64 N, .float .f64 F]) ∧ SRd w' la' ln' lc' L2 ∧ Below w.heap.size w w') := fun a n c w h => stwin_id (k : Int) I A2 B2 T2 a n c N F L2 w h hA' hB' hT' hl' hs'
  have lX := wform_len hI hN0 hN1 hE
  have HWR : Hid (∀ (a : Option Addr) (n c : Nat) (w : World), SRd w a n c L2 → Lays w → Calls Tryd.prog 9 #[.agg #[.int .i64 (k : Int), .int .u64 I, .string A2, .string B2, .string T2, .slice a n c, .int .i64 N, .float .f64 F]] w fun e w' => ∃ a n c, e = .returned (.tuple #[.slice a n c, .int .i64 0]) ∧ Rd w' a n c (wform (k : Int) I A2 B2 T2 L2 N F) ∧ Below w.heap.size w w') := fun a n c w h hL => (write_any (k : Int) I A2 B2 T2 a n c N F L2 w hL h hA' hB' hT' hI hN0 hN1 hF).mono (by rw [hE]; rintro e w' ⟨a, n, c, rfl, _, h2, h3⟩; exact ⟨a, n, c, rfl, h2 rfl, h3⟩)
  have hrw := fun Y => rd_write (k : Int) I ⟨A2, B2, T2, L2, N, F⟩ Y hfit hkn hI hand
  have hw0 : rdSt (wform (k : Int) I A2 B2 T2 L2 N F) = (k, I, ⟨A2, B2, T2, L2, N, bitsv F⟩, 0) := by have := hrw []; rw [List.append_nil] at this; rw [show wform (k : Int) I A2 B2 T2 L2 N F = wz (k : Int) I ⟨A2, B2, T2, L2, N, F⟩ from rfl, this, if_neg (by simp)]; rfl
  have hw1 : rdSt (wform (k : Int) I A2 B2 T2 L2 N F ++ [J]) = (0, 0, sz0, 2) := by have := hrw [J]; rw [show wform (k : Int) I A2 B2 T2 L2 N F = wz (k : Int) I ⟨A2, B2, T2, L2, N, F⟩ from rfl, this, if_pos (by simp)]
  have bX := wform_bd (k : Int) I A2 B2 T2 L2 N F
  generalize wform (k : Int) I A2 B2 T2 L2 N F = X at HWR hw0 hw1 lX bX
  clear hrw hfit hkn hand hE
  have lZ : (zs.take 5000).length ≤ 5000 := by rw [List.length_take]; omega
  have bZ : Bd (zs.take 5000) := hRr.bytes.take 5000
  have cZ := fun w a n c (h : Rd w a n c zs) => twinX a n c zs w h
  have HTT : Hid ((zs.take 5000).take 5000 = zs.take 5000) := by show _ = _; rw [List.take_take, Nat.min_self]
  have cY := fun w a n c (h : Rd w a n c (zs.take 5000)) => twinX a n c (zs.take 5000) w h
  simp only [HTT.out] at cY
  obtain ⟨K', I', z', E', hp⟩ : ∃ K' I' z' E', rdSt (zs.take 5000) = (K', I', z', E') := ⟨_, _, _, _, rfl⟩
  rw [hp] at hQ
  have hQ' : E' = 0 := hQ
  subst hQ'
  obtain ⟨A3, B3, T3, L3, N3, F3⟩ := z'
  obtain ⟨f1, f2, f3, f4, f5, f6⟩ := write_rd bZ hp
  have f6' : wform (K' : Int) I' A3 B3 T3 L3 N3 F3 = zs.take 5000 := f6
  rw [show K' = ((K' : Int)).toNat from rfl] at f5
  have hc3 := chk_of (K := (K' : Int)) (z := ⟨A3, B3, T3, L3, N3, F3⟩) f1 f3 f5
  dsimp only at hc3
  obtain ⟨_, sA3, sB3, sT3, _, _⟩ := chk_ok hc3
  have HW3 : Hid (∀ (a : Option Addr) (n c : Nat) (w : World), SRd w a n c L3 → Lays w → Calls Tryd.prog 9 #[.agg #[.int .i64 (K' : Int), .int .u64 I', .string A3, .string B3, .string T3, .slice a n c, .int .i64 N3, .float .f64 F3]] w fun e w' => ∃ a n c, e = .returned (.tuple #[.slice a n c, .int .i64 0]) ∧ Rd w' a n c (zs.take 5000) ∧ Below w.heap.size w w') := fun a n c w h hL => (write_any (K' : Int) I' A3 B3 T3 a n c N3 F3 L3 w hL h (by omega) (by omega) (by omega) f4 f1.n0 f1.n1 f1.f).mono (by rw [hc3]; rintro e w' ⟨a, n, c, rfl, _, h2, h3⟩; have h4 := h2 rfl; rw [f6'] at h4; exact ⟨a, n, c, rfl, h4, h3⟩)
  clear f1 f2 f3 f4 f5 f6 f6' hc3 sA3 sB3 sT3 hQ
  generalize zs.take 5000 = Z at cZ cY hp lZ bZ HW3
  obtain ⟨sZ, HsZ⟩ : ∃ s, Hid (strOfNums Z = s) := ⟨_, rfl⟩
  clear HTT hA' hB' hT' hl' hs' hA hB hT hR lZ bZ
  have tk1 : True := trivial
  have tk2 : True := trivial
  have tk3 : True := trivial
  have tk4 : True := trivial
  have tk5 : True := trivial
  have tk6 : True := trivial
  have tk7 : True := trivial
  have tk8 : True := trivial
  have tk9 : True := trivial
  go_enter Tryd.func5, Tryd.ntmps5
  go_wp2_with (first
    | (go_at_call 8; clear tk1; refine cT.mono ?_; rintro e w1 ⟨la1, ln1, lc1, rfl, _, hs1, hbT⟩; have hb3 : Below w1.heap.size w1 (w1.alloc (.cells #[.int .i64 (k : Int), .int .u64 I, .string A2, .string B2, .string T2, .slice la1 ln1 lc1, .int .i64 N, .float .f64 F] 26)) := (Below.refl _ _).alloc (Nat.le_refl _) _; have hz3 := SzAt.new (K := (k : Int)) (I := I) (A := A2) (B := B2) (T := T2) (la := la1) (ln := ln1) (lc := lc1) (N := N) (F := F) w1; have hs3 := hs1.carry hb3; have hL3 := (hL1.carry hbT).carry hb3; have e1 := hb1.trans (hbT.mono hb1.size); have e3 := e1.trans (hb3.mono e1.size); obtain ⟨q0, q1, q2, q3, q4, q5, q6, q7⟩ := id hz3; clear cT hb3 hbT hs1 e1)
    | (go_at_call 8; refine (HTW.out _ _ _ _ hs3).mono ?_; rintro e w4 ⟨la4, ln4, lc4, rfl, hs4, hb4⟩; have hL4 := hL3.carry hb4; clear q0 q1 q2 q3 q4 q5 q6 q7)
    | (go_at_call 9; clear tk2; refine (HWR.out _ _ _ _ hs4 hL4).mono ?_; rintro e w5 ⟨a5, n5, c5, rfl, hr5, hb5⟩; have e4 := e3.trans (hb4.mono e3.size); have e5 := e4.trans (hb5.mono e4.size); have h45 := hb4.trans (hb5.mono hb4.size); have hz5 := hz3.carry h45; have hs5 := hs3.carry h45; have hL5 := hL3.carry h45; have hl5 := hr5.len; clear hs4 hL4 hb4 hb5 e3 e4 h45 hz3 hs3 hL3)
    | (at_builtin; clear tk3; refine wp_app0K rfl (.tmp 30) (.tmp 31) rfl rfl a5 n5 c5 X rfl hr5 (by omega) ?_; intro v6 w6 ho6 hb6 _; obtain ⟨a6, c6, rfl, hr6⟩ := Rd.ofOwn ho6 bX; have e6 := e5.trans (hb6.mono e5.size); have hz6 := hz5.carry hb6; have hs6 := hs5.carry hb6; have hL6 := hL5.carry hb6; have hr56 := hr5.carry (Nat.le_refl _) hb6; clear ho6 hb6 e5 hz5 hs5 hL5 hr5)
    | (go_at_call 16; clear tk4; refine (readGood _ _ _ X _ hr6 (by omega) hL6 _ _ _ _ _ _ _ _ hw0).mono ?_; rintro e w7 ⟨la7, ln7, lc7, rfl, hl7, hs7, hb7⟩; have hln : ln7 = ln1 := hl7.symm.trans hs6.len; subst hln; have hb8 : Below w7.heap.size w7 (w7.alloc (.cells #[.int .i64 (k : Int), .int .u64 I, .string A2, .string B2, .string T2, .slice la7 ln7 lc7, .int .i64 N, .float .f64 (bitsv F)] 26)) := (Below.refl _ _).alloc (Nat.le_refl _) _; have b68 := hb7.trans (hb8.mono hb7.size); have hz8 := SzAt.new (K := (k : Int)) (I := I) (A := A2) (B := B2) (T := T2) (la := la7) (ln := ln7) (lc := lc7) (N := N) (F := bitsv F) w7; have hy8 := hz6.carry b68; have hs8 := hs7.carry hb8; have ht8 := hs6.carry b68; have hL8 := hL6.carry b68; have hr8 := hr56.carry (Nat.le_refl _) b68; have e8 := e6.trans (b68.mono e6.size); clear hb7 hb8 b68 hz6 hs6 hL6 hr56 hs7 e6 hr6 hw0)
    | (at_builtin; clear tk5; refine wp_app0S (w7.heap.size + 1) (by simp) rfl (.tmp 37) (.tmp 38) rfl rfl a5 n5 c5 X rfl hr8 (by omega) ?_; intro v9 w9 ho9 hb9)
    | (at_builtin; clear tk6; refine wp_appK rfl (.tmp 39) (.tmp 41) rfl _ _ n5 X rfl (ho9.alloc _) _ 1 1 [J] rfl (rd_oneB w9 J hJ0 hJ1) (by omega) (Nat.le_trans hb9.size (by rw [World.size_alloc]; omega)) ?_; intro v10 w10 ho10 hg10 _; obtain ⟨a10, c10, rfl, hr10⟩ := Rd.ofOwn ho10 (bX.append (rd_oneB w9 J hJ0 hJ1).bytes); have b10 := hb9.trans (below_step (Below.refl _ _) hb9.size ho9 hg10); have hz10 := hz8.carry b10; have hy10 := hy8.carry b10; have hs10 := hs8.carry b10; have ht10 := ht8.carry b10; have hL10 := hL8.carry b10; have e10 := e8.trans (b10.mono e8.size); clear ho9 hb9 ho10 hg10 b10 hz8 hy8 hs8 ht8 hL8 e8 hr8)
    | (go_at_call 16; clear tk7; refine (readBad _ _ _ (X ++ [J]) _ hr10 (by omega) hL10 2 hw1).mono ?_; rintro e w11 ⟨la11, rfl, _, hb11⟩; have hb12 : Below w11.heap.size w11 (w11.alloc (.cells #[.int .i64 0, .int .u64 0, .string ⟨#[]⟩, .string ⟨#[]⟩, .string ⟨#[]⟩, .slice la11 0 0, .int .i64 0, .float .f64 0] 26)) := (Below.refl _ _).alloc (Nat.le_refl _) _; have b12 := hb11.trans (hb12.mono hb11.size); obtain ⟨q0, q1, q2, q3, q4, q5, q6, q7⟩ := hz10.carry b12; obtain ⟨r0, r1, r2, r3, r4, r5, r6, r7⟩ := hy10.carry b12; have hs12 := hs10.carry b12; have ht12 := ht10.carry b12; have hL12 := hL10.carry b12; have e12 := e10.trans (b12.mono e10.size); clear hz10 hy10 hs10 ht10 hL10 e10 hb11 hb12 b12 hr10 hw1)
    | (go_at_call 18; clear tk8; refine (same_true _ _ _ _ _ _ _ _ _ _ _ _ _ L2 _ ht12 hs12 (bitsv_idem F).symm).mono ?_; rintro e w13 ⟨rfl, hb13⟩; have e13 := e12.trans (hb13.mono e12.size); clear hs12 ht12 hL12 e12 hb13 q0 q1 q2 q3 q4 q5 q6 q7 r0 r1 r2 r3 r4 r5 r6 r7)
    | (go_at_call 15; clear tk9; refine (cZ _ rb nr cr (hRr.carry (Nat.le_refl _) e13)).mono ?_; rintro e w14 ⟨a14, n14, c14, rfl, hn14, hr14, hb14⟩; have e14 := e13.trans (hb14.mono e13.size); clear e13 hb14)
    | (go_at_call 15; refine (cY _ a14 n14 c14 hr14).mono ?_; rintro e w15 ⟨a15, n15, c15, rfl, hn15, hr15, hb15⟩; have e15 := e14.trans (hb15.mono e14.size); have hr14b := hr14.carry (Nat.le_refl _) hb15; clear e14 hb15 hr14)
    | (go_at_call 16; refine (readGood _ _ _ Z _ hr15 (by omega) (hL.carry e15) _ _ _ _ _ _ _ _ hp).mono ?_; rintro e w16 ⟨la16, ln16, lc16, rfl, hl16, hs16, hb16⟩; have hb17 : Below w16.heap.size w16 (w16.alloc (.cells #[.int .i64 (K' : Int), .int .u64 I', .string A3, .string B3, .string T3, .slice la16 ln16 lc16, .int .i64 N3, .float .f64 F3] 26)) := (Below.refl _ _).alloc (Nat.le_refl _) _; have b17 := hb16.trans (hb17.mono hb16.size); obtain ⟨q0, q1, q2, q3, q4, q5, q6, q7⟩ := SzAt.new (K := (K' : Int)) (I := I') (A := A3) (B := B3) (T := T3) (la := la16) (ln := ln16) (lc := lc16) (N := N3) (F := F3) w16; have hs17 := hs16.carry hb17; have e17 := e15.trans (b17.mono e15.size); have hr17 := hr14b.carry (Nat.le_refl _) b17; have hL17 := hL.carry e17; clear hb16 hb17 b17 hs16 e15 hr15 hr14b)
    | (go_at_call 9; refine (HW3.out _ _ _ _ hs17 hL17).mono ?_; rintro e w18 ⟨a18, n18, c18, rfl, hr18, hb18⟩; have e18 := e17.trans (hb18.mono e17.size); have hcv1 := hr18.string; have hcv2 := (hr17.carry (Nat.le_refl _) hb18).string; rw [HsZ.out] at hcv1 hcv2; clear hs17 hL17 e17 hb18 hr17 q0 q1 q2 q3 q4 q5 q6 q7)
    | (go_at_call 14; refine (wakes_any _ (hL.carry e18)).mono ?_; rintro e w19 ⟨rfl, hb19⟩))
  go_ret
  exact ⟨rfl, e18.trans (hb19.mono e18.size)⟩
set_option maxHeartbeats 6400000 in
set_option maxRecDepth 100000 in
theorem walk10 (K : Int) (I : Nat) (A B T : ByteArray) (la : Option Addr) (ln lc : Nat) (N : Int) (F : Nat) (L : List ByteArray) (rb : Option Addr) (nr cr : Nat) (zs : List Int) (J : Int) (w : World) (hR : SRd w la ln lc L) (hRr : Rd w rb nr cr zs) (hL : Lays w) (hA : A.size ≤ 9223372036854775807) (hB : B.size ≤ 9223372036854775807) (hT : T.size ≤ 9223372036854775807) (hI : I < 18446744073709551616) (hN0 : -9223372036854775808 ≤ N) (hN1 : N ≤ 9223372036854775807) (hF : F < 18446744073709551616) (hJ0 : 0 ≤ J) (hJ1 : J ≤ 255)
    (hE :  (chk K (cutS A 1100) (cutS B 1100) (cutS T 1100) (cutL L 70 1100) N F = 0)) (hQ : ¬ ((rdSt (zs.take 5000)).2.2.2 = 0)) :
    Calls Tryd.prog 5 #[.agg #[.int .i64 K, .int .u64 I, .string A, .string B, .string T, .slice la ln lc, .int .i64 N, .float .f64 F], .slice rb nr cr, .int .u8 J] w fun e w' => e = .returned (.bool true) ∧ Below w.heap.size w w' := by
  have hsf := run_store_float
  obtain ⟨hfit, hkn, hand⟩ := fit_of hN0 hN1 hF hE
  obtain ⟨k, rfl⟩ : ∃ k : Nat, K = (k : Int) := ⟨K.toNat, by have := kn_bd hkn; omega⟩
  have hb1 : Below w.heap.size w (w.alloc (.cells #[.int .i64 (k : Int), .int .u64 I, .string A, .string B, .string T, .slice la ln lc, .int .i64 N, .float .f64 F] 26)) := (Below.refl _ _).alloc (Nat.le_refl _) _
  have cT := stwin_any (k : Int) I A B T la ln lc N F L _ (hR.carry hb1) hA hB hT
  have hA' := cutS_size A 1100
  have hB' := cutS_size B 1100
  have hT' := cutS_size T 1100
  have hl' := cutL_len L 70 1100
  have hs' := cutL_size L 70 1100
  have hL1 := hL.carry hb1
  generalize cutS A 1100 = A2 at cT hA' hE hfit hand
  generalize cutS B 1100 = B2 at cT hB' hE hfit hand
  generalize cutS T 1100 = T2 at cT hT' hE hfit hand
  generalize cutL L 70 1100 = L2 at cT hl' hs' hE hfit hand
  have HTW : Hid (∀ (a : Option Addr) (n c : Nat) (w : World), SRd w a n c L2 → Calls Tryd.prog 8 #[.agg #[.int .i64 (k : Int), .int .u64 I, .string A2, .string B2, .string T2, .slice a n c, .int .i64 N, .float .f64 F]] w fun e w' => ∃ la' ln' lc', e = .returned (.agg #[.int .i64 (k : Int), .int .u64 I, .string A2, .string B2, .string T2, .slice la' ln' lc', .int .i64 N, .float .f64 F]) ∧ SRd w' la' ln' lc' L2 ∧ Below w.heap.size w w') := fun a n c w h => stwin_id (k : Int) I A2 B2 T2 a n c N F L2 w h hA' hB' hT' hl' hs'
  have lX := wform_len hI hN0 hN1 hE
  have HWR : Hid (∀ (a : Option Addr) (n c : Nat) (w : World), SRd w a n c L2 → Lays w → Calls Tryd.prog 9 #[.agg #[.int .i64 (k : Int), .int .u64 I, .string A2, .string B2, .string T2, .slice a n c, .int .i64 N, .float .f64 F]] w fun e w' => ∃ a n c, e = .returned (.tuple #[.slice a n c, .int .i64 0]) ∧ Rd w' a n c (wform (k : Int) I A2 B2 T2 L2 N F) ∧ Below w.heap.size w w') := fun a n c w h hL => (write_any (k : Int) I A2 B2 T2 a n c N F L2 w hL h hA' hB' hT' hI hN0 hN1 hF).mono (by rw [hE]; rintro e w' ⟨a, n, c, rfl, _, h2, h3⟩; exact ⟨a, n, c, rfl, h2 rfl, h3⟩)
  have hrw := fun Y => rd_write (k : Int) I ⟨A2, B2, T2, L2, N, F⟩ Y hfit hkn hI hand
  have hw0 : rdSt (wform (k : Int) I A2 B2 T2 L2 N F) = (k, I, ⟨A2, B2, T2, L2, N, bitsv F⟩, 0) := by have := hrw []; rw [List.append_nil] at this; rw [show wform (k : Int) I A2 B2 T2 L2 N F = wz (k : Int) I ⟨A2, B2, T2, L2, N, F⟩ from rfl, this, if_neg (by simp)]; rfl
  have hw1 : rdSt (wform (k : Int) I A2 B2 T2 L2 N F ++ [J]) = (0, 0, sz0, 2) := by have := hrw [J]; rw [show wform (k : Int) I A2 B2 T2 L2 N F = wz (k : Int) I ⟨A2, B2, T2, L2, N, F⟩ from rfl, this, if_pos (by simp)]
  have bX := wform_bd (k : Int) I A2 B2 T2 L2 N F
  generalize wform (k : Int) I A2 B2 T2 L2 N F = X at HWR hw0 hw1 lX bX
  clear hrw hfit hkn hand hE
  have lZ : (zs.take 5000).length ≤ 5000 := by rw [List.length_take]; omega
  have bZ : Bd (zs.take 5000) := hRr.bytes.take 5000
  have cZ := fun w a n c (h : Rd w a n c zs) => twinX a n c zs w h
  have HTT : Hid ((zs.take 5000).take 5000 = zs.take 5000) := by show _ = _; rw [List.take_take, Nat.min_self]
  have cY := fun w a n c (h : Rd w a n c (zs.take 5000)) => twinX a n c (zs.take 5000) w h
  simp only [HTT.out] at cY
  have hp := rdSt_zero _ hQ
  have hnq : (((rdSt (zs.take 5000)).2.2.2 : Nat) : Int) ≠ 0 := by omega
  generalize (rdSt (zs.take 5000)).2.2.2 = E' at hp hnq
  have hnqb : ((E' : Int) == 0) = false := beq_eq_false_iff_ne.2 hnq
  clear hQ hnq
  generalize zs.take 5000 = Z at cZ cY hp lZ bZ
  obtain ⟨sZ, HsZ⟩ : ∃ s, Hid (strOfNums Z = s) := ⟨_, rfl⟩
  clear HTT hA' hB' hT' hl' hs' hA hB hT hR lZ bZ
  have tk1 : True := trivial
  have tk2 : True := trivial
  have tk3 : True := trivial
  have tk4 : True := trivial
  have tk5 : True := trivial
  have tk6 : True := trivial
  have tk7 : True := trivial
  have tk8 : True := trivial
  have tk9 : True := trivial
  go_enter Tryd.func5, Tryd.ntmps5
  go_wp2_with (first
    | (go_at_call 8; clear tk1; refine cT.mono ?_; rintro e w1 ⟨la1, ln1, lc1, rfl, _, hs1, hbT⟩; have hb3 : Below w1.heap.size w1 (w1.alloc (.cells #[.int .i64 (k : Int), .int .u64 I, .string A2, .string B2, .string T2, .slice la1 ln1 lc1, .int .i64 N, .float .f64 F] 26)) := (Below.refl _ _).alloc (Nat.le_refl _) _; have hz3 := SzAt.new (K := (k : Int)) (I := I) (A := A2) (B := B2) (T := T2) (la := la1) (ln := ln1) (lc := lc1) (N := N) (F := F) w1; have hs3 := hs1.carry hb3; have hL3 := (hL1.carry hbT).carry hb3; have e1 := hb1.trans (hbT.mono hb1.size); have e3 := e1.trans (hb3.mono e1.size); obtain ⟨q0, q1, q2, q3, q4, q5, q6, q7⟩ := id hz3; clear cT hb3 hbT hs1 e1)
    | (go_at_call 8; refine (HTW.out _ _ _ _ hs3).mono ?_; rintro e w4 ⟨la4, ln4, lc4, rfl, hs4, hb4⟩; have hL4 := hL3.carry hb4; clear q0 q1 q2 q3 q4 q5 q6 q7)
    | (go_at_call 9; clear tk2; refine (HWR.out _ _ _ _ hs4 hL4).mono ?_; rintro e w5 ⟨a5, n5, c5, rfl, hr5, hb5⟩; have e4 := e3.trans (hb4.mono e3.size); have e5 := e4.trans (hb5.mono e4.size); have h45 := hb4.trans (hb5.mono hb4.size); have hz5 := hz3.carry h45; have hs5 := hs3.carry h45; have hL5 := hL3.carry h45; have hl5 := hr5.len; clear hs4 hL4 hb4 hb5 e3 e4 h45 hz3 hs3 hL3)
    | (at_builtin; clear tk3; refine wp_app0K rfl (.tmp 30) (.tmp 31) rfl rfl a5 n5 c5 X rfl hr5 (by omega) ?_; intro v6 w6 ho6 hb6 _; obtain ⟨a6, c6, rfl, hr6⟩ := Rd.ofOwn ho6 bX; have e6 := e5.trans (hb6.mono e5.size); have hz6 := hz5.carry hb6; have hs6 := hs5.carry hb6; have hL6 := hL5.carry hb6; have hr56 := hr5.carry (Nat.le_refl _) hb6; clear ho6 hb6 e5 hz5 hs5 hL5 hr5)
    | (go_at_call 16; clear tk4; refine (readGood _ _ _ X _ hr6 (by omega) hL6 _ _ _ _ _ _ _ _ hw0).mono ?_; rintro e w7 ⟨la7, ln7, lc7, rfl, hl7, hs7, hb7⟩; have hln : ln7 = ln1 := hl7.symm.trans hs6.len; subst hln; have hb8 : Below w7.heap.size w7 (w7.alloc (.cells #[.int .i64 (k : Int), .int .u64 I, .string A2, .string B2, .string T2, .slice la7 ln7 lc7, .int .i64 N, .float .f64 (bitsv F)] 26)) := (Below.refl _ _).alloc (Nat.le_refl _) _; have b68 := hb7.trans (hb8.mono hb7.size); have hz8 := SzAt.new (K := (k : Int)) (I := I) (A := A2) (B := B2) (T := T2) (la := la7) (ln := ln7) (lc := lc7) (N := N) (F := bitsv F) w7; have hy8 := hz6.carry b68; have hs8 := hs7.carry hb8; have ht8 := hs6.carry b68; have hL8 := hL6.carry b68; have hr8 := hr56.carry (Nat.le_refl _) b68; have e8 := e6.trans (b68.mono e6.size); clear hb7 hb8 b68 hz6 hs6 hL6 hr56 hs7 e6 hr6 hw0)
    | (at_builtin; clear tk5; refine wp_app0S (w7.heap.size + 1) (by simp) rfl (.tmp 37) (.tmp 38) rfl rfl a5 n5 c5 X rfl hr8 (by omega) ?_; intro v9 w9 ho9 hb9)
    | (at_builtin; clear tk6; refine wp_appK rfl (.tmp 39) (.tmp 41) rfl _ _ n5 X rfl (ho9.alloc _) _ 1 1 [J] rfl (rd_oneB w9 J hJ0 hJ1) (by omega) (Nat.le_trans hb9.size (by rw [World.size_alloc]; omega)) ?_; intro v10 w10 ho10 hg10 _; obtain ⟨a10, c10, rfl, hr10⟩ := Rd.ofOwn ho10 (bX.append (rd_oneB w9 J hJ0 hJ1).bytes); have b10 := hb9.trans (below_step (Below.refl _ _) hb9.size ho9 hg10); have hz10 := hz8.carry b10; have hy10 := hy8.carry b10; have hs10 := hs8.carry b10; have ht10 := ht8.carry b10; have hL10 := hL8.carry b10; have e10 := e8.trans (b10.mono e8.size); clear ho9 hb9 ho10 hg10 b10 hz8 hy8 hs8 ht8 hL8 e8 hr8)
    | (go_at_call 16; clear tk7; refine (readBad _ _ _ (X ++ [J]) _ hr10 (by omega) hL10 2 hw1).mono ?_; rintro e w11 ⟨la11, rfl, _, hb11⟩; have hb12 : Below w11.heap.size w11 (w11.alloc (.cells #[.int .i64 0, .int .u64 0, .string ⟨#[]⟩, .string ⟨#[]⟩, .string ⟨#[]⟩, .slice la11 0 0, .int .i64 0, .float .f64 0] 26)) := (Below.refl _ _).alloc (Nat.le_refl _) _; have b12 := hb11.trans (hb12.mono hb11.size); obtain ⟨q0, q1, q2, q3, q4, q5, q6, q7⟩ := hz10.carry b12; obtain ⟨r0, r1, r2, r3, r4, r5, r6, r7⟩ := hy10.carry b12; have hs12 := hs10.carry b12; have ht12 := ht10.carry b12; have hL12 := hL10.carry b12; have e12 := e10.trans (b12.mono e10.size); clear hz10 hy10 hs10 ht10 hL10 e10 hb11 hb12 b12 hr10 hw1)
    | (go_at_call 18; clear tk8; refine (same_true _ _ _ _ _ _ _ _ _ _ _ _ _ L2 _ ht12 hs12 (bitsv_idem F).symm).mono ?_; rintro e w13 ⟨rfl, hb13⟩; have e13 := e12.trans (hb13.mono e12.size); clear hs12 ht12 hL12 e12 hb13 q0 q1 q2 q3 q4 q5 q6 q7 r0 r1 r2 r3 r4 r5 r6 r7)
    | (go_at_call 15; clear tk9; refine (cZ _ rb nr cr (hRr.carry (Nat.le_refl _) e13)).mono ?_; rintro e w14 ⟨a14, n14, c14, rfl, hn14, hr14, hb14⟩; have e14 := e13.trans (hb14.mono e13.size); clear e13 hb14)
    | (go_at_call 15; refine (cY _ a14 n14 c14 hr14).mono ?_; rintro e w15 ⟨a15, n15, c15, rfl, hn15, hr15, hb15⟩; have e15 := e14.trans (hb15.mono e14.size); have hr14b := hr14.carry (Nat.le_refl _) hb15; clear e14 hb15 hr14)
    | (go_at_call 16; refine (readBad _ _ _ Z _ hr15 (by omega) (hL.carry e15) _ hp).mono ?_; rintro e w16 ⟨la16, rfl, hs16, hb16⟩; have hb17 : Below w16.heap.size w16 (w16.alloc (.cells #[.int .i64 0, .int .u64 0, .string ⟨#[]⟩, .string ⟨#[]⟩, .string ⟨#[]⟩, .slice la16 0 0, .int .i64 0, .float .f64 0] 26)) := (Below.refl _ _).alloc (Nat.le_refl _) _; have b17 := hb16.trans (hb17.mono hb16.size); obtain ⟨q0, q1, q2, q3, q4, q5, q6, q7⟩ := SzAt.new (K := 0) (I := 0) (A := ⟨#[]⟩) (B := ⟨#[]⟩) (T := ⟨#[]⟩) (la := la16) (ln := 0) (lc := 0) (N := 0) (F := 0) w16; have hs17 := hs16.carry hb17; have e17 := e15.trans (b17.mono e15.size); clear hb16 hb17 b17 hs16 e15 hr15 hr14b)
    | (go_at_call 18; refine (same_true 0 0 ⟨#[]⟩ ⟨#[]⟩ ⟨#[]⟩ la16 0 0 0 0 0 none 0 [] _ hs17 (srd_nil _) rfl).mono ?_; rintro e w18 ⟨rfl, hb18⟩; have e18 := e17.trans (hb18.mono e17.size); clear hs17 e17 hb18 q0 q1 q2 q3 q4 q5 q6 q7)
    | (go_at_call 14; refine (wakes_any _ (hL.carry e18)).mono ?_; rintro e w19 ⟨rfl, hb19⟩))
  go_ret
  exact ⟨rfl, e18.trans (hb19.mono e18.size)⟩
set_option maxHeartbeats 6400000 in
set_option maxRecDepth 100000 in
theorem walk01 (K : Int) (I : Nat) (A B T : ByteArray) (la : Option Addr) (ln lc : Nat) (N : Int) (F : Nat) (L : List ByteArray) (rb : Option Addr) (nr cr : Nat) (zs : List Int) (J : Int) (w : World) (hR : SRd w la ln lc L) (hRr : Rd w rb nr cr zs) (hL : Lays w) (hA : A.size ≤ 9223372036854775807) (hB : B.size ≤ 9223372036854775807) (hT : T.size ≤ 9223372036854775807) (hI : I < 18446744073709551616) (hN0 : -9223372036854775808 ≤ N) (hN1 : N ≤ 9223372036854775807) (hF : F < 18446744073709551616) (_hJ0 : 0 ≤ J) (_hJ1 : J ≤ 255)
    (hE : ¬ (chk K (cutS A 1100) (cutS B 1100) (cutS T 1100) (cutL L 70 1100) N F = 0)) (hQ :  ((rdSt (zs.take 5000)).2.2.2 = 0)) :
    Calls Tryd.prog 5 #[.agg #[.int .i64 K, .int .u64 I, .string A, .string B, .string T, .slice la ln lc, .int .i64 N, .float .f64 F], .slice rb nr cr, .int .u8 J] w fun e w' => e = .returned (.bool true) ∧ Below w.heap.size w w' := by
  have hsf := run_store_float
  have hb1 : Below w.heap.size w (w.alloc (.cells #[.int .i64 K, .int .u64 I, .string A, .string B, .string T, .slice la ln lc, .int .i64 N, .float .f64 F] 26)) := (Below.refl _ _).alloc (Nat.le_refl _) _
  have cT := stwin_any K I A B T la ln lc N F L _ (hR.carry hb1) hA hB hT
  have hA' := cutS_size A 1100
  have hB' := cutS_size B 1100
  have hT' := cutS_size T 1100
  have hl' := cutL_len L 70 1100
  have hs' := cutL_size L 70 1100
  have hL1 := hL.carry hb1
  generalize cutS A 1100 = A2 at cT hA' hE
  generalize cutS B 1100 = B2 at cT hB' hE
  generalize cutS T 1100 = T2 at cT hT' hE
  generalize cutL L 70 1100 = L2 at cT hl' hs' hE
  have HTW : Hid (∀ (a : Option Addr) (n c : Nat) (w : World), SRd w a n c L2 → Calls Tryd.prog 8 #[.agg #[.int .i64 K, .int .u64 I, .string A2, .string B2, .string T2, .slice a n c, .int .i64 N, .float .f64 F]] w fun e w' => ∃ la' ln' lc', e = .returned (.agg #[.int .i64 K, .int .u64 I, .string A2, .string B2, .string T2, .slice la' ln' lc', .int .i64 N, .float .f64 F]) ∧ SRd w' la' ln' lc' L2 ∧ Below w.heap.size w w') := fun a n c w h => stwin_id K I A2 B2 T2 a n c N F L2 w h hA' hB' hT' hl' hs'
  have hne : ((chk K A2 B2 T2 L2 N F : Nat) : Int) ≠ 0 := by omega
  have HWR : Hid (∀ (a : Option Addr) (n c : Nat) (w : World), SRd w a n c L2 → Lays w → Calls Tryd.prog 9 #[.agg #[.int .i64 K, .int .u64 I, .string A2, .string B2, .string T2, .slice a n c, .int .i64 N, .float .f64 F]] w fun e w' => ∃ a n c, e = .returned (.tuple #[.slice a n c, .int .i64 ((chk K A2 B2 T2 L2 N F : Nat) : Int)]) ∧ Below w.heap.size w w') := fun a n c w h hL => (write_any K I A2 B2 T2 a n c N F L2 w hL h hA' hB' hT' hI hN0 hN1 hF).mono (by rintro e w' ⟨a, n, c, rfl, _, _, h3⟩; exact ⟨a, n, c, rfl, h3⟩)
  generalize ((chk K A2 B2 T2 L2 N F : Nat) : Int) = E at HWR hne
  have hneb : (E == 0) = false := beq_eq_false_iff_ne.2 hne
  clear hne hE
  have lZ : (zs.take 5000).length ≤ 5000 := by rw [List.length_take]; omega
  have bZ : Bd (zs.take 5000) := hRr.bytes.take 5000
  have cZ := fun w a n c (h : Rd w a n c zs) => twinX a n c zs w h
  have HTT : Hid ((zs.take 5000).take 5000 = zs.take 5000) := by show _ = _; rw [List.take_take, Nat.min_self]
  have cY := fun w a n c (h : Rd w a n c (zs.take 5000)) => twinX a n c (zs.take 5000) w h
  simp only [HTT.out] at cY
  obtain ⟨K', I', z', E', hp⟩ : ∃ K' I' z' E', rdSt (zs.take 5000) = (K', I', z', E') := ⟨_, _, _, _, rfl⟩
  rw [hp] at hQ
  have hQ' : E' = 0 := hQ
  subst hQ'
  obtain ⟨A3, B3, T3, L3, N3, F3⟩ := z'
  obtain ⟨f1, f2, f3, f4, f5, f6⟩ := write_rd bZ hp
  have f6' : wform (K' : Int) I' A3 B3 T3 L3 N3 F3 = zs.take 5000 := f6
  rw [show K' = ((K' : Int)).toNat from rfl] at f5
  have hc3 := chk_of (K := (K' : Int)) (z := ⟨A3, B3, T3, L3, N3, F3⟩) f1 f3 f5
  dsimp only at hc3
  obtain ⟨_, sA3, sB3, sT3, _, _⟩ := chk_ok hc3
  have HW3 : Hid (∀ (a : Option Addr) (n c : Nat) (w : World), SRd w a n c L3 → Lays w → Calls Tryd.prog 9 #[.agg #[.int .i64 (K' : Int), .int .u64 I', .string A3, .string B3, .string T3, .slice a n c, .int .i64 N3, .float .f64 F3]] w fun e w' => ∃ a n c, e = .returned (.tuple #[.slice a n c, .int .i64 0]) ∧ Rd w' a n c (zs.take 5000) ∧ Below w.heap.size w w') := fun a n c w h hL => (write_any (K' : Int) I' A3 B3 T3 a n c N3 F3 L3 w hL h (by omega) (by omega) (by omega) f4 f1.n0 f1.n1 f1.f).mono (by rw [hc3]; rintro e w' ⟨a, n, c, rfl, _, h2, h3⟩; have h4 := h2 rfl; rw [f6'] at h4; exact ⟨a, n, c, rfl, h4, h3⟩)
  clear f1 f2 f3 f4 f5 f6 f6' hc3 sA3 sB3 sT3 hQ
  generalize zs.take 5000 = Z at cZ cY hp lZ bZ HW3
  obtain ⟨sZ, HsZ⟩ : ∃ s, Hid (strOfNums Z = s) := ⟨_, rfl⟩
  clear HTT hA' hB' hT' hl' hs' hA hB hT hR lZ bZ
  have tk1 : True := trivial
  have tk2 : True := trivial
  have tk3 : True := trivial
  have tk4 : True := trivial
  have tk5 : True := trivial
  have tk6 : True := trivial
  have tk7 : True := trivial
  have tk8 : True := trivial
  have tk9 : True := trivial
  go_enter Tryd.func5, Tryd.ntmps5
  go_wp2_with (first
    | (go_at_call 8; clear tk1; refine cT.mono ?_; rintro e w1 ⟨la1, ln1, lc1, rfl, _, hs1, hbT⟩; have hb3 : Below w1.heap.size w1 (w1.alloc (.cells #[.int .i64 K, .int .u64 I, .string A2, .string B2, .string T2, .slice la1 ln1 lc1, .int .i64 N, .float .f64 F] 26)) := (Below.refl _ _).alloc (Nat.le_refl _) _; have hz3 := SzAt.new (K := K) (I := I) (A := A2) (B := B2) (T := T2) (la := la1) (ln := ln1) (lc := lc1) (N := N) (F := F) w1; have hs3 := hs1.carry hb3; have hL3 := (hL1.carry hbT).carry hb3; have e1 := hb1.trans (hbT.mono hb1.size); have e3 := e1.trans (hb3.mono e1.size); obtain ⟨q0, q1, q2, q3, q4, q5, q6, q7⟩ := id hz3; clear cT hb3 hbT hs1 e1)
    | (go_at_call 8; refine (HTW.out _ _ _ _ hs3).mono ?_; rintro e w4 ⟨la4, ln4, lc4, rfl, hs4, hb4⟩; have hL4 := hL3.carry hb4; clear q0 q1 q2 q3 q4 q5 q6 q7)
    | (go_at_call 9; clear tk2; refine (HWR.out _ _ _ _ hs4 hL4).mono ?_; rintro e w5 ⟨a5, n5, c5, rfl, hb5⟩; have e4 := e3.trans (hb4.mono e3.size); have e13 := e4.trans (hb5.mono e4.size); clear hs4 hL4 hb4 hb5 e3 e4 hz3 hs3 hL3)
    | (go_at_call 15; clear tk9; refine (cZ _ rb nr cr (hRr.carry (Nat.le_refl _) e13)).mono ?_; rintro e w14 ⟨a14, n14, c14, rfl, hn14, hr14, hb14⟩; have e14 := e13.trans (hb14.mono e13.size); clear e13 hb14)
    | (go_at_call 15; refine (cY _ a14 n14 c14 hr14).mono ?_; rintro e w15 ⟨a15, n15, c15, rfl, hn15, hr15, hb15⟩; have e15 := e14.trans (hb15.mono e14.size); have hr14b := hr14.carry (Nat.le_refl _) hb15; clear e14 hb15 hr14)
    | (go_at_call 16; refine (readGood _ _ _ Z _ hr15 (by omega) (hL.carry e15) _ _ _ _ _ _ _ _ hp).mono ?_; rintro e w16 ⟨la16, ln16, lc16, rfl, hl16, hs16, hb16⟩; have hb17 : Below w16.heap.size w16 (w16.alloc (.cells #[.int .i64 (K' : Int), .int .u64 I', .string A3, .string B3, .string T3, .slice la16 ln16 lc16, .int .i64 N3, .float .f64 F3] 26)) := (Below.refl _ _).alloc (Nat.le_refl _) _; have b17 := hb16.trans (hb17.mono hb16.size); obtain ⟨q0, q1, q2, q3, q4, q5, q6, q7⟩ := SzAt.new (K := (K' : Int)) (I := I') (A := A3) (B := B3) (T := T3) (la := la16) (ln := ln16) (lc := lc16) (N := N3) (F := F3) w16; have hs17 := hs16.carry hb17; have e17 := e15.trans (b17.mono e15.size); have hr17 := hr14b.carry (Nat.le_refl _) b17; have hL17 := hL.carry e17; clear hb16 hb17 b17 hs16 e15 hr15 hr14b)
    | (go_at_call 9; refine (HW3.out _ _ _ _ hs17 hL17).mono ?_; rintro e w18 ⟨a18, n18, c18, rfl, hr18, hb18⟩; have e18 := e17.trans (hb18.mono e17.size); have hcv1 := hr18.string; have hcv2 := (hr17.carry (Nat.le_refl _) hb18).string; rw [HsZ.out] at hcv1 hcv2; clear hs17 hL17 e17 hb18 hr17 q0 q1 q2 q3 q4 q5 q6 q7)
    | (go_at_call 14; refine (wakes_any _ (hL.carry e18)).mono ?_; rintro e w19 ⟨rfl, hb19⟩))
  go_ret
  exact ⟨rfl, e18.trans (hb19.mono e18.size)⟩
set_option maxHeartbeats 6400000 in
set_option maxRecDepth 100000 in
theorem walk00 (K : Int) (I : Nat) (A B T : ByteArray) (la : Option Addr) (ln lc : Nat) (N : Int) (F : Nat) (L : List ByteArray) (rb : Option Addr) (nr cr : Nat) (zs : List Int) (J : Int) (w : World) (hR : SRd w la ln lc L) (hRr : Rd w rb nr cr zs) (hL : Lays w) (hA : A.size ≤ 9223372036854775807) (hB : B.size ≤ 9223372036854775807) (hT : T.size ≤ 9223372036854775807) (hI : I < 18446744073709551616) (hN0 : -9223372036854775808 ≤ N) (hN1 : N ≤ 9223372036854775807) (hF : F < 18446744073709551616) (_hJ0 : 0 ≤ J) (_hJ1 : J ≤ 255)
    (hE : ¬ (chk K (cutS A 1100) (cutS B 1100) (cutS T 1100) (cutL L 70 1100) N F = 0)) (hQ : ¬ ((rdSt (zs.take 5000)).2.2.2 = 0)) :
    Calls Tryd.prog 5 #[.agg #[.int .i64 K, .int .u64 I, .string A, .string B, .string T, .slice la ln lc, .int .i64 N, .float .f64 F], .slice rb nr cr, .int .u8 J] w fun e w' => e = .returned (.bool true) ∧ Below w.heap.size w w' := by
  have hsf := run_store_float
  have hb1 : Below w.heap.size w (w.alloc (.cells #[.int .i64 K, .int .u64 I, .string A, .string B, .string T, .slice la ln lc, .int .i64 N, .float .f64 F] 26)) := (Below.refl _ _).alloc (Nat.le_refl _) _
  have cT := stwin_any K I A B T la ln lc N F L _ (hR.carry hb1) hA hB hT
  have hA' := cutS_size A 1100
  have hB' := cutS_size B 1100
  have hT' := cutS_size T 1100
  have hl' := cutL_len L 70 1100
  have hs' := cutL_size L 70 1100
  have hL1 := hL.carry hb1
  generalize cutS A 1100 = A2 at cT hA' hE
  generalize cutS B 1100 = B2 at cT hB' hE
  generalize cutS T 1100 = T2 at cT hT' hE
  generalize cutL L 70 1100 = L2 at cT hl' hs' hE
  have HTW : Hid (∀ (a : Option Addr) (n c : Nat) (w : World), SRd w a n c L2 → Calls Tryd.prog 8 #[.agg #[.int .i64 K, .int .u64 I, .string A2, .string B2, .string T2, .slice a n c, .int .i64 N, .float .f64 F]] w fun e w' => ∃ la' ln' lc', e = .returned (.agg #[.int .i64 K, .int .u64 I, .string A2, .string B2, .string T2, .slice la' ln' lc', .int .i64 N, .float .f64 F]) ∧ SRd w' la' ln' lc' L2 ∧ Below w.heap.size w w') := fun a n c w h => stwin_id K I A2 B2 T2 a n c N F L2 w h hA' hB' hT' hl' hs'
  have hne : ((chk K A2 B2 T2 L2 N F : Nat) : Int) ≠ 0 := by omega
  have HWR : Hid (∀ (a : Option Addr) (n c : Nat) (w : World), SRd w a n c L2 → Lays w → Calls Tryd.prog 9 #[.agg #[.int .i64 K, .int .u64 I, .string A2, .string B2, .string T2, .slice a n c, .int .i64 N, .float .f64 F]] w fun e w' => ∃ a n c, e = .returned (.tuple #[.slice a n c, .int .i64 ((chk K A2 B2 T2 L2 N F : Nat) : Int)]) ∧ Below w.heap.size w w') := fun a n c w h hL => (write_any K I A2 B2 T2 a n c N F L2 w hL h hA' hB' hT' hI hN0 hN1 hF).mono (by rintro e w' ⟨a, n, c, rfl, _, _, h3⟩; exact ⟨a, n, c, rfl, h3⟩)
  generalize ((chk K A2 B2 T2 L2 N F : Nat) : Int) = E at HWR hne
  have hneb : (E == 0) = false := beq_eq_false_iff_ne.2 hne
  clear hne hE
  have lZ : (zs.take 5000).length ≤ 5000 := by rw [List.length_take]; omega
  have bZ : Bd (zs.take 5000) := hRr.bytes.take 5000
  have cZ := fun w a n c (h : Rd w a n c zs) => twinX a n c zs w h
  have HTT : Hid ((zs.take 5000).take 5000 = zs.take 5000) := by show _ = _; rw [List.take_take, Nat.min_self]
  have cY := fun w a n c (h : Rd w a n c (zs.take 5000)) => twinX a n c (zs.take 5000) w h
  simp only [HTT.out] at cY
  have hp := rdSt_zero _ hQ
  have hnq : (((rdSt (zs.take 5000)).2.2.2 : Nat) : Int) ≠ 0 := by omega
  generalize (rdSt (zs.take 5000)).2.2.2 = E' at hp hnq
  have hnqb : ((E' : Int) == 0) = false := beq_eq_false_iff_ne.2 hnq
  clear hQ hnq
  generalize zs.take 5000 = Z at cZ cY hp lZ bZ
  obtain ⟨sZ, HsZ⟩ : ∃ s, Hid (strOfNums Z = s) := ⟨_, rfl⟩
  clear HTT hA' hB' hT' hl' hs' hA hB hT hR lZ bZ
  have tk1 : True := trivial
  have tk2 : True := trivial
  have tk3 : True := trivial
  have tk4 : True := trivial
  have tk5 : True := trivial
  have tk6 : True := trivial
  have tk7 : True := trivial
  have tk8 : True := trivial
  have tk9 : True := trivial
  go_enter Tryd.func5, Tryd.ntmps5
  go_wp2_with (first
    | (go_at_call 8; clear tk1; refine cT.mono ?_; rintro e w1 ⟨la1, ln1, lc1, rfl, _, hs1, hbT⟩; have hb3 : Below w1.heap.size w1 (w1.alloc (.cells #[.int .i64 K, .int .u64 I, .string A2, .string B2, .string T2, .slice la1 ln1 lc1, .int .i64 N, .float .f64 F] 26)) := (Below.refl _ _).alloc (Nat.le_refl _) _; have hz3 := SzAt.new (K := K) (I := I) (A := A2) (B := B2) (T := T2) (la := la1) (ln := ln1) (lc := lc1) (N := N) (F := F) w1; have hs3 := hs1.carry hb3; have hL3 := (hL1.carry hbT).carry hb3; have e1 := hb1.trans (hbT.mono hb1.size); have e3 := e1.trans (hb3.mono e1.size); obtain ⟨q0, q1, q2, q3, q4, q5, q6, q7⟩ := id hz3; clear cT hb3 hbT hs1 e1)
    | (go_at_call 8; refine (HTW.out _ _ _ _ hs3).mono ?_; rintro e w4 ⟨la4, ln4, lc4, rfl, hs4, hb4⟩; have hL4 := hL3.carry hb4; clear q0 q1 q2 q3 q4 q5 q6 q7)
    | (go_at_call 9; clear tk2; refine (HWR.out _ _ _ _ hs4 hL4).mono ?_; rintro e w5 ⟨a5, n5, c5, rfl, hb5⟩; have e4 := e3.trans (hb4.mono e3.size); have e13 := e4.trans (hb5.mono e4.size); clear hs4 hL4 hb4 hb5 e3 e4 hz3 hs3 hL3)
    | (go_at_call 15; clear tk9; refine (cZ _ rb nr cr (hRr.carry (Nat.le_refl _) e13)).mono ?_; rintro e w14 ⟨a14, n14, c14, rfl, hn14, hr14, hb14⟩; have e14 := e13.trans (hb14.mono e13.size); clear e13 hb14)
    | (go_at_call 15; refine (cY _ a14 n14 c14 hr14).mono ?_; rintro e w15 ⟨a15, n15, c15, rfl, hn15, hr15, hb15⟩; have e15 := e14.trans (hb15.mono e14.size); have hr14b := hr14.carry (Nat.le_refl _) hb15; clear e14 hb15 hr14)
    | (go_at_call 16; refine (readBad _ _ _ Z _ hr15 (by omega) (hL.carry e15) _ hp).mono ?_; rintro e w16 ⟨la16, rfl, hs16, hb16⟩; have hb17 : Below w16.heap.size w16 (w16.alloc (.cells #[.int .i64 0, .int .u64 0, .string ⟨#[]⟩, .string ⟨#[]⟩, .string ⟨#[]⟩, .slice la16 0 0, .int .i64 0, .float .f64 0] 26)) := (Below.refl _ _).alloc (Nat.le_refl _) _; have b17 := hb16.trans (hb17.mono hb16.size); obtain ⟨q0, q1, q2, q3, q4, q5, q6, q7⟩ := SzAt.new (K := 0) (I := 0) (A := ⟨#[]⟩) (B := ⟨#[]⟩) (T := ⟨#[]⟩) (la := la16) (ln := 0) (lc := 0) (N := 0) (F := 0) w16; have hs17 := hs16.carry hb17; have e17 := e15.trans (b17.mono e15.size); clear hb16 hb17 b17 hs16 e15 hr15 hr14b)
    | (go_at_call 18; refine (same_true 0 0 ⟨#[]⟩ ⟨#[]⟩ ⟨#[]⟩ la16 0 0 0 0 0 none 0 [] _ hs17 (srd_nil _) rfl).mono ?_; rintro e w18 ⟨rfl, hb18⟩; have e18 := e17.trans (hb18.mono e17.size); clear hs17 e17 hb18 q0 q1 q2 q3 q4 q5 q6 q7)
    | (go_at_call 14; refine (wakes_any _ (hL.carry e18)).mono ?_; rintro e w19 ⟨rfl, hb19⟩))
  go_ret
  exact ⟨rfl, e18.trans (hb19.mono e18.size)⟩
theorem walkN (K : Int) (I : Nat) (A B T : ByteArray) (la : Option Addr) (ln lc : Nat) (N : Int) (F : Nat) (L : List ByteArray) (rb : Option Addr) (nr cr : Nat) (zs : List Int) (J : Int) (w : World) (hR : SRd w la ln lc L) (hRr : Rd w rb nr cr zs) (hL : Lays w) (hA : A.size ≤ 9223372036854775807) (hB : B.size ≤ 9223372036854775807) (hT : T.size ≤ 9223372036854775807) (hI : I < 18446744073709551616) (hN0 : -9223372036854775808 ≤ N) (hN1 : N ≤ 9223372036854775807) (hF : F < 18446744073709551616) (hJ0 : 0 ≤ J) (hJ1 : J ≤ 255) :
    Calls Tryd.prog 5 #[.agg #[.int .i64 K, .int .u64 I, .string A, .string B, .string T, .slice la ln lc, .int .i64 N, .float .f64 F], .slice rb nr cr, .int .u8 J] w fun e w' => e = .returned (.bool true) ∧ Below w.heap.size w w' := by
  by_cases hE : chk K (cutS A 1100) (cutS B 1100) (cutS T 1100) (cutL L 70 1100) N F = 0
  · by_cases hQ : (rdSt (zs.take 5000)).2.2.2 = 0
    · exact walk11 K I A B T la ln lc N F L rb nr cr zs J w hR hRr hL hA hB hT hI hN0 hN1 hF hJ0 hJ1 hE hQ
    · exact walk10 K I A B T la ln lc N F L rb nr cr zs J w hR hRr hL hA hB hT hI hN0 hN1 hF hJ0 hJ1 hE hQ
  · by_cases hQ : (rdSt (zs.take 5000)).2.2.2 = 0
    · exact walk01 K I A B T la ln lc N F L rb nr cr zs J w hR hRr hL hA hB hT hI hN0 hN1 hF hJ0 hJ1 hE hQ
    · exact walk00 K I A B T la ln lc N F L rb nr cr zs J w hR hRr hL hA hB hT hI hN0 hN1 hF hJ0 hJ1 hE hQ
end Go.Proofs.YtomkcmkbehcjnaaDoor.stanzaBack
