/- Texts of one seat, one behind the other: RoR. -/
import Derived.Test.YtppdopcghnfapaaDoorM6
import Derived.Deep.CutBlock
set_option maxRecDepth 100000
namespace Go.Proofs.YtppdopcghnfapaaDoor
open Go.RowKit Go.Joins
theorem tmL3 (z : Int) (L : Nat) (hL : 0 < L) (hL1 : L ≤ 1000000) : ∃ k : Nat, (wrap64 (z.tmod (L : Int) + (L : Int))).tmod (L : Int) = (k : Int) ∧ k < L := by
 have h1 := Int.lt_tmod_of_pos z (show (0 : Int) < L by omega)
 have h2 := Int.tmod_lt_of_pos z (show (0 : Int) < L by omega)
 have h3 : wrap64 (z.tmod L + L) = z.tmod L + L := by unfold wrap64; omega
 rw [h3]
 generalize z.tmod L = t at *
 obtain ⟨s, hs⟩ : ∃ s : Nat, t + (L : Int) = (s : Int) := ⟨(t + L).toNat, by omega⟩
 rw [hs]
 refine ⟨s % L, ?_, Nat.mod_lt _ hL⟩
 rw [Int.tmod_eq_emod_of_nonneg (by omega)]
 simp
structure P0 (w : World) (it ak : Int) (k : Nat) (q0 m0 q1 m1 : Nat) (wr : World) : Prop where
 aR : wr.heap[w.heap.size]? = some (.cells #[if k = 0 then .pointer none else .pointer (some ⟨q0, 0, none⟩), if k = 2 then .pointer (some ⟨q1, 0, none⟩) else .pointer none] 24 (0, 0))
 aN : wr.heap[w.heap.size + 1]? = some (.cells #[.string ⟨#[97, 110, 110]⟩, .string ⟨#[98, 111, 98]⟩] 25 (0, 0))
 aW : wr.heap[w.heap.size + 2]? = some (.cells #[.slice none 0 0, .slice none 0 0] 27 (0, 0))
 r0 : k ≠ 0 → RA wr q0 m0 (newR it ak) ∧ w.heap.size + 3 ≤ q0 ∧ w.heap.size + 3 ≤ m0
 r1 : k = 2 → RA wr q1 m1 (newR it ak) ∧ (q0 < q1 ∧ q0 < m1 ∧ m0 < q1 ∧ m0 < m1)
 bl : Below w.heap.size w wr
 tz : w.heap.size + 3 ≤ wr.heap.size
theorem P0.below {w wr wx : World} {it ak : Int} {k q0 m0 q1 m1 : Nat} (A : P0 w it ak k q0 m0 q1 m1 wr) (hb : Below wr.heap.size wr wx) : P0 w it ak k q0 m0 q1 m1 wx :=
 ⟨box_below A.aR hb, box_below A.aN hb, box_below A.aW hb, fun h => ⟨(A.r0 h).1.below hb, (A.r0 h).2⟩, fun h => ⟨(A.r1 h).1.below hb, (A.r1 h).2⟩, A.bl.trans (hb.mono (by have := A.bl.size; omega)), Nat.le_trans A.tz hb.size⟩
theorem P0.next0 {w wr w1 : World} {it ak : Int} {q0 m0 q1 m1 q m : Nat} (A : P0 w it ak 0 q0 m0 q1 m1 wr) (hr : RA w1 q m (newR it ak)) (hq : wr.heap.size ≤ q) (hm : wr.heap.size ≤ m) (hb : Below wr.heap.size wr w1) : P0 w it ak 1 q m 0 0 (w1.setCell ⟨w.heap.size, 0, none⟩ (.pointer (some ⟨q, 0, none⟩))) := by
 have A1 := A.below hb
 have t := A.tz
 have k := setK w1 w.heap.size 0 (.pointer (some ⟨q, 0, none⟩))
 exact ⟨block_setCell A1.aR _, box_keep A1.aN k (by omega), box_keep A1.aW k (by omega), fun _ => ⟨hr.keep k (by omega) (by omega), by omega, by omega⟩, fun h => absurd h (by decide), A1.bl.trans (k.below (by have := A1.tz; omega) (fun i hi => by omega)), Nat.le_trans A1.tz k.size⟩
theorem P0.next1 {w wr w1 : World} {it ak : Int} {q0 m0 q1 m1 q m : Nat} (A : P0 w it ak 1 q0 m0 q1 m1 wr) (hr : RA w1 q m (newR it ak)) (hq : wr.heap.size ≤ q) (hm : wr.heap.size ≤ m) (hb : Below wr.heap.size wr w1) : P0 w it ak 2 q0 m0 q m (w1.setCell ⟨w.heap.size, 1, none⟩ (.pointer (some ⟨q, 0, none⟩))) := by
 have A1 := A.below hb
 have t := A.tz
 have k := setK w1 w.heap.size 1 (.pointer (some ⟨q, 0, none⟩))
 obtain ⟨a1, a2, a3⟩ := A.r0 (by decide)
 have l1 := a1.lt
 have l2 := a1.map.lt
 exact ⟨block_setCell A1.aR _, box_keep A1.aN k (by omega), box_keep A1.aW k (by omega), fun _ => ⟨(a1.below hb).keep k (by omega) (by omega), a2, a3⟩, fun _ => ⟨hr.keep k (by omega) (by omega), by omega⟩, A1.bl.trans (k.below (by have := A1.tz; omega) (fun i hi => by omega)), Nat.le_trans A1.tz k.size⟩
theorem P0.R0 {w wr : World} {it ak : Int} {k q0 m0 q1 m1 : Nat} (A : P0 w it ak k q0 m0 q1 m1 wr) (hk : k ≠ 0) : wr.cell? ⟨w.heap.size, 0, none⟩ = some (.pointer (some ⟨q0, 0, none⟩)) := by rw [cell_of_block A.aR, if_neg hk]; rfl
theorem P0.R1 {w wr : World} {it ak : Int} {k q0 m0 q1 m1 : Nat} (A : P0 w it ak k q0 m0 q1 m1 wr) (hk : k = 2) : wr.cell? ⟨w.heap.size, 1, none⟩ = some (.pointer (some ⟨q1, 0, none⟩)) := by rw [cell_of_block A.aR, if_pos hk]; rfl
theorem P0.any {w wr : World} {it ak : Int} {k q0 m0 q1 m1 : Nat} (A : P0 w it ak k q0 m0 q1 m1 wr) : ∃ v0 v1, wr.cell? ⟨w.heap.size, 0, none⟩ = some v0 ∧ wr.cell? ⟨w.heap.size, 1, none⟩ = some v1 ∧ ∀ i, wr.frozen? ⟨w.heap.size, i, none⟩ = false := ⟨_, _, by rw [cell_of_block A.aR]; rfl, by rw [cell_of_block A.aR]; rfl, fun i => unfrozen_of_block A.aR i⟩
set_option maxRecDepth 100000 in
set_option maxHeartbeats 8000000 in
theorem rosterPair_any (items asks : Int) (a : Option Addr) (n c : Nat) (f : Nat → Int × Int) (w : World) (hE : SRd w a n c f) (hT : Lib.Utf8Tabs 0 1 w) :
  Calls Tryd.prog 3 #[.int .i64 items, .int .i64 asks, .slice a n c] w fun e w' => e = .returned (.bool true) ∧ Below w.heap.size w w' := by
 have HE : Hid (SRd w a n c f) := hE
 have HT : Hid (Lib.Utf8Tabs 0 1 w) := hT
 obtain ⟨it, hit, b1⟩ := tmL3 items 3 (by decide) (by decide)
 obtain ⟨ak, hak, b2⟩ := tmL3 asks 2 (by decide) (by decide)
 have cN : ∀ w, Calls Tryd.prog 4 #[.int .i64 ((wrap64 (items.tmod 3 + 3)).tmod 3), .int .i64 ((wrap64 (asks.tmod 2 + 2)).tmod 2)] w fun e w' => ∃ q mb, e = .returned (.tuple #[.pointer (some ⟨q, 0, none⟩), .int .i64 0]) ∧ RA w' q mb (newR it ak) ∧ w.heap.size ≤ q ∧ w.heap.size ≤ mb ∧ Below w.heap.size w w' := by
  intro w
  have h := New_ok it ak (by simp [bnd]; omega) (by simp [bnd]; omega) w
  have e1 : (wrap64 (items.tmod 3 + 3)).tmod 3 = (it : Int) := hit
  have e2 : (wrap64 (asks.tmod 2 + 2)).tmod 2 = (ak : Int) := hak
  rw [e1, e2]
  exact h
 clear hit hak b1 b2
 have hZ : (n : Int) ≤ 9223372036854775807 := by have := hE.cap; have := hE.most; unfold maxLen at this; omega
 clear hE hT
 go_enter Tryd.func3, Tryd.ntmps3
 go_wp2_with fail
 go_loopg [10] 2 (fun kx s10 wr => ∃ (k : Nat) (q0 m0 q1 m1 : Nat), s10 = .int .i64 k ∧ k + kx = 2 ∧ Hid (P0 w it ak k q0 m0 q1 m1 wr))
 case atStart =>
  refine ⟨0, 0, 0, 0, 0, rfl, rfl, ?_⟩
  exact ⟨push_old (push_old (push_at _ _ rfl)), push_old (push_at _ _ (by simp)), push_at _ _ (by simp), fun h => absurd rfl h, fun h => (by cases h), (((Below.refl _ _).alloc (Nat.le_refl _) _).alloc (by simp) _).alloc (by simp; omega) _, by simp⟩
 case round =>
  obtain ⟨k, q0, m0, q1, m1, rfl, hk2, HA⟩ := hrel
  have hk : k = 0 ∨ k = 1 ∨ k = 2 := by omega
  rcases hk with rfl | rfl | rfl
  ·go_upto_region 8 with (first
    | (go_at_call 4; refine (cN _).mono ?_; rintro e w1 ⟨q, m, rfl, hr, hq, hm, hb⟩; obtain ⟨v0, v1, y0, y1, yf⟩ := (HA.out.below hb).any; have yf0 := yf 0))
   have HA1 := HA.out.next0 hr hq hm hb
   have HB : Hid (P0 w it ak 1 _ _ _ _ _) := HA1
   have y9 := HA1.R0 (by decide)
   have cW := rwakes_any _ (tabs_keep HT.out (Keep.ofBelow (S := fun _ => False) HA1.bl) (fun h => h) (fun h => h))
   clear HA HA1 hr hq hm hb y0 y1 yf yf0 v0 v1
   generalize World.setCell _ _ _ = W1 at HB y9 cW ⊢
   go_wp2_with (first
    | (go_at_call 5; refine cW.mono ?_; clear cW; rintro e w3 ⟨rfl, hb3⟩))
   go_roundg 1
   case measure => omega
   case rel => exact ⟨1, _, _, _, _, by go_num, by omega, HB.out.below hb3⟩
  ·go_upto_region 8 with (first
    | (go_at_call 4; refine (cN _).mono ?_; rintro e w1 ⟨q, m, rfl, hr, hq, hm, hb⟩; obtain ⟨v0, v1, y0, y1, yf⟩ := (HA.out.below hb).any; have yf1 := yf 1))
   have HA1 := HA.out.next1 hr hq hm hb
   have HB : Hid (P0 w it ak 2 _ _ _ _ _) := HA1
   have y9 := HA1.R1 (by decide)
   have cW := rwakes_any _ (tabs_keep HT.out (Keep.ofBelow (S := fun _ => False) HA1.bl) (fun h => h) (fun h => h))
   clear HA HA1 hr hq hm hb y0 y1 yf yf1 v0 v1
   generalize World.setCell _ _ _ = W1 at HB y9 cW ⊢
   go_wp2_with (first
    | (go_at_call 5; refine cW.mono ?_; clear cW; rintro e w3 ⟨rfl, hb3⟩))
   go_roundg 0
   case measure => omega
   case rel => exact ⟨2, _, _, _, _, by go_num, by omega, HB.out.below hb3⟩
  ·clear cN
   obtain ⟨hr0, l0, l0'⟩ := HA.out.r0 (by decide)
   obtain ⟨hr1, l1⟩ := HA.out.r1 rfl
   obtain ⟨T, hT⟩ : ∃ T, wr.heap.size = T := ⟨_, rfl⟩
   have t0 := hr0.lt
   have t1 := hr0.map.lt
   have t2 := hr1.lt
   have t3 := hr1.map.lt
   have PG : Hid (Pg w q0 m0 q1 m1 T (newR it ak) (newR it ak) (.slice none 0 0) (.slice none 0 0) [] [] wr) := ⟨HA.out.aR, HA.out.aN, HA.out.aW, hr0, hr1, Qu.nil _ _, Qu.nil _ _, (fun g e => by cases e), ⟨l0, l0', by omega, by omega⟩, l1, ⟨by omega, by omega, by omega, by omega⟩, HA.out.bl, by omega⟩
   clear HA hr0 hr1 l0 l0' l1 t0 t1 t2 t3 hT
   go_wp2_with fail
   go_loopg [11, 12, 13, 14, 15, 16, 17, 18, 19, 20] (mu2 (min n 150) 0 0 0) (fun kx s11 _ _ _ _ _ _ _ _ _ wr => ∃ (i : Nat) (R0 R1 : Ro) (k0 k1 : Bool) (h0 h1 : Hf) (x0 x1 : Int) (v0 v1 : Value) (l0 l1 : List Lt), s11 = .int .i64 i ∧ Hid (mu2 (min n 150) i (wt l0) (wt l1) = kx) ∧ i + kx ≤ 1051 ∧ (0 ≤ x0 ∧ x0 ≤ i) ∧ (0 ≤ x1 ∧ x1 ≤ i) ∧ l0.length + l1.length ≤ i ∧ Hid (Pg w q0 m0 q1 m1 T R0 R1 v0 v1 l0 l1 wr) ∧ Hid (On R0 bbob it ak k0 h0 x0 i) ∧ Hid (On R1 bann it ak k1 h1 x1 i) ∧ Hid (Pz h0 h1 l0 l1 x0 x1))
   case atStart =>
    refine ⟨0, newR it ak, newR it ak, false, false, ⟨0, 0, 0, 0⟩, ⟨0, 0, 0, 0⟩, 0, 0, .slice none 0 0, .slice none 0 0, [], [], rfl, rfl, ?_, by decide, by decide, by simp, PG, On.new _ _ _, On.new _ _ _, Pz.new⟩
    unfold mu2; simp; omega
   case round =>
   clear PG
   obtain ⟨i, R0, R1, k0, k1, h0, h1, x0, x1, v0, v1, l0, l1, rfl, Hmu, hib, hx0, hx1, hql, HA, HO0, HO1, HP⟩ := hrel
   obtain ⟨a0, c0, ev0, _⟩ := HA.out.u0.ex
   obtain ⟨a1, c1, ev1, _⟩ := HA.out.u1.ex
   have y0 := HA.out.V0
   have y1 := HA.out.V1
   rw [ev0] at y0
   rw [ev1] at y1
   have z0 : (l0.length : Int) ≤ 1051 := by omega
   have z1 : (l1.length : Int) ≤ 1051 := by omega
   go_upto_region 11 with fail
   go_cut [69] from 52 to 172 (fun s69 wx => ∃ L : Bool, s69 = .bool L ∧ (L = true ↔ (i < min n 150 ∨ 0 < l0.length + l1.length)) ∧ wx = wr)
   case first =>
    by_cases hA : i < n
    ·have hA' : (i : Int) < (n : Int) := by omega
     by_cases hB : i < 150
     ·have hB' : (i : Int) < 150 := by omega
      go_wp2_with fail
      go_meet
      exact ⟨true, rfl, ⟨fun _ => by omega, fun _ => rfl⟩, rfl⟩
     ·have hB' : ¬ ((i : Int) < 150) := by omega
      by_cases hT : 0 < l0.length + l1.length
      ·have hT' : (0 : Int) < (l0.length : Int) + (l1.length : Int) := by omega
       go_wp2_with fail
       go_meet
       exact ⟨true, rfl, ⟨fun _ => by omega, fun _ => rfl⟩, rfl⟩
      ·have hT' : ¬ ((0 : Int) < (l0.length : Int) + (l1.length : Int)) := by omega
       go_wp2_with fail
       go_meet
       exact ⟨false, rfl, ⟨(fun h => by cases h), fun h => by omega⟩, rfl⟩
    ·have hA' : ¬ ((i : Int) < (n : Int)) := by omega
     by_cases hT : 0 < l0.length + l1.length
     ·have hT' : (0 : Int) < (l0.length : Int) + (l1.length : Int) := by omega
      go_wp2_with fail
      go_meet
      exact ⟨true, rfl, ⟨fun _ => by omega, fun _ => rfl⟩, rfl⟩
     ·have hT' : ¬ ((0 : Int) < (l0.length : Int) + (l1.length : Int)) := by omega
      go_wp2_with fail
      go_meet
      exact ⟨false, rfl, ⟨(fun h => by cases h), fun h => by omega⟩, rfl⟩
   case rest =>
   obtain ⟨L, rfl, hL, ew⟩ := hcut
   obtain rfl := ew.symm
   clear y0 y1
   cases L with
   | false => as_aux_lemma =>
    have hz : ¬ (i < min n 150 ∨ 0 < l0.length + l1.length) := fun k => by have := hL.2 k; cases this
    have e0 : l0 = [] := List.length_eq_zero_iff.1 (by omega)
    have e1 : l1 = [] := List.length_eq_zero_iff.1 (by omega)
    subst e0 e1
    have HDn : Hid ((h0.o = h1.i ∧ h0.n = h1.m) ∧ (h1.o = h0.i ∧ h1.n = h0.m)) := HP.out.done
    have g0 := HO0.out.got pbob.1 pbob.2 HP.out.k0
    have g1 := HO1.out.got pann.1 pann.2 HP.out.k1
    have cG0 := Get_R wr q0 m0 R0 HA.out.r0 (HO0.out.rg ⟨hx0.1, by omega⟩ (by omega)) bbob (by decide) HO0.out.plain (tabs_keep HT.out (Keep.ofBelow (S := fun _ => False) HA.out.bl) (fun h => h) (fun h => h)) (by rw [pbob.1]; decide)
    have y0 := HA.out.RF
    unfold bbob at cG0
    rw [show (⟨#[98, 111, 98]⟩ : ByteArray) = bbob from rfl] at cG0
    generalize (getS R0 bbob).1 = X at cG0 g0
    generalize ((((getS R0 bbob).2.1 : Nat) : Int) == 0) = bo at cG0
    rw [show bbob = (⟨#[98, 111, 98]⟩ : ByteArray) from rfl] at cG0
    subst g0
    clear hL hz Hmu
    unfold env enc gsv at cG0
    go_upto_region 30 with (first
     | (go_at_call 8; refine cG0.mono ?_; clear cG0; rintro e w5 ⟨rfl, hr5, k5⟩))
    have A5 := (HA.out.step0 hr5 k5).below (below1 w5 (.cells (enc X) 47))
    have E5 : EnAt (w5.alloc (.cells (enc X) 47)) w5.heap.size X := EnAt.made _ _
    have A6 : Hid _ := A5
    have l5 : T ≤ w5.heap.size := Nat.le_trans HA.out.tz k5.size
    unfold enc gsv at A6 E5
    clear hr5 k5 y0 A5
    obtain ⟨gx, Hgx⟩ : ∃ gx, Hid (w5.heap.size = gx) := ⟨_, rfl⟩
    rw [Hgx.out] at E5 l5 ⊢
    have A7 : Hid (Pg w q0 m0 q1 m1 T R0 R1 _ _ [] [] _) := A6
    clear A6
    generalize w5.alloc _ = W at A7 E5 ⊢
    have E6 : Hid (EnAt W gx X) := E5
    clear E5
    have cG1 := Get_R W q1 m1 R1 A7.out.r1 (HO1.out.rg ⟨hx1.1, by omega⟩ (by omega)) bann (by decide) HO1.out.plain (tabs_keep HT.out (Keep.ofBelow (S := fun _ => False) A7.out.bl) (fun h => h) (fun h => h)) (by rw [pann.1]; decide)
    have y1 := A7.out.RS
    generalize (getS R1 bann).1 = Y at cG1 g1
    generalize ((((getS R1 bann).2.1 : Nat) : Int) == 0) = bo1 at cG1
    unfold bann at cG1
    subst g1
    unfold env enc gsv at cG1
    go_upto_region 31 with (first
     | (go_at_call 8; refine cG1.mono ?_; clear cG1; rintro e w6 ⟨rfl, hr6, k6⟩))
    have hi := A7.out.hi
    have E7 : EnAt (w6.alloc (.cells (enc Y) 47)) gx X := (E6.out.keep k6 (by omega)).carry (below1 _ _)
    have E8 : EnAt (w6.alloc (.cells (enc Y) 47)) w6.heap.size Y := EnAt.made _ _
    have B8 : Hid (Below w.heap.size w (w6.alloc (.cells (enc Y) 47))) := ((A7.out.step1 hr6 k6).below (below1 w6 (.cells (enc Y) 47))).bl
    unfold enc gsv at E7 E8 B8
    obtain ⟨gy, Hgy⟩ : ∃ gy, Hid (w6.heap.size = gy) := ⟨_, rfl⟩
    rw [Hgy.out] at E8 ⊢
    clear hr6 k6 y1 hi
    generalize w6.alloc _ = Z at E7 E8 B8 ⊢
    have p4 := E7.c4
    have p5 := E7.c5
    have p6 := E7.c6
    have p7 := E7.c7
    have r4 := E8.c4
    have r5 := E8.c5
    have r6 := E8.c6
    have r7 := E8.c7
    obtain ⟨⟨d1, d2⟩, d3, d4⟩ := HDn.out
    rw [← d1] at r6
    rw [← d2] at r7
    rw [d3] at r4
    rw [d4] at r5
    clear E7 E8 E6 A7 HA HP HO0 HO1 d1 d2 d3 d4 HDn
    go_wp2
    go_ret
    exact ⟨rfl, B8.out⟩
   | true =>
    subst ev0 ev1
    obtain ⟨X, hX⟩ : ∃ X, bits .and .i64 (i : Int) 1 = X := ⟨_, rfl⟩
    have HX : Hid (X = ((i % 2 : Nat) : Int)) := by rw [← hX]; exact and_nat i (by omega)
    have hgs : T ≤ wr.heap.size := HA.out.tz
    go_upto_region 14 with fail
    go_cut [82] from 52 to 172 (fun s82 wx => ∃ M : Bool, s82 = .bool M ∧ (M = true ↔ i < min n 150) ∧ wx = wr.alloc (.cells #[.int .i64 X, .int .i64 0] 33))
    case first =>
     by_cases hA : i < n
     ·have hA' : (i : Int) < (n : Int) := by omega
      by_cases hB : i < 150
      ·have hB' : (i : Int) < 150 := by omega
       go_wp2_with fail
       go_meet
       exact ⟨true, rfl, ⟨fun _ => by omega, fun _ => rfl⟩, rfl⟩
      ·have hB' : ¬ ((i : Int) < 150) := by omega
       go_wp2_with fail
       go_meet
       exact ⟨false, rfl, ⟨(fun h => by cases h), fun h => by omega⟩, rfl⟩
     ·have hA' : ¬ ((i : Int) < (n : Int)) := by omega
      go_wp2_with fail
      go_meet
      exact ⟨false, rfl, ⟨(fun h => by cases h), fun h => by omega⟩, rfl⟩
    case rest =>
    obtain ⟨M, rfl, hM, rfl⟩ := hcut
    go_upto_if 82 with fail
    go_cut [14] from 52 to 172 (fun _ wx => ∃ e d : Int, Hid (StepAt wx wr.heap.size e d) ∧ Hid (Pg w q0 m0 q1 m1 T R0 R1 (.slice a0 l0.length c0) (.slice a1 l1.length c1) l0 l1 wx) ∧ (i < min n 150 ∨ (e = X ∧ d = 0 ∧ 0 < l0.length + l1.length)))
    case first =>
     cases M with
     | true =>
      have hin : i < min n 150 := hM.1 rfl
      have hA' : (i : Int) < (n : Int) := by omega
      obtain ⟨b, off, rfl, hce⟩ := HE.out.flat (by omega)
      have hs := ((hce i (by omega)).below HA.out.bl).below (below1 wr (.cells #[.int .i64 X, .int .i64 0] 33))
      have s0 := hs.c0
      have s1 := hs.c1
      have sb : b < wr.heap.size := World.block_lt_of_cell? wr _ ((hce i (by omega)).below HA.out.bl).c0
      generalize (f i).1 = e at *
      generalize (f i).2 = d at *
      clear hce hs hL hM
      go_wp2_with fail
      go_meet
      exact ⟨e, d, ⟨alloc_at _ _⟩, HA.out.below (below1 _ _), Or.inl hin⟩
     | false =>
      have hin : ¬ i < min n 150 := fun k => by have := hM.2 k; cases this
      have hto : 0 < l0.length + l1.length := by rcases hL.1 rfl with k | k <;> omega
      go_wp2_with fail
      go_meet
      exact ⟨_, _, ⟨alloc_at _ _⟩, HA.out.below (below1 _ _), Or.inr ⟨rfl, rfl, hto⟩⟩
    case rest =>
    clear hM hL HA
    obtain ⟨e, d, HD, HA, hcase⟩ := hcut
    have b0 := HD.out.c0
    have b1 := HD.out.c1
    have hand := and_one e
    have hpar : Hid (i < min n 150 ∨ (bits .and .i64 e 1 = ((i % 2 : Nat) : Int) ∧ ¬ 1 ≤ d ∧ 0 < l0.length + l1.length)) := hcase.imp id (fun ⟨e1, e2, e3⟩ => ⟨by rw [e1, HX.out, and_nat _ (by omega)]; rw [Nat.mod_mod], by omega, e3⟩)
    clear hcase hX HX
    obtain ⟨K, hK⟩ : ∃ K, bits .and .i64 e 1 = K := ⟨_, rfl⟩
    rw [hK] at hand hpar
    have p0 := HP.out.p0
    have p1 := HP.out.p1
    generalize wr.heap.size = gs at *
    have ci : ((i + 1 : Nat) : Int) = (i : Int) + 1 := by simp
    have HCi : Hid (((i + 1 : Nat) : Int) = (i : Int) + 1) := ci
    clear ci
    by_cases hd1 : 1 ≤ d
    ·have hear : i < min n 150 := by
      rcases hpar.out with k | k
      ·exact k
      ·exact absurd hd1 k.2.1
     go_upto_region 18 with fail
     clear hpar b0 hK
     rcases hand with rfl | rfl
     ·as_aux_lemma =>
      obtain ⟨k', h', x', hO', hx', hP'⟩ := pair_act HO0.out HP.out (by omega : (0 : Int) ≤ (i : Int)) d
      have eS : actS R0 bbob d = actP R0 bbob d := by unfold actS; rw [pbob.2, pbob.1, if_pos rfl]
      have hG := HO0.out.rg ⟨hx0.1, by omega⟩ (by omega)
      have cA : ∀ W, Pg w q0 m0 q1 m1 T R0 R1 (.slice a0 l0.length c0) (.slice a1 l1.length c1) l0 l1 W → Calls Tryd.prog 6 #[.pointer (some ⟨q0, 0, none⟩), .string bbob, .int .i64 d] W fun e w' => e = .returned (.tuple #[.int .i64 (actP R0 bbob d).1.1, .int .u64 (actP R0 bbob d).1.2.1, .bool (actP R0 bbob d).1.2.2, .int .i64 (actP R0 bbob d).2.1]) ∧ RA w' q0 m0 (actP R0 bbob d).2.2 ∧ Keep (fun j => j = q0 ∨ j = m0) W w' := fun W A => by
       have h := Act_R W q0 m0 R0 A.r0 hG bbob (by decide) d (tabs_keep HT.out (Keep.ofBelow (S := fun _ => False) A.bl) (fun h => h) (fun h => h)) (by rw [pbob.1]; decide)
       rw [eS] at h
       exact h
      clear eS hG
      generalize actP R0 bbob d = r at cA hO' hP'
      obtain ⟨⟨mm, nn, ch⟩, en, R'⟩ := r
      dsimp only at cA hO' hP'
      have HcA : Hid _ := cA
      have HO' : Hid (On R' bbob it ak k' h' x' (i + 1)) := hO'
      have HP' : Hid (Pz h' h1 l0 (if en = 0 ∧ mm ≠ 0 then l1 ++ [(mm, nn)] else l1) x' x1) := hP'
      clear cA hO' hP' HP
      unfold bbob at HcA
      refine wp_region_lx (fun w' => (∃ Ra Rb, Pg w q0 m0 q1 m1 T Ra Rb (.slice a0 l0.length c0) (.slice a1 l1.length c1) l0 l1 w') ∧ StepAt w' gs e d) [] 19 (by kernel_rfl) (by kernel_rfl) ?_
      have A0 : Pg w q0 m0 q1 m1 T R0 R1 (.slice a0 l0.length c0) (.slice a1 l1.length c1) l0 l1 wc.drew := HA.out.below (Below.refl _ _).drew
      have D0 : StepAt wc.drew gs e d := HD.out.below (Below.refl _ _).drew
      clear HA HD b1
      generalize wc.drew = W at A0 D0 ⊢
      have HS0 : (∃ Ra Rb, Pg w q0 m0 q1 m1 T Ra Rb (.slice a0 l0.length c0) (.slice a1 l1.length c1) l0 l1 W) ∧ StepAt W gs e d := ⟨⟨_, _, A0⟩, D0⟩
      refine lx_r 0 (.int .i64 0) HS0 ?_; simp only [lxa, lxb, lxc]
      refine lx_r 1 (.pointer (some ⟨w.heap.size, 0, none⟩)) HS0 ?_; simp only [lxa, lxb, lxc]
      refine lx_r 2 (.pointer (some ⟨q0, 0, none⟩)) HS0 ?_ (hv := fun w' hS => by obtain ⟨⟨_, _, z⟩, _⟩ := hS; have z0 := z.RF; first | (go_simp; rfl) | go_simp); simp only [lxa, lxb, lxc]
      refine lx_r 3 (.int .i64 0) HS0 ?_; simp only [lxa, lxb, lxc]
      refine lx_r 4 (.int .i64 1) HS0 ?_; simp only [lxa, lxb, lxc]
      refine lx_r 5 (.pointer (some ⟨w.heap.size + 1, 1, none⟩)) HS0 ?_; simp only [lxa, lxb, lxc]
      refine lx_r 6 (.string ⟨#[98, 111, 98]⟩) HS0 ?_ (hv := fun w' hS => by obtain ⟨⟨_, _, z⟩, _⟩ := hS; have z0 := z.NS; first | (go_simp; rfl) | go_simp); simp only [lxa, lxb, lxc]
      refine lx_r 7 (.pointer (some ⟨gs, 1, none⟩)) HS0 ?_; simp only [lxa, lxb, lxc]
      refine lx_r 8 (.int .i64 d) HS0 ?_ (hv := fun w' hS => by have z0 := hS.2.c1; first | (go_simp; rfl) | go_simp); simp only [lxa, lxb, lxc]
      refine lx_one 9 (by kernel_rfl) (stepT_call 6 ?cA0 rfl rfl rfl ?dA0 ?_)
      case dA0 => first | (go_simp; rfl) | go_simp
      refine (HcA.out W A0).mono ?_
      rintro e w5 ⟨rfl, hr5, k5⟩
      have A5 := A0.step0 hr5 k5
      have hh := A0.hi
      have D5 := D0.keep k5 (by omega)
      refine ⟨_, rfl, fun _ => ⟨⟨_, _, A5⟩, D5⟩, ?_⟩
      simp only [lxa, lxb, lxc]
      have HS1 : (∃ Ra Rb, Pg w q0 m0 q1 m1 T Ra Rb (.slice a0 l0.length c0) (.slice a1 l1.length c1) l0 l1 w5) ∧ StepAt w5 gs e d := ⟨⟨_, _, A5⟩, D5⟩
      refine lx_r 10 _ HS1 ?_; simp only [lxa, lxb, lxc]
      refine lx_r 11 (.int .i64 mm) HS1 ?_; simp only [lxa, lxb, lxc]
      refine lx_r 12 (.int .u64 nn) HS1 ?_; simp only [lxa, lxb, lxc]
      refine lx_r 13 (.bool ch) HS1 ?_; simp only [lxa, lxb, lxc]
      refine lx_r 14 (.int .i64 en) HS1 ?_; simp only [lxa, lxb, lxc]
      refine lx_r 15 (.int .i64 mm) HS1 ?_; simp only [lxa, lxb, lxc]
      refine lx_r 16 (.int .u64 nn) HS1 ?_; simp only [lxa, lxb, lxc]
      refine lx_r 17 (.bool ch) HS1 ?_; simp only [lxa, lxb, lxc]
      refine lx_r 18 (.int .i64 en) HS1 ?_; simp only [lxa, lxb, lxc]
      refine lx_nil (by kernel_rfl) ?_
      have HA5 : Hid (Pg w q0 m0 q1 m1 T R' R1 (.slice a0 l0.length c0) (.slice a1 l1.length c1) l0 l1 w5) := A5
      clear HcA A0 D0 HS0 hr5 k5 A5 hh D5 HS1
      have HOo : Hid (On R1 bann it ak k1 h1 x1 ((i + 1 : Nat) : Int)) := by rw [HCi.out]; exact HO1.out.more
      have HOk : Hid (On R' bbob it ak k' h' x' ((i + 1 : Nat) : Int)) := by rw [HCi.out]; exact HO'.out
      have HX' : Hid (0 ≤ x' ∧ x' ≤ ((i + 1 : Nat) : Int) ∧ 0 ≤ x1 ∧ x1 ≤ ((i + 1 : Nat) : Int)) := by have := HCi.out; exact ⟨by omega, by omega, by omega, by omega⟩
      by_cases hmm : en = 0 ∧ mm ≠ 0
      ·have HPq : Hid (Pz h' h1 l0 (l1 ++ [(mm, nn)]) x' x1) := by have := HP'.out; rw [if_pos hmm] at this; exact this
       obtain ⟨e1, e2⟩ := hmm
       subst e1
       have e3 : (mm != 0) = true := by simpa using e2
       have z3 := HA5.out.V1
       clear e2 HP'
       go_wp2_with (first
        | (refine wp_appQ rfl (.tmp 119) (.tmp 123) rfl rfl HA5.out.u1 (mm, nn) rfl HA5.out.tz (by omega) ?_; intro v' w6 Q6 k6 o6; obtain ⟨a6, c6, rfl, _⟩ := Q6.ex; have hp := HA5.out.push1 Q6 k6 o6; rw [show (l1 ++ [(mm, nn)]).length = l1.length + 1 from by simp] at hp; have y8 : w6.cell? ⟨w.heap.size + 2, 1, none⟩ = some (.slice a1 l1.length c1) := (cell_of_block hp.1 _).trans rfl; have y9 : w6.frozen? ⟨w.heap.size + 2, 1, none⟩ = false := unfrozen_of_block hp.1 _; have A6 : Hid (Pg w _ _ _ _ _ _ _ _ _ _ _ _) := hp.2; clear hp))
       go_roundg (mu2 (min n 150) (i + 1) (wt l0) (wt (l1 ++ [(mm, nn)])))
       case measure => rw [← Hmu.out]; exact mu2_early hear (by rw [wt_app]; split <;> omega)
       case rel => exact ⟨i + 1, R', R1, k', k1, h', h1, x', x1, _, _, l0, (l1 ++ [(mm, nn)]), by go_num, rfl, by have := mu2_early (a := wt l0) (b := wt l1) (a' := wt l0) (b' := wt (l1 ++ [(mm, nn)])) hear (by rw [wt_app]; split <;> omega); rw [Hmu.out] at this; omega, ⟨HX'.out.1, HX'.out.2.1⟩, ⟨HX'.out.2.2.1, HX'.out.2.2.2⟩, by rw [List.length_append]; simp only [List.length_cons, List.length_nil]; omega, A6, HOk, HOo, HPq⟩
      ·have HPq : Hid (Pz h' h1 l0 l1 x' x1) := by have := HP'.out; rw [if_neg hmm] at this; exact this
       clear HP'
       by_cases e1 : en = 0
       ·subst e1
        have e2 : mm = 0 := by by_cases e : mm = 0; exact e; exact absurd ⟨rfl, e⟩ hmm
        subst e2
        clear hmm
        go_wp2_with fail
        go_roundg (mu2 (min n 150) (i + 1) (wt l0) (wt l1))
        case measure => rw [← Hmu.out]; exact mu2_early hear (by omega)
        case rel => exact ⟨i + 1, R', R1, k', k1, h', h1, x', x1, _, _, l0, l1, by go_num, rfl, by have := mu2_early (a := wt l0) (b := wt l1) (a' := wt l0) (b' := wt l1) hear (by omega); rw [Hmu.out] at this; omega, ⟨HX'.out.1, HX'.out.2.1⟩, ⟨HX'.out.2.2.1, HX'.out.2.2.2⟩, by omega, HA5, HOk, HOo, HPq⟩
       ·have e3 : ((en : Int) == 0) = false := by rw [beq_eq_false_iff_ne]; omega
        clear e1 hmm
        go_wp2_with fail
        go_roundg (mu2 (min n 150) (i + 1) (wt l0) (wt l1))
        case measure => rw [← Hmu.out]; exact mu2_early hear (by omega)
        case rel => exact ⟨i + 1, R', R1, k', k1, h', h1, x', x1, _, _, l0, l1, by go_num, rfl, by have := mu2_early (a := wt l0) (b := wt l1) (a' := wt l0) (b' := wt l1) hear (by omega); rw [Hmu.out] at this; omega, ⟨HX'.out.1, HX'.out.2.1⟩, ⟨HX'.out.2.2.1, HX'.out.2.2.2⟩, by omega, HA5, HOk, HOo, HPq⟩
     ·as_aux_lemma =>
      obtain ⟨k', h', x', hO', hx', hP'⟩ := pair_act HO1.out HP.out.swap (by omega : (0 : Int) ≤ (i : Int)) d
      have eS : actS R1 bann d = actP R1 bann d := by unfold actS; rw [pann.2, pann.1, if_pos rfl]
      have hG := HO1.out.rg ⟨hx1.1, by omega⟩ (by omega)
      have cA : ∀ W, Pg w q0 m0 q1 m1 T R0 R1 (.slice a0 l0.length c0) (.slice a1 l1.length c1) l0 l1 W → Calls Tryd.prog 6 #[.pointer (some ⟨q1, 0, none⟩), .string bann, .int .i64 d] W fun e w' => e = .returned (.tuple #[.int .i64 (actP R1 bann d).1.1, .int .u64 (actP R1 bann d).1.2.1, .bool (actP R1 bann d).1.2.2, .int .i64 (actP R1 bann d).2.1]) ∧ RA w' q1 m1 (actP R1 bann d).2.2 ∧ Keep (fun j => j = q1 ∨ j = m1) W w' := fun W A => by
       have h := Act_R W q1 m1 R1 A.r1 hG bann (by decide) d (tabs_keep HT.out (Keep.ofBelow (S := fun _ => False) A.bl) (fun h => h) (fun h => h)) (by rw [pann.1]; decide)
       rw [eS] at h
       exact h
      clear eS hG
      generalize actP R1 bann d = r at cA hO' hP'
      obtain ⟨⟨mm, nn, ch⟩, en, R'⟩ := r
      dsimp only at cA hO' hP'
      have HcA : Hid _ := cA
      have HO' : Hid (On R' bann it ak k' h' x' (i + 1)) := hO'
      have HP' : Hid (Pz h' h0 l1 (if en = 0 ∧ mm ≠ 0 then l0 ++ [(mm, nn)] else l0) x' x0) := hP'
      clear cA hO' hP' HP
      unfold bann at HcA
      refine wp_region_lx (fun w' => (∃ Ra Rb, Pg w q0 m0 q1 m1 T Ra Rb (.slice a0 l0.length c0) (.slice a1 l1.length c1) l0 l1 w') ∧ StepAt w' gs e d) [] 19 (by kernel_rfl) (by kernel_rfl) ?_
      have A0 : Pg w q0 m0 q1 m1 T R0 R1 (.slice a0 l0.length c0) (.slice a1 l1.length c1) l0 l1 wc.drew := HA.out.below (Below.refl _ _).drew
      have D0 : StepAt wc.drew gs e d := HD.out.below (Below.refl _ _).drew
      clear HA HD b1
      generalize wc.drew = W at A0 D0 ⊢
      have HS0 : (∃ Ra Rb, Pg w q0 m0 q1 m1 T Ra Rb (.slice a0 l0.length c0) (.slice a1 l1.length c1) l0 l1 W) ∧ StepAt W gs e d := ⟨⟨_, _, A0⟩, D0⟩
      refine lx_r 0 (.int .i64 1) HS0 ?_; simp only [lxa, lxb, lxc]
      refine lx_r 1 (.pointer (some ⟨w.heap.size, 1, none⟩)) HS0 ?_; simp only [lxa, lxb, lxc]
      refine lx_r 2 (.pointer (some ⟨q1, 0, none⟩)) HS0 ?_ (hv := fun w' hS => by obtain ⟨⟨_, _, z⟩, _⟩ := hS; have z0 := z.RS; first | (go_simp; rfl) | go_simp); simp only [lxa, lxb, lxc]
      refine lx_r 3 (.int .i64 1) HS0 ?_; simp only [lxa, lxb, lxc]
      refine lx_r 4 (.int .i64 0) HS0 ?_; simp only [lxa, lxb, lxc]
      refine lx_r 5 (.pointer (some ⟨w.heap.size + 1, 0, none⟩)) HS0 ?_; simp only [lxa, lxb, lxc]
      refine lx_r 6 (.string ⟨#[97, 110, 110]⟩) HS0 ?_ (hv := fun w' hS => by obtain ⟨⟨_, _, z⟩, _⟩ := hS; have z0 := z.NF; first | (go_simp; rfl) | go_simp); simp only [lxa, lxb, lxc]
      refine lx_r 7 (.pointer (some ⟨gs, 1, none⟩)) HS0 ?_; simp only [lxa, lxb, lxc]
      refine lx_r 8 (.int .i64 d) HS0 ?_ (hv := fun w' hS => by have z0 := hS.2.c1; first | (go_simp; rfl) | go_simp); simp only [lxa, lxb, lxc]
      refine lx_one 9 (by kernel_rfl) (stepT_call 6 ?cA1 rfl rfl rfl ?dA1 ?_)
      case dA1 => first | (go_simp; rfl) | go_simp
      refine (HcA.out W A0).mono ?_
      rintro e w5 ⟨rfl, hr5, k5⟩
      have A5 := A0.step1 hr5 k5
      have hh := A0.hi
      have D5 := D0.keep k5 (by omega)
      refine ⟨_, rfl, fun _ => ⟨⟨_, _, A5⟩, D5⟩, ?_⟩
      simp only [lxa, lxb, lxc]
      have HS1 : (∃ Ra Rb, Pg w q0 m0 q1 m1 T Ra Rb (.slice a0 l0.length c0) (.slice a1 l1.length c1) l0 l1 w5) ∧ StepAt w5 gs e d := ⟨⟨_, _, A5⟩, D5⟩
      refine lx_r 10 _ HS1 ?_; simp only [lxa, lxb, lxc]
      refine lx_r 11 (.int .i64 mm) HS1 ?_; simp only [lxa, lxb, lxc]
      refine lx_r 12 (.int .u64 nn) HS1 ?_; simp only [lxa, lxb, lxc]
      refine lx_r 13 (.bool ch) HS1 ?_; simp only [lxa, lxb, lxc]
      refine lx_r 14 (.int .i64 en) HS1 ?_; simp only [lxa, lxb, lxc]
      refine lx_r 15 (.int .i64 mm) HS1 ?_; simp only [lxa, lxb, lxc]
      refine lx_r 16 (.int .u64 nn) HS1 ?_; simp only [lxa, lxb, lxc]
      refine lx_r 17 (.bool ch) HS1 ?_; simp only [lxa, lxb, lxc]
      refine lx_r 18 (.int .i64 en) HS1 ?_; simp only [lxa, lxb, lxc]
      refine lx_nil (by kernel_rfl) ?_
      have HA5 : Hid (Pg w q0 m0 q1 m1 T R0 R' (.slice a0 l0.length c0) (.slice a1 l1.length c1) l0 l1 w5) := A5
      clear HcA A0 D0 HS0 hr5 k5 A5 hh D5 HS1
      have HOo : Hid (On R0 bbob it ak k0 h0 x0 ((i + 1 : Nat) : Int)) := by rw [HCi.out]; exact HO0.out.more
      have HOk : Hid (On R' bann it ak k' h' x' ((i + 1 : Nat) : Int)) := by rw [HCi.out]; exact HO'.out
      have HX' : Hid (0 ≤ x' ∧ x' ≤ ((i + 1 : Nat) : Int) ∧ 0 ≤ x0 ∧ x0 ≤ ((i + 1 : Nat) : Int)) := by have := HCi.out; exact ⟨by omega, by omega, by omega, by omega⟩
      by_cases hmm : en = 0 ∧ mm ≠ 0
      ·have HPq : Hid (Pz h' h0 l1 (l0 ++ [(mm, nn)]) x' x0) := by have := HP'.out; rw [if_pos hmm] at this; exact this
       obtain ⟨e1, e2⟩ := hmm
       subst e1
       have e3 : (mm != 0) = true := by simpa using e2
       have z3 := HA5.out.V0
       clear e2 HP'
       go_wp2_with (first
        | (refine wp_appQ rfl (.tmp 119) (.tmp 123) rfl rfl HA5.out.u0 (mm, nn) rfl HA5.out.tz (by omega) ?_; intro v' w6 Q6 k6 o6; obtain ⟨a6, c6, rfl, _⟩ := Q6.ex; have hp := HA5.out.push0 Q6 k6 o6; rw [show (l0 ++ [(mm, nn)]).length = l0.length + 1 from by simp] at hp; have y8 : w6.cell? ⟨w.heap.size + 2, 0, none⟩ = some (.slice a0 l0.length c0) := (cell_of_block hp.1 _).trans rfl; have y9 : w6.frozen? ⟨w.heap.size + 2, 0, none⟩ = false := unfrozen_of_block hp.1 _; have A6 : Hid (Pg w _ _ _ _ _ _ _ _ _ _ _ _) := hp.2; clear hp))
       go_roundg (mu2 (min n 150) (i + 1) (wt (l0 ++ [(mm, nn)])) (wt l1))
       case measure => rw [← Hmu.out]; exact mu2_early hear (by rw [wt_app]; split <;> omega)
       case rel => exact ⟨i + 1, R0, R', k0, k', h0, h', x0, x', _, _, (l0 ++ [(mm, nn)]), l1, by go_num, rfl, by have := mu2_early (a := wt l0) (b := wt l1) (a' := wt (l0 ++ [(mm, nn)])) (b' := wt l1) hear (by rw [wt_app]; split <;> omega); rw [Hmu.out] at this; omega, ⟨HX'.out.2.2.1, HX'.out.2.2.2⟩, ⟨HX'.out.1, HX'.out.2.1⟩, by rw [List.length_append]; simp only [List.length_cons, List.length_nil]; omega, A6, HOo, HOk, HPq.out.swap⟩
      ·have HPq : Hid (Pz h' h0 l1 l0 x' x0) := by have := HP'.out; rw [if_neg hmm] at this; exact this
       clear HP'
       by_cases e1 : en = 0
       ·subst e1
        have e2 : mm = 0 := by by_cases e : mm = 0; exact e; exact absurd ⟨rfl, e⟩ hmm
        subst e2
        clear hmm
        go_wp2_with fail
        go_roundg (mu2 (min n 150) (i + 1) (wt l0) (wt l1))
        case measure => rw [← Hmu.out]; exact mu2_early hear (by omega)
        case rel => exact ⟨i + 1, R0, R', k0, k', h0, h', x0, x', _, _, l0, l1, by go_num, rfl, by have := mu2_early (a := wt l0) (b := wt l1) (a' := wt l0) (b' := wt l1) hear (by omega); rw [Hmu.out] at this; omega, ⟨HX'.out.2.2.1, HX'.out.2.2.2⟩, ⟨HX'.out.1, HX'.out.2.1⟩, by omega, HA5, HOo, HOk, HPq.out.swap⟩
       ·have e3 : ((en : Int) == 0) = false := by rw [beq_eq_false_iff_ne]; omega
        clear e1 hmm
        go_wp2_with fail
        go_roundg (mu2 (min n 150) (i + 1) (wt l0) (wt l1))
        case measure => rw [← Hmu.out]; exact mu2_early hear (by omega)
        case rel => exact ⟨i + 1, R0, R', k0, k', h0, h', x0, x', _, _, l0, l1, by go_num, rfl, by have := mu2_early (a := wt l0) (b := wt l1) (a' := wt l0) (b' := wt l1) hear (by omega); rw [Hmu.out] at this; omega, ⟨HX'.out.2.2.1, HX'.out.2.2.2⟩, ⟨HX'.out.1, HX'.out.2.1⟩, by omega, HA5, HOo, HOk, HPq.out.swap⟩
    ·go_upto_region 21 with fail
     clear b0 b1 hK
     have Hx1 : Hid (¬ 1 ≤ d) := hd1
     clear hd1
     rcases hand with rfl | rfl
     ·cases l0 with
      | nil => as_aux_lemma =>
       have z3 := HA.out.V0
       have hm : mu2 (min n 150) (i + 1) 0 (wt l1) < gk := by
        rw [← Hmu.out]
        rcases hpar.out with k | ⟨k1, k2, k3⟩
        ·exact mu2_early k (by simp only [wt]; omega)
        ·exact mu2_skip0 (by omega) (wt_pos (by simpa using k3))
       have HOa : Hid (On R0 bbob it ak k0 h0 x0 ((i + 1 : Nat) : Int)) := by rw [HCi.out]; exact HO0.out.more
       have HOb : Hid (On R1 bann it ak k1 h1 x1 ((i + 1 : Nat) : Int)) := by rw [HCi.out]; exact HO1.out.more
       go_wp2_with fail
       go_roundg (mu2 (min n 150) (i + 1) 0 (wt l1))
       case measure => exact hm
       case rel => exact ⟨i + 1, R0, R1, k0, k1, h0, h1, x0, x1, _, _, [], l1, by go_num, rfl, by omega, ⟨hx0.1, by omega⟩, ⟨hx1.1, by omega⟩, by simp only [List.length_nil] at hql ⊢; omega, HA, HOa, HOb, HP⟩
      | cons x l => as_aux_lemma =>
       obtain ⟨g0, off, cap, ev, hcap, hcm, _, _, _⟩ := HA.out.u0.head
       injection ev with ev1 _ ev3
       subst ev1
       obtain rfl := ev3.symm
       replace HA : Hid (Pg w q0 m0 q1 m1 T R0 R1 (.slice (some ⟨g0, off, none⟩) (l.length + 1) cap) (.slice a1 l1.length c1) (x :: l) l1 wc) := HA
       obtain ⟨g', off', cap', e', _, _, z6, z7, _⟩ := HA.out.u0.head
       injection e' with e1 _ e4
       injection e1 with e1
       injection e1 with e1 e2 _
       subst e1 e2 e4
       obtain ⟨hz, k', h', hO', hP', hdn⟩ := pair_hear HO0.out HP.out (by omega : (0 : Int) ≤ (i : Int))
       have eS : hearS R0 bbob x.1 x.2 = hearP R0 bbob x.1 x.2 := by unfold hearS; rw [pbob.2, pbob.1, if_pos rfl]
       have hG := HO0.out.rg ⟨hx0.1, by omega⟩ (by omega)
       have cH : ∀ (va vb : Value) (la lb : List Lt) (W : World), Pg w q0 m0 q1 m1 T R0 R1 va vb la lb W → Calls Tryd.prog 7 #[.pointer (some ⟨q0, 0, none⟩), .string bbob, .int .i64 x.1, .int .u64 x.2] W fun e w' => e = .returned (.tuple #[.agg (hec (hearP R0 bbob x.1 x.2).1.1 (hearP R0 bbob x.1 x.2).1.2.1 (hearP R0 bbob x.1 x.2).1.2.2), .int .i64 (hearP R0 bbob x.1 x.2).2.1]) ∧ RA w' q0 m0 (hearP R0 bbob x.1 x.2).2.2 ∧ Keep (fun j => j = q0 ∨ j = m0) W w' := fun va vb la lb W A => by
        have h := Hear_R W q0 m0 R0 A.r0 hG bbob (by decide) x.1 x.2 (tabs_keep HT.out (Keep.ofBelow (S := fun _ => False) A.bl) (fun h => h) (fun h => h)) (by rw [pbob.1]; decide)
        rw [eS] at h
        exact h
       clear eS hG
       generalize hearP R0 bbob x.1 x.2 = r at cH hO' hP' hz hdn
       obtain ⟨⟨tl, dn, ch⟩, en, R'⟩ := r
       dsimp only at cH hO' hP' hz hdn
       subst hz
       have HcH : Hid _ := cH
       have HOk : Hid (On R' bbob it ak k' h' x0 ((i + 1 : Nat) : Int)) := by rw [HCi.out]; exact hO'
       have HP' : Hid (Pz h' h1 l (if dn = true then l1 ++ [(4, x.2)] else l1) x0 x1) := hP'
       have HDn : Hid (dn = true → x.1 = 1) := hdn
       have HOo : Hid (On R1 bann it ak k1 h1 x1 ((i + 1 : Nat) : Int)) := by rw [HCi.out]; exact HO1.out.more
       clear cH hO' hP' hdn HP HO0 HO1
       unfold bbob hec at HcH
       have hql2 : l.length + l1.length + 1 ≤ i := by simp only [List.length_cons] at hql; omega
       have z3 := HA.out.V0
       have hpos : (0 : Int) < (l.length : Int) + 1 := by omega
       go_upto_region 22 with fail
       have Hhcap : Hid (l.length + 1 ≤ cap) := hcap
       clear hcap
       have A1 : Hid (Pg w q0 m0 q1 m1 T R0 R1 (.slice (some ⟨g0, off, none⟩) (l.length + 1) cap) (.slice a1 l1.length c1) (x :: l) l1 (wc.alloc (.cells #[.int .i64 x.1, .int .u64 x.2] 38))) := HA.out.below (below1 _ _)
       have L1 : Hid (LetAt (wc.alloc (.cells #[.int .i64 x.1, .int .u64 x.2] 38)) wc.heap.size x) := ⟨alloc_at _ _⟩
       have tg : T ≤ wc.heap.size := HA.out.tz
       have go0 := HA.out.out0 (Nat.le_refl wc.heap.size)
       have go1 := HA.out.out1 (Nat.le_refl wc.heap.size)
       have tb := HA.out.b3
       go_upto_region 23 with fail
       clear z3 z6 z7 HA HD
       obtain ⟨gl, hgl⟩ : ∃ gl, wc.heap.size = gl := ⟨_, rfl⟩
       have Hgo : Hid ((Value.slice (some ⟨g0, off, none⟩) (l.length + 1) cap).ownBlock ≠ some gl ∧ (Value.slice a1 l1.length c1).ownBlock ≠ some gl ∧ T ≤ gl ∧ w.heap.size + 3 < T) := by rw [← hgl]; exact ⟨go0, go1, tg, tb⟩
       rw [hgl] at L1 ⊢
       clear go0 go1 tg tb hgl
       generalize wc.alloc _ = wd at A1 L1 ⊢
       have z3 := A1.out.V0
       have z4 := A1.out.VF 0
       go_cut [14] from 52 to 172 (fun _ wx => ∃ v' : Value, Hid (Pg w q0 m0 q1 m1 T R0 R1 v' (.slice a1 l1.length c1) l l1 wx) ∧ Hid (LetAt wx gl x))
       case first =>
        by_cases hc1 : cap = 1
        ·subst hc1
         have Hq0 : Hid (l = []) := List.length_eq_zero_iff.1 (by have := Hhcap.out; omega)
         have A7 := A1.out.tail0
         go_wp2_with fail
         go_meet
         obtain rfl := Hq0.out
         exact ⟨_, A7, L1.out.keep (setK wd (w.heap.size + 2) 0 _) (by have := Hgo.out; omega)⟩
        ·have A7 := A1.out.tail0
         rw [if_neg hc1] at A7
         go_wp2_with fail
         go_meet
         exact ⟨_, A7, L1.out.keep (setK wd (w.heap.size + 2) 0 _) (by have := Hgo.out; omega)⟩
       case rest =>
       clear z3 z4 A1 L1
       obtain ⟨v', A1, L1⟩ := hcut
       go_upto_region 24 with fail
       go_cut [19, 20] from 52 to 172 (fun s19 s20 wx => ∃ g : Nat, s19 = .pointer (some ⟨g, 0, none⟩) ∧ s20 = .int .i64 0 ∧ Hid (wx.heap[g]? = some (.cells (hec tl dn ch) 40 (0, 0))) ∧ Hid (Pg w q0 m0 q1 m1 T R' R1 v' (.slice a1 l1.length c1) l l1 wx) ∧ Hid (LetAt wx gl x))
       case first =>
        refine wp_region_lx (fun w' => (∃ Ra Rb, Pg w q0 m0 q1 m1 T Ra Rb v' (.slice a1 l1.length c1) l l1 w') ∧ LetAt w' gl x) [] 18 (by kernel_rfl) (by kernel_rfl) ?_
        have A2 := A1.out.below (Below.refl wc.heap.size wc).drew
        have L2 := L1.out.below (Below.refl wc.heap.size wc).drew
        clear A1 L1
        generalize wc.drew = W at A2 L2 ⊢
        have HW : (∃ Ra Rb, Pg w q0 m0 q1 m1 T Ra Rb v' (.slice a1 l1.length c1) l l1 W) ∧ LetAt W gl x := ⟨⟨_, _, A2⟩, L2⟩
        refine lx_r 0 (.int .i64 0) HW ?_; simp only [lxa, lxb, lxc]
        refine lx_r 1 (.pointer (some ⟨w.heap.size, 0, none⟩)) HW ?_; simp only [lxa, lxb, lxc]
        refine lx_r 2 (.pointer (some ⟨q0, 0, none⟩)) HW ?_ (hv := fun w' hS => by obtain ⟨⟨_, _, z⟩, _⟩ := hS; have z0 := z.RF; first | (go_simp; rfl) | go_simp); simp only [lxa, lxb, lxc]
        refine lx_r 3 (.int .i64 0) HW ?_; simp only [lxa, lxb, lxc]
        refine lx_r 4 (.int .i64 1) HW ?_; simp only [lxa, lxb, lxc]
        refine lx_r 5 (.pointer (some ⟨w.heap.size + 1, 1, none⟩)) HW ?_; simp only [lxa, lxb, lxc]
        refine lx_r 6 (.string ⟨#[98, 111, 98]⟩) HW ?_ (hv := fun w' hS => by obtain ⟨⟨_, _, z⟩, _⟩ := hS; have z0 := z.NS; first | (go_simp; rfl) | go_simp); simp only [lxa, lxb, lxc]
        refine lx_r 7 (.pointer (some ⟨gl, 0, none⟩)) HW ?_; simp only [lxa, lxb, lxc]
        refine lx_r 8 (.int .i64 x.1) HW ?_ (hv := fun w' hS => by have z0 := hS.2.c0; first | (go_simp; rfl) | go_simp); simp only [lxa, lxb, lxc]
        refine lx_r 9 (.pointer (some ⟨gl, 1, none⟩)) HW ?_; simp only [lxa, lxb, lxc]
        refine lx_r 10 (.int .u64 x.2) HW ?_ (hv := fun w' hS => by have z0 := hS.2.c1; first | (go_simp; rfl) | go_simp); simp only [lxa, lxb, lxc]
        refine lx_two 11 15 (by kernel_rfl) ?_ ?_
        ·refine stepT_call 7 ?c01 rfl rfl rfl ?d01 ?_
         case d01 => first | (go_simp; rfl) | go_simp
         refine (HcH.out _ _ _ _ W A2).mono ?_
         rintro e w5 ⟨rfl, hr1, kp1⟩
         have hh := A2.hi
         have A2c := A2.step0 hr1 kp1
         have L2c := L2.keep kp1 (by have := Hgo.out; omega)
         refine ⟨_, rfl, fun _ => ⟨⟨_, _, A2c⟩, L2c⟩, ?_⟩
         simp only [lxa, lxb, lxc]
         have HV : (∃ Ra Rb, Pg w q0 m0 q1 m1 T Ra Rb v' (.slice a1 l1.length c1) l l1 w5) ∧ LetAt w5 gl x := ⟨⟨_, _, A2c⟩, L2c⟩
         refine lx_r 12 (.tuple #[.agg #[.int .i64 tl, .bool dn, .bool ch], .int .i64 0]) HV ?_; simp only [lxa, lxb, lxc]
         refine lx_r 13 (.agg #[.int .i64 tl, .bool dn, .bool ch]) HV ?_; simp only [lxa, lxb, lxc]
         refine lx_r 14 (.int .i64 0) HV ?_; simp only [lxa, lxb, lxc]
         refine lx_one 15 (by kernel_rfl) ?_
         have hb2 := below1 w5 (.cells #[.int .i64 0, .bool false, .bool false] 40)
         have A2ca := A2c.below hb2
         have L2ca := L2c.below hb2
         have G2 : (w5.alloc (.cells #[.int .i64 0, .bool false, .bool false] 40)).heap[w5.heap.size]? = some (.cells (hec 0 false false) 40 (0, 0)) := alloc_at _ _
         have hg2 : T ≤ w5.heap.size ∧ gl < w5.heap.size := ⟨A2c.tz, L2c.lt⟩
         have ho2 := A2c.out0 (Nat.le_refl w5.heap.size)
         have hp2 := A2c.out1 (Nat.le_refl w5.heap.size)
         refine stepT_val (w' := w5.alloc (.cells #[.int .i64 0, .bool false, .bool false] 40)) (.pointer (some ⟨w5.heap.size, 0, none⟩)) rfl rfl rfl ?e02 (fun _ => ⟨⟨_, _, A2ca⟩, L2ca⟩) ?_
         case e02 => first | (go_simp; rfl) | go_simp
         simp only [lxa, lxb, lxc]
         have A9 := A2ca.row (hec tl dn ch) hg2.1 ho2 hp2
         have L9 := L2ca.keep (rowK (w5.alloc (.cells #[.int .i64 0, .bool false, .bool false] 40)) w5.heap.size (hec tl dn ch)) (by omega)
         have G9 := setRow_heap (w5.alloc (.cells #[.int .i64 0, .bool false, .bool false] 40)) w5.heap.size _ (hec tl dn ch) 40 (0, 0) G2
         refine lx_one 16 (by kernel_rfl) (stepT_store (w' := (w5.alloc (.cells #[.int .i64 0, .bool false, .bool false] 40)).setRow w5.heap.size (hec tl dn ch)) rfl rfl rfl ?s02 (fun _ => ⟨⟨_, _, A9⟩, L9⟩) ?_)
         case s02 => exact exec_store_row 40 (.tmp 19) (.tmp 155) rfl w5.heap.size (hec tl dn ch) _ rfl rfl G2 (by rw [infoHeard]; rfl) (by rfl) (hec_one _ _ _)
         generalize (w5.alloc (.cells #[.int .i64 0, .bool false, .bool false] 40)).setRow w5.heap.size (hec tl dn ch) = WY at A9 L9 G9 ⊢
         refine lx_one 17 (by kernel_rfl) (stepT_val (w' := WY) (.int .i64 0) rfl rfl rfl ?x02 (fun _ => ⟨⟨_, _, A9⟩, L9⟩) ?_)
         case x02 => first | (go_simp; rfl) | (go_simp; done)
         simp only [lxa, lxb, lxc]
         refine lx_nil (by kernel_rfl) ?_
         go_wp2_with fail
         go_meet
         exact ⟨w5.heap.size, rfl, rfl, G9, A9, L9⟩
        ·have hb3 := below1 W (.cells #[.int .i64 0, .bool false, .bool false] 40)
         have A2a := A2.below hb3
         have L2a := L2.below hb3
         have G3 : (W.alloc (.cells #[.int .i64 0, .bool false, .bool false] 40)).heap[W.heap.size]? = some (.cells (hec 0 false false) 40 (0, 0)) := alloc_at _ _
         have hg3 : T ≤ W.heap.size ∧ gl < W.heap.size := ⟨A2.tz, L2.lt⟩
         have ho3 := A2.out0 (Nat.le_refl W.heap.size)
         have hp3 := A2.out1 (Nat.le_refl W.heap.size)
         refine stepT_val (w' := W.alloc (.cells #[.int .i64 0, .bool false, .bool false] 40)) (.pointer (some ⟨W.heap.size, 0, none⟩)) rfl rfl rfl ?e03 (fun _ => ⟨⟨_, _, A2a⟩, L2a⟩) ?_
         case e03 => first | (go_simp; rfl) | go_simp
         simp only [lxa, lxb, lxc]
         refine lx_one 11 (by kernel_rfl) ?_
         refine stepT_call 7 ?c04 rfl rfl rfl ?d04 ?_
         case d04 => first | (go_simp; rfl) | go_simp
         refine (HcH.out _ _ _ _ (W.alloc (.cells #[.int .i64 0, .bool false, .bool false] 40)) A2a).mono ?_
         rintro e w6 ⟨rfl, hr4, kp4⟩
         have hh := A2a.hi
         have A2ac := A2a.step0 hr4 kp4
         have L2ac := L2a.keep kp4 (by have := Hgo.out; omega)
         refine ⟨_, rfl, fun _ => ⟨⟨_, _, A2ac⟩, L2ac⟩, ?_⟩
         simp only [lxa, lxb, lxc]
         have G4 := box_keep G3 kp4 (by have := A2.hi; have := A2.tz; omega)
         have hg4 := hg3
         have ho4 := ho3
         have hp4 := hp3
         have HV : (∃ Ra Rb, Pg w q0 m0 q1 m1 T Ra Rb v' (.slice a1 l1.length c1) l l1 w6) ∧ LetAt w6 gl x := ⟨⟨_, _, A2ac⟩, L2ac⟩
         refine lx_r 12 (.tuple #[.agg #[.int .i64 tl, .bool dn, .bool ch], .int .i64 0]) HV ?_; simp only [lxa, lxb, lxc]
         refine lx_r 13 (.agg #[.int .i64 tl, .bool dn, .bool ch]) HV ?_; simp only [lxa, lxb, lxc]
         refine lx_r 14 (.int .i64 0) HV ?_; simp only [lxa, lxb, lxc]
         have A9 := A2ac.row (hec tl dn ch) hg4.1 ho4 hp4
         have L9 := L2ac.keep (rowK w6 W.heap.size (hec tl dn ch)) (by omega)
         have G9 := setRow_heap w6 W.heap.size _ (hec tl dn ch) 40 (0, 0) G4
         refine lx_one 16 (by kernel_rfl) (stepT_store (w' := w6.setRow W.heap.size (hec tl dn ch)) rfl rfl rfl ?s04 (fun _ => ⟨⟨_, _, A9⟩, L9⟩) ?_)
         case s04 => exact exec_store_row 40 (.tmp 19) (.tmp 155) rfl W.heap.size (hec tl dn ch) _ rfl rfl G4 (by rw [infoHeard]; rfl) (by rfl) (hec_one _ _ _)
         generalize w6.setRow W.heap.size (hec tl dn ch) = WY at A9 L9 G9 ⊢
         refine lx_one 17 (by kernel_rfl) (stepT_val (w' := WY) (.int .i64 0) rfl rfl rfl ?x04 (fun _ => ⟨⟨_, _, A9⟩, L9⟩) ?_)
         case x04 => first | (go_simp; rfl) | (go_simp; done)
         simp only [lxa, lxb, lxc]
         refine lx_nil (by kernel_rfl) ?_
         go_wp2_with fail
         go_meet
         exact ⟨W.heap.size, rfl, rfl, G9, A9, L9⟩
       case rest =>
       clear A1 L1 HcH
       obtain ⟨g, rfl, rfl, G1, A1, L1⟩ := hcut
       have z8 : wc.cell? ⟨g, 1, none⟩ = some (.bool dn) := by rw [cell_of_block G1.out]; rfl
       have hwl : wt (x :: l) = (if x.1 = 1 then 2 else 1) + wt l := rfl
       have HWl : Hid (wt (x :: l) = (if x.1 = 1 then 2 else 1) + wt l) := hwl
       clear hwl
       cases dn with
       | false =>
        have HPq : Hid (Pz h' h1 l l1 x0 x1) := by have := HP'.out; rw [if_neg (by decide)] at this; exact this
        have hm : mu2 (min n 150) (i + 1) (wt l) (wt l1) < gk := by
         rw [← Hmu.out, HWl.out]
         exact mu2_fall (by split <;> omega)
        have hq3 : l.length + l1.length ≤ i + 1 := by omega
        have hxx : Hid ((0 ≤ x0 ∧ x0 ≤ ((i + 1 : Nat) : Int)) ∧ (0 ≤ x1 ∧ x1 ≤ ((i + 1 : Nat) : Int))) := by have := HCi.out; exact ⟨by omega, by omega⟩
        clear HP' HDn
        go_wp2_with fail
        go_roundg (mu2 (min n 150) (i + 1) (wt l) (wt l1))
        case measure => exact hm
        case rel => exact ⟨i + 1, R', R1, k', k1, h', h1, x0, x1, _, _, l, l1, by go_num, rfl, by omega, hxx.out.1, hxx.out.2, hq3, A1, HOk, HOo, HPq⟩
       | true =>
        have hx1' : x.1 = 1 := HDn.out rfl
        have HPq : Hid (Pz h' h1 l (l1 ++ [(4, x.2)]) x0 x1) := by have := HP'.out; rw [if_pos rfl] at this; exact this
        have hm : mu2 (min n 150) (i + 1) (wt l) (wt (l1 ++ [(4, x.2)])) < gk := by
         rw [← Hmu.out, HWl.out, wt_app, if_pos hx1', if_neg (show ¬ (4 : Int) = 1 by decide)]
         exact mu2_fall (by omega)
        have hq3 : l.length + (l1 ++ [((4 : Int), x.2)]).length ≤ i + 1 := by rw [List.length_append]; simp only [List.length_cons, List.length_nil]; omega
        have hxx : Hid ((0 ≤ x0 ∧ x0 ≤ ((i + 1 : Nat) : Int)) ∧ (0 ≤ x1 ∧ x1 ≤ ((i + 1 : Nat) : Int))) := by have := HCi.out; exact ⟨by omega, by omega⟩
        clear HP' HDn hx1'
        go_upto_region 28 with fail
        refine wp_region_lx (fun w' => w'.cell? ⟨w.heap.size + 2, 1, none⟩ = some (.slice a1 l1.length c1) ∧ LetAt w' gl x) [12] 13 (by kernel_rfl) (by kernel_rfl) ?_
        have A2 := A1.out.below (Below.refl wc.heap.size wc).drew
        have L2 := L1.out.below (Below.refl wc.heap.size wc).drew
        clear A1 L1 z8 G1
        generalize wc.drew = W at A2 L2 ⊢
        have HW : W.cell? ⟨w.heap.size + 2, 1, none⟩ = some (.slice a1 l1.length c1) ∧ LetAt W gl x := ⟨A2.V1, L2⟩
        refine lx_r 0 (.int .i64 0) HW ?_; simp only [lxa, lxb, lxc]
        refine lx_r 1 (.int .i64 1) HW ?_; simp only [lxa, lxb, lxc]
        refine lx_r 2 (.int .i64 0) HW ?_; simp only [lxa, lxb, lxc]
        refine lx_r 3 (.int .i64 1) HW ?_; simp only [lxa, lxb, lxc]
        refine lx_r 4 (.pointer (some ⟨w.heap.size + 2, 1, none⟩)) HW ?_; simp only [lxa, lxb, lxc]
        refine lx_r 5 (.slice a1 l1.length c1) HW ?_ (hv := fun w' hS => by have z0 := hS.1; first | (go_simp; rfl) | go_simp); simp only [lxa, lxb, lxc]
        refine lx_r 6 (.pointer (some ⟨gl, 1, none⟩)) HW ?_; simp only [lxa, lxb, lxc]
        refine lx_r 7 (.int .u64 x.2) HW ?_ (hv := fun w' hS => by have z0 := hS.2.c1; first | (go_simp; rfl) | go_simp); simp only [lxa, lxb, lxc]
        refine lx_r 8 (.agg #[.int .i64 4, .int .u64 x.2]) HW ?_; simp only [lxa, lxb, lxc]
        obtain ⟨v6, w6, hrun, Q6, k6, o6⟩ := run_appQ A2.u1 26 (4, x.2) A2.tz (by omega)
        have ub := below1 W (.cells #[.int .i64 4, .int .u64 x.2] 38)
        have A3 := A2.below ub
        have HW3 : (W.alloc (.cells #[.int .i64 4, .int .u64 x.2] 38)).cell? ⟨w.heap.size + 2, 1, none⟩ = some (.slice a1 l1.length c1) ∧ LetAt (W.alloc (.cells #[.int .i64 4, .int .u64 x.2] 38)) gl x := ⟨A3.V1, L2.below ub⟩
        refine lx_one 9 (by kernel_rfl) (stepT_val (w' := W.alloc (.cells #[.int .i64 4, .int .u64 x.2] 38)) (.slice (some ⟨W.heap.size, 0, none⟩) 1 1) rfl rfl rfl ?b90 (fun _ => HW3) ?_)
        case b90 => first | (go_simp; rfl) | go_simp
        simp only [lxa, lxb, lxc]
        obtain ⟨a6, c6, ev6, _⟩ := Q6.ex
        have HE6 : Hid (v6 = .slice a6 _ c6) := ev6
        clear ev6
        have hbb := A2.b3
        have hown : ∀ j, (Value.slice a1 l1.length c1).ownBlock = some j → T ≤ j := fun j e => (A2.own1 e).1
        have hp := A2.push1 Q6 k6 o6
        have HW6 : w6.cell? ⟨w.heap.size + 2, 1, none⟩ = some (.slice a1 l1.length c1) ∧ LetAt w6 gl x := ⟨k6.cell HW.1 (fun e => by have := hown _ e; simp only at this; omega), L2.keep k6 Hgo.out.2.1⟩
        have x9 : w6.frozen? ⟨w.heap.size + 2, 1, none⟩ = false := unfrozen_of_block hp.1 _
        refine lx_one 10 (by kernel_rfl) (stepT_val (w' := w6) v6 rfl rfl rfl ?b100 (fun _ => HW6) ?_)
        case b100 => exact exec_appQ (.tmp 166) (.tmp 170) rfl rfl rfl hrun
        simp only [lxa, lxb, lxc]
        refine lx_r 11 (.pointer (some ⟨w.heap.size + 2, 1, none⟩)) HW6 ?_; simp only [lxa, lxb, lxc]
        refine lx_one 12 (by kernel_rfl) (stepT_store (w' := w6.setCell ⟨w.heap.size + 2, 1, none⟩ v6) rfl rfl rfl ?b120 (fun h => absurd h (by decide)) ?_)
        case b120 => (have z0 := HW6.1; rw [HE6.out]; first | (go_simp; rfl) | go_simp)
        refine lx_nil (by kernel_rfl) ?_
        have A6 : Hid (Pg w q0 m0 q1 m1 T R' R1 v' v6 l (l1 ++ [(4, x.2)]) (w6.setCell ⟨w.heap.size + 2, 1, none⟩ v6)) := hp.2
        clear hp HW6 x9 HW3 HW A2 A3 L2 Q6 k6 o6 hrun ub hown hbb
        generalize w6.setCell _ _ = W9 at A6 ⊢
        go_wp2_with fail
        go_roundg (mu2 (min n 150) (i + 1) (wt l) (wt (l1 ++ [(4, x.2)])))
        case measure => exact hm
        case rel => exact ⟨i + 1, R', R1, k', k1, h', h1, x0, x1, _, _, l, (l1 ++ [(4, x.2)]), by go_num, rfl, by omega, hxx.out.1, hxx.out.2, hq3, A6, HOk, HOo, HPq⟩
     ·cases l1 with
      | nil => as_aux_lemma =>
       have z3 := HA.out.V1
       have hm : mu2 (min n 150) (i + 1) (wt l0) 0 < gk := by
        rw [← Hmu.out]
        rcases hpar.out with k | ⟨k1, k2, k3⟩
        ·exact mu2_early k (by simp only [wt]; omega)
        ·exact mu2_skip1 (by omega) (wt_pos (by simpa using k3))
       have HOa : Hid (On R0 bbob it ak k0 h0 x0 ((i + 1 : Nat) : Int)) := by rw [HCi.out]; exact HO0.out.more
       have HOb : Hid (On R1 bann it ak k1 h1 x1 ((i + 1 : Nat) : Int)) := by rw [HCi.out]; exact HO1.out.more
       go_wp2_with fail
       go_roundg (mu2 (min n 150) (i + 1) (wt l0) 0)
       case measure => exact hm
       case rel => exact ⟨i + 1, R0, R1, k0, k1, h0, h1, x0, x1, _, _, l0, [], by go_num, rfl, by omega, ⟨hx0.1, by omega⟩, ⟨hx1.1, by omega⟩, by simp only [List.length_nil] at hql ⊢; omega, HA, HOa, HOb, HP⟩
      | cons x l => as_aux_lemma =>
       obtain ⟨g0, off, cap, ev, hcap, hcm, _, _, _⟩ := HA.out.u1.head
       injection ev with ev1 _ ev3
       subst ev1
       obtain rfl := ev3.symm
       replace HA : Hid (Pg w q0 m0 q1 m1 T R0 R1 (.slice a0 l0.length c0) (.slice (some ⟨g0, off, none⟩) (l.length + 1) cap) l0 (x :: l) wc) := HA
       obtain ⟨g', off', cap', e', _, _, z6, z7, _⟩ := HA.out.u1.head
       injection e' with e1 _ e4
       injection e1 with e1
       injection e1 with e1 e2 _
       subst e1 e2 e4
       obtain ⟨hz, k', h', hO', hP', hdn⟩ := pair_hear HO1.out HP.out.swap (by omega : (0 : Int) ≤ (i : Int))
       have eS : hearS R1 bann x.1 x.2 = hearP R1 bann x.1 x.2 := by unfold hearS; rw [pann.2, pann.1, if_pos rfl]
       have hG := HO1.out.rg ⟨hx1.1, by omega⟩ (by omega)
       have cH : ∀ (va vb : Value) (la lb : List Lt) (W : World), Pg w q0 m0 q1 m1 T R0 R1 va vb la lb W → Calls Tryd.prog 7 #[.pointer (some ⟨q1, 0, none⟩), .string bann, .int .i64 x.1, .int .u64 x.2] W fun e w' => e = .returned (.tuple #[.agg (hec (hearP R1 bann x.1 x.2).1.1 (hearP R1 bann x.1 x.2).1.2.1 (hearP R1 bann x.1 x.2).1.2.2), .int .i64 (hearP R1 bann x.1 x.2).2.1]) ∧ RA w' q1 m1 (hearP R1 bann x.1 x.2).2.2 ∧ Keep (fun j => j = q1 ∨ j = m1) W w' := fun va vb la lb W A => by
        have h := Hear_R W q1 m1 R1 A.r1 hG bann (by decide) x.1 x.2 (tabs_keep HT.out (Keep.ofBelow (S := fun _ => False) A.bl) (fun h => h) (fun h => h)) (by rw [pann.1]; decide)
        rw [eS] at h
        exact h
       clear eS hG
       generalize hearP R1 bann x.1 x.2 = r at cH hO' hP' hz hdn
       obtain ⟨⟨tl, dn, ch⟩, en, R'⟩ := r
       dsimp only at cH hO' hP' hz hdn
       subst hz
       have HcH : Hid _ := cH
       have HOk : Hid (On R' bann it ak k' h' x1 ((i + 1 : Nat) : Int)) := by rw [HCi.out]; exact hO'
       have HP' : Hid (Pz h' h0 l (if dn = true then l0 ++ [(4, x.2)] else l0) x1 x0) := hP'
       have HDn : Hid (dn = true → x.1 = 1) := hdn
       have HOo : Hid (On R0 bbob it ak k0 h0 x0 ((i + 1 : Nat) : Int)) := by rw [HCi.out]; exact HO0.out.more
       clear cH hO' hP' hdn HP HO0 HO1
       unfold bann hec at HcH
       have hql2 : l.length + l0.length + 1 ≤ i := by simp only [List.length_cons] at hql; omega
       have z3 := HA.out.V1
       have hpos : (0 : Int) < (l.length : Int) + 1 := by omega
       go_upto_region 22 with fail
       have Hhcap : Hid (l.length + 1 ≤ cap) := hcap
       clear hcap
       have A1 : Hid (Pg w q0 m0 q1 m1 T R0 R1 (.slice a0 l0.length c0) (.slice (some ⟨g0, off, none⟩) (l.length + 1) cap) l0 (x :: l) (wc.alloc (.cells #[.int .i64 x.1, .int .u64 x.2] 38))) := HA.out.below (below1 _ _)
       have L1 : Hid (LetAt (wc.alloc (.cells #[.int .i64 x.1, .int .u64 x.2] 38)) wc.heap.size x) := ⟨alloc_at _ _⟩
       have tg : T ≤ wc.heap.size := HA.out.tz
       have go0 := HA.out.out0 (Nat.le_refl wc.heap.size)
       have go1 := HA.out.out1 (Nat.le_refl wc.heap.size)
       have tb := HA.out.b3
       go_upto_region 23 with fail
       clear z3 z6 z7 HA HD
       obtain ⟨gl, hgl⟩ : ∃ gl, wc.heap.size = gl := ⟨_, rfl⟩
       have Hgo : Hid ((Value.slice a0 l0.length c0).ownBlock ≠ some gl ∧ (Value.slice (some ⟨g0, off, none⟩) (l.length + 1) cap).ownBlock ≠ some gl ∧ T ≤ gl ∧ w.heap.size + 3 < T) := by rw [← hgl]; exact ⟨go0, go1, tg, tb⟩
       rw [hgl] at L1 ⊢
       clear go0 go1 tg tb hgl
       generalize wc.alloc _ = wd at A1 L1 ⊢
       have z3 := A1.out.V1
       have z4 := A1.out.VF 1
       go_cut [14] from 52 to 172 (fun _ wx => ∃ v' : Value, Hid (Pg w q0 m0 q1 m1 T R0 R1 (.slice a0 l0.length c0) v' l0 l wx) ∧ Hid (LetAt wx gl x))
       case first =>
        by_cases hc1 : cap = 1
        ·subst hc1
         have Hq0 : Hid (l = []) := List.length_eq_zero_iff.1 (by have := Hhcap.out; omega)
         have A7 := A1.out.tail1
         go_wp2_with fail
         go_meet
         obtain rfl := Hq0.out
         exact ⟨_, A7, L1.out.keep (setK wd (w.heap.size + 2) 1 _) (by have := Hgo.out; omega)⟩
        ·have A7 := A1.out.tail1
         rw [if_neg hc1] at A7
         go_wp2_with fail
         go_meet
         exact ⟨_, A7, L1.out.keep (setK wd (w.heap.size + 2) 1 _) (by have := Hgo.out; omega)⟩
       case rest =>
       clear z3 z4 A1 L1
       obtain ⟨v', A1, L1⟩ := hcut
       go_upto_region 24 with fail
       go_cut [19, 20] from 52 to 172 (fun s19 s20 wx => ∃ g : Nat, s19 = .pointer (some ⟨g, 0, none⟩) ∧ s20 = .int .i64 0 ∧ Hid (wx.heap[g]? = some (.cells (hec tl dn ch) 40 (0, 0))) ∧ Hid (Pg w q0 m0 q1 m1 T R0 R' (.slice a0 l0.length c0) v' l0 l wx) ∧ Hid (LetAt wx gl x))
       case first =>
        refine wp_region_lx (fun w' => (∃ Ra Rb, Pg w q0 m0 q1 m1 T Ra Rb (.slice a0 l0.length c0) v' l0 l w') ∧ LetAt w' gl x) [] 18 (by kernel_rfl) (by kernel_rfl) ?_
        have A2 := A1.out.below (Below.refl wc.heap.size wc).drew
        have L2 := L1.out.below (Below.refl wc.heap.size wc).drew
        clear A1 L1
        generalize wc.drew = W at A2 L2 ⊢
        have HW : (∃ Ra Rb, Pg w q0 m0 q1 m1 T Ra Rb (.slice a0 l0.length c0) v' l0 l W) ∧ LetAt W gl x := ⟨⟨_, _, A2⟩, L2⟩
        refine lx_r 0 (.int .i64 1) HW ?_; simp only [lxa, lxb, lxc]
        refine lx_r 1 (.pointer (some ⟨w.heap.size, 1, none⟩)) HW ?_; simp only [lxa, lxb, lxc]
        refine lx_r 2 (.pointer (some ⟨q1, 0, none⟩)) HW ?_ (hv := fun w' hS => by obtain ⟨⟨_, _, z⟩, _⟩ := hS; have z0 := z.RS; first | (go_simp; rfl) | go_simp); simp only [lxa, lxb, lxc]
        refine lx_r 3 (.int .i64 1) HW ?_; simp only [lxa, lxb, lxc]
        refine lx_r 4 (.int .i64 0) HW ?_; simp only [lxa, lxb, lxc]
        refine lx_r 5 (.pointer (some ⟨w.heap.size + 1, 0, none⟩)) HW ?_; simp only [lxa, lxb, lxc]
        refine lx_r 6 (.string ⟨#[97, 110, 110]⟩) HW ?_ (hv := fun w' hS => by obtain ⟨⟨_, _, z⟩, _⟩ := hS; have z0 := z.NF; first | (go_simp; rfl) | go_simp); simp only [lxa, lxb, lxc]
        refine lx_r 7 (.pointer (some ⟨gl, 0, none⟩)) HW ?_; simp only [lxa, lxb, lxc]
        refine lx_r 8 (.int .i64 x.1) HW ?_ (hv := fun w' hS => by have z0 := hS.2.c0; first | (go_simp; rfl) | go_simp); simp only [lxa, lxb, lxc]
        refine lx_r 9 (.pointer (some ⟨gl, 1, none⟩)) HW ?_; simp only [lxa, lxb, lxc]
        refine lx_r 10 (.int .u64 x.2) HW ?_ (hv := fun w' hS => by have z0 := hS.2.c1; first | (go_simp; rfl) | go_simp); simp only [lxa, lxb, lxc]
        refine lx_two 11 15 (by kernel_rfl) ?_ ?_
        ·refine stepT_call 7 ?c11 rfl rfl rfl ?d11 ?_
         case d11 => first | (go_simp; rfl) | go_simp
         refine (HcH.out _ _ _ _ W A2).mono ?_
         rintro e w5 ⟨rfl, hr1, kp1⟩
         have hh := A2.hi
         have A2c := A2.step1 hr1 kp1
         have L2c := L2.keep kp1 (by have := Hgo.out; omega)
         refine ⟨_, rfl, fun _ => ⟨⟨_, _, A2c⟩, L2c⟩, ?_⟩
         simp only [lxa, lxb, lxc]
         have HV : (∃ Ra Rb, Pg w q0 m0 q1 m1 T Ra Rb (.slice a0 l0.length c0) v' l0 l w5) ∧ LetAt w5 gl x := ⟨⟨_, _, A2c⟩, L2c⟩
         refine lx_r 12 (.tuple #[.agg #[.int .i64 tl, .bool dn, .bool ch], .int .i64 0]) HV ?_; simp only [lxa, lxb, lxc]
         refine lx_r 13 (.agg #[.int .i64 tl, .bool dn, .bool ch]) HV ?_; simp only [lxa, lxb, lxc]
         refine lx_r 14 (.int .i64 0) HV ?_; simp only [lxa, lxb, lxc]
         refine lx_one 15 (by kernel_rfl) ?_
         have hb2 := below1 w5 (.cells #[.int .i64 0, .bool false, .bool false] 40)
         have A2ca := A2c.below hb2
         have L2ca := L2c.below hb2
         have G2 : (w5.alloc (.cells #[.int .i64 0, .bool false, .bool false] 40)).heap[w5.heap.size]? = some (.cells (hec 0 false false) 40 (0, 0)) := alloc_at _ _
         have hg2 : T ≤ w5.heap.size ∧ gl < w5.heap.size := ⟨A2c.tz, L2c.lt⟩
         have ho2 := A2c.out0 (Nat.le_refl w5.heap.size)
         have hp2 := A2c.out1 (Nat.le_refl w5.heap.size)
         refine stepT_val (w' := w5.alloc (.cells #[.int .i64 0, .bool false, .bool false] 40)) (.pointer (some ⟨w5.heap.size, 0, none⟩)) rfl rfl rfl ?e12 (fun _ => ⟨⟨_, _, A2ca⟩, L2ca⟩) ?_
         case e12 => first | (go_simp; rfl) | go_simp
         simp only [lxa, lxb, lxc]
         have A9 := A2ca.row (hec tl dn ch) hg2.1 ho2 hp2
         have L9 := L2ca.keep (rowK (w5.alloc (.cells #[.int .i64 0, .bool false, .bool false] 40)) w5.heap.size (hec tl dn ch)) (by omega)
         have G9 := setRow_heap (w5.alloc (.cells #[.int .i64 0, .bool false, .bool false] 40)) w5.heap.size _ (hec tl dn ch) 40 (0, 0) G2
         refine lx_one 16 (by kernel_rfl) (stepT_store (w' := (w5.alloc (.cells #[.int .i64 0, .bool false, .bool false] 40)).setRow w5.heap.size (hec tl dn ch)) rfl rfl rfl ?s12 (fun _ => ⟨⟨_, _, A9⟩, L9⟩) ?_)
         case s12 => exact exec_store_row 40 (.tmp 19) (.tmp 155) rfl w5.heap.size (hec tl dn ch) _ rfl rfl G2 (by rw [infoHeard]; rfl) (by rfl) (hec_one _ _ _)
         generalize (w5.alloc (.cells #[.int .i64 0, .bool false, .bool false] 40)).setRow w5.heap.size (hec tl dn ch) = WY at A9 L9 G9 ⊢
         refine lx_one 17 (by kernel_rfl) (stepT_val (w' := WY) (.int .i64 0) rfl rfl rfl ?x12 (fun _ => ⟨⟨_, _, A9⟩, L9⟩) ?_)
         case x12 => first | (go_simp; rfl) | (go_simp; done)
         simp only [lxa, lxb, lxc]
         refine lx_nil (by kernel_rfl) ?_
         go_wp2_with fail
         go_meet
         exact ⟨w5.heap.size, rfl, rfl, G9, A9, L9⟩
        ·have hb3 := below1 W (.cells #[.int .i64 0, .bool false, .bool false] 40)
         have A2a := A2.below hb3
         have L2a := L2.below hb3
         have G3 : (W.alloc (.cells #[.int .i64 0, .bool false, .bool false] 40)).heap[W.heap.size]? = some (.cells (hec 0 false false) 40 (0, 0)) := alloc_at _ _
         have hg3 : T ≤ W.heap.size ∧ gl < W.heap.size := ⟨A2.tz, L2.lt⟩
         have ho3 := A2.out0 (Nat.le_refl W.heap.size)
         have hp3 := A2.out1 (Nat.le_refl W.heap.size)
         refine stepT_val (w' := W.alloc (.cells #[.int .i64 0, .bool false, .bool false] 40)) (.pointer (some ⟨W.heap.size, 0, none⟩)) rfl rfl rfl ?e13 (fun _ => ⟨⟨_, _, A2a⟩, L2a⟩) ?_
         case e13 => first | (go_simp; rfl) | go_simp
         simp only [lxa, lxb, lxc]
         refine lx_one 11 (by kernel_rfl) ?_
         refine stepT_call 7 ?c14 rfl rfl rfl ?d14 ?_
         case d14 => first | (go_simp; rfl) | go_simp
         refine (HcH.out _ _ _ _ (W.alloc (.cells #[.int .i64 0, .bool false, .bool false] 40)) A2a).mono ?_
         rintro e w6 ⟨rfl, hr4, kp4⟩
         have hh := A2a.hi
         have A2ac := A2a.step1 hr4 kp4
         have L2ac := L2a.keep kp4 (by have := Hgo.out; omega)
         refine ⟨_, rfl, fun _ => ⟨⟨_, _, A2ac⟩, L2ac⟩, ?_⟩
         simp only [lxa, lxb, lxc]
         have G4 := box_keep G3 kp4 (by have := A2.hi; have := A2.tz; omega)
         have hg4 := hg3
         have ho4 := ho3
         have hp4 := hp3
         have HV : (∃ Ra Rb, Pg w q0 m0 q1 m1 T Ra Rb (.slice a0 l0.length c0) v' l0 l w6) ∧ LetAt w6 gl x := ⟨⟨_, _, A2ac⟩, L2ac⟩
         refine lx_r 12 (.tuple #[.agg #[.int .i64 tl, .bool dn, .bool ch], .int .i64 0]) HV ?_; simp only [lxa, lxb, lxc]
         refine lx_r 13 (.agg #[.int .i64 tl, .bool dn, .bool ch]) HV ?_; simp only [lxa, lxb, lxc]
         refine lx_r 14 (.int .i64 0) HV ?_; simp only [lxa, lxb, lxc]
         have A9 := A2ac.row (hec tl dn ch) hg4.1 ho4 hp4
         have L9 := L2ac.keep (rowK w6 W.heap.size (hec tl dn ch)) (by omega)
         have G9 := setRow_heap w6 W.heap.size _ (hec tl dn ch) 40 (0, 0) G4
         refine lx_one 16 (by kernel_rfl) (stepT_store (w' := w6.setRow W.heap.size (hec tl dn ch)) rfl rfl rfl ?s14 (fun _ => ⟨⟨_, _, A9⟩, L9⟩) ?_)
         case s14 => exact exec_store_row 40 (.tmp 19) (.tmp 155) rfl W.heap.size (hec tl dn ch) _ rfl rfl G4 (by rw [infoHeard]; rfl) (by rfl) (hec_one _ _ _)
         generalize w6.setRow W.heap.size (hec tl dn ch) = WY at A9 L9 G9 ⊢
         refine lx_one 17 (by kernel_rfl) (stepT_val (w' := WY) (.int .i64 0) rfl rfl rfl ?x14 (fun _ => ⟨⟨_, _, A9⟩, L9⟩) ?_)
         case x14 => first | (go_simp; rfl) | (go_simp; done)
         simp only [lxa, lxb, lxc]
         refine lx_nil (by kernel_rfl) ?_
         go_wp2_with fail
         go_meet
         exact ⟨W.heap.size, rfl, rfl, G9, A9, L9⟩
       case rest =>
       clear A1 L1 HcH
       obtain ⟨g, rfl, rfl, G1, A1, L1⟩ := hcut
       have z8 : wc.cell? ⟨g, 1, none⟩ = some (.bool dn) := by rw [cell_of_block G1.out]; rfl
       have hwl : wt (x :: l) = (if x.1 = 1 then 2 else 1) + wt l := rfl
       have HWl : Hid (wt (x :: l) = (if x.1 = 1 then 2 else 1) + wt l) := hwl
       clear hwl
       cases dn with
       | false =>
        have HPq : Hid (Pz h' h0 l l0 x1 x0) := by have := HP'.out; rw [if_neg (by decide)] at this; exact this
        have hm : mu2 (min n 150) (i + 1) (wt l0) (wt l) < gk := by
         rw [← Hmu.out, HWl.out]
         exact mu2_fall (by split <;> omega)
        have hq3 : l0.length + l.length ≤ i + 1 := by omega
        have hxx : Hid ((0 ≤ x0 ∧ x0 ≤ ((i + 1 : Nat) : Int)) ∧ (0 ≤ x1 ∧ x1 ≤ ((i + 1 : Nat) : Int))) := by have := HCi.out; exact ⟨by omega, by omega⟩
        clear HP' HDn
        go_wp2_with fail
        go_roundg (mu2 (min n 150) (i + 1) (wt l0) (wt l))
        case measure => exact hm
        case rel => exact ⟨i + 1, R0, R', k0, k', h0, h', x0, x1, _, _, l0, l, by go_num, rfl, by omega, hxx.out.1, hxx.out.2, hq3, A1, HOo, HOk, HPq.out.swap⟩
       | true =>
        have hx1' : x.1 = 1 := HDn.out rfl
        have HPq : Hid (Pz h' h0 l (l0 ++ [(4, x.2)]) x1 x0) := by have := HP'.out; rw [if_pos rfl] at this; exact this
        have hm : mu2 (min n 150) (i + 1) (wt (l0 ++ [(4, x.2)])) (wt l) < gk := by
         rw [← Hmu.out, HWl.out, wt_app, if_pos hx1', if_neg (show ¬ (4 : Int) = 1 by decide)]
         exact mu2_fall (by omega)
        have hq3 : (l0 ++ [((4 : Int), x.2)]).length + l.length ≤ i + 1 := by rw [List.length_append]; simp only [List.length_cons, List.length_nil]; omega
        have hxx : Hid ((0 ≤ x0 ∧ x0 ≤ ((i + 1 : Nat) : Int)) ∧ (0 ≤ x1 ∧ x1 ≤ ((i + 1 : Nat) : Int))) := by have := HCi.out; exact ⟨by omega, by omega⟩
        clear HP' HDn hx1'
        go_upto_region 28 with fail
        refine wp_region_lx (fun w' => w'.cell? ⟨w.heap.size + 2, 0, none⟩ = some (.slice a0 l0.length c0) ∧ LetAt w' gl x) [12] 13 (by kernel_rfl) (by kernel_rfl) ?_
        have A2 := A1.out.below (Below.refl wc.heap.size wc).drew
        have L2 := L1.out.below (Below.refl wc.heap.size wc).drew
        clear A1 L1 z8 G1
        generalize wc.drew = W at A2 L2 ⊢
        have HW : W.cell? ⟨w.heap.size + 2, 0, none⟩ = some (.slice a0 l0.length c0) ∧ LetAt W gl x := ⟨A2.V0, L2⟩
        refine lx_r 0 (.int .i64 1) HW ?_; simp only [lxa, lxb, lxc]
        refine lx_r 1 (.int .i64 0) HW ?_; simp only [lxa, lxb, lxc]
        refine lx_r 2 (.int .i64 1) HW ?_; simp only [lxa, lxb, lxc]
        refine lx_r 3 (.int .i64 0) HW ?_; simp only [lxa, lxb, lxc]
        refine lx_r 4 (.pointer (some ⟨w.heap.size + 2, 0, none⟩)) HW ?_; simp only [lxa, lxb, lxc]
        refine lx_r 5 (.slice a0 l0.length c0) HW ?_ (hv := fun w' hS => by have z0 := hS.1; first | (go_simp; rfl) | go_simp); simp only [lxa, lxb, lxc]
        refine lx_r 6 (.pointer (some ⟨gl, 1, none⟩)) HW ?_; simp only [lxa, lxb, lxc]
        refine lx_r 7 (.int .u64 x.2) HW ?_ (hv := fun w' hS => by have z0 := hS.2.c1; first | (go_simp; rfl) | go_simp); simp only [lxa, lxb, lxc]
        refine lx_r 8 (.agg #[.int .i64 4, .int .u64 x.2]) HW ?_; simp only [lxa, lxb, lxc]
        obtain ⟨v6, w6, hrun, Q6, k6, o6⟩ := run_appQ A2.u0 26 (4, x.2) A2.tz (by omega)
        have ub := below1 W (.cells #[.int .i64 4, .int .u64 x.2] 38)
        have A3 := A2.below ub
        have HW3 : (W.alloc (.cells #[.int .i64 4, .int .u64 x.2] 38)).cell? ⟨w.heap.size + 2, 0, none⟩ = some (.slice a0 l0.length c0) ∧ LetAt (W.alloc (.cells #[.int .i64 4, .int .u64 x.2] 38)) gl x := ⟨A3.V0, L2.below ub⟩
        refine lx_one 9 (by kernel_rfl) (stepT_val (w' := W.alloc (.cells #[.int .i64 4, .int .u64 x.2] 38)) (.slice (some ⟨W.heap.size, 0, none⟩) 1 1) rfl rfl rfl ?b91 (fun _ => HW3) ?_)
        case b91 => first | (go_simp; rfl) | go_simp
        simp only [lxa, lxb, lxc]
        obtain ⟨a6, c6, ev6, _⟩ := Q6.ex
        have HE6 : Hid (v6 = .slice a6 _ c6) := ev6
        clear ev6
        have hbb := A2.b3
        have hown : ∀ j, (Value.slice a0 l0.length c0).ownBlock = some j → T ≤ j := fun j e => (A2.own0 e).1
        have hp := A2.push0 Q6 k6 o6
        have HW6 : w6.cell? ⟨w.heap.size + 2, 0, none⟩ = some (.slice a0 l0.length c0) ∧ LetAt w6 gl x := ⟨k6.cell HW.1 (fun e => by have := hown _ e; simp only at this; omega), L2.keep k6 Hgo.out.1⟩
        have x9 : w6.frozen? ⟨w.heap.size + 2, 0, none⟩ = false := unfrozen_of_block hp.1 _
        refine lx_one 10 (by kernel_rfl) (stepT_val (w' := w6) v6 rfl rfl rfl ?b101 (fun _ => HW6) ?_)
        case b101 => exact exec_appQ (.tmp 166) (.tmp 170) rfl rfl rfl hrun
        simp only [lxa, lxb, lxc]
        refine lx_r 11 (.pointer (some ⟨w.heap.size + 2, 0, none⟩)) HW6 ?_; simp only [lxa, lxb, lxc]
        refine lx_one 12 (by kernel_rfl) (stepT_store (w' := w6.setCell ⟨w.heap.size + 2, 0, none⟩ v6) rfl rfl rfl ?b121 (fun h => absurd h (by decide)) ?_)
        case b121 => (have z0 := HW6.1; rw [HE6.out]; first | (go_simp; rfl) | go_simp)
        refine lx_nil (by kernel_rfl) ?_
        have A6 : Hid (Pg w q0 m0 q1 m1 T R0 R' v6 v' (l0 ++ [(4, x.2)]) l (w6.setCell ⟨w.heap.size + 2, 0, none⟩ v6)) := hp.2
        clear hp HW6 x9 HW3 HW A2 A3 L2 Q6 k6 o6 hrun ub hown hbb
        generalize w6.setCell _ _ = W9 at A6 ⊢
        go_wp2_with fail
        go_roundg (mu2 (min n 150) (i + 1) (wt (l0 ++ [(4, x.2)])) (wt l))
        case measure => exact hm
        case rel => exact ⟨i + 1, R0, R', k0, k', h0, h', x0, x1, _, _, (l0 ++ [(4, x.2)]), l, by go_num, rfl, by omega, hxx.out.1, hxx.out.2, hq3, A6, HOo, HOk, HPq.out.swap⟩
end Go.Proofs.YtppdopcghnfapaaDoor
