/- The document's Read of a record. -/
import Derived.Test.YtiidjdedeenijaaDoorCdB
import Derived.Test.YtiidjdedeenijaaDoorRefX
import Derived.Test.YtiidjdedeenijaaDoorCwG
namespace Go.Proofs.YtiidjdedeenijaaDoor
open Go.RowKit

theorem RcAt.setK {w : World} {g : Nat} {x0 x1 x2 : Value} {K V : List Int} (h : RcAt w g (recL x0 x1 x2 K V)) {i : Nat} (hi : i < K.length) (x : Int) : RcAt (w.setCell ⟨g, 3 + i, none⟩ (.int .u8 x)) g (recL x0 x1 x2 (K.set i x) V) := by
  refine (heap_setCell_same w g (3 + i) _ _ _ h).trans ?_
  have e : (recL x0 x1 x2 K V).set (3 + i) (.int .u8 x) = recL x0 x1 x2 (K.set i x) V := by
    unfold recL
    rw [show 3 + i = i + 1 + 1 + 1 by omega]
    simp only [List.set_cons_succ]
    rw [List.set_append, if_pos (by rw [ic_len]; exact hi)]
    simp [ic, List.map_set]
  rw [← e]
  simp
theorem RcAt.setV {w : World} {g : Nat} {x0 x1 x2 : Value} {K V : List Int} (h : RcAt w g (recL x0 x1 x2 K V)) (hK : K.length = 32) (i : Nat) (x : Int) : RcAt (w.setCell ⟨g, 35 + i, none⟩ (.int .u8 x)) g (recL x0 x1 x2 K (V.set i x)) := by
  refine (heap_setCell_same w g (35 + i) _ _ _ h).trans ?_
  have e : (recL x0 x1 x2 K V).set (35 + i) (.int .u8 x) = recL x0 x1 x2 K (V.set i x) := by
    unfold recL
    rw [show 35 + i = (32 + i) + 1 + 1 + 1 by omega]
    simp only [List.set_cons_succ]
    rw [List.set_append, if_neg (by rw [ic_len, hK]; omega), ic_len, hK, show 32 + i - 32 = i by omega]
    simp [ic, List.map_set]
  rw [← e]
  simp
/-- The first i of a list, and zeros. -/
def tz (Y : List Int) (i : Nat) : List Int := Y.take i ++ List.replicate (32 - i) 0
theorem tz_zero (Y : List Int) : tz Y 0 = Z32 := by simp [tz, Z32]
theorem tz_last (Y : List Int) : tz Y 32 = Y.take 32 := by simp [tz]
theorem tz_len (Y : List Int) (i : Nat) (hi : i ≤ 32) (h : 32 ≤ Y.length) : (tz Y i).length = 32 := by simp [tz]; omega
theorem tz_succ (Y : List Int) (i : Nat) (hi : i < 32) (h : 32 ≤ Y.length) : tz Y (i + 1) = (tz Y i).set i (Y.getD i 0) := by
  unfold tz
  have l : (Y.take i).length = i := by rw [List.length_take]; omega
  rw [List.set_append, if_neg (by omega), l, Nat.sub_self, show 32 - i = (32 - (i + 1)) + 1 by omega, List.replicate_succ, List.set_cons_zero, List.take_succ_eq_append_getElem (by omega)]
  have e : Y.getD i 0 = Y[i]'(by omega) := by simp [List.getD, List.getElem?_eq_getElem (show i < Y.length by omega)]
  rw [e, List.append_assoc]
  rfl

set_option maxRecDepth 100000 in
set_option maxHeartbeats 3200000 in
theorem rread_no1 (a : Option Addr) (n c : Nat) (xs : List Int) (w : World) (hR : Rd w a n c xs) (E : Int) (hE : (E == 0) = false)
    (cT : ∀ u, Rd u a n c xs → Calls Tryd.prog 38 #[.slice a n c, .int .i64 64] u fun e w' => e = .returned (.tuple #[.string ⟨#[]⟩, .slice none 0 0, .int .i64 E]) ∧ Below u.heap.size u w') :
    Calls Tryd.prog 18 #[.slice a n c] w fun e w' => e = .returned (.tuple #[.agg rec0.toArray, .bool false]) ∧ Below w.heap.size w w' := by
  have tk1 : True := trivial
  go_enter Tryd.func18, Tryd.ntmps18
  go_upto_region 2 with (first
    | (refine wp_alloc_row rfl 28 rfl rec0 67 zero_rec ?_; clear tk1; intro g2 w1 G1 hg2 hb1)
    | (refine wp_alloc_row rfl 28 rfl rec0 67 zero_rec ?_; intro g4 w2 G4 hg4 hb2))
  have G1 : RcAt w1 g2 rec0 := G1
  have g2l := G1.lt
  have G2 := G1.below hb2
  have G4 : RcAt w2 g4 rec0 := G4
  have g4l := G4.lt
  have b2 := hb1.trans (hb2.mono hb1.size)
  have R2 := hR.carry (Nat.le_refl _) b2
  have hwg2 : w.heap.size ≤ g2 := hg2
  have h24 : g2 ≠ g4 := by omega
  clear G1 hR
  go_wp2_with (first
    | (go_at_call 38; refine (cT _ R2).mono ?_; rintro e w3 ⟨rfl, hb3⟩; have G3 := G2.below hb3; have b3 := b2.trans (hb3.mono b2.size))
    | (refine wp_build_rec0 rfl rfl ?_)
    | (refine wp_store_rec rfl (.tmp 2) (.tmp 19) rfl g2 rfl _ rfl _ G3 rec0_len rec0_len (rec_one _ _ _ _ _ _ _) ?_; intro wz Gz kz))
  have bz := b3.trans ((kz.mono (fun _ e => (show w.heap.size ≤ _ by omega))).below b3.size (fun _ h => h))
  exact bodyPost_ret (results_rec rfl _ _ g2 rec0 (.bool false) rfl rfl Gz rec0_len) rfl ⟨rfl, bz⟩

set_option maxRecDepth 100000 in
set_option maxHeartbeats 3200000 in
theorem rread_no2a (a : Option Addr) (n c : Nat) (xs : List Int) (w : World) (hR : Rd w a n c xs) (U : ByteArray) (Y1 : List Int) (E : Int) (hE : (E == 0) = false)
    (cT : ∀ u, Rd u a n c xs → Calls Tryd.prog 38 #[.slice a n c, .int .i64 64] u fun e w' => ∃ a' n' c', e = .returned (.tuple #[.string U, .slice a' n' c', .int .i64 0]) ∧ Rd w' a' n' c' Y1 ∧ Below u.heap.size u w')
    (cU1 : ∀ u p q r, Rd u p q r Y1 → Calls Tryd.prog 39 #[.slice p q r] u fun e w' => e = .returned (.tuple #[.int .u64 0, .slice none 0 0, .int .i64 E]) ∧ Below u.heap.size u w') :
    Calls Tryd.prog 18 #[.slice a n c] w fun e w' => e = .returned (.tuple #[.agg rec0.toArray, .bool false]) ∧ Below w.heap.size w w' := by
  have tk1 : True := trivial
  go_enter Tryd.func18, Tryd.ntmps18
  go_upto_region 2 with (first
    | (refine wp_alloc_row rfl 28 rfl rec0 67 zero_rec ?_; clear tk1; intro g2 w1 G1 hg2 hb1)
    | (refine wp_alloc_row rfl 28 rfl rec0 67 zero_rec ?_; intro g4 w2 G4 hg4 hb2))
  have G1 : RcAt w1 g2 rec0 := G1
  have g2l := G1.lt
  have G2 := G1.below hb2
  have G4 : RcAt w2 g4 rec0 := G4
  have g4l := G4.lt
  have b2 := hb1.trans (hb2.mono hb1.size)
  have R2 := hR.carry (Nat.le_refl _) b2
  have hwg2 : w.heap.size ≤ g2 := hg2
  have h24 : g2 ≠ g4 := by omega
  clear G1 hR
  have hE2 : (E != 0) = true := by simpa using hE
  go_upto_region 3 with (go_at_call 38; refine (cT _ R2).mono ?_; rintro e w3 ⟨a3, n3, c3, rfl, R3, hb3⟩)
  have b3 := b2.trans (hb3.mono b2.size)
  have G23 := G2.below hb3
  have G43 := G4.below hb3
  have s3 := hb3.size
  clear G2 G4 R2 cT
  go_wp2_with (first
    | (go_at_call 39; refine (cU1 _ _ _ _ R3).mono ?_; rintro e w4 ⟨rfl, hb4⟩; have G24 := G23.below hb4; have b4 := b3.trans (hb4.mono b3.size))
    | (refine wp_build_rec0 rfl rfl ?_)
    | (refine wp_store_rec rfl (.tmp 2) (.tmp 43) rfl g2 rfl _ rfl _ G24 rec0_len rec0_len (rec_one _ _ _ _ _ _ _) ?_; intro wz Gz kz))
  have bz := b4.trans ((kz.mono (fun _ e => (show w.heap.size ≤ _ by omega))).below b4.size (fun _ h => h))
  exact bodyPost_ret (results_rec rfl _ _ g2 rec0 (.bool false) rfl rfl Gz rec0_len) rfl ⟨rfl, bz⟩

set_option maxRecDepth 100000 in
set_option maxHeartbeats 3200000 in
theorem rread_no2b (a : Option Addr) (n c : Nat) (xs : List Int) (w : World) (hR : Rd w a n c xs) (U : ByteArray) (Y1 Z1 : List Int) (N1 : Nat)
    (cT : ∀ u, Rd u a n c xs → Calls Tryd.prog 38 #[.slice a n c, .int .i64 64] u fun e w' => ∃ a' n' c', e = .returned (.tuple #[.string U, .slice a' n' c', .int .i64 0]) ∧ Rd w' a' n' c' Y1 ∧ Below u.heap.size u w')
    (cU1 : ∀ u p q r, Rd u p q r Y1 → Calls Tryd.prog 39 #[.slice p q r] u fun e w' => ∃ a' n' c', e = .returned (.tuple #[.int .u64 N1, .slice a' n' c', .int .i64 0]) ∧ Rd w' a' n' c' Z1 ∧ Below u.heap.size u w' ∧ ∀ ad, a' = some ad → u.heap.size ≤ ad.block) (hz1 : Z1.length ≤ 1000) (h1 : N1 < 1) :
    Calls Tryd.prog 18 #[.slice a n c] w fun e w' => e = .returned (.tuple #[.agg rec0.toArray, .bool false]) ∧ Below w.heap.size w w' := by
  have tk1 : True := trivial
  go_enter Tryd.func18, Tryd.ntmps18
  go_upto_region 2 with (first
    | (refine wp_alloc_row rfl 28 rfl rec0 67 zero_rec ?_; clear tk1; intro g2 w1 G1 hg2 hb1)
    | (refine wp_alloc_row rfl 28 rfl rec0 67 zero_rec ?_; intro g4 w2 G4 hg4 hb2))
  have G1 : RcAt w1 g2 rec0 := G1
  have g2l := G1.lt
  have G2 := G1.below hb2
  have G4 : RcAt w2 g4 rec0 := G4
  have g4l := G4.lt
  have b2 := hb1.trans (hb2.mono hb1.size)
  have R2 := hR.carry (Nat.le_refl _) b2
  have hwg2 : w.heap.size ≤ g2 := hg2
  have h24 : g2 ≠ g4 := by omega
  clear G1 hR
  go_upto_region 3 with (go_at_call 38; refine (cT _ R2).mono ?_; rintro e w3 ⟨a3, n3, c3, rfl, R3, hb3⟩)
  have b3 := b2.trans (hb3.mono b2.size)
  have G23 := G2.below hb3
  have G43 := G4.below hb3
  have s3 := hb3.size
  clear G2 G4 R2 cT
  go_upto_region 6 with (go_at_call 39; refine (cU1 _ _ _ _ R3).mono ?_; rintro e w4 ⟨a4, n4, c4, rfl, R4, hb4, nw4⟩)
  have b4 := b3.trans (hb4.mono b3.size)
  have G24 := G23.below hb4
  have G44 := G43.below hb4
  have s4 := hb4.size
  have l4 : Z1.length = n4 := R4.len
  have q4 := R4.cap
  have m4 : c4 ≤ 9223372036854775807 := R4.most
  have n4m : n4 ≤ 1000 := by omega
  have wn4 : IntKind.u64.wrap (n4 : Int) = (n4 : Int) := by rw [IntKind.wrap_u64]; omega
  clear G23 G43 R3 cU1
  have hf1 : (N1 : Int) < 1 := by omega
  go_wp2_with (first
    | (refine wp_build_rec0 rfl rfl ?_)
    | (refine wp_store_rec rfl (.tmp 2) (.tmp 43) rfl g2 rfl _ rfl _ G24 rec0_len rec0_len (rec_one _ _ _ _ _ _ _) ?_; intro wz Gz kz))
  have bz := b4.trans ((kz.mono (fun _ e => (show w.heap.size ≤ _ by omega))).below b4.size (fun _ h => h))
  exact bodyPost_ret (results_rec rfl _ _ g2 rec0 (.bool false) rfl rfl Gz rec0_len) rfl ⟨rfl, bz⟩

set_option maxRecDepth 100000 in
set_option maxHeartbeats 3200000 in
theorem rread_no2c (a : Option Addr) (n c : Nat) (xs : List Int) (w : World) (hR : Rd w a n c xs) (U : ByteArray) (Y1 Z1 : List Int) (N1 : Nat)
    (cT : ∀ u, Rd u a n c xs → Calls Tryd.prog 38 #[.slice a n c, .int .i64 64] u fun e w' => ∃ a' n' c', e = .returned (.tuple #[.string U, .slice a' n' c', .int .i64 0]) ∧ Rd w' a' n' c' Y1 ∧ Below u.heap.size u w')
    (cU1 : ∀ u p q r, Rd u p q r Y1 → Calls Tryd.prog 39 #[.slice p q r] u fun e w' => ∃ a' n' c', e = .returned (.tuple #[.int .u64 N1, .slice a' n' c', .int .i64 0]) ∧ Rd w' a' n' c' Z1 ∧ Below u.heap.size u w' ∧ ∀ ad, a' = some ad → u.heap.size ≤ ad.block) (hz1 : Z1.length ≤ 1000) (_ : 1 ≤ N1) (h2 : 32 < N1) :
    Calls Tryd.prog 18 #[.slice a n c] w fun e w' => e = .returned (.tuple #[.agg rec0.toArray, .bool false]) ∧ Below w.heap.size w w' := by
  have tk1 : True := trivial
  go_enter Tryd.func18, Tryd.ntmps18
  go_upto_region 2 with (first
    | (refine wp_alloc_row rfl 28 rfl rec0 67 zero_rec ?_; clear tk1; intro g2 w1 G1 hg2 hb1)
    | (refine wp_alloc_row rfl 28 rfl rec0 67 zero_rec ?_; intro g4 w2 G4 hg4 hb2))
  have G1 : RcAt w1 g2 rec0 := G1
  have g2l := G1.lt
  have G2 := G1.below hb2
  have G4 : RcAt w2 g4 rec0 := G4
  have g4l := G4.lt
  have b2 := hb1.trans (hb2.mono hb1.size)
  have R2 := hR.carry (Nat.le_refl _) b2
  have hwg2 : w.heap.size ≤ g2 := hg2
  have h24 : g2 ≠ g4 := by omega
  clear G1 hR
  go_upto_region 3 with (go_at_call 38; refine (cT _ R2).mono ?_; rintro e w3 ⟨a3, n3, c3, rfl, R3, hb3⟩)
  have b3 := b2.trans (hb3.mono b2.size)
  have G23 := G2.below hb3
  have G43 := G4.below hb3
  have s3 := hb3.size
  clear G2 G4 R2 cT
  go_upto_region 6 with (go_at_call 39; refine (cU1 _ _ _ _ R3).mono ?_; rintro e w4 ⟨a4, n4, c4, rfl, R4, hb4, nw4⟩)
  have b4 := b3.trans (hb4.mono b3.size)
  have G24 := G23.below hb4
  have G44 := G43.below hb4
  have s4 := hb4.size
  have l4 : Z1.length = n4 := R4.len
  have q4 := R4.cap
  have m4 : c4 ≤ 9223372036854775807 := R4.most
  have n4m : n4 ≤ 1000 := by omega
  have wn4 : IntKind.u64.wrap (n4 : Int) = (n4 : Int) := by rw [IntKind.wrap_u64]; omega
  clear G23 G43 R3 cU1
  have hf1 : ¬ (N1 : Int) < 1 := by omega
  have hf2 : (32 : Int) < (N1 : Int) := by omega
  go_wp2_with (first
    | (refine wp_build_rec0 rfl rfl ?_)
    | (refine wp_store_rec rfl (.tmp 2) (.tmp 43) rfl g2 rfl _ rfl _ G24 rec0_len rec0_len (rec_one _ _ _ _ _ _ _) ?_; intro wz Gz kz))
  have bz := b4.trans ((kz.mono (fun _ e => (show w.heap.size ≤ _ by omega))).below b4.size (fun _ h => h))
  exact bodyPost_ret (results_rec rfl _ _ g2 rec0 (.bool false) rfl rfl Gz rec0_len) rfl ⟨rfl, bz⟩

set_option maxRecDepth 100000 in
set_option maxHeartbeats 3200000 in
theorem rread_no2d (a : Option Addr) (n c : Nat) (xs : List Int) (w : World) (hR : Rd w a n c xs) (U : ByteArray) (Y1 Z1 : List Int) (N1 : Nat)
    (cT : ∀ u, Rd u a n c xs → Calls Tryd.prog 38 #[.slice a n c, .int .i64 64] u fun e w' => ∃ a' n' c', e = .returned (.tuple #[.string U, .slice a' n' c', .int .i64 0]) ∧ Rd w' a' n' c' Y1 ∧ Below u.heap.size u w')
    (cU1 : ∀ u p q r, Rd u p q r Y1 → Calls Tryd.prog 39 #[.slice p q r] u fun e w' => ∃ a' n' c', e = .returned (.tuple #[.int .u64 N1, .slice a' n' c', .int .i64 0]) ∧ Rd w' a' n' c' Z1 ∧ Below u.heap.size u w' ∧ ∀ ad, a' = some ad → u.heap.size ≤ ad.block) (hz1 : Z1.length ≤ 1000) (h1 : 1 ≤ N1) (h2 : N1 ≤ 32) (h3 : Z1.length < N1) :
    Calls Tryd.prog 18 #[.slice a n c] w fun e w' => e = .returned (.tuple #[.agg rec0.toArray, .bool false]) ∧ Below w.heap.size w w' := by
  have tk1 : True := trivial
  go_enter Tryd.func18, Tryd.ntmps18
  go_upto_region 2 with (first
    | (refine wp_alloc_row rfl 28 rfl rec0 67 zero_rec ?_; clear tk1; intro g2 w1 G1 hg2 hb1)
    | (refine wp_alloc_row rfl 28 rfl rec0 67 zero_rec ?_; intro g4 w2 G4 hg4 hb2))
  have G1 : RcAt w1 g2 rec0 := G1
  have g2l := G1.lt
  have G2 := G1.below hb2
  have G4 : RcAt w2 g4 rec0 := G4
  have g4l := G4.lt
  have b2 := hb1.trans (hb2.mono hb1.size)
  have R2 := hR.carry (Nat.le_refl _) b2
  have hwg2 : w.heap.size ≤ g2 := hg2
  have h24 : g2 ≠ g4 := by omega
  clear G1 hR
  go_upto_region 3 with (go_at_call 38; refine (cT _ R2).mono ?_; rintro e w3 ⟨a3, n3, c3, rfl, R3, hb3⟩)
  have b3 := b2.trans (hb3.mono b2.size)
  have G23 := G2.below hb3
  have G43 := G4.below hb3
  have s3 := hb3.size
  clear G2 G4 R2 cT
  go_upto_region 6 with (go_at_call 39; refine (cU1 _ _ _ _ R3).mono ?_; rintro e w4 ⟨a4, n4, c4, rfl, R4, hb4, nw4⟩)
  have b4 := b3.trans (hb4.mono b3.size)
  have G24 := G23.below hb4
  have G44 := G43.below hb4
  have s4 := hb4.size
  have l4 : Z1.length = n4 := R4.len
  have q4 := R4.cap
  have m4 : c4 ≤ 9223372036854775807 := R4.most
  have n4m : n4 ≤ 1000 := by omega
  have wn4 : IntKind.u64.wrap (n4 : Int) = (n4 : Int) := by rw [IntKind.wrap_u64]; omega
  clear G23 G43 R3 cU1
  have hf1 : ¬ (N1 : Int) < 1 := by omega
  have hf2 : ¬ (32 : Int) < (N1 : Int) := by omega
  have hf3 : (n4 : Int) < (N1 : Int) := by omega
  go_wp2_with (first
    | (refine wp_build_rec0 rfl rfl ?_)
    | (refine wp_store_rec rfl (.tmp 2) (.tmp 43) rfl g2 rfl _ rfl _ G24 rec0_len rec0_len (rec_one _ _ _ _ _ _ _) ?_; intro wz Gz kz))
  have bz := b4.trans ((kz.mono (fun _ e => (show w.heap.size ≤ _ by omega))).below b4.size (fun _ h => h))
  exact bodyPost_ret (results_rec rfl _ _ g2 rec0 (.bool false) rfl rfl Gz rec0_len) rfl ⟨rfl, bz⟩

set_option maxRecDepth 100000 in
set_option maxHeartbeats 3200000 in
theorem rread_ok (a : Option Addr) (n c : Nat) (xs : List Int) (w : World) (hR : Rd w a n c xs) (U : ByteArray) (Y1 Z1 Z2 : List Int) (N1 N2 : Nat)
    (cT : ∀ u, Rd u a n c xs → Calls Tryd.prog 38 #[.slice a n c, .int .i64 64] u fun e w' => ∃ a' n' c', e = .returned (.tuple #[.string U, .slice a' n' c', .int .i64 0]) ∧ Rd w' a' n' c' Y1 ∧ Below u.heap.size u w')
    (cU1 : ∀ u p q r, Rd u p q r Y1 → Calls Tryd.prog 39 #[.slice p q r] u fun e w' => ∃ a' n' c', e = .returned (.tuple #[.int .u64 N1, .slice a' n' c', .int .i64 0]) ∧ Rd w' a' n' c' Z1 ∧ Below u.heap.size u w' ∧ ∀ ad, a' = some ad → u.heap.size ≤ ad.block)
    (cU2 : ∀ u p q r, Rd u p q r (Z1.drop N1) → Calls Tryd.prog 39 #[.slice p q r] u fun e w' => ∃ a' n' c', e = .returned (.tuple #[.int .u64 N2, .slice a' n' c', .int .i64 0]) ∧ Rd w' a' n' c' Z2 ∧ Below u.heap.size u w' ∧ ∀ ad, a' = some ad → u.heap.size ≤ ad.block) (hz1 : Z1.length ≤ 1000) (h1 : 1 ≤ N1) (h2 : N1 ≤ 32) (_ : N1 ≤ Z1.length) (h4 : N1 < Z1.length) (h5 : N2 ≤ 4096) (h6 : Z2.length = 64) (hU : U.size ≤ 1000) (h7 : rightB U N1 N2 = true) :
    Calls Tryd.prog 18 #[.slice a n c] w fun e w' => (∃ sa sn sc, e = .returned (.tuple #[.agg (recL (.string U) (.slice sa sn sc) (.int .i64 (N2 : Nat)) (Z2.take 32) ((Z2.drop 32).take 32)).toArray, .bool true]) ∧ Rd w' sa sn sc (Z1.take N1)) ∧ Below w.heap.size w w' := by
  have tk1 : True := trivial
  go_enter Tryd.func18, Tryd.ntmps18
  go_upto_region 2 with (first
    | (refine wp_alloc_row rfl 28 rfl rec0 67 zero_rec ?_; clear tk1; intro g2 w1 G1 hg2 hb1)
    | (refine wp_alloc_row rfl 28 rfl rec0 67 zero_rec ?_; intro g4 w2 G4 hg4 hb2))
  have G1 : RcAt w1 g2 rec0 := G1
  have g2l := G1.lt
  have G2 := G1.below hb2
  have G4 : RcAt w2 g4 rec0 := G4
  have g4l := G4.lt
  have b2 := hb1.trans (hb2.mono hb1.size)
  have R2 := hR.carry (Nat.le_refl _) b2
  have hwg2 : w.heap.size ≤ g2 := hg2
  have h24 : g2 ≠ g4 := by omega
  clear G1 hR
  go_upto_region 3 with (go_at_call 38; refine (cT _ R2).mono ?_; rintro e w3 ⟨a3, n3, c3, rfl, R3, hb3⟩)
  have b3 := b2.trans (hb3.mono b2.size)
  have G23 := G2.below hb3
  have G43 := G4.below hb3
  have s3 := hb3.size
  clear G2 G4 R2 cT
  go_upto_region 6 with (go_at_call 39; refine (cU1 _ _ _ _ R3).mono ?_; rintro e w4 ⟨a4, n4, c4, rfl, R4, hb4, nw4⟩)
  have b4 := b3.trans (hb4.mono b3.size)
  have G24 := G23.below hb4
  have G44 := G43.below hb4
  have s4 := hb4.size
  have l4 : Z1.length = n4 := R4.len
  have q4 := R4.cap
  have m4 : c4 ≤ 9223372036854775807 := R4.most
  have n4m : n4 ≤ 1000 := by omega
  have wn4 : IntKind.u64.wrap (n4 : Int) = (n4 : Int) := by rw [IntKind.wrap_u64]; omega
  clear G23 G43 R3 cU1
  have hf1 : ¬ (N1 : Int) < 1 := by omega
  have hf2 : ¬ (32 : Int) < (N1 : Int) := by omega
  have hf3 : ¬ (n4 : Int) < (N1 : Int) := by omega
  have R4t := R4.takeK (k := N1) (by omega)
  have bt : Bd (Z1.take N1) := R4t.bytes
  go_upto_region 9 with (at_builtin; refine wp_app0K rfl _ _ rfl rfl a4 N1 c4 (Z1.take N1) rfl R4t (by omega) ?_; rintro v5 w5 ho5 hb5 ⟨g5, c5, rfl⟩; have H5 := G44.below hb5; have k0 : w5.cell? ⟨g4, 0, none⟩ = some (.string ⟨#[]⟩) := H5.cell 0; have k1 : w5.cell? ⟨g4, 1, none⟩ = some (.slice none 0 0) := H5.cell 1; have z0 := H5.fz 0; have z1 := H5.fz 1)
  have b5 := b4.trans (hb5.mono b4.size)
  have g5n : w4.heap.size ≤ g5 := (ho5.lt g5 rfl).1
  obtain ⟨a5', c5', e5', R5⟩ := Rd.ofOwn ho5 bt
  cases e5'
  have K6 : Keep (fun k => k = g4) w5 ((w5.setCell ⟨g4, 0, none⟩ (.string U)).setCell ⟨g4, 1, none⟩ (.slice (some ⟨g5, 0, none⟩) N1 c5)) := ((Keep.refl (fun k => k = g4) w5).setCell (p := ⟨g4, 0, none⟩) rfl _).setCell (p := ⟨g4, 1, none⟩) rfl _
  have G46 := (RcAt.set0 (x0 := .string ⟨#[]⟩) (x1 := .slice none 0 0) (x2 := .int .i64 0) (K := Z32) (V := Z32) H5 (.string U)).set1 (.slice (some ⟨g5, 0, none⟩) N1 c5)
  have G26 := (G24.below hb5).keep K6 h24
  have g44l := G44.lt
  have R56 := R5.keep K6 (fun ad had e => by cases had; have e' : g5 = g4 := e; omega)
  have R46 := (R4.carry (Nat.le_refl _) hb5).keep K6 (fun ad had e => by have := nw4 ad had; omega)
  have b6 := b5.trans ((K6.mono (fun _ e => (show w.heap.size ≤ _ by omega))).below b5.size (fun _ h => h))
  have s6 : w4.heap.size ≤ ((w5.setCell ⟨g4, 0, none⟩ (.string U)).setCell ⟨g4, 1, none⟩ (.slice (some ⟨g5, 0, none⟩) N1 c5)).heap.size := Nat.le_trans hb5.size K6.size
  generalize (w5.setCell ⟨g4, 0, none⟩ (.string U)).setCell ⟨g4, 1, none⟩ (.slice (some ⟨g5, 0, none⟩) N1 c5) = w6 at G46 G26 R56 R46 b6 s6 ⊢
  clear H5 k0 k1 z0 z1 ho5 hb5 R4 R4t G44 G24 K6 R5 b5
  have hne : c4 ≠ N1 := by omega
  obtain ⟨bb, oo, rfl, _⟩ := R46.flat (by omega)
  have R47 := R46.drop (k := N1) (by omega)
  go_upto_region 10 with (go_at_call 39; refine (cU2 _ _ _ _ R47).mono ?_; rintro e w7 ⟨a7, n7, c7, rfl, R7, hb7, nw7⟩)
  have b7 := b6.trans (hb7.mono b6.size)
  have G27 := G26.below hb7
  have G47 := G46.below hb7
  have R57 := R56.carry (Nat.le_refl _) hb7
  have l7 : Z2.length = n7 := R7.len
  have q7 := R7.cap
  have m7 : c7 ≤ 9223372036854775807 := R7.most
  have s7 := hb7.size
  clear R46 R47 R56 G26 G46 cU2 b6
  have hf4 : ¬ (4096 : Int) < (N2 : Int) := by omega
  obtain rfl : n7 = 64 := by omega
  have wN2 : IntKind.i64.wrap (N2 : Int) = (N2 : Int) := by rw [IntKind.wrap_i64]; omega
  have k2 : w7.cell? ⟨g4, 2, none⟩ = some (.int .i64 0) := G47.cell 2
  have z2 := G47.fz 2
  go_upto_region 13 with fail
  have K8 : Keep (fun k => k = g4) w7 (w7.setCell ⟨g4, 2, none⟩ (.int .i64 N2)) := (Keep.refl (fun k => k = g4) w7).setCell (p := ⟨g4, 2, none⟩) rfl _
  have G48 := G47.set2 (.int .i64 N2)
  have G28 := G27.keep K8 h24
  have R58 := R57.keep K8 (fun ad had e => by cases had; have e' : g5 = g4 := e; omega)
  have g47l := G47.lt
  have R78 := R7.keep K8 (fun ad had e => by have := nw7 ad had; omega)
  have b8 := b7.trans ((K8.mono (fun _ e => (show w.heap.size ≤ _ by omega))).below b7.size (fun _ h => h))
  have nw8 : ∀ ad, a7 = some ad → ad.block ≠ g4 := fun ad had e => by have := nw7 ad had; omega
  generalize w7.setCell ⟨g4, 2, none⟩ (.int .i64 N2) = w8 at G48 G28 R58 R78 b8 ⊢
  obtain ⟨b9, o9, rfl, _⟩ := R78.flat (by omega)
  have h94 : b9 ≠ g4 := nw8 _ rfl
  have h54 : g5 ≠ g4 := by omega
  have HG2 : Hid (RcAt w8 g2 rec0) := G28
  have HR5 : Hid (Rd w8 (some ⟨g5, 0, none⟩) N1 c5 (Z1.take N1)) := R58
  have HR7 : Hid (Rd w8 (some ⟨b9, o9, none⟩) 64 c7 Z2) := R78
  have HB8 : Hid (Below w.heap.size w w8) := b8
  have HZ2 : Hid (Z2.length = 64) := l7
  clear nw8 nw7 k2 z2 K8 R57 G27 G47 b7 wN2 R7 b4 b3 b2 hb1 hb2 hb3 hb4 hb7 nw4 bt G28 R58 R78 b8 l7 l4
  go_wp2_with fail
  go_loopw [10] (fun i wr => ∃ j : Nat, j ≤ 32 ∧ i = .int .i64 j ∧ Hid (RcAt wr g4 (recL (.string U) (.slice (some ⟨g5, 0, none⟩) N1 c5) (.int .i64 N2) (tz Z2 j) (tz (Z2.drop 32) j))) ∧ Hid (Keep (fun k => k = g4) w8 wr)) (fun i _ => 32 - (intOf i).toNat)
  case atStart => exact ⟨0, by omega, rfl, by rw [tz_zero, tz_zero]; exact G48, Keep.refl _ _⟩
  case round =>
    obtain ⟨j, hj, rfl, HG, HK⟩ := hrel
    clear G48
    by_cases hlt : j < 32
    · have hcl : (j : Int) < 32 := by omega
      have HK' : Hid (Keep (fun k => k = g4) w8 wr.drew) := HK.out.drew
      have HG' : Hid (RcAt wr.drew g4 (recL (.string U) (.slice (some ⟨g5, 0, none⟩) N1 c5) (.int .i64 N2) (tz Z2 j) (tz (Z2.drop 32) j))) := HG.out
      have R9 := HR7.out.keep HK'.out (fun ad had e => h94 (by cases had; exact e))
      have c1 := R9.cells _ rfl j (by omega)
      have c2 := R9.cells _ rfl (32 + j) (by omega)
      rw [add_flat] at c1 c2
      have ll := HZ2.out
      have tl1 := tz_len Z2 j (by omega) (by omega)
      have tl2 := tz_len (Z2.drop 32) j (by omega) (by rw [List.length_drop]; omega)
      have d2 : (Z2.drop 32).getD j 0 = Z2.getD (32 + j) 0 := by simp [List.getD]
      obtain ⟨x, HX⟩ : ∃ x, Hid (Z2.getD j 0 = x) := ⟨_, rfl⟩
      obtain ⟨y, HY⟩ : ∃ x, Hid (Z2.getD (32 + j) 0 = x) := ⟨_, rfl⟩
      rw [HX.out] at c1
      rw [HY.out] at c2 d2
      have S1 := HG'.out.setK (i := j) (by omega) x
      have S2 := S1.setV (by rw [List.length_set]; exact tl1) j y
      have SG : Hid (RcAt ((wr.drew.setCell ⟨g4, 3 + j, none⟩ (.int .u8 x)).setCell ⟨g4, 35 + j, none⟩ (.int .u8 y)) g4 (recL (.string U) (.slice (some ⟨g5, 0, none⟩) N1 c5) (.int .i64 N2) (tz Z2 (j + 1)) (tz (Z2.drop 32) (j + 1)))) := by
        show RcAt _ _ _
        rw [tz_succ Z2 j hlt (by omega), tz_succ (Z2.drop 32) j hlt (by rw [List.length_drop]; omega), d2, HX.out]
        exact S2
      have k3 : ∃ v, wr.drew.cell? ⟨g4, 3 + j, none⟩ = some v := by
        rw [HG'.out.cell]
        exact ⟨_, List.getElem?_eq_getElem (by rw [rec_len _ _ _ tl1 tl2]; omega)⟩
      have k35 : ∃ v, (wr.drew.setCell ⟨g4, 3 + j, none⟩ (.int .u8 x)).cell? ⟨g4, 35 + j, none⟩ = some v := by
        rw [S1.cell]
        exact ⟨_, List.getElem?_eq_getElem (by rw [rec_len _ _ _ (by rw [List.length_set]; exact tl1) tl2]; omega)⟩
      obtain ⟨y3, k3⟩ := k3
      obtain ⟨y35, k35⟩ := k35
      have z3 := HG'.out.fz (3 + j)
      have z35 := S1.fz (35 + j)
      have KK : Hid (Keep (fun k => k = g4) w8 ((wr.drew.setCell ⟨g4, 3 + j, none⟩ (.int .u8 x)).setCell ⟨g4, 35 + j, none⟩ (.int .u8 y))) := (HK'.out.setCell (p := ⟨g4, 3 + j, none⟩) rfl _).setCell (p := ⟨g4, 35 + j, none⟩) rfl _
      clear HG HK HG' HK' R9 S1 S2 tl1 tl2 d2 HX HY ll
      obtain ⟨o1, Ho1⟩ : ∃ q : Nat, Hid (o9 + j = q) := ⟨_, rfl⟩
      obtain ⟨o2, Ho2⟩ : ∃ q : Nat, Hid (o9 + (32 + j) = q) := ⟨_, rfl⟩
      rw [Ho2.out] at c2
      have h32 : (32 : Int) + (j : Int) < 64 := by omega
      go_wp2_with fail
      refine wp_region_lx (fun w' => w'.cell? ⟨b9, o1, none⟩ = some (.int .u8 x) ∧ w'.cell? ⟨b9, o2, none⟩ = some (.int .u8 y)) [] 17 (by kernel_rfl) (by kernel_rfl) ?_
      obtain ⟨W, HW⟩ : ∃ W, Hid (wr.drew = W) := ⟨_, rfl⟩
      rw [Ho1.out] at c1
      rw [HW.out] at c1 c2 SG k3 k35 z3 z35 KK ⊢
      have HS0 : W.cell? ⟨b9, o1, none⟩ = some (.int .u8 x) ∧ W.cell? ⟨b9, o2, none⟩ = some (.int .u8 y) := ⟨c1, c2⟩
      have HS1 : (W.setCell ⟨g4, 3 + j, none⟩ (.int .u8 x)).cell? ⟨b9, o1, none⟩ = some (.int .u8 x) ∧ (W.setCell ⟨g4, 3 + j, none⟩ (.int .u8 x)).cell? ⟨b9, o2, none⟩ = some (.int .u8 y) :=
        ⟨by rw [World.cell?_setCell_other _ _ _ _ (fun e' => h94 (by injection e' with e1; exact e1.symm)), c1], by rw [World.cell?_setCell_other _ _ _ _ (fun e' => h94 (by injection e' with e1; exact e1.symm)), c2]⟩
      have HS2 : ((W.setCell ⟨g4, 3 + j, none⟩ (.int .u8 x)).setCell ⟨g4, 35 + j, none⟩ (.int .u8 y)).cell? ⟨b9, o1, none⟩ = some (.int .u8 x) ∧ ((W.setCell ⟨g4, 3 + j, none⟩ (.int .u8 x)).setCell ⟨g4, 35 + j, none⟩ (.int .u8 y)).cell? ⟨b9, o2, none⟩ = some (.int .u8 y) :=
        ⟨by rw [World.cell?_setCell_other _ _ _ _ (fun e' => h94 (by injection e' with e1; exact e1.symm)), HS1.1], by rw [World.cell?_setCell_other _ _ _ _ (fun e' => h94 (by injection e' with e1; exact e1.symm)), HS1.2]⟩
      have hj64 : (j : Int) < 64 := by omega
      have hw32 : IntKind.i64.wrap (32 + (j : Int)) = 32 + (j : Int) := by rw [IntKind.wrap_i64]; omega
      have ho1 : o9 + j = o1 := Ho1.out
      have ht2 : o9 + (32 + (j : Int)).toNat = o2 := by have := Ho2.out; omega
      clear c1 c2
      refine lx_rd 0 ?vA0 (by kernel_rfl) (fun _ _ d _ _ h => by cases d <;> exact h) (by kernel_rfl) HS0 rfl rfl rfl (fun w' hS => ?hA0) ?_
      case hA0 => first | (go_simp; rfl) | (go_simp; done) | (go_simp; exact idx_ok (by omega) (by omega)) | (go_simp; exact wi64' (by omega) (by omega) (by omega)) | (go_simp; intro hh; exfalso; omega)
      simp only [List.setIfInBounds_toArray, List.set_cons_zero, List.set_cons_succ]
      refine lx_rd 1 ?vA1 (by kernel_rfl) (fun _ _ d _ _ h => by cases d <;> exact h) (by kernel_rfl) HS0 rfl rfl rfl (fun w' hS => ?hA1) ?_
      case hA1 => first | (go_simp; rfl) | (go_simp; done) | (go_simp; exact idx_ok (by omega) (by omega)) | (go_simp; exact wi64' (by omega) (by omega) (by omega)) | (go_simp; intro hh; exfalso; omega)
      simp only [List.setIfInBounds_toArray, List.set_cons_zero, List.set_cons_succ]
      refine lx_rd 2 ?vA2 (by kernel_rfl) (fun _ _ d _ _ h => by cases d <;> exact h) (by kernel_rfl) HS0 rfl rfl rfl (fun w' hS => ?hA2) ?_
      case hA2 => first | (go_simp; rfl) | (go_simp; done) | (go_simp; exact idx_ok (by omega) (by omega)) | (go_simp; exact wi64' (by omega) (by omega) (by omega)) | (go_simp; intro hh; exfalso; omega)
      simp only [List.setIfInBounds_toArray, List.set_cons_zero, List.set_cons_succ]
      refine lx_rd 3 ?vA3 (by kernel_rfl) (fun _ _ d _ _ h => by cases d <;> exact h) (by kernel_rfl) HS0 rfl rfl rfl (fun w' hS => ?hA3) ?_
      case hA3 => first | (go_simp; rfl) | (go_simp; done) | (go_simp; exact idx_ok (by omega) (by omega)) | (go_simp; exact wi64' (by omega) (by omega) (by omega)) | (go_simp; intro hh; exfalso; omega)
      simp only [List.setIfInBounds_toArray, List.set_cons_zero, List.set_cons_succ]
      refine lx_rd 4 (.pointer (some ⟨b9, o1, none⟩)) (by kernel_rfl) (fun _ _ d _ _ h => by cases d <;> exact h) (by kernel_rfl) HS0 rfl rfl rfl (fun w' hS => ?hA4) ?_
      case hA4 => first | (go_simp; rfl) | (go_simp; done) | (go_simp; exact idx_ok (by omega) (by omega)) | (go_simp; exact wi64' (by omega) (by omega) (by omega)) | (go_simp; intro hh; exfalso; omega)
      simp only [List.setIfInBounds_toArray, List.set_cons_zero, List.set_cons_succ]
      refine lx_rd 5 (.int .u8 x) (by kernel_rfl) (fun _ _ d _ _ h => by cases d <;> exact h) (by kernel_rfl) HS0 rfl rfl rfl (fun w' hS => ?hA5) ?_
      case hA5 => have c1 := hS.1; first | (go_simp; rfl) | (go_simp; done) | (go_simp; exact idx_ok (by omega) (by omega)) | (go_simp; exact wi64' (by omega) (by omega) (by omega)) | (go_simp; intro hh; exfalso; omega)
      simp only [List.setIfInBounds_toArray, List.set_cons_zero, List.set_cons_succ]
      refine lx_rd 6 ?vA6 (by kernel_rfl) (fun _ _ d _ _ h => by cases d <;> exact h) (by kernel_rfl) HS0 rfl rfl rfl (fun w' hS => ?hA6) ?_
      case hA6 => first | (go_simp; rfl) | (go_simp; done) | (go_simp; exact idx_ok (by omega) (by omega)) | (go_simp; exact wi64' (by omega) (by omega) (by omega)) | (go_simp; intro hh; exfalso; omega)
      simp only [List.setIfInBounds_toArray, List.set_cons_zero, List.set_cons_succ]
      refine lx_rd 7 ?vA7 (by kernel_rfl) (fun _ _ d _ _ h => by cases d <;> exact h) (by kernel_rfl) HS0 rfl rfl rfl (fun w' hS => ?hA7) ?_
      case hA7 => first | (go_simp; rfl) | (go_simp; done) | (go_simp; exact idx_ok (by omega) (by omega)) | (go_simp; exact wi64' (by omega) (by omega) (by omega)) | (go_simp; intro hh; exfalso; omega)
      simp only [List.setIfInBounds_toArray, List.set_cons_zero, List.set_cons_succ]
      refine lx_rd 8 (.int .i64 (32 + (j : Int))) (by kernel_rfl) (fun _ _ d _ _ h => by cases d <;> exact h) (by kernel_rfl) HS0 rfl rfl rfl (fun w' hS => ?hA8) ?_
      case hA8 => first | (go_simp; rfl) | (go_simp; done) | (go_simp; exact idx_ok (by omega) (by omega)) | (go_simp; exact wi64' (by omega) (by omega) (by omega)) | (go_simp; intro hh; exfalso; omega)
      simp only [List.setIfInBounds_toArray, List.set_cons_zero, List.set_cons_succ]
      refine lx_rd 9 (.pointer (some ⟨b9, o2, none⟩)) (by kernel_rfl) (fun _ _ d _ _ h => by cases d <;> exact h) (by kernel_rfl) HS0 rfl rfl rfl (fun w' hS => ?hA9) ?_
      case hA9 => first | (go_simp; rfl) | (go_simp; done) | (go_simp; exact idx_ok (by omega) (by omega)) | (go_simp; exact wi64' (by omega) (by omega) (by omega)) | (go_simp; intro hh; exfalso; omega)
      simp only [List.setIfInBounds_toArray, List.set_cons_zero, List.set_cons_succ]
      refine lx_rd 10 (.int .u8 y) (by kernel_rfl) (fun _ _ d _ _ h => by cases d <;> exact h) (by kernel_rfl) HS0 rfl rfl rfl (fun w' hS => ?hA10) ?_
      case hA10 => have c1 := hS.2; first | (go_simp; rfl) | (go_simp; done) | (go_simp; exact idx_ok (by omega) (by omega)) | (go_simp; exact wi64' (by omega) (by omega) (by omega)) | (go_simp; intro hh; exfalso; omega)
      simp only [List.setIfInBounds_toArray, List.set_cons_zero, List.set_cons_succ]
      refine lx_rd 11 (.pointer (some ⟨g4, 3, none⟩)) (by kernel_rfl) (fun _ _ d _ _ h => by cases d <;> exact h) (by kernel_rfl) HS0 rfl rfl rfl (fun w' hS => ?hA11) ?_
      case hA11 => first | (go_simp; rfl) | (go_simp; done) | (go_simp; exact idx_ok (by omega) (by omega)) | (go_simp; exact wi64' (by omega) (by omega) (by omega)) | (go_simp; intro hh; exfalso; omega)
      simp only [List.setIfInBounds_toArray, List.set_cons_zero, List.set_cons_succ]
      refine lx_rd 12 (.pointer (some ⟨g4, 3 + j, none⟩)) (by kernel_rfl) (fun _ _ d _ _ h => by cases d <;> exact h) (by kernel_rfl) HS0 rfl rfl rfl (fun w' hS => ?hA12) ?_
      case hA12 => first | (go_simp; rfl) | (go_simp; done) | (go_simp; exact idx_ok (by omega) (by omega)) | (go_simp; exact wi64' (by omega) (by omega) (by omega)) | (go_simp; intro hh; exfalso; omega)
      simp only [List.setIfInBounds_toArray, List.set_cons_zero, List.set_cons_succ]
      refine lx_rd 14 (.pointer (some ⟨g4, 35, none⟩)) (by kernel_rfl) (fun _ _ d _ _ h => by cases d <;> exact h) (by kernel_rfl) HS0 rfl rfl rfl (fun w' hS => ?hA14) ?_
      case hA14 => first | (go_simp; rfl) | (go_simp; done) | (go_simp; exact idx_ok (by omega) (by omega)) | (go_simp; exact wi64' (by omega) (by omega) (by omega)) | (go_simp; intro hh; exfalso; omega)
      simp only [List.setIfInBounds_toArray, List.set_cons_zero, List.set_cons_succ]
      refine lx_one 13 (by kernel_rfl) (stepT_store (w' := W.setCell ⟨g4, 3 + j, none⟩ (.int .u8 x)) rfl rfl rfl ?r13 (fun _ => HS1) ?_)
      case r13 => first | (go_simp; rfl) | go_simp
      refine lx_rd 15 (.pointer (some ⟨g4, 35 + j, none⟩)) (by kernel_rfl) (fun _ _ d _ _ h => by cases d <;> exact h) (by kernel_rfl) HS1 rfl rfl rfl (fun w' hS => ?hB15) ?_
      case hB15 => first | (go_simp; rfl) | (go_simp; done) | (go_simp; exact idx_ok (by omega) (by omega)) | (go_simp; exact wi64' (by omega) (by omega) (by omega)) | (go_simp; intro hh; exfalso; omega)
      simp only [List.setIfInBounds_toArray, List.set_cons_zero, List.set_cons_succ]
      refine lx_one 16 (by kernel_rfl) (stepT_store (w' := (W.setCell ⟨g4, 3 + j, none⟩ (.int .u8 x)).setCell ⟨g4, 35 + j, none⟩ (.int .u8 y)) rfl rfl rfl ?r16 (fun _ => HS2) ?_)
      case r16 => first | (go_simp; rfl) | go_simp
      refine lx_nil (by kernel_rfl) ?_
      go_wp2_with fail
      exact ⟨⟨j + 1, by omega, by go_num, SG, KK⟩, by simp [intOf]; omega⟩
    · obtain rfl : j = 32 := by omega
      have hcl : ¬ ((32 : Nat) : Int) < 32 := by omega
      have G9 := HG.out
      rw [tz_last, tz_last] at G9
      have ll := HZ2.out
      have lk : (Z2.take 32).length = 32 := by rw [List.length_take]; omega
      have lv : ((Z2.drop 32).take 32).length = 32 := by rw [List.length_take, List.length_drop]; omega
      have H2 := HG2.out.keep HK.out h24
      have R9 := HR5.out.keep HK.out (fun ad had e => h54 (by cases had; exact e))
      have b9' := HB8.out.trans ((HK.out.mono (fun _ e => (show w.heap.size ≤ _ by omega))).below HB8.out.size (fun _ h => h))
      have e67 := rec_len (.string U) (.slice (some ⟨g5, 0, none⟩) N1 c5) (.int .i64 N2) lk lv
      have cR := refRight_any U (some ⟨g5, 0, none⟩) N1 c5 N2 (Z2.take 32) ((Z2.drop 32).take 32) wr (by omega)
      rw [h7] at cR
      clear HG HK HG2 HR5 HR7 HB8 h7
      go_wp2_with (first
        | (refine wp_load_rec rfl (.tmp 4) rfl g4 rfl _ G9 e67 ?_)
        | (go_at_call 14; refine cR.mono ?_; clear cR; rintro e w10 ⟨rfl, hb10⟩; have G9 := G9.below hb10; have H2 := H2.below hb10; have R9 := R9.carry (Nat.le_refl _) hb10; have b10 := b9'.trans (hb10.mono b9'.size))
        | (refine wp_store_rec rfl (.tmp 2) (.tmp 98) rfl g2 rfl _ rfl _ H2 rec0_len e67 (rec_one _ _ _ _ _ _ _) ?_; intro wz Gz kz))
      have bz := b10.trans ((kz.mono (fun _ e => (show w.heap.size ≤ _ by omega))).below b10.size (fun _ h => h))
      have Rz := R9.keep kz (fun ad had e => by cases had; have e' : g5 = g2 := e; omega)
      exact bodyPost_ret (results_rec rfl _ _ g2 _ (.bool true) rfl rfl Gz e67) rfl ⟨⟨_, _, _, rfl, Rz⟩, bz⟩

set_option maxRecDepth 100000 in
set_option maxHeartbeats 3200000 in
theorem rread_no4 (a : Option Addr) (n c : Nat) (xs : List Int) (w : World) (hR : Rd w a n c xs) (U : ByteArray) (Y1 Z1 Z2 : List Int) (N1 N2 : Nat)
    (cT : ∀ u, Rd u a n c xs → Calls Tryd.prog 38 #[.slice a n c, .int .i64 64] u fun e w' => ∃ a' n' c', e = .returned (.tuple #[.string U, .slice a' n' c', .int .i64 0]) ∧ Rd w' a' n' c' Y1 ∧ Below u.heap.size u w')
    (cU1 : ∀ u p q r, Rd u p q r Y1 → Calls Tryd.prog 39 #[.slice p q r] u fun e w' => ∃ a' n' c', e = .returned (.tuple #[.int .u64 N1, .slice a' n' c', .int .i64 0]) ∧ Rd w' a' n' c' Z1 ∧ Below u.heap.size u w' ∧ ∀ ad, a' = some ad → u.heap.size ≤ ad.block)
    (cU2 : ∀ u p q r, Rd u p q r (Z1.drop N1) → Calls Tryd.prog 39 #[.slice p q r] u fun e w' => ∃ a' n' c', e = .returned (.tuple #[.int .u64 N2, .slice a' n' c', .int .i64 0]) ∧ Rd w' a' n' c' Z2 ∧ Below u.heap.size u w' ∧ ∀ ad, a' = some ad → u.heap.size ≤ ad.block) (hz1 : Z1.length ≤ 1000) (h1 : 1 ≤ N1) (h2 : N1 ≤ 32) (_ : N1 ≤ Z1.length) (h4 : N1 < Z1.length) (h5 : N2 ≤ 4096) (h6 : Z2.length = 64) (hU : U.size ≤ 1000) (h7 : rightB U N1 N2 = false) :
    Calls Tryd.prog 18 #[.slice a n c] w fun e w' => e = .returned (.tuple #[.agg rec0.toArray, .bool false]) ∧ Below w.heap.size w w' := by
  have tk1 : True := trivial
  go_enter Tryd.func18, Tryd.ntmps18
  go_upto_region 2 with (first
    | (refine wp_alloc_row rfl 28 rfl rec0 67 zero_rec ?_; clear tk1; intro g2 w1 G1 hg2 hb1)
    | (refine wp_alloc_row rfl 28 rfl rec0 67 zero_rec ?_; intro g4 w2 G4 hg4 hb2))
  have G1 : RcAt w1 g2 rec0 := G1
  have g2l := G1.lt
  have G2 := G1.below hb2
  have G4 : RcAt w2 g4 rec0 := G4
  have g4l := G4.lt
  have b2 := hb1.trans (hb2.mono hb1.size)
  have R2 := hR.carry (Nat.le_refl _) b2
  have hwg2 : w.heap.size ≤ g2 := hg2
  have h24 : g2 ≠ g4 := by omega
  clear G1 hR
  go_upto_region 3 with (go_at_call 38; refine (cT _ R2).mono ?_; rintro e w3 ⟨a3, n3, c3, rfl, R3, hb3⟩)
  have b3 := b2.trans (hb3.mono b2.size)
  have G23 := G2.below hb3
  have G43 := G4.below hb3
  have s3 := hb3.size
  clear G2 G4 R2 cT
  go_upto_region 6 with (go_at_call 39; refine (cU1 _ _ _ _ R3).mono ?_; rintro e w4 ⟨a4, n4, c4, rfl, R4, hb4, nw4⟩)
  have b4 := b3.trans (hb4.mono b3.size)
  have G24 := G23.below hb4
  have G44 := G43.below hb4
  have s4 := hb4.size
  have l4 : Z1.length = n4 := R4.len
  have q4 := R4.cap
  have m4 : c4 ≤ 9223372036854775807 := R4.most
  have n4m : n4 ≤ 1000 := by omega
  have wn4 : IntKind.u64.wrap (n4 : Int) = (n4 : Int) := by rw [IntKind.wrap_u64]; omega
  clear G23 G43 R3 cU1
  have hf1 : ¬ (N1 : Int) < 1 := by omega
  have hf2 : ¬ (32 : Int) < (N1 : Int) := by omega
  have hf3 : ¬ (n4 : Int) < (N1 : Int) := by omega
  have R4t := R4.takeK (k := N1) (by omega)
  have bt : Bd (Z1.take N1) := R4t.bytes
  go_upto_region 9 with (at_builtin; refine wp_app0K rfl _ _ rfl rfl a4 N1 c4 (Z1.take N1) rfl R4t (by omega) ?_; rintro v5 w5 ho5 hb5 ⟨g5, c5, rfl⟩; have H5 := G44.below hb5; have k0 : w5.cell? ⟨g4, 0, none⟩ = some (.string ⟨#[]⟩) := H5.cell 0; have k1 : w5.cell? ⟨g4, 1, none⟩ = some (.slice none 0 0) := H5.cell 1; have z0 := H5.fz 0; have z1 := H5.fz 1)
  have b5 := b4.trans (hb5.mono b4.size)
  have g5n : w4.heap.size ≤ g5 := (ho5.lt g5 rfl).1
  obtain ⟨a5', c5', e5', R5⟩ := Rd.ofOwn ho5 bt
  cases e5'
  have K6 : Keep (fun k => k = g4) w5 ((w5.setCell ⟨g4, 0, none⟩ (.string U)).setCell ⟨g4, 1, none⟩ (.slice (some ⟨g5, 0, none⟩) N1 c5)) := ((Keep.refl (fun k => k = g4) w5).setCell (p := ⟨g4, 0, none⟩) rfl _).setCell (p := ⟨g4, 1, none⟩) rfl _
  have G46 := (RcAt.set0 (x0 := .string ⟨#[]⟩) (x1 := .slice none 0 0) (x2 := .int .i64 0) (K := Z32) (V := Z32) H5 (.string U)).set1 (.slice (some ⟨g5, 0, none⟩) N1 c5)
  have G26 := (G24.below hb5).keep K6 h24
  have g44l := G44.lt
  have R56 := R5.keep K6 (fun ad had e => by cases had; have e' : g5 = g4 := e; omega)
  have R46 := (R4.carry (Nat.le_refl _) hb5).keep K6 (fun ad had e => by have := nw4 ad had; omega)
  have b6 := b5.trans ((K6.mono (fun _ e => (show w.heap.size ≤ _ by omega))).below b5.size (fun _ h => h))
  have s6 : w4.heap.size ≤ ((w5.setCell ⟨g4, 0, none⟩ (.string U)).setCell ⟨g4, 1, none⟩ (.slice (some ⟨g5, 0, none⟩) N1 c5)).heap.size := Nat.le_trans hb5.size K6.size
  generalize (w5.setCell ⟨g4, 0, none⟩ (.string U)).setCell ⟨g4, 1, none⟩ (.slice (some ⟨g5, 0, none⟩) N1 c5) = w6 at G46 G26 R56 R46 b6 s6 ⊢
  clear H5 k0 k1 z0 z1 ho5 hb5 R4 R4t G44 G24 K6 R5 b5
  have hne : c4 ≠ N1 := by omega
  obtain ⟨bb, oo, rfl, _⟩ := R46.flat (by omega)
  have R47 := R46.drop (k := N1) (by omega)
  go_upto_region 10 with (go_at_call 39; refine (cU2 _ _ _ _ R47).mono ?_; rintro e w7 ⟨a7, n7, c7, rfl, R7, hb7, nw7⟩)
  have b7 := b6.trans (hb7.mono b6.size)
  have G27 := G26.below hb7
  have G47 := G46.below hb7
  have R57 := R56.carry (Nat.le_refl _) hb7
  have l7 : Z2.length = n7 := R7.len
  have q7 := R7.cap
  have m7 : c7 ≤ 9223372036854775807 := R7.most
  have s7 := hb7.size
  clear R46 R47 R56 G26 G46 cU2 b6
  have hf4 : ¬ (4096 : Int) < (N2 : Int) := by omega
  obtain rfl : n7 = 64 := by omega
  have wN2 : IntKind.i64.wrap (N2 : Int) = (N2 : Int) := by rw [IntKind.wrap_i64]; omega
  have k2 : w7.cell? ⟨g4, 2, none⟩ = some (.int .i64 0) := G47.cell 2
  have z2 := G47.fz 2
  go_upto_region 13 with fail
  have K8 : Keep (fun k => k = g4) w7 (w7.setCell ⟨g4, 2, none⟩ (.int .i64 N2)) := (Keep.refl (fun k => k = g4) w7).setCell (p := ⟨g4, 2, none⟩) rfl _
  have G48 := G47.set2 (.int .i64 N2)
  have G28 := G27.keep K8 h24
  have R58 := R57.keep K8 (fun ad had e => by cases had; have e' : g5 = g4 := e; omega)
  have g47l := G47.lt
  have R78 := R7.keep K8 (fun ad had e => by have := nw7 ad had; omega)
  have b8 := b7.trans ((K8.mono (fun _ e => (show w.heap.size ≤ _ by omega))).below b7.size (fun _ h => h))
  have nw8 : ∀ ad, a7 = some ad → ad.block ≠ g4 := fun ad had e => by have := nw7 ad had; omega
  generalize w7.setCell ⟨g4, 2, none⟩ (.int .i64 N2) = w8 at G48 G28 R58 R78 b8 ⊢
  obtain ⟨b9, o9, rfl, _⟩ := R78.flat (by omega)
  have h94 : b9 ≠ g4 := nw8 _ rfl
  have h54 : g5 ≠ g4 := by omega
  have HG2 : Hid (RcAt w8 g2 rec0) := G28
  have HR5 : Hid (Rd w8 (some ⟨g5, 0, none⟩) N1 c5 (Z1.take N1)) := R58
  have HR7 : Hid (Rd w8 (some ⟨b9, o9, none⟩) 64 c7 Z2) := R78
  have HB8 : Hid (Below w.heap.size w w8) := b8
  have HZ2 : Hid (Z2.length = 64) := l7
  clear nw8 nw7 k2 z2 K8 R57 G27 G47 b7 wN2 R7 b4 b3 b2 hb1 hb2 hb3 hb4 hb7 nw4 bt G28 R58 R78 b8 l7 l4
  go_wp2_with fail
  go_loopw [10] (fun i wr => ∃ j : Nat, j ≤ 32 ∧ i = .int .i64 j ∧ Hid (RcAt wr g4 (recL (.string U) (.slice (some ⟨g5, 0, none⟩) N1 c5) (.int .i64 N2) (tz Z2 j) (tz (Z2.drop 32) j))) ∧ Hid (Keep (fun k => k = g4) w8 wr)) (fun i _ => 32 - (intOf i).toNat)
  case atStart => exact ⟨0, by omega, rfl, by rw [tz_zero, tz_zero]; exact G48, Keep.refl _ _⟩
  case round =>
    obtain ⟨j, hj, rfl, HG, HK⟩ := hrel
    clear G48
    by_cases hlt : j < 32
    · have hcl : (j : Int) < 32 := by omega
      have HK' : Hid (Keep (fun k => k = g4) w8 wr.drew) := HK.out.drew
      have HG' : Hid (RcAt wr.drew g4 (recL (.string U) (.slice (some ⟨g5, 0, none⟩) N1 c5) (.int .i64 N2) (tz Z2 j) (tz (Z2.drop 32) j))) := HG.out
      have R9 := HR7.out.keep HK'.out (fun ad had e => h94 (by cases had; exact e))
      have c1 := R9.cells _ rfl j (by omega)
      have c2 := R9.cells _ rfl (32 + j) (by omega)
      rw [add_flat] at c1 c2
      have ll := HZ2.out
      have tl1 := tz_len Z2 j (by omega) (by omega)
      have tl2 := tz_len (Z2.drop 32) j (by omega) (by rw [List.length_drop]; omega)
      have d2 : (Z2.drop 32).getD j 0 = Z2.getD (32 + j) 0 := by simp [List.getD]
      obtain ⟨x, HX⟩ : ∃ x, Hid (Z2.getD j 0 = x) := ⟨_, rfl⟩
      obtain ⟨y, HY⟩ : ∃ x, Hid (Z2.getD (32 + j) 0 = x) := ⟨_, rfl⟩
      rw [HX.out] at c1
      rw [HY.out] at c2 d2
      have S1 := HG'.out.setK (i := j) (by omega) x
      have S2 := S1.setV (by rw [List.length_set]; exact tl1) j y
      have SG : Hid (RcAt ((wr.drew.setCell ⟨g4, 3 + j, none⟩ (.int .u8 x)).setCell ⟨g4, 35 + j, none⟩ (.int .u8 y)) g4 (recL (.string U) (.slice (some ⟨g5, 0, none⟩) N1 c5) (.int .i64 N2) (tz Z2 (j + 1)) (tz (Z2.drop 32) (j + 1)))) := by
        show RcAt _ _ _
        rw [tz_succ Z2 j hlt (by omega), tz_succ (Z2.drop 32) j hlt (by rw [List.length_drop]; omega), d2, HX.out]
        exact S2
      have k3 : ∃ v, wr.drew.cell? ⟨g4, 3 + j, none⟩ = some v := by
        rw [HG'.out.cell]
        exact ⟨_, List.getElem?_eq_getElem (by rw [rec_len _ _ _ tl1 tl2]; omega)⟩
      have k35 : ∃ v, (wr.drew.setCell ⟨g4, 3 + j, none⟩ (.int .u8 x)).cell? ⟨g4, 35 + j, none⟩ = some v := by
        rw [S1.cell]
        exact ⟨_, List.getElem?_eq_getElem (by rw [rec_len _ _ _ (by rw [List.length_set]; exact tl1) tl2]; omega)⟩
      obtain ⟨y3, k3⟩ := k3
      obtain ⟨y35, k35⟩ := k35
      have z3 := HG'.out.fz (3 + j)
      have z35 := S1.fz (35 + j)
      have KK : Hid (Keep (fun k => k = g4) w8 ((wr.drew.setCell ⟨g4, 3 + j, none⟩ (.int .u8 x)).setCell ⟨g4, 35 + j, none⟩ (.int .u8 y))) := (HK'.out.setCell (p := ⟨g4, 3 + j, none⟩) rfl _).setCell (p := ⟨g4, 35 + j, none⟩) rfl _
      clear HG HK HG' HK' R9 S1 S2 tl1 tl2 d2 HX HY ll
      obtain ⟨o1, Ho1⟩ : ∃ q : Nat, Hid (o9 + j = q) := ⟨_, rfl⟩
      obtain ⟨o2, Ho2⟩ : ∃ q : Nat, Hid (o9 + (32 + j) = q) := ⟨_, rfl⟩
      rw [Ho2.out] at c2
      have h32 : (32 : Int) + (j : Int) < 64 := by omega
      go_wp2_with fail
      refine wp_region_lx (fun w' => w'.cell? ⟨b9, o1, none⟩ = some (.int .u8 x) ∧ w'.cell? ⟨b9, o2, none⟩ = some (.int .u8 y)) [] 17 (by kernel_rfl) (by kernel_rfl) ?_
      obtain ⟨W, HW⟩ : ∃ W, Hid (wr.drew = W) := ⟨_, rfl⟩
      rw [Ho1.out] at c1
      rw [HW.out] at c1 c2 SG k3 k35 z3 z35 KK ⊢
      have HS0 : W.cell? ⟨b9, o1, none⟩ = some (.int .u8 x) ∧ W.cell? ⟨b9, o2, none⟩ = some (.int .u8 y) := ⟨c1, c2⟩
      have HS1 : (W.setCell ⟨g4, 3 + j, none⟩ (.int .u8 x)).cell? ⟨b9, o1, none⟩ = some (.int .u8 x) ∧ (W.setCell ⟨g4, 3 + j, none⟩ (.int .u8 x)).cell? ⟨b9, o2, none⟩ = some (.int .u8 y) :=
        ⟨by rw [World.cell?_setCell_other _ _ _ _ (fun e' => h94 (by injection e' with e1; exact e1.symm)), c1], by rw [World.cell?_setCell_other _ _ _ _ (fun e' => h94 (by injection e' with e1; exact e1.symm)), c2]⟩
      have HS2 : ((W.setCell ⟨g4, 3 + j, none⟩ (.int .u8 x)).setCell ⟨g4, 35 + j, none⟩ (.int .u8 y)).cell? ⟨b9, o1, none⟩ = some (.int .u8 x) ∧ ((W.setCell ⟨g4, 3 + j, none⟩ (.int .u8 x)).setCell ⟨g4, 35 + j, none⟩ (.int .u8 y)).cell? ⟨b9, o2, none⟩ = some (.int .u8 y) :=
        ⟨by rw [World.cell?_setCell_other _ _ _ _ (fun e' => h94 (by injection e' with e1; exact e1.symm)), HS1.1], by rw [World.cell?_setCell_other _ _ _ _ (fun e' => h94 (by injection e' with e1; exact e1.symm)), HS1.2]⟩
      have hj64 : (j : Int) < 64 := by omega
      have hw32 : IntKind.i64.wrap (32 + (j : Int)) = 32 + (j : Int) := by rw [IntKind.wrap_i64]; omega
      have ho1 : o9 + j = o1 := Ho1.out
      have ht2 : o9 + (32 + (j : Int)).toNat = o2 := by have := Ho2.out; omega
      clear c1 c2
      refine lx_rd 0 ?vA0 (by kernel_rfl) (fun _ _ d _ _ h => by cases d <;> exact h) (by kernel_rfl) HS0 rfl rfl rfl (fun w' hS => ?hA0) ?_
      case hA0 => first | (go_simp; rfl) | (go_simp; done) | (go_simp; exact idx_ok (by omega) (by omega)) | (go_simp; exact wi64' (by omega) (by omega) (by omega)) | (go_simp; intro hh; exfalso; omega)
      simp only [List.setIfInBounds_toArray, List.set_cons_zero, List.set_cons_succ]
      refine lx_rd 1 ?vA1 (by kernel_rfl) (fun _ _ d _ _ h => by cases d <;> exact h) (by kernel_rfl) HS0 rfl rfl rfl (fun w' hS => ?hA1) ?_
      case hA1 => first | (go_simp; rfl) | (go_simp; done) | (go_simp; exact idx_ok (by omega) (by omega)) | (go_simp; exact wi64' (by omega) (by omega) (by omega)) | (go_simp; intro hh; exfalso; omega)
      simp only [List.setIfInBounds_toArray, List.set_cons_zero, List.set_cons_succ]
      refine lx_rd 2 ?vA2 (by kernel_rfl) (fun _ _ d _ _ h => by cases d <;> exact h) (by kernel_rfl) HS0 rfl rfl rfl (fun w' hS => ?hA2) ?_
      case hA2 => first | (go_simp; rfl) | (go_simp; done) | (go_simp; exact idx_ok (by omega) (by omega)) | (go_simp; exact wi64' (by omega) (by omega) (by omega)) | (go_simp; intro hh; exfalso; omega)
      simp only [List.setIfInBounds_toArray, List.set_cons_zero, List.set_cons_succ]
      refine lx_rd 3 ?vA3 (by kernel_rfl) (fun _ _ d _ _ h => by cases d <;> exact h) (by kernel_rfl) HS0 rfl rfl rfl (fun w' hS => ?hA3) ?_
      case hA3 => first | (go_simp; rfl) | (go_simp; done) | (go_simp; exact idx_ok (by omega) (by omega)) | (go_simp; exact wi64' (by omega) (by omega) (by omega)) | (go_simp; intro hh; exfalso; omega)
      simp only [List.setIfInBounds_toArray, List.set_cons_zero, List.set_cons_succ]
      refine lx_rd 4 (.pointer (some ⟨b9, o1, none⟩)) (by kernel_rfl) (fun _ _ d _ _ h => by cases d <;> exact h) (by kernel_rfl) HS0 rfl rfl rfl (fun w' hS => ?hA4) ?_
      case hA4 => first | (go_simp; rfl) | (go_simp; done) | (go_simp; exact idx_ok (by omega) (by omega)) | (go_simp; exact wi64' (by omega) (by omega) (by omega)) | (go_simp; intro hh; exfalso; omega)
      simp only [List.setIfInBounds_toArray, List.set_cons_zero, List.set_cons_succ]
      refine lx_rd 5 (.int .u8 x) (by kernel_rfl) (fun _ _ d _ _ h => by cases d <;> exact h) (by kernel_rfl) HS0 rfl rfl rfl (fun w' hS => ?hA5) ?_
      case hA5 => have c1 := hS.1; first | (go_simp; rfl) | (go_simp; done) | (go_simp; exact idx_ok (by omega) (by omega)) | (go_simp; exact wi64' (by omega) (by omega) (by omega)) | (go_simp; intro hh; exfalso; omega)
      simp only [List.setIfInBounds_toArray, List.set_cons_zero, List.set_cons_succ]
      refine lx_rd 6 ?vA6 (by kernel_rfl) (fun _ _ d _ _ h => by cases d <;> exact h) (by kernel_rfl) HS0 rfl rfl rfl (fun w' hS => ?hA6) ?_
      case hA6 => first | (go_simp; rfl) | (go_simp; done) | (go_simp; exact idx_ok (by omega) (by omega)) | (go_simp; exact wi64' (by omega) (by omega) (by omega)) | (go_simp; intro hh; exfalso; omega)
      simp only [List.setIfInBounds_toArray, List.set_cons_zero, List.set_cons_succ]
      refine lx_rd 7 ?vA7 (by kernel_rfl) (fun _ _ d _ _ h => by cases d <;> exact h) (by kernel_rfl) HS0 rfl rfl rfl (fun w' hS => ?hA7) ?_
      case hA7 => first | (go_simp; rfl) | (go_simp; done) | (go_simp; exact idx_ok (by omega) (by omega)) | (go_simp; exact wi64' (by omega) (by omega) (by omega)) | (go_simp; intro hh; exfalso; omega)
      simp only [List.setIfInBounds_toArray, List.set_cons_zero, List.set_cons_succ]
      refine lx_rd 8 (.int .i64 (32 + (j : Int))) (by kernel_rfl) (fun _ _ d _ _ h => by cases d <;> exact h) (by kernel_rfl) HS0 rfl rfl rfl (fun w' hS => ?hA8) ?_
      case hA8 => first | (go_simp; rfl) | (go_simp; done) | (go_simp; exact idx_ok (by omega) (by omega)) | (go_simp; exact wi64' (by omega) (by omega) (by omega)) | (go_simp; intro hh; exfalso; omega)
      simp only [List.setIfInBounds_toArray, List.set_cons_zero, List.set_cons_succ]
      refine lx_rd 9 (.pointer (some ⟨b9, o2, none⟩)) (by kernel_rfl) (fun _ _ d _ _ h => by cases d <;> exact h) (by kernel_rfl) HS0 rfl rfl rfl (fun w' hS => ?hA9) ?_
      case hA9 => first | (go_simp; rfl) | (go_simp; done) | (go_simp; exact idx_ok (by omega) (by omega)) | (go_simp; exact wi64' (by omega) (by omega) (by omega)) | (go_simp; intro hh; exfalso; omega)
      simp only [List.setIfInBounds_toArray, List.set_cons_zero, List.set_cons_succ]
      refine lx_rd 10 (.int .u8 y) (by kernel_rfl) (fun _ _ d _ _ h => by cases d <;> exact h) (by kernel_rfl) HS0 rfl rfl rfl (fun w' hS => ?hA10) ?_
      case hA10 => have c1 := hS.2; first | (go_simp; rfl) | (go_simp; done) | (go_simp; exact idx_ok (by omega) (by omega)) | (go_simp; exact wi64' (by omega) (by omega) (by omega)) | (go_simp; intro hh; exfalso; omega)
      simp only [List.setIfInBounds_toArray, List.set_cons_zero, List.set_cons_succ]
      refine lx_rd 11 (.pointer (some ⟨g4, 3, none⟩)) (by kernel_rfl) (fun _ _ d _ _ h => by cases d <;> exact h) (by kernel_rfl) HS0 rfl rfl rfl (fun w' hS => ?hA11) ?_
      case hA11 => first | (go_simp; rfl) | (go_simp; done) | (go_simp; exact idx_ok (by omega) (by omega)) | (go_simp; exact wi64' (by omega) (by omega) (by omega)) | (go_simp; intro hh; exfalso; omega)
      simp only [List.setIfInBounds_toArray, List.set_cons_zero, List.set_cons_succ]
      refine lx_rd 12 (.pointer (some ⟨g4, 3 + j, none⟩)) (by kernel_rfl) (fun _ _ d _ _ h => by cases d <;> exact h) (by kernel_rfl) HS0 rfl rfl rfl (fun w' hS => ?hA12) ?_
      case hA12 => first | (go_simp; rfl) | (go_simp; done) | (go_simp; exact idx_ok (by omega) (by omega)) | (go_simp; exact wi64' (by omega) (by omega) (by omega)) | (go_simp; intro hh; exfalso; omega)
      simp only [List.setIfInBounds_toArray, List.set_cons_zero, List.set_cons_succ]
      refine lx_rd 14 (.pointer (some ⟨g4, 35, none⟩)) (by kernel_rfl) (fun _ _ d _ _ h => by cases d <;> exact h) (by kernel_rfl) HS0 rfl rfl rfl (fun w' hS => ?hA14) ?_
      case hA14 => first | (go_simp; rfl) | (go_simp; done) | (go_simp; exact idx_ok (by omega) (by omega)) | (go_simp; exact wi64' (by omega) (by omega) (by omega)) | (go_simp; intro hh; exfalso; omega)
      simp only [List.setIfInBounds_toArray, List.set_cons_zero, List.set_cons_succ]
      refine lx_one 13 (by kernel_rfl) (stepT_store (w' := W.setCell ⟨g4, 3 + j, none⟩ (.int .u8 x)) rfl rfl rfl ?r13 (fun _ => HS1) ?_)
      case r13 => first | (go_simp; rfl) | go_simp
      refine lx_rd 15 (.pointer (some ⟨g4, 35 + j, none⟩)) (by kernel_rfl) (fun _ _ d _ _ h => by cases d <;> exact h) (by kernel_rfl) HS1 rfl rfl rfl (fun w' hS => ?hB15) ?_
      case hB15 => first | (go_simp; rfl) | (go_simp; done) | (go_simp; exact idx_ok (by omega) (by omega)) | (go_simp; exact wi64' (by omega) (by omega) (by omega)) | (go_simp; intro hh; exfalso; omega)
      simp only [List.setIfInBounds_toArray, List.set_cons_zero, List.set_cons_succ]
      refine lx_one 16 (by kernel_rfl) (stepT_store (w' := (W.setCell ⟨g4, 3 + j, none⟩ (.int .u8 x)).setCell ⟨g4, 35 + j, none⟩ (.int .u8 y)) rfl rfl rfl ?r16 (fun _ => HS2) ?_)
      case r16 => first | (go_simp; rfl) | go_simp
      refine lx_nil (by kernel_rfl) ?_
      go_wp2_with fail
      exact ⟨⟨j + 1, by omega, by go_num, SG, KK⟩, by simp [intOf]; omega⟩
    · obtain rfl : j = 32 := by omega
      have hcl : ¬ ((32 : Nat) : Int) < 32 := by omega
      have G9 := HG.out
      rw [tz_last, tz_last] at G9
      have ll := HZ2.out
      have lk : (Z2.take 32).length = 32 := by rw [List.length_take]; omega
      have lv : ((Z2.drop 32).take 32).length = 32 := by rw [List.length_take, List.length_drop]; omega
      have H2 := HG2.out.keep HK.out h24
      have R9 := HR5.out.keep HK.out (fun ad had e => h54 (by cases had; exact e))
      have b9' := HB8.out.trans ((HK.out.mono (fun _ e => (show w.heap.size ≤ _ by omega))).below HB8.out.size (fun _ h => h))
      have e67 := rec_len (.string U) (.slice (some ⟨g5, 0, none⟩) N1 c5) (.int .i64 N2) lk lv
      have cR := refRight_any U (some ⟨g5, 0, none⟩) N1 c5 N2 (Z2.take 32) ((Z2.drop 32).take 32) wr (by omega)
      rw [h7] at cR
      clear HG HK HG2 HR5 HR7 HB8 h7
      go_wp2_with (first
        | (refine wp_load_rec rfl (.tmp 4) rfl g4 rfl _ G9 e67 ?_)
        | (go_at_call 14; refine cR.mono ?_; clear cR; rintro e w10 ⟨rfl, hb10⟩; have H2 := H2.below hb10; have b10 := b9'.trans (hb10.mono b9'.size))
        | (refine wp_build_rec0 rfl rfl ?_)
        | (refine wp_store_rec rfl (.tmp 2) (.tmp 97) rfl g2 rfl _ rfl _ H2 rec0_len rec0_len (rec_one _ _ _ _ _ _ _) ?_; intro wz Gz kz))
      have bz := b10.trans ((kz.mono (fun _ e => (show w.heap.size ≤ _ by omega))).below b10.size (fun _ h => h))
      exact bodyPost_ret (results_rec rfl _ _ g2 rec0 (.bool false) rfl rfl Gz rec0_len) rfl ⟨rfl, bz⟩

set_option maxRecDepth 100000 in
set_option maxHeartbeats 3200000 in
theorem rread_no3a (a : Option Addr) (n c : Nat) (xs : List Int) (w : World) (hR : Rd w a n c xs) (U : ByteArray) (Y1 Z1 : List Int) (N1 : Nat) (E : Int) (hE : (E == 0) = false)
    (cT : ∀ u, Rd u a n c xs → Calls Tryd.prog 38 #[.slice a n c, .int .i64 64] u fun e w' => ∃ a' n' c', e = .returned (.tuple #[.string U, .slice a' n' c', .int .i64 0]) ∧ Rd w' a' n' c' Y1 ∧ Below u.heap.size u w')
    (cU1 : ∀ u p q r, Rd u p q r Y1 → Calls Tryd.prog 39 #[.slice p q r] u fun e w' => ∃ a' n' c', e = .returned (.tuple #[.int .u64 N1, .slice a' n' c', .int .i64 0]) ∧ Rd w' a' n' c' Z1 ∧ Below u.heap.size u w' ∧ ∀ ad, a' = some ad → u.heap.size ≤ ad.block)
    (cU2 : ∀ u p q r, Rd u p q r (Z1.drop N1) → Calls Tryd.prog 39 #[.slice p q r] u fun e w' => e = .returned (.tuple #[.int .u64 0, .slice none 0 0, .int .i64 E]) ∧ Below u.heap.size u w') (hz1 : Z1.length ≤ 1000) (h1 : 1 ≤ N1) (h2 : N1 ≤ 32) (h3 : N1 ≤ Z1.length) :
    Calls Tryd.prog 18 #[.slice a n c] w fun e w' => e = .returned (.tuple #[.agg rec0.toArray, .bool false]) ∧ Below w.heap.size w w' := by
  have tk1 : True := trivial
  go_enter Tryd.func18, Tryd.ntmps18
  go_upto_region 2 with (first
    | (refine wp_alloc_row rfl 28 rfl rec0 67 zero_rec ?_; clear tk1; intro g2 w1 G1 hg2 hb1)
    | (refine wp_alloc_row rfl 28 rfl rec0 67 zero_rec ?_; intro g4 w2 G4 hg4 hb2))
  have G1 : RcAt w1 g2 rec0 := G1
  have g2l := G1.lt
  have G2 := G1.below hb2
  have G4 : RcAt w2 g4 rec0 := G4
  have g4l := G4.lt
  have b2 := hb1.trans (hb2.mono hb1.size)
  have R2 := hR.carry (Nat.le_refl _) b2
  have hwg2 : w.heap.size ≤ g2 := hg2
  have h24 : g2 ≠ g4 := by omega
  clear G1 hR
  have hE2 : (E != 0) = true := by simpa using hE
  go_upto_region 3 with (go_at_call 38; refine (cT _ R2).mono ?_; rintro e w3 ⟨a3, n3, c3, rfl, R3, hb3⟩)
  have b3 := b2.trans (hb3.mono b2.size)
  have G23 := G2.below hb3
  have G43 := G4.below hb3
  have s3 := hb3.size
  clear G2 G4 R2 cT
  go_upto_region 6 with (go_at_call 39; refine (cU1 _ _ _ _ R3).mono ?_; rintro e w4 ⟨a4, n4, c4, rfl, R4, hb4, nw4⟩)
  have b4 := b3.trans (hb4.mono b3.size)
  have G24 := G23.below hb4
  have G44 := G43.below hb4
  have s4 := hb4.size
  have l4 : Z1.length = n4 := R4.len
  have q4 := R4.cap
  have m4 : c4 ≤ 9223372036854775807 := R4.most
  have n4m : n4 ≤ 1000 := by omega
  have wn4 : IntKind.u64.wrap (n4 : Int) = (n4 : Int) := by rw [IntKind.wrap_u64]; omega
  clear G23 G43 R3 cU1
  have hf1 : ¬ (N1 : Int) < 1 := by omega
  have hf2 : ¬ (32 : Int) < (N1 : Int) := by omega
  have hf3 : ¬ (n4 : Int) < (N1 : Int) := by omega
  have R4t := R4.takeK (k := N1) (by omega)
  have bt : Bd (Z1.take N1) := R4t.bytes
  go_upto_region 9 with (at_builtin; refine wp_app0K rfl _ _ rfl rfl a4 N1 c4 (Z1.take N1) rfl R4t (by omega) ?_; rintro v5 w5 ho5 hb5 ⟨g5, c5, rfl⟩; have H5 := G44.below hb5; have k0 : w5.cell? ⟨g4, 0, none⟩ = some (.string ⟨#[]⟩) := H5.cell 0; have k1 : w5.cell? ⟨g4, 1, none⟩ = some (.slice none 0 0) := H5.cell 1; have z0 := H5.fz 0; have z1 := H5.fz 1)
  have b5 := b4.trans (hb5.mono b4.size)
  have g5n : w4.heap.size ≤ g5 := (ho5.lt g5 rfl).1
  obtain ⟨a5', c5', e5', R5⟩ := Rd.ofOwn ho5 bt
  cases e5'
  have K6 : Keep (fun k => k = g4) w5 ((w5.setCell ⟨g4, 0, none⟩ (.string U)).setCell ⟨g4, 1, none⟩ (.slice (some ⟨g5, 0, none⟩) N1 c5)) := ((Keep.refl (fun k => k = g4) w5).setCell (p := ⟨g4, 0, none⟩) rfl _).setCell (p := ⟨g4, 1, none⟩) rfl _
  have G46 := (RcAt.set0 (x0 := .string ⟨#[]⟩) (x1 := .slice none 0 0) (x2 := .int .i64 0) (K := Z32) (V := Z32) H5 (.string U)).set1 (.slice (some ⟨g5, 0, none⟩) N1 c5)
  have G26 := (G24.below hb5).keep K6 h24
  have g44l := G44.lt
  have R56 := R5.keep K6 (fun ad had e => by cases had; have e' : g5 = g4 := e; omega)
  have R46 := (R4.carry (Nat.le_refl _) hb5).keep K6 (fun ad had e => by have := nw4 ad had; omega)
  have b6 := b5.trans ((K6.mono (fun _ e => (show w.heap.size ≤ _ by omega))).below b5.size (fun _ h => h))
  have s6 : w4.heap.size ≤ ((w5.setCell ⟨g4, 0, none⟩ (.string U)).setCell ⟨g4, 1, none⟩ (.slice (some ⟨g5, 0, none⟩) N1 c5)).heap.size := Nat.le_trans hb5.size K6.size
  generalize (w5.setCell ⟨g4, 0, none⟩ (.string U)).setCell ⟨g4, 1, none⟩ (.slice (some ⟨g5, 0, none⟩) N1 c5) = w6 at G46 G26 R56 R46 b6 s6 ⊢
  clear H5 k0 k1 z0 z1 ho5 hb5 R4 R4t G44 G24 K6 R5 b5
  by_cases hcc : c4 = N1
  · subst hcc
    have l0 : Z1.drop c4 = [] := List.drop_of_length_le (by omega)
    have R47 : Rd w6 a4 0 0 (Z1.drop c4) := by rw [l0]; exact R46.cutAll
    have hn0 : n4 = c4 := by omega
    subst hn0
    go_wp2_with (first
      | (go_at_call 39; refine (cU2 _ _ _ _ R47).mono ?_; rintro e w7 ⟨rfl, hb7⟩; have G27 := G26.below hb7; have b7 := b6.trans (hb7.mono b6.size))
      | (refine wp_build_rec0 rfl rfl ?_)
      | (refine wp_store_rec rfl (.tmp 2) (.tmp 71) rfl g2 rfl _ rfl _ G27 rec0_len rec0_len (rec_one _ _ _ _ _ _ _) ?_; intro wz Gz kz))
    have bz := b7.trans ((kz.mono (fun _ e => (show w.heap.size ≤ _ by omega))).below b7.size (fun _ h => h))
    exact bodyPost_ret (results_rec rfl _ _ g2 rec0 (.bool false) rfl rfl Gz rec0_len) rfl ⟨rfl, bz⟩
  · have hne : c4 ≠ N1 := hcc
    obtain ⟨bb, oo, rfl, _⟩ := R46.flat (by omega)
    have R47 := R46.drop (k := N1) (by omega)
    go_wp2_with (first
      | (go_at_call 39; refine (cU2 _ _ _ _ R47).mono ?_; rintro e w7 ⟨rfl, hb7⟩; have G27 := G26.below hb7; have b7 := b6.trans (hb7.mono b6.size))
      | (refine wp_build_rec0 rfl rfl ?_)
      | (refine wp_store_rec rfl (.tmp 2) (.tmp 71) rfl g2 rfl _ rfl _ G27 rec0_len rec0_len (rec_one _ _ _ _ _ _ _) ?_; intro wz Gz kz))
    have bz := b7.trans ((kz.mono (fun _ e => (show w.heap.size ≤ _ by omega))).below b7.size (fun _ h => h))
    exact bodyPost_ret (results_rec rfl _ _ g2 rec0 (.bool false) rfl rfl Gz rec0_len) rfl ⟨rfl, bz⟩

set_option maxRecDepth 100000 in
set_option maxHeartbeats 3200000 in
theorem rread_no3b (a : Option Addr) (n c : Nat) (xs : List Int) (w : World) (hR : Rd w a n c xs) (U : ByteArray) (Y1 Z1 Z2 : List Int) (N1 N2 : Nat)
    (cT : ∀ u, Rd u a n c xs → Calls Tryd.prog 38 #[.slice a n c, .int .i64 64] u fun e w' => ∃ a' n' c', e = .returned (.tuple #[.string U, .slice a' n' c', .int .i64 0]) ∧ Rd w' a' n' c' Y1 ∧ Below u.heap.size u w')
    (cU1 : ∀ u p q r, Rd u p q r Y1 → Calls Tryd.prog 39 #[.slice p q r] u fun e w' => ∃ a' n' c', e = .returned (.tuple #[.int .u64 N1, .slice a' n' c', .int .i64 0]) ∧ Rd w' a' n' c' Z1 ∧ Below u.heap.size u w' ∧ ∀ ad, a' = some ad → u.heap.size ≤ ad.block)
    (cU2 : ∀ u p q r, Rd u p q r (Z1.drop N1) → Calls Tryd.prog 39 #[.slice p q r] u fun e w' => ∃ a' n' c', e = .returned (.tuple #[.int .u64 N2, .slice a' n' c', .int .i64 0]) ∧ Rd w' a' n' c' Z2 ∧ Below u.heap.size u w' ∧ ∀ ad, a' = some ad → u.heap.size ≤ ad.block) (hz1 : Z1.length ≤ 1000) (h1 : 1 ≤ N1) (h2 : N1 ≤ 32) (_ : N1 ≤ Z1.length) (h4 : N1 < Z1.length) (h5 : 4096 < N2) :
    Calls Tryd.prog 18 #[.slice a n c] w fun e w' => e = .returned (.tuple #[.agg rec0.toArray, .bool false]) ∧ Below w.heap.size w w' := by
  have tk1 : True := trivial
  go_enter Tryd.func18, Tryd.ntmps18
  go_upto_region 2 with (first
    | (refine wp_alloc_row rfl 28 rfl rec0 67 zero_rec ?_; clear tk1; intro g2 w1 G1 hg2 hb1)
    | (refine wp_alloc_row rfl 28 rfl rec0 67 zero_rec ?_; intro g4 w2 G4 hg4 hb2))
  have G1 : RcAt w1 g2 rec0 := G1
  have g2l := G1.lt
  have G2 := G1.below hb2
  have G4 : RcAt w2 g4 rec0 := G4
  have g4l := G4.lt
  have b2 := hb1.trans (hb2.mono hb1.size)
  have R2 := hR.carry (Nat.le_refl _) b2
  have hwg2 : w.heap.size ≤ g2 := hg2
  have h24 : g2 ≠ g4 := by omega
  clear G1 hR
  go_upto_region 3 with (go_at_call 38; refine (cT _ R2).mono ?_; rintro e w3 ⟨a3, n3, c3, rfl, R3, hb3⟩)
  have b3 := b2.trans (hb3.mono b2.size)
  have G23 := G2.below hb3
  have G43 := G4.below hb3
  have s3 := hb3.size
  clear G2 G4 R2 cT
  go_upto_region 6 with (go_at_call 39; refine (cU1 _ _ _ _ R3).mono ?_; rintro e w4 ⟨a4, n4, c4, rfl, R4, hb4, nw4⟩)
  have b4 := b3.trans (hb4.mono b3.size)
  have G24 := G23.below hb4
  have G44 := G43.below hb4
  have s4 := hb4.size
  have l4 : Z1.length = n4 := R4.len
  have q4 := R4.cap
  have m4 : c4 ≤ 9223372036854775807 := R4.most
  have n4m : n4 ≤ 1000 := by omega
  have wn4 : IntKind.u64.wrap (n4 : Int) = (n4 : Int) := by rw [IntKind.wrap_u64]; omega
  clear G23 G43 R3 cU1
  have hf1 : ¬ (N1 : Int) < 1 := by omega
  have hf2 : ¬ (32 : Int) < (N1 : Int) := by omega
  have hf3 : ¬ (n4 : Int) < (N1 : Int) := by omega
  have R4t := R4.takeK (k := N1) (by omega)
  have bt : Bd (Z1.take N1) := R4t.bytes
  go_upto_region 9 with (at_builtin; refine wp_app0K rfl _ _ rfl rfl a4 N1 c4 (Z1.take N1) rfl R4t (by omega) ?_; rintro v5 w5 ho5 hb5 ⟨g5, c5, rfl⟩; have H5 := G44.below hb5; have k0 : w5.cell? ⟨g4, 0, none⟩ = some (.string ⟨#[]⟩) := H5.cell 0; have k1 : w5.cell? ⟨g4, 1, none⟩ = some (.slice none 0 0) := H5.cell 1; have z0 := H5.fz 0; have z1 := H5.fz 1)
  have b5 := b4.trans (hb5.mono b4.size)
  have g5n : w4.heap.size ≤ g5 := (ho5.lt g5 rfl).1
  obtain ⟨a5', c5', e5', R5⟩ := Rd.ofOwn ho5 bt
  cases e5'
  have K6 : Keep (fun k => k = g4) w5 ((w5.setCell ⟨g4, 0, none⟩ (.string U)).setCell ⟨g4, 1, none⟩ (.slice (some ⟨g5, 0, none⟩) N1 c5)) := ((Keep.refl (fun k => k = g4) w5).setCell (p := ⟨g4, 0, none⟩) rfl _).setCell (p := ⟨g4, 1, none⟩) rfl _
  have G46 := (RcAt.set0 (x0 := .string ⟨#[]⟩) (x1 := .slice none 0 0) (x2 := .int .i64 0) (K := Z32) (V := Z32) H5 (.string U)).set1 (.slice (some ⟨g5, 0, none⟩) N1 c5)
  have G26 := (G24.below hb5).keep K6 h24
  have g44l := G44.lt
  have R56 := R5.keep K6 (fun ad had e => by cases had; have e' : g5 = g4 := e; omega)
  have R46 := (R4.carry (Nat.le_refl _) hb5).keep K6 (fun ad had e => by have := nw4 ad had; omega)
  have b6 := b5.trans ((K6.mono (fun _ e => (show w.heap.size ≤ _ by omega))).below b5.size (fun _ h => h))
  have s6 : w4.heap.size ≤ ((w5.setCell ⟨g4, 0, none⟩ (.string U)).setCell ⟨g4, 1, none⟩ (.slice (some ⟨g5, 0, none⟩) N1 c5)).heap.size := Nat.le_trans hb5.size K6.size
  generalize (w5.setCell ⟨g4, 0, none⟩ (.string U)).setCell ⟨g4, 1, none⟩ (.slice (some ⟨g5, 0, none⟩) N1 c5) = w6 at G46 G26 R56 R46 b6 s6 ⊢
  clear H5 k0 k1 z0 z1 ho5 hb5 R4 R4t G44 G24 K6 R5 b5
  have hne : c4 ≠ N1 := by omega
  obtain ⟨bb, oo, rfl, _⟩ := R46.flat (by omega)
  have R47 := R46.drop (k := N1) (by omega)
  go_upto_region 10 with (go_at_call 39; refine (cU2 _ _ _ _ R47).mono ?_; rintro e w7 ⟨a7, n7, c7, rfl, R7, hb7, nw7⟩)
  have b7 := b6.trans (hb7.mono b6.size)
  have G27 := G26.below hb7
  have G47 := G46.below hb7
  have R57 := R56.carry (Nat.le_refl _) hb7
  have l7 : Z2.length = n7 := R7.len
  have q7 := R7.cap
  have m7 : c7 ≤ 9223372036854775807 := R7.most
  have s7 := hb7.size
  clear R46 R47 R56 G26 G46 cU2 b6
  have hf4 : (4096 : Int) < (N2 : Int) := by omega
  go_wp2_with (first
    | (refine wp_build_rec0 rfl rfl ?_)
    | (refine wp_store_rec rfl (.tmp 2) (.tmp 71) rfl g2 rfl _ rfl _ G27 rec0_len rec0_len (rec_one _ _ _ _ _ _ _) ?_; intro wz Gz kz))
  have bz := b7.trans ((kz.mono (fun _ e => (show w.heap.size ≤ _ by omega))).below b7.size (fun _ h => h))
  exact bodyPost_ret (results_rec rfl _ _ g2 rec0 (.bool false) rfl rfl Gz rec0_len) rfl ⟨rfl, bz⟩

set_option maxRecDepth 100000 in
set_option maxHeartbeats 3200000 in
theorem rread_no3c (a : Option Addr) (n c : Nat) (xs : List Int) (w : World) (hR : Rd w a n c xs) (U : ByteArray) (Y1 Z1 Z2 : List Int) (N1 N2 : Nat)
    (cT : ∀ u, Rd u a n c xs → Calls Tryd.prog 38 #[.slice a n c, .int .i64 64] u fun e w' => ∃ a' n' c', e = .returned (.tuple #[.string U, .slice a' n' c', .int .i64 0]) ∧ Rd w' a' n' c' Y1 ∧ Below u.heap.size u w')
    (cU1 : ∀ u p q r, Rd u p q r Y1 → Calls Tryd.prog 39 #[.slice p q r] u fun e w' => ∃ a' n' c', e = .returned (.tuple #[.int .u64 N1, .slice a' n' c', .int .i64 0]) ∧ Rd w' a' n' c' Z1 ∧ Below u.heap.size u w' ∧ ∀ ad, a' = some ad → u.heap.size ≤ ad.block)
    (cU2 : ∀ u p q r, Rd u p q r (Z1.drop N1) → Calls Tryd.prog 39 #[.slice p q r] u fun e w' => ∃ a' n' c', e = .returned (.tuple #[.int .u64 N2, .slice a' n' c', .int .i64 0]) ∧ Rd w' a' n' c' Z2 ∧ Below u.heap.size u w' ∧ ∀ ad, a' = some ad → u.heap.size ≤ ad.block) (hz1 : Z1.length ≤ 1000) (h1 : 1 ≤ N1) (h2 : N1 ≤ 32) (_ : N1 ≤ Z1.length) (h4 : N1 < Z1.length) (h5 : N2 ≤ 4096) (h6 : ¬ Z2.length = 64) :
    Calls Tryd.prog 18 #[.slice a n c] w fun e w' => e = .returned (.tuple #[.agg rec0.toArray, .bool false]) ∧ Below w.heap.size w w' := by
  have tk1 : True := trivial
  go_enter Tryd.func18, Tryd.ntmps18
  go_upto_region 2 with (first
    | (refine wp_alloc_row rfl 28 rfl rec0 67 zero_rec ?_; clear tk1; intro g2 w1 G1 hg2 hb1)
    | (refine wp_alloc_row rfl 28 rfl rec0 67 zero_rec ?_; intro g4 w2 G4 hg4 hb2))
  have G1 : RcAt w1 g2 rec0 := G1
  have g2l := G1.lt
  have G2 := G1.below hb2
  have G4 : RcAt w2 g4 rec0 := G4
  have g4l := G4.lt
  have b2 := hb1.trans (hb2.mono hb1.size)
  have R2 := hR.carry (Nat.le_refl _) b2
  have hwg2 : w.heap.size ≤ g2 := hg2
  have h24 : g2 ≠ g4 := by omega
  clear G1 hR
  go_upto_region 3 with (go_at_call 38; refine (cT _ R2).mono ?_; rintro e w3 ⟨a3, n3, c3, rfl, R3, hb3⟩)
  have b3 := b2.trans (hb3.mono b2.size)
  have G23 := G2.below hb3
  have G43 := G4.below hb3
  have s3 := hb3.size
  clear G2 G4 R2 cT
  go_upto_region 6 with (go_at_call 39; refine (cU1 _ _ _ _ R3).mono ?_; rintro e w4 ⟨a4, n4, c4, rfl, R4, hb4, nw4⟩)
  have b4 := b3.trans (hb4.mono b3.size)
  have G24 := G23.below hb4
  have G44 := G43.below hb4
  have s4 := hb4.size
  have l4 : Z1.length = n4 := R4.len
  have q4 := R4.cap
  have m4 : c4 ≤ 9223372036854775807 := R4.most
  have n4m : n4 ≤ 1000 := by omega
  have wn4 : IntKind.u64.wrap (n4 : Int) = (n4 : Int) := by rw [IntKind.wrap_u64]; omega
  clear G23 G43 R3 cU1
  have hf1 : ¬ (N1 : Int) < 1 := by omega
  have hf2 : ¬ (32 : Int) < (N1 : Int) := by omega
  have hf3 : ¬ (n4 : Int) < (N1 : Int) := by omega
  have R4t := R4.takeK (k := N1) (by omega)
  have bt : Bd (Z1.take N1) := R4t.bytes
  go_upto_region 9 with (at_builtin; refine wp_app0K rfl _ _ rfl rfl a4 N1 c4 (Z1.take N1) rfl R4t (by omega) ?_; rintro v5 w5 ho5 hb5 ⟨g5, c5, rfl⟩; have H5 := G44.below hb5; have k0 : w5.cell? ⟨g4, 0, none⟩ = some (.string ⟨#[]⟩) := H5.cell 0; have k1 : w5.cell? ⟨g4, 1, none⟩ = some (.slice none 0 0) := H5.cell 1; have z0 := H5.fz 0; have z1 := H5.fz 1)
  have b5 := b4.trans (hb5.mono b4.size)
  have g5n : w4.heap.size ≤ g5 := (ho5.lt g5 rfl).1
  obtain ⟨a5', c5', e5', R5⟩ := Rd.ofOwn ho5 bt
  cases e5'
  have K6 : Keep (fun k => k = g4) w5 ((w5.setCell ⟨g4, 0, none⟩ (.string U)).setCell ⟨g4, 1, none⟩ (.slice (some ⟨g5, 0, none⟩) N1 c5)) := ((Keep.refl (fun k => k = g4) w5).setCell (p := ⟨g4, 0, none⟩) rfl _).setCell (p := ⟨g4, 1, none⟩) rfl _
  have G46 := (RcAt.set0 (x0 := .string ⟨#[]⟩) (x1 := .slice none 0 0) (x2 := .int .i64 0) (K := Z32) (V := Z32) H5 (.string U)).set1 (.slice (some ⟨g5, 0, none⟩) N1 c5)
  have G26 := (G24.below hb5).keep K6 h24
  have g44l := G44.lt
  have R56 := R5.keep K6 (fun ad had e => by cases had; have e' : g5 = g4 := e; omega)
  have R46 := (R4.carry (Nat.le_refl _) hb5).keep K6 (fun ad had e => by have := nw4 ad had; omega)
  have b6 := b5.trans ((K6.mono (fun _ e => (show w.heap.size ≤ _ by omega))).below b5.size (fun _ h => h))
  have s6 : w4.heap.size ≤ ((w5.setCell ⟨g4, 0, none⟩ (.string U)).setCell ⟨g4, 1, none⟩ (.slice (some ⟨g5, 0, none⟩) N1 c5)).heap.size := Nat.le_trans hb5.size K6.size
  generalize (w5.setCell ⟨g4, 0, none⟩ (.string U)).setCell ⟨g4, 1, none⟩ (.slice (some ⟨g5, 0, none⟩) N1 c5) = w6 at G46 G26 R56 R46 b6 s6 ⊢
  clear H5 k0 k1 z0 z1 ho5 hb5 R4 R4t G44 G24 K6 R5 b5
  have hne : c4 ≠ N1 := by omega
  obtain ⟨bb, oo, rfl, _⟩ := R46.flat (by omega)
  have R47 := R46.drop (k := N1) (by omega)
  go_upto_region 10 with (go_at_call 39; refine (cU2 _ _ _ _ R47).mono ?_; rintro e w7 ⟨a7, n7, c7, rfl, R7, hb7, nw7⟩)
  have b7 := b6.trans (hb7.mono b6.size)
  have G27 := G26.below hb7
  have G47 := G46.below hb7
  have R57 := R56.carry (Nat.le_refl _) hb7
  have l7 : Z2.length = n7 := R7.len
  have q7 := R7.cap
  have m7 : c7 ≤ 9223372036854775807 := R7.most
  have s7 := hb7.size
  clear R46 R47 R56 G26 G46 cU2 b6
  have hf4 : ¬ (4096 : Int) < (N2 : Int) := by omega
  have hf5 : ((n7 : Int) == 64) = false := by simp; omega
  have hf6 : ((n7 : Int) != 64) = true := by simp; omega
  go_wp2_with (first
    | (refine wp_build_rec0 rfl rfl ?_)
    | (refine wp_store_rec rfl (.tmp 2) (.tmp 71) rfl g2 rfl _ rfl _ G27 rec0_len rec0_len (rec_one _ _ _ _ _ _ _) ?_; intro wz Gz kz))
  have bz := b7.trans ((kz.mono (fun _ e => (show w.heap.size ≤ _ by omega))).below b7.size (fun _ h => h))
  exact bodyPost_ret (results_rec rfl _ _ g2 rec0 (.bool false) rfl rfl Gz rec0_len) rfl ⟨rfl, bz⟩

end Go.Proofs.YtiidjdedeenijaaDoor
