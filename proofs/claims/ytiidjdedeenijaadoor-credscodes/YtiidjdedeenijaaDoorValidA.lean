/- What a step of utf8.Valid's loop owes. -/
import Derived.Test.YtiidjdedeenijaaDoorUtf
import Derived.Test.YtiidjdedeenijaaDoorWord
import Derived.Test.YtiidjdedeenijaaDoorUint
namespace Go.Proofs.YtiidjdedeenijaaDoor
open Go.RowKit

theorem Rd.cutF {w : World} {b off m : Nat} {ys : List Int} (h : Rd w (some ⟨b, off, none⟩) m m ys) (k : Nat) : Rd w (some ⟨b, off + k, none⟩) (m - k) (m - k) (ys.drop k) := by
  have := h.cut k
  rw [Option.map_some, add_flat] at this
  exact this
theorem Rd.drewN {w : World} {a : Option Addr} {n c : Nat} {xs : List Int} (h : Rd w a n c xs) (k : Nat) : Rd (w.drewN k) a n c xs :=
  h.carry (Nat.le_refl _) (below_drewN (Below.refl _ _) k)
theorem Ext.drewN {w w' : World} (h : Ext w w') (k : Nat) : Ext w (w'.drewN k) := below_drewN h k

theorem and_hi {V : Nat} (hV : V < 18446744073709551616) (h : (bits .and .u64 (V : Int) 9259542123273814144 == 0) = true) : V &&& 9259542123273814144 = 0 := by
  have e := u64_and_nat V 9259542123273814144 hV (by decide)
  have h' : bits .and .u64 (V : Int) ((9259542123273814144 : Nat) : Int) = 0 := by simpa using h
  rw [e] at h'
  exact_mod_cast h'

/-- What a step of the loop owes: bytes that are plain are passed over. -/
theorem pass {ys xs : List Int} {k : Nat} (hv : vld ys = vld xs) (hk : k ≤ ys.length) (h : ∀ j, j < k → ys.getD j 0 < 128) : vld (ys.drop k) = vld xs := by
  rw [drop_vld k hk h]; exact hv

theorem or2_hi {V1 V2 : Nat} (h1 : V1 < 18446744073709551616) (h2 : V2 < 18446744073709551616) (h : (bits .and .u64 (bits .or .u64 (V1 : Int) (V2 : Int)) 9259542123273814144 == 0) = true) : V1 &&& 9259542123273814144 = 0 ∧ V2 &&& 9259542123273814144 = 0 := by
  rw [u64_or_nat V1 V2 h1 h2] at h
  exact or_and_zero (and_hi (or_lt h1 h2) h)
theorem or4_hi {V1 V2 V3 V4 : Nat} (h1 : V1 < 18446744073709551616) (h2 : V2 < 18446744073709551616) (h3 : V3 < 18446744073709551616) (h4 : V4 < 18446744073709551616)
    (h : (bits .and .u64 (bits .or .u64 (bits .or .u64 (V1 : Int) (V2 : Int)) (bits .or .u64 (V3 : Int) (V4 : Int))) 9259542123273814144 == 0) = true) : V1 &&& 9259542123273814144 = 0 ∧ V2 &&& 9259542123273814144 = 0 ∧ V3 &&& 9259542123273814144 = 0 ∧ V4 &&& 9259542123273814144 = 0 := by
  rw [u64_or_nat V1 V2 h1 h2, u64_or_nat V3 V4 h3 h4] at h
  obtain ⟨k1, k2⟩ := or2_hi (or_lt h1 h2) (or_lt h3 h4) h
  obtain ⟨a, b⟩ := or_and_zero k1
  obtain ⟨c, d⟩ := or_and_zero k2
  exact ⟨a, b, c, d⟩
theorem pass8 {l xs : List Int} (hb : Bd l) (hv : vld l = vld xs) (hl : 8 ≤ l.length) (h : wv l &&& 9259542123273814144 = 0) : vld (l.drop 8) = vld xs := pass hv hl (wv_hi hb h)
theorem tab_class (z : Int) (ha : ¬ z < 128) (e0 : z ≤ 255) : ∃ i : Nat, i < 16 ∧ bits .and .u8 ((fT z.toNat : Nat) : Int) 7 = (usz z : Int) ∧ ((fT z.toNat : Nat) : Int) / 16 = (i : Int) ∧ (usz z = 2 ∨ usz z = 3 ∨ usz z = 4 → (aLo i : Int) = ulo z ∧ (aHi i : Int) = uhi z) := by
  by_cases k2 : 194 ≤ z ∧ z ≤ 223
  · refine ⟨0, by omega, ?_, by rw [fT_2 z k2]; decide, fun _ => ?_⟩
    · rw [fT_2 z k2, usz, if_pos k2]; decide
    · rw [ulo, uhi, if_neg (by omega), if_neg (by omega), if_neg (by omega), if_neg (by omega)]; decide
  · by_cases k3 : 224 ≤ z ∧ z ≤ 239
    · by_cases g1 : z = 224
      · subst g1; exact ⟨1, by omega, by decide, by decide, fun _ => by decide⟩
      · by_cases g2 : z = 237
        · subst g2; exact ⟨2, by omega, by decide, by decide, fun _ => by decide⟩
        · refine ⟨0, by omega, ?_, by rw [fT_3 z k3 g1 g2]; decide, fun _ => ?_⟩
          · rw [fT_3 z k3 g1 g2, usz, if_neg k2, if_pos k3]; decide
          · rw [ulo, uhi, if_neg g1, if_neg (by omega), if_neg g2, if_neg (by omega)]; decide
    · by_cases k4 : 240 ≤ z ∧ z ≤ 244
      · by_cases g1 : z = 240
        · subst g1; exact ⟨3, by omega, by decide, by decide, fun _ => by decide⟩
        · by_cases g2 : z = 244
          · subst g2; exact ⟨4, by omega, by decide, by decide, fun _ => by decide⟩
          · refine ⟨0, by omega, ?_, by rw [fT_4 z k4 g1 g2]; decide, fun _ => ?_⟩
            · rw [fT_4 z k4 g1 g2, usz, if_neg k2, if_neg k3, if_pos k4]; decide
            · rw [ulo, uhi, if_neg (by omega), if_neg g1, if_neg (by omega), if_neg g2]; decide
      · refine ⟨15, by omega, ?_, by rw [fT_1 z ha e0 k2 k3 k4]; decide, fun h => ?_⟩
        · rw [fT_1 z ha e0 k2 k3 k4, usz, if_neg k2, if_neg k3, if_neg k4]; decide
        · rw [usz, if_neg k2, if_neg k3, if_neg k4] at h; omega

theorem tab_parts {w : World} (hT : Tabs w) (z : Int) (ha : ¬ z < 128) (e0 : z ≤ 255) : ∃ (X i : Nat) (lo hi : Int), w.cell? ⟨0, z.toNat, none⟩ = some (.int .u8 (X : Int)) ∧ bits .and .u8 (X : Int) 7 = (usz z : Int) ∧ (X : Int) / 16 = (i : Int) ∧ i < 16 ∧ w.cell? ⟨1, i * 2, none⟩ = some (.int .u8 lo) ∧ w.cell? ⟨1, i * 2 + 1, none⟩ = some (.int .u8 hi) ∧ 0 ≤ lo ∧ hi ≤ 255 ∧ (usz z = 2 ∨ usz z = 3 ∨ usz z = 4 → lo = ulo z ∧ hi = uhi z) := by
  obtain ⟨i, hi5, h1, h3, h2⟩ := tab_class z ha e0
  refine ⟨fT z.toNat, i, aLo i, aHi i, hT.first z.toNat (by omega), h1, h3, hi5, Nat.mul_comm 2 i ▸ hT.lo i hi5, Nat.mul_comm 2 i ▸ hT.hi i hi5, by omega, ?_, h2⟩
  unfold aHi; split
  · decide
  · split
    · decide
    · split <;> decide

theorem usz_1234 (z : Int) : usz z = 1 ∨ usz z = 2 ∨ usz z = 3 ∨ usz z = 4 := by
  unfold usz; split
  · simp
  · split
    · simp
    · split <;> simp
theorem dropD (c : Int) (r : List Int) (j : Nat) : (c :: r).getD (j + 1) 0 = r.getD j 0 := by simp [List.getD]

theorem bad1 {ys : List Int} {z : Int} (hd : ys = z :: ys.drop 1) (ha : ¬ z < 128) (hk : usz z = 1) : vld ys = false := by
  rw [hd, vld_cons, if_neg ha, if_neg (by omega), if_neg (by omega), if_neg (by omega)]
theorem bad2 {ys : List Int} {z : Int} (hd : ys = z :: ys.drop 1) (ha : ¬ z < 128) (hk : usz z = 2) (h : ys.length < 2 ∨ ys.getD 1 0 < ulo z ∨ uhi z < ys.getD 1 0) : vld ys = false := by
  have e1 : ys.getD 1 0 = (ys.drop 1).getD 0 0 := by conv => lhs; rw [hd, dropD]
  have e2 : ys.length = (ys.drop 1).length + 1 := congrArg List.length hd
  rw [e1, e2] at h
  rw [hd, vld_cons, if_neg ha, if_pos hk]
  generalize ys.drop 1 = r at *
  by_cases hl : 1 ≤ r.length
  · rw [if_pos hl]
    have : oks z (r.getD 0 0) = false := by
      cases q : oks z (r.getD 0 0) with
      | false => rfl
      | true => simp only [oks, Bool.and_eq_true, decide_eq_true_eq] at q; omega
    rw [this, Bool.false_and]
  · rw [if_neg hl]
theorem ok2 {ys : List Int} {z : Int} (hd : ys = z :: ys.drop 1) (ha : ¬ z < 128) (hk : usz z = 2) (h0 : 2 ≤ ys.length) (h1 : ulo z ≤ ys.getD 1 0) (h2 : ys.getD 1 0 ≤ uhi z) : vld ys = vld (ys.drop 2) := by
  have e1 : ys.getD 1 0 = (ys.drop 1).getD 0 0 := by conv => lhs; rw [hd, dropD]
  have e2 : ys.length = (ys.drop 1).length + 1 := congrArg List.length hd
  have e3 : ys.drop 2 = (ys.drop 1).drop 1 := by rw [List.drop_drop]
  rw [e1] at h1 h2
  rw [e2] at h0
  rw [e3]
  conv => lhs; rw [hd, vld_cons, if_neg ha, if_pos hk]
  generalize ys.drop 1 = r at *
  rw [if_pos (by omega)]
  have : oks z (r.getD 0 0) = true := by
    simp only [oks, Bool.and_eq_true, decide_eq_true_eq]; omega
  rw [this, Bool.true_and]
theorem bad3 {ys : List Int} {z : Int} (hd : ys = z :: ys.drop 1) (ha : ¬ z < 128) (hk : usz z = 3) (h : ys.length < 3 ∨ ys.getD 1 0 < ulo z ∨ uhi z < ys.getD 1 0 ∨ ys.getD 2 0 < 128 ∨ 191 < ys.getD 2 0) : vld ys = false := by
  have e1 : ys.getD 1 0 = (ys.drop 1).getD 0 0 := by conv => lhs; rw [hd, dropD]
  have e4 : ys.getD 2 0 = (ys.drop 1).getD 1 0 := by conv => lhs; rw [hd, dropD]
  have e2 : ys.length = (ys.drop 1).length + 1 := congrArg List.length hd
  rw [e1, e2, e4] at h
  rw [hd, vld_cons, if_neg ha, if_neg (by omega), if_pos hk]
  generalize ys.drop 1 = r at *
  by_cases hl : 2 ≤ r.length
  · rw [if_pos hl]
    have : (oks z (r.getD 0 0) && okc (r.getD 1 0)) = false := by
      cases q : oks z (r.getD 0 0) && okc (r.getD 1 0) with
      | false => rfl
      | true => simp only [oks, okc, Bool.and_eq_true, decide_eq_true_eq] at q; omega
    rw [this, Bool.false_and]
  · rw [if_neg hl]
theorem ok3 {ys : List Int} {z : Int} (hd : ys = z :: ys.drop 1) (ha : ¬ z < 128) (hk : usz z = 3) (h0 : 3 ≤ ys.length) (h1 : ulo z ≤ ys.getD 1 0) (h2 : ys.getD 1 0 ≤ uhi z) (h3 : 128 ≤ ys.getD 2 0) (h4 : ys.getD 2 0 ≤ 191) : vld ys = vld (ys.drop 3) := by
  have e1 : ys.getD 1 0 = (ys.drop 1).getD 0 0 := by conv => lhs; rw [hd, dropD]
  have e4 : ys.getD 2 0 = (ys.drop 1).getD 1 0 := by conv => lhs; rw [hd, dropD]
  have e2 : ys.length = (ys.drop 1).length + 1 := congrArg List.length hd
  have e3 : ys.drop 3 = (ys.drop 1).drop 2 := by rw [List.drop_drop]
  rw [e1] at h1 h2
  rw [e4] at h3 h4
  rw [e2] at h0
  rw [e3]
  conv => lhs; rw [hd, vld_cons, if_neg ha, if_neg (by omega), if_pos hk]
  generalize ys.drop 1 = r at *
  rw [if_pos (by omega)]
  have : (oks z (r.getD 0 0) && okc (r.getD 1 0)) = true := by
    simp only [oks, okc, Bool.and_eq_true, decide_eq_true_eq]; omega
  rw [this, Bool.true_and]
theorem bad4 {ys : List Int} {z : Int} (hd : ys = z :: ys.drop 1) (ha : ¬ z < 128) (hk : usz z = 4) (h : ys.length < 4 ∨ ys.getD 1 0 < ulo z ∨ uhi z < ys.getD 1 0 ∨ ys.getD 2 0 < 128 ∨ 191 < ys.getD 2 0 ∨ ys.getD 3 0 < 128 ∨ 191 < ys.getD 3 0) : vld ys = false := by
  have e1 : ys.getD 1 0 = (ys.drop 1).getD 0 0 := by conv => lhs; rw [hd, dropD]
  have e4 : ys.getD 2 0 = (ys.drop 1).getD 1 0 := by conv => lhs; rw [hd, dropD]
  have e5 : ys.getD 3 0 = (ys.drop 1).getD 2 0 := by conv => lhs; rw [hd, dropD]
  have e2 : ys.length = (ys.drop 1).length + 1 := congrArg List.length hd
  rw [e1, e2, e4, e5] at h
  rw [hd, vld_cons, if_neg ha, if_neg (by omega), if_neg (by omega), if_pos hk]
  generalize ys.drop 1 = r at *
  by_cases hl : 3 ≤ r.length
  · rw [if_pos hl]
    have : (oks z (r.getD 0 0) && okc (r.getD 1 0) && okc (r.getD 2 0)) = false := by
      cases q : oks z (r.getD 0 0) && okc (r.getD 1 0) && okc (r.getD 2 0) with
      | false => rfl
      | true => simp only [oks, okc, Bool.and_eq_true, decide_eq_true_eq] at q; omega
    rw [this, Bool.false_and]
  · rw [if_neg hl]
theorem ok4 {ys : List Int} {z : Int} (hd : ys = z :: ys.drop 1) (ha : ¬ z < 128) (hk : usz z = 4) (h0 : 4 ≤ ys.length) (h1 : ulo z ≤ ys.getD 1 0) (h2 : ys.getD 1 0 ≤ uhi z) (h3 : 128 ≤ ys.getD 2 0) (h4 : ys.getD 2 0 ≤ 191) (h5 : 128 ≤ ys.getD 3 0) (h6 : ys.getD 3 0 ≤ 191) : vld ys = vld (ys.drop 4) := by
  have e1 : ys.getD 1 0 = (ys.drop 1).getD 0 0 := by conv => lhs; rw [hd, dropD]
  have e4 : ys.getD 2 0 = (ys.drop 1).getD 1 0 := by conv => lhs; rw [hd, dropD]
  have e5 : ys.getD 3 0 = (ys.drop 1).getD 2 0 := by conv => lhs; rw [hd, dropD]
  have e2 : ys.length = (ys.drop 1).length + 1 := congrArg List.length hd
  have e3 : ys.drop 4 = (ys.drop 1).drop 3 := by rw [List.drop_drop]
  rw [e1] at h1 h2
  rw [e4] at h3 h4
  rw [e5] at h5 h6
  rw [e2] at h0
  rw [e3]
  conv => lhs; rw [hd, vld_cons, if_neg ha, if_neg (by omega), if_neg (by omega), if_pos hk]
  generalize ys.drop 1 = r at *
  rw [if_pos (by omega)]
  have : (oks z (r.getD 0 0) && okc (r.getD 1 0) && okc (r.getD 2 0)) = true := by
    simp only [oks, okc, Bool.and_eq_true, decide_eq_true_eq]; omega
  rw [this, Bool.true_and]

theorem Ext.new (w : World) (o : Obj) (k : Nat) : Ext w ((w.alloc o).drewN k) := below_drewN (Below.alloc (Below.refl _ _) (Nat.le_refl _) o) k
theorem keep_cell {w : World} {q : Addr} {v : Value} (h : w.cell? q = some v) (o : Obj) : (w.alloc o).cell? q = some v := (World.cell?_alloc_lt w o q (World.block_lt_of_cell? w q h)).trans h

theorem rd_empty (w : World) (a : Option Addr) : Rd w a 0 0 [] := ⟨rfl, Nat.le_refl _, by unfold maxLen; omega, fun _ => rfl, Bd.nil, fun _ _ j hj => by omega⟩

theorem word_ext (a : Option Addr) (n c : Nat) (xs : List Int) (w : World) (hR : Rd w a n c xs) (hn : 8 ≤ n) : Calls Tryd.prog 104 #[.slice a n c] w fun e w' => e = .returned (.int .u64 (wv xs)) ∧ Ext w w' :=
  (word_any a n c xs w hR hn).mono fun _ _ ⟨he, k, hk⟩ => ⟨he, by rw [hk]; exact (Ext.refl w).drewN k⟩
theorem Rd.ext {w w' : World} {a : Option Addr} {n c : Nat} {xs : List Int} (h : Rd w a n c xs) (k : Ext w w') : Rd w' a n c xs := h.carry (Nat.le_refl _) k
theorem Rd.cut8 {w : World} {b off m k : Nat} {ys : List Int} (h : Rd w (some ⟨b, off, none⟩) (m + k) (m + k) ys) : Rd w (some ⟨b, off + k, none⟩) m m (ys.drop k) := by
  have := h.cutF k
  rwa [Nat.add_sub_cancel] at this

theorem pass32 {l xs : List Int} (hb : Bd l) (hv : vld l = vld xs) (hl : 32 ≤ l.length)
    (h : (bits .and .u64 (bits .or .u64 (bits .or .u64 ((wv l : Nat) : Int) ((wv (l.drop 8) : Nat) : Int)) (bits .or .u64 ((wv (l.drop 16) : Nat) : Int) ((wv (l.drop 24) : Nat) : Int))) 9259542123273814144 == 0) = true) : vld (l.drop 32) = vld xs := by
  obtain ⟨k1, k2, k3, k4⟩ := or4_hi (wv_lt hb) (wv_lt (hb.drop 8)) (wv_lt (hb.drop 16)) (wv_lt (hb.drop 24)) h
  have q1 := pass8 hb hv (by omega) k1
  have q2 := pass8 (hb.drop 8) q1 (by rw [List.length_drop]; omega) k2
  rw [List.drop_drop] at q2
  have q3 := pass8 (hb.drop 16) q2 (by rw [List.length_drop]; omega) k3
  rw [List.drop_drop] at q3
  have q4 := pass8 (hb.drop 24) q3 (by rw [List.length_drop]; omega) k4
  rwa [List.drop_drop] at q4

end Go.Proofs.YtiidjdedeenijaaDoor
