/- A stanza's value; which of its parts are there. -/
import Derived.Test.YtomkcmkbehcjnaaDoorLate
import Derived.Test.YtomkcmkbehcjnaaDoorTexts
import Derived.Test.YtomkcmkbehcjnaaDoorBitsB
import Derived.Test.YtomkcmkbehcjnaaDoorUtf
import Derived.Deep.CutRange
namespace Go.Proofs.YtomkcmkbehcjnaaDoor
open Go.RowKit

theorem client_any (k : Int) (w : World) : Calls Tryd.prog 12 #[.int .i64 k] w fun e w' => e = .returned (.bool (decide (1 ≤ k) && decide (k ≤ 19))) ∧ w' = w := by
  by_cases h : (1 : Int) ≤ k
  · go_enter Tryd.func12, Tryd.ntmps12
    go_wp2
    go_ret
    simp [h]
  · go_enter Tryd.func12, Tryd.ntmps12
    go_wp2
    go_ret
    have : decide (1 ≤ k) = false := decide_eq_false (by omega)
    rw [this]; exact ⟨rfl, rfl⟩

/-- Is there such a kind? -/
def kn (k : Int) : Bool := (decide (1 ≤ k) && decide (k ≤ 19)) || (decide (31 ≤ k) && decide (k ≤ 46))

theorem known_any (k : Int) (w : World) : Calls Tryd.prog 31 #[.int .i64 k] w fun e w' => e = .returned (.bool (kn k)) ∧ w' = w := by
  by_cases h : (1 ≤ k ∧ k ≤ 19)
  · have hc : (decide (1 ≤ k) && decide (k ≤ 19)) = true := by simp [h]
    have HK : Hid (kn k = true) := by unfold kn; rw [hc]; rfl
    go_enter Tryd.func31, Tryd.ntmps31
    go_wp2_with (go_at_call 12; refine (client_any k _).mono ?_; rw [hc]; rintro e w1 ⟨rfl, rfl⟩)
    go_ret
    rw [HK.out]; exact ⟨rfl, rfl⟩
  · have hc : (decide (1 ≤ k) && decide (k ≤ 19)) = false := by simp; omega
    by_cases h31 : (31 : Int) ≤ k
    · have hk' : kn k = decide (k ≤ 46) := (by unfold kn; rw [hc]; simp [h31])
      have HK : Hid (kn k = decide (k ≤ 46)) := hk'
      clear hk'
      clear h
      go_enter Tryd.func31, Tryd.ntmps31
      go_wp2_with (go_at_call 12; refine (client_any k _).mono ?_; rw [hc]; rintro e w1 ⟨rfl, rfl⟩)
      go_ret
      rw [HK.out]; exact ⟨rfl, rfl⟩
    · have hk' : kn k = false := (by unfold kn; rw [hc]; rw [decide_eq_false h31]; rfl)
      have HK : Hid (kn k = false) := hk'
      clear hk'
      clear h
      go_enter Tryd.func31, Tryd.ntmps31
      go_wp2_with (go_at_call 12; refine (client_any k _).mono ?_; rw [hc]; rintro e w1 ⟨rfl, rfl⟩)
      go_ret
      rw [HK.out]; exact ⟨rfl, rfl⟩

/-- Which parts are there: the bits. -/
def bsum : List Bool → Nat → Nat
  | [], _ => 0
  | b :: r, p => (if b then p else 0) + bsum r (2 * p)
def tbits (A B T : ByteArray) (n : Nat) (N : Int) (F : Nat) : List Bool := [!A.toList.isEmpty, !B.toList.isEmpty, !T.toList.isEmpty, decide (0 < n), N != 0, F != 0]
def thr (A B T : ByteArray) (n : Nat) (N : Int) (F : Nat) : Nat := bsum (tbits A B T n N F) 1

theorem bsum_six (a b c d e f : Bool) : bsum [a, b, c, d, e, f] 1 < 64 := by revert a b c d e f; decide
theorem thr_lt (A B T : ByteArray) (n : Nat) (N : Int) (F : Nat) : thr A B T n N F < 64 := bsum_six ..

def kindTab : List Nat := [0, 1, 4, 4, 33, 0, 21, 4, 16, 11, 1, 1, 1, 1, 1, 9, 1, 1, 1, 32, 0, 0, 0, 0, 0, 0, 0, 0, 0, 0, 0, 8, 4, 4, 16, 16, 16, 31, 17, 16, 31, 7, 1, 1, 1, 1, 16]
def kp (k : Nat) : Nat := kindTab.getD k 0

/-- What the program's own tables hold. -/
structure Lays (w : World) : Prop where
  tabs : Tabs w
  ord : ∀ i, i < 6 → w.cell? ⟨0, i, none⟩ = some (.int .u8 ((2 ^ i : Nat) : Int))
  kinds : ∀ i, i < 47 → w.cell? ⟨1, i, none⟩ = some (.int .u8 ((kp i : Nat) : Int))

theorem Lays.carry {w w' : World} (h : Lays w) (k : Below w.heap.size w w') : Lays w' :=
  ⟨h.tabs.carry k, fun i hi => (k.cell (p := ⟨0, i, none⟩) (World.block_lt_of_cell? w _ (h.ord i hi))).trans (h.ord i hi), fun i hi => (k.cell (p := ⟨1, i, none⟩) (World.block_lt_of_cell? w _ (h.kinds i hi))).trans (h.kinds i hi)⟩

theorem idx6_0 (a b c d e f : Value) (w : World) : (Instr.index 89 (.agg #[a, b, c, d, e, f]) (.int .i64 0)).run Tryd.prog w = .ok a w := by kernel_rfl
theorem idx6_1 (a b c d e f : Value) (w : World) : (Instr.index 89 (.agg #[a, b, c, d, e, f]) (.int .i64 1)).run Tryd.prog w = .ok b w := by kernel_rfl
theorem idx6_2 (a b c d e f : Value) (w : World) : (Instr.index 89 (.agg #[a, b, c, d, e, f]) (.int .i64 2)).run Tryd.prog w = .ok c w := by kernel_rfl
theorem idx6_3 (a b c d e f : Value) (w : World) : (Instr.index 89 (.agg #[a, b, c, d, e, f]) (.int .i64 3)).run Tryd.prog w = .ok d w := by kernel_rfl
theorem idx6_4 (a b c d e f : Value) (w : World) : (Instr.index 89 (.agg #[a, b, c, d, e, f]) (.int .i64 4)).run Tryd.prog w = .ok e w := by kernel_rfl
theorem idx6_5 (a b c d e f : Value) (w : World) : (Instr.index 89 (.agg #[a, b, c, d, e, f]) (.int .i64 5)).run Tryd.prog w = .ok f w := by kernel_rfl

theorem or_bit : ∀ v i : Nat, i < 6 → v < 64 → v < 2 ^ i → bits .or .u8 (v : Int) ((2 ^ i : Nat) : Int) = ((v + 2 ^ i : Nat) : Int) := by
  have h : ∀ i : Nat, i < 6 → ∀ v : Nat, v < 64 → v < 2 ^ i → bits .or .u8 (v : Int) ((2 ^ i : Nat) : Int) = ((v + 2 ^ i : Nat) : Int) := by decide +kernel
  exact fun v i hi hv h2 => h i hi v hv h2
theorem take_lt0 (a b c d e f : Bool) : bsum ([a, b, c, d, e, f].take 0) 1 < 1 := by revert a b c d e f; decide
theorem take_next0 (a b c d e f : Bool) : bsum ([a, b, c, d, e, f].take 1) 1 = bsum ([a, b, c, d, e, f].take 0) 1 + (if a then 1 else 0) := by revert a b c d e f; decide
theorem take_lt1 (a b c d e f : Bool) : bsum ([a, b, c, d, e, f].take 1) 1 < 2 := by revert a b c d e f; decide
theorem take_next1 (a b c d e f : Bool) : bsum ([a, b, c, d, e, f].take 2) 1 = bsum ([a, b, c, d, e, f].take 1) 1 + (if b then 2 else 0) := by revert a b c d e f; decide
theorem take_lt2 (a b c d e f : Bool) : bsum ([a, b, c, d, e, f].take 2) 1 < 4 := by revert a b c d e f; decide
theorem take_next2 (a b c d e f : Bool) : bsum ([a, b, c, d, e, f].take 3) 1 = bsum ([a, b, c, d, e, f].take 2) 1 + (if c then 4 else 0) := by revert a b c d e f; decide
theorem take_lt3 (a b c d e f : Bool) : bsum ([a, b, c, d, e, f].take 3) 1 < 8 := by revert a b c d e f; decide
theorem take_next3 (a b c d e f : Bool) : bsum ([a, b, c, d, e, f].take 4) 1 = bsum ([a, b, c, d, e, f].take 3) 1 + (if d then 8 else 0) := by revert a b c d e f; decide
theorem take_lt4 (a b c d e f : Bool) : bsum ([a, b, c, d, e, f].take 4) 1 < 16 := by revert a b c d e f; decide
theorem take_next4 (a b c d e f : Bool) : bsum ([a, b, c, d, e, f].take 5) 1 = bsum ([a, b, c, d, e, f].take 4) 1 + (if e then 16 else 0) := by revert a b c d e f; decide
theorem take_lt5 (a b c d e f : Bool) : bsum ([a, b, c, d, e, f].take 5) 1 < 32 := by revert a b c d e f; decide
theorem take_next5 (a b c d e f : Bool) : bsum ([a, b, c, d, e, f].take 6) 1 = bsum ([a, b, c, d, e, f].take 5) 1 + (if f then 32 else 0) := by revert a b c d e f; decide

abbrev ThS (w : World) (A B T : ByteArray) (la : Option Addr) (ln lc : Nat) (N : Int) (F : Nat) (w' : World) : Prop := w'.cell? ⟨w.heap.size, 2, none⟩ = some (.string A) ∧ w'.cell? ⟨w.heap.size, 3, none⟩ = some (.string B) ∧ w'.cell? ⟨w.heap.size, 4, none⟩ = some (.string T) ∧ w'.cell? ⟨w.heap.size, 5, none⟩ = some (.slice la ln lc) ∧ w'.cell? ⟨w.heap.size, 6, none⟩ = some (.int .i64 N) ∧ w'.cell? ⟨w.heap.size, 7, none⟩ = some (.float .f64 F)

theorem ThS.carry {w : World} {A B T : ByteArray} {la : Option Addr} {ln lc : Nat} {N : Int} {F : Nat} {w1 w2 : World} (h : ThS w A B T la ln lc N F w1) (k : Below w1.heap.size w1 w2) : ThS w A B T la ln lc N F w2 :=
  ⟨(k.cell (World.block_lt_of_cell? w1 _ h.1)).trans h.1, (k.cell (World.block_lt_of_cell? w1 _ h.2.1)).trans h.2.1, (k.cell (World.block_lt_of_cell? w1 _ h.2.2.1)).trans h.2.2.1, (k.cell (World.block_lt_of_cell? w1 _ h.2.2.2.1)).trans h.2.2.2.1, (k.cell (World.block_lt_of_cell? w1 _ h.2.2.2.2.1)).trans h.2.2.2.2.1, (k.cell (World.block_lt_of_cell? w1 _ h.2.2.2.2.2)).trans h.2.2.2.2.2⟩

set_option maxHeartbeats 1600000 in
theorem there_any (K : Int) (I : Nat) (A B T : ByteArray) (la : Option Addr) (ln lc : Nat) (N : Int) (F : Nat) (w : World) (hL : Lays w) :
    Calls Tryd.prog 25 #[.agg #[.int .i64 K, .int .u64 I, .string A, .string B, .string T, .slice la ln lc, .int .i64 N, .float .f64 F]] w fun e w' => e = .returned (.int .u8 ((thr A B T ln N F : Nat) : Int)) ∧ Below w.heap.size w w' := by
  have hbits := run_bits
  go_enter Tryd.func25, Tryd.ntmps25
  go_wp2
  refine wp_region_lx (ThS w A B T la ln lc N F) [] 23 (by kernel_rfl) (by kernel_rfl) ?_
  have hE : Below w.heap.size w (World.drew (w.alloc (.cells #[.int .i64 K, .int .u64 I, .string A, .string B, .string T, .slice la ln lc, .int .i64 N, .float .f64 F] 26))) := (Below.alloc (Below.refl _ _) (Nat.le_refl _) _).drew
  have HS : ThS w A B T la ln lc N F (World.drew (w.alloc (.cells #[.int .i64 K, .int .u64 I, .string A, .string B, .string T, .slice la ln lc, .int .i64 N, .float .f64 F] 26))) := by
    refine ⟨?_, ?_, ?_, ?_, ?_, ?_⟩ <;> simp
  generalize World.drew _ = W0 at HS hE ⊢
  refine lx_rd 0 ?vR0 (by kernel_rfl) (fun _ _ d _ _ h => by cases d <;> exact h) (by kernel_rfl) HS rfl rfl rfl (fun w' hS => ?hR0) ?_
  case hR0 => first | (go_simp; rfl) | go_simp
  simp only [List.setIfInBounds_toArray, List.set_cons_zero, List.set_cons_succ]
  refine lx_rd 1 (.string A) (by kernel_rfl) (fun _ _ d _ _ h => by cases d <;> exact h) (by kernel_rfl) HS rfl rfl rfl (fun w' hS => ?hR1) ?_
  case hR1 => have hq := hS.1; first | (go_simp; rfl) | go_simp
  simp only [List.setIfInBounds_toArray, List.set_cons_zero, List.set_cons_succ]
  refine lx_rd 2 ?vR2 (by kernel_rfl) (fun _ _ d _ _ h => by cases d <;> exact h) (by kernel_rfl) HS rfl rfl rfl (fun w' hS => ?hR2) ?_
  case hR2 => first | (go_simp; rfl) | go_simp
  simp only [List.setIfInBounds_toArray, List.set_cons_zero, List.set_cons_succ]
  refine lx_rd 3 ?vR3 (by kernel_rfl) (fun _ _ d _ _ h => by cases d <;> exact h) (by kernel_rfl) HS rfl rfl rfl (fun w' hS => ?hR3) ?_
  case hR3 => first | (go_simp; rfl) | go_simp
  simp only [List.setIfInBounds_toArray, List.set_cons_zero, List.set_cons_succ]
  refine lx_rd 4 (.string B) (by kernel_rfl) (fun _ _ d _ _ h => by cases d <;> exact h) (by kernel_rfl) HS rfl rfl rfl (fun w' hS => ?hR4) ?_
  case hR4 => have hq := hS.2.1; first | (go_simp; rfl) | go_simp
  simp only [List.setIfInBounds_toArray, List.set_cons_zero, List.set_cons_succ]
  refine lx_rd 5 ?vR5 (by kernel_rfl) (fun _ _ d _ _ h => by cases d <;> exact h) (by kernel_rfl) HS rfl rfl rfl (fun w' hS => ?hR5) ?_
  case hR5 => first | (go_simp; rfl) | go_simp
  simp only [List.setIfInBounds_toArray, List.set_cons_zero, List.set_cons_succ]
  refine lx_rd 6 ?vR6 (by kernel_rfl) (fun _ _ d _ _ h => by cases d <;> exact h) (by kernel_rfl) HS rfl rfl rfl (fun w' hS => ?hR6) ?_
  case hR6 => first | (go_simp; rfl) | go_simp
  simp only [List.setIfInBounds_toArray, List.set_cons_zero, List.set_cons_succ]
  refine lx_rd 7 (.string T) (by kernel_rfl) (fun _ _ d _ _ h => by cases d <;> exact h) (by kernel_rfl) HS rfl rfl rfl (fun w' hS => ?hR7) ?_
  case hR7 => have hq := hS.2.2.1; first | (go_simp; rfl) | go_simp
  simp only [List.setIfInBounds_toArray, List.set_cons_zero, List.set_cons_succ]
  refine lx_rd 8 ?vR8 (by kernel_rfl) (fun _ _ d _ _ h => by cases d <;> exact h) (by kernel_rfl) HS rfl rfl rfl (fun w' hS => ?hR8) ?_
  case hR8 => first | (go_simp; rfl) | go_simp
  simp only [List.setIfInBounds_toArray, List.set_cons_zero, List.set_cons_succ]
  refine lx_rd 9 ?vR9 (by kernel_rfl) (fun _ _ d _ _ h => by cases d <;> exact h) (by kernel_rfl) HS rfl rfl rfl (fun w' hS => ?hR9) ?_
  case hR9 => first | (go_simp; rfl) | go_simp
  simp only [List.setIfInBounds_toArray, List.set_cons_zero, List.set_cons_succ]
  refine lx_rd 10 (.slice la ln lc) (by kernel_rfl) (fun _ _ d _ _ h => by cases d <;> exact h) (by kernel_rfl) HS rfl rfl rfl (fun w' hS => ?hR10) ?_
  case hR10 => have hq := hS.2.2.2.1; first | (go_simp; rfl) | go_simp
  simp only [List.setIfInBounds_toArray, List.set_cons_zero, List.set_cons_succ]
  refine lx_rd 11 ?vR11 (by kernel_rfl) (fun _ _ d _ _ h => by cases d <;> exact h) (by kernel_rfl) HS rfl rfl rfl (fun w' hS => ?hR11) ?_
  case hR11 => first | (go_simp; rfl) | go_simp
  simp only [List.setIfInBounds_toArray, List.set_cons_zero, List.set_cons_succ]
  refine lx_rd 12 (.bool (decide (0 < ln))) (by kernel_rfl) (fun _ _ d _ _ h => by cases d <;> exact h) (by kernel_rfl) HS rfl rfl rfl (fun w' hS => ?hR12) ?_
  case hR12 => have hq : decide (0 < (ln : Int)) = decide (0 < ln) := (by simp); first | (go_simp; rfl) | go_simp
  simp only [List.setIfInBounds_toArray, List.set_cons_zero, List.set_cons_succ]
  refine lx_rd 13 ?vR13 (by kernel_rfl) (fun _ _ d _ _ h => by cases d <;> exact h) (by kernel_rfl) HS rfl rfl rfl (fun w' hS => ?hR13) ?_
  case hR13 => first | (go_simp; rfl) | go_simp
  simp only [List.setIfInBounds_toArray, List.set_cons_zero, List.set_cons_succ]
  refine lx_rd 14 (.int .i64 N) (by kernel_rfl) (fun _ _ d _ _ h => by cases d <;> exact h) (by kernel_rfl) HS rfl rfl rfl (fun w' hS => ?hR14) ?_
  case hR14 => have hq := hS.2.2.2.2.1; first | (go_simp; rfl) | go_simp
  simp only [List.setIfInBounds_toArray, List.set_cons_zero, List.set_cons_succ]
  refine lx_rd 15 ?vR15 (by kernel_rfl) (fun _ _ d _ _ h => by cases d <;> exact h) (by kernel_rfl) HS rfl rfl rfl (fun w' hS => ?hR15) ?_
  case hR15 => first | (go_simp; rfl) | go_simp
  simp only [List.setIfInBounds_toArray, List.set_cons_zero, List.set_cons_succ]
  refine lx_rd 16 ?vR16 (by kernel_rfl) (fun _ _ d _ _ h => by cases d <;> exact h) (by kernel_rfl) HS rfl rfl rfl (fun w' hS => ?hR16) ?_
  case hR16 => first | (go_simp; rfl) | go_simp
  simp only [List.setIfInBounds_toArray, List.set_cons_zero, List.set_cons_succ]
  refine lx_rd 17 (.float .f64 F) (by kernel_rfl) (fun _ _ d _ _ h => by cases d <;> exact h) (by kernel_rfl) HS rfl rfl rfl (fun w' hS => ?hR17) ?_
  case hR17 => have hq := hS.2.2.2.2.2; first | (go_simp; rfl) | go_simp
  simp only [List.setIfInBounds_toArray, List.set_cons_zero, List.set_cons_succ]
  refine lx_rd 18 ?vR18 (by kernel_rfl) (fun _ _ d _ _ h => by cases d <;> exact h) (by kernel_rfl) HS rfl rfl rfl (fun w' hS => ?hR18) ?_
  case hR18 => first | (go_simp; rfl) | go_simp
  simp only [List.setIfInBounds_toArray, List.set_cons_zero, List.set_cons_succ]
  refine lx_rd 19 (.bool (F != 0)) (by kernel_rfl) (fun _ _ d _ _ h => by cases d <;> exact h) (by kernel_rfl) HS rfl rfl rfl (fun w' hS => ?hR19) ?_
  case hR19 => have hq : (((F : Nat) : Int) != 0) = (F != 0) := (by rw [Bool.eq_iff_iff]; simp); first | (go_simp; rfl) | go_simp
  simp only [List.setIfInBounds_toArray, List.set_cons_zero, List.set_cons_succ]
  refine lx_rd 20 ?vR20 (by kernel_rfl) (fun _ _ d _ _ h => by cases d <;> exact h) (by kernel_rfl) HS rfl rfl rfl (fun w' hS => ?hR20) ?_
  case hR20 => first | (go_simp; rfl) | go_simp
  simp only [List.setIfInBounds_toArray, List.set_cons_zero, List.set_cons_succ]
  have k1 : Below W0.heap.size W0 (W0.alloc (.cells #[.bool false, .bool false, .bool false, .bool false, .bool false, .bool false] 89)) := (Below.refl _ _).alloc (Nat.le_refl _) _
  refine lx_one 21 (by kernel_rfl) (stepT_val (w' := W0.alloc (.cells #[.bool false, .bool false, .bool false, .bool false, .bool false, .bool false] 89)) (.pointer (some ⟨W0.heap.size, 0, none⟩)) rfl rfl rfl ?rA (fun _ => ThS.carry HS k1) ?_)
  case rA => first | (go_simp; rfl) | go_simp
  simp only [List.setIfInBounds_toArray, List.set_cons_zero, List.set_cons_succ]
  refine lx_one 22 (by kernel_rfl) (stepT_store (w' := W0.alloc (.cells #[.bool (!A.toList.isEmpty), .bool (!B.toList.isEmpty), .bool (!T.toList.isEmpty), .bool (decide (0 < ln)), .bool (N != 0), .bool (F != 0)] 89)) rfl rfl rfl ?rB (fun _ => ThS.carry HS ((Below.refl _ _).alloc (Nat.le_refl _) _)) ?_)
  case rB => first | (go_simp; rfl) | go_simp
  refine lx_nil (by kernel_rfl) ?_
  have hL1 := (hL.carry hE).carry ((Below.refl _ _).alloc (Nat.le_refl _) (.cells #[.bool (!A.toList.isEmpty), .bool (!B.toList.isEmpty), .bool (!T.toList.isEmpty), .bool (decide (0 < ln)), .bool (N != 0), .bool (F != 0)] 89))
  have hB1 := hE.trans (((Below.refl _ W0).alloc (Nat.le_refl _) (.cells #[.bool (!A.toList.isEmpty), .bool (!B.toList.isEmpty), .bool (!T.toList.isEmpty), .bool (decide (0 < ln)), .bool (N != 0), .bool (F != 0)] 89)).mono hE.size)
  go_wp2
  have HT : Hid (thr A B T ln N F = bsum [!A.toList.isEmpty, !B.toList.isEmpty, !T.toList.isEmpty, decide (0 < ln), N != 0, F != 0] 1) := rfl
  generalize (!A.toList.isEmpty) = b0 at HT hL1 hB1 ⊢
  generalize (!B.toList.isEmpty) = b1 at HT hL1 hB1 ⊢
  generalize (!T.toList.isEmpty) = b2 at HT hL1 hB1 ⊢
  generalize (decide (0 < ln)) = b3 at HT hL1 hB1 ⊢
  generalize (N != 0) = b4 at HT hL1 hB1 ⊢
  generalize (F != 0) = b5 at HT hL1 hB1 ⊢
  generalize W0.alloc _ = W1 at hL1 hB1 ⊢
  have o0 : W1.cell? ⟨0, 0, none⟩ = some (.int .u8 1) := hL1.ord 0 (by omega)
  have o1 : W1.cell? ⟨0, 1, none⟩ = some (.int .u8 2) := hL1.ord 1 (by omega)
  have o2 : W1.cell? ⟨0, 2, none⟩ = some (.int .u8 4) := hL1.ord 2 (by omega)
  have o3 : W1.cell? ⟨0, 3, none⟩ = some (.int .u8 8) := hL1.ord 3 (by omega)
  have o4 : W1.cell? ⟨0, 4, none⟩ = some (.int .u8 16) := hL1.ord 4 (by omega)
  have o5 : W1.cell? ⟨0, 5, none⟩ = some (.int .u8 32) := hL1.ord 5 (by omega)
  clear hL1 hL hE HS k1
  go_loopw [2, 28] (fun h i wr => ∃ k : Nat, k ≤ 6 ∧ i = .int .i64 k ∧ h = .int .u8 ((bsum ([b0, b1, b2, b3, b4, b5].take k) 1 : Nat) : Int) ∧ wr = W1) (fun _ i _ => 6 - (intOf i).toNat)
  case atStart => exact ⟨0, by omega, rfl, rfl, rfl⟩
  case round =>
    obtain ⟨k, hk, rfl, rfl, rfl⟩ := hrel
    have x0 := idx6_0; have x1 := idx6_1; have x2 := idx6_2; have x3 := idx6_3; have x4 := idx6_4; have x5 := idx6_5
    have hcase : k = 0 ∨ k = 1 ∨ k = 2 ∨ k = 3 ∨ k = 4 ∨ k = 5 ∨ k = 6 := by omega
    rcases hcase with rfl | rfl | rfl | rfl | rfl | rfl | rfl
    · obtain ⟨v, hv, HV⟩ : ∃ v : Nat, v < 1 ∧ Hid (bsum ([b0, b1, b2, b3, b4, b5].take 0) 1 = v) := ⟨_, take_lt0 .., rfl⟩
      rw [HV.out]
      have hor : bits .or .u8 (v : Int) 1 = ((v + 1 : Nat) : Int) := or_bit v 0 (by omega) (by omega) hv
      cases b0 with
      | true =>
        go_wp2
        go_roundw
        case rel => exact ⟨1, by omega, by go_num, by rw [take_next0, HV.out]; first | rfl | (rw [← hor]), trivial⟩
        case measure => simp [intOf]
      | false =>
        go_wp2
        go_roundw
        case rel => exact ⟨1, by omega, by go_num, by rw [take_next0, HV.out]; rfl, trivial⟩
        case measure => simp [intOf]
    · obtain ⟨v, hv, HV⟩ : ∃ v : Nat, v < 2 ∧ Hid (bsum ([b0, b1, b2, b3, b4, b5].take 1) 1 = v) := ⟨_, take_lt1 .., rfl⟩
      rw [HV.out]
      have hor : bits .or .u8 (v : Int) 2 = ((v + 2 : Nat) : Int) := or_bit v 1 (by omega) (by omega) hv
      cases b1 with
      | true =>
        go_wp2
        go_roundw
        case rel => exact ⟨2, by omega, by go_num, by rw [take_next1, HV.out]; first | rfl | (rw [← hor]), trivial⟩
        case measure => simp [intOf]
      | false =>
        go_wp2
        go_roundw
        case rel => exact ⟨2, by omega, by go_num, by rw [take_next1, HV.out]; rfl, trivial⟩
        case measure => simp [intOf]
    · obtain ⟨v, hv, HV⟩ : ∃ v : Nat, v < 4 ∧ Hid (bsum ([b0, b1, b2, b3, b4, b5].take 2) 1 = v) := ⟨_, take_lt2 .., rfl⟩
      rw [HV.out]
      have hor : bits .or .u8 (v : Int) 4 = ((v + 4 : Nat) : Int) := or_bit v 2 (by omega) (by omega) hv
      cases b2 with
      | true =>
        go_wp2
        go_roundw
        case rel => exact ⟨3, by omega, by go_num, by rw [take_next2, HV.out]; first | rfl | (rw [← hor]), trivial⟩
        case measure => simp [intOf]
      | false =>
        go_wp2
        go_roundw
        case rel => exact ⟨3, by omega, by go_num, by rw [take_next2, HV.out]; rfl, trivial⟩
        case measure => simp [intOf]
    · obtain ⟨v, hv, HV⟩ : ∃ v : Nat, v < 8 ∧ Hid (bsum ([b0, b1, b2, b3, b4, b5].take 3) 1 = v) := ⟨_, take_lt3 .., rfl⟩
      rw [HV.out]
      have hor : bits .or .u8 (v : Int) 8 = ((v + 8 : Nat) : Int) := or_bit v 3 (by omega) (by omega) hv
      cases b3 with
      | true =>
        go_wp2
        go_roundw
        case rel => exact ⟨4, by omega, by go_num, by rw [take_next3, HV.out]; first | rfl | (rw [← hor]), trivial⟩
        case measure => simp [intOf]
      | false =>
        go_wp2
        go_roundw
        case rel => exact ⟨4, by omega, by go_num, by rw [take_next3, HV.out]; rfl, trivial⟩
        case measure => simp [intOf]
    · obtain ⟨v, hv, HV⟩ : ∃ v : Nat, v < 16 ∧ Hid (bsum ([b0, b1, b2, b3, b4, b5].take 4) 1 = v) := ⟨_, take_lt4 .., rfl⟩
      rw [HV.out]
      have hor : bits .or .u8 (v : Int) 16 = ((v + 16 : Nat) : Int) := or_bit v 4 (by omega) (by omega) hv
      cases b4 with
      | true =>
        go_wp2
        go_roundw
        case rel => exact ⟨5, by omega, by go_num, by rw [take_next4, HV.out]; first | rfl | (rw [← hor]), trivial⟩
        case measure => simp [intOf]
      | false =>
        go_wp2
        go_roundw
        case rel => exact ⟨5, by omega, by go_num, by rw [take_next4, HV.out]; rfl, trivial⟩
        case measure => simp [intOf]
    · obtain ⟨v, hv, HV⟩ : ∃ v : Nat, v < 32 ∧ Hid (bsum ([b0, b1, b2, b3, b4, b5].take 5) 1 = v) := ⟨_, take_lt5 .., rfl⟩
      rw [HV.out]
      have hor : bits .or .u8 (v : Int) 32 = ((v + 32 : Nat) : Int) := or_bit v 5 (by omega) (by omega) hv
      cases b5 with
      | true =>
        go_wp2
        go_roundw
        case rel => exact ⟨6, by omega, by go_num, by rw [take_next5, HV.out]; first | rfl | (rw [← hor]), trivial⟩
        case measure => simp [intOf]
      | false =>
        go_wp2
        go_roundw
        case rel => exact ⟨6, by omega, by go_num, by rw [take_next5, HV.out]; rfl, trivial⟩
        case measure => simp [intOf]
    · go_wp2
      go_ret
      rw [HT.out]
      exact ⟨rfl, hB1⟩

end Go.Proofs.YtomkcmkbehcjnaaDoor
