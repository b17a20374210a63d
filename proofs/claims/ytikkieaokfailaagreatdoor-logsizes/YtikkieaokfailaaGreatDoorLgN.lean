/- Numbers as bytes, and the forms of records. -/
import Derived.Test.YtikkieaokfailaaGreatDoorLgC
import Derived.Test.YtikkieaokfailaaGreatDoorAnyP
import Derived.Test.YtikkieaokfailaaGreatDoorCcA
import Derived.Laws.MakeOwn
namespace Go.Proofs.YtikkieaokfailaaGreatDoor
open Go.RowKit Go.Joins

def bigL (s n : Nat) : List Int := (List.range s).map fun i => ((n / 256 ^ (s - 1 - i) % 256 : Nat) : Int)
theorem bigL_len (s n : Nat) : (bigL s n).length = s := by simp [bigL]
theorem bigL_bd (s n : Nat) : Bd (bigL s n) := by
  intro x hx
  obtain ⟨i, _, rfl⟩ := List.mem_map.1 hx
  have : n / 256 ^ (s - 1 - i) % 256 < 256 := Nat.mod_lt _ (by decide)
  omega

theorem big4 (n : Nat) : bigL 4 n = [(n : Int) / 16777216 % 256, (n : Int) / 65536 % 256, (n : Int) / 256 % 256, (n : Int) % 256] := by
  have e : bigL 4 n = [((n / 256 ^ 3 % 256 : Nat) : Int), ((n / 256 ^ 2 % 256 : Nat) : Int), ((n / 256 ^ 1 % 256 : Nat) : Int), ((n / 256 ^ 0 % 256 : Nat) : Int)] := rfl
  rw [e]
  simp only [List.cons.injEq, and_true]
  refine ⟨?_, ?_, ?_, ?_⟩ <;> omega
set_option maxRecDepth 100000 in
set_option maxHeartbeats 2000000 in
theorem put4_any (B : Nat) (v : Value) (m : Nat) (xs : List Int) (n : Nat) (hm : m ≤ 2000000) (w : World) (hB : B ≤ w.heap.size) (hown : w.ownsRow B 5 1 v m (bc xs)) :
    Calls Tryz.prog 136 #[v, .int .u64 (n : Int), .int .i64 4] w fun e w' => ∃ v', e = .returned v' ∧ w'.ownsRow B 5 1 v' (m + 4) (bc (xs ++ bigL 4 n)) ∧ Below B w w' := by
  have HE : Hid (bigL 4 n = [(n : Int) / 16777216 % 256, (n : Int) / 65536 % 256, (n : Int) / 256 % 256, (n : Int) % 256]) := big4 n
  have l0 : 0 ≤ (n : Int) / 16777216 % 256 ∧ (n : Int) / 16777216 % 256 ≤ 255 := by omega
  have l1 : 0 ≤ (n : Int) / 65536 % 256 ∧ (n : Int) / 65536 % 256 ≤ 255 := by omega
  have l2 : 0 ≤ (n : Int) / 256 % 256 ∧ (n : Int) / 256 % 256 ≤ 255 := by omega
  have l3 : 0 ≤ (n : Int) % 256 ∧ (n : Int) % 256 ≤ 255 := by omega
  have hb0 : Below B w w := Below.refl _ _
  go_enter Tryz.func136, Tryz.ntmps136
  go_wp2_with fail
  refine wp_loop_rounds 5 ?_
  rw [rounds_succ]
  go_wp2_with (at_builtin; refine wp_app1K (wr := w) rfl _ _ rfl B v (m + 0) (xs) rfl hown ((n : Int) / 16777216 % 256) l0.1 l0.2 rfl (by omega) (Nat.le_trans hB hb0.size) ?_; intro v1 w1 o1 b1)
  have hb1 := hb0.trans b1
  rw [rounds_succ]
  go_wp2_with (at_builtin; refine wp_app1K (wr := w1) rfl _ _ rfl B v1 (m + 1) (xs ++ [(n : Int) / 16777216 % 256]) rfl o1 ((n : Int) / 65536 % 256) l1.1 l1.2 rfl (by omega) (Nat.le_trans hB hb1.size) ?_; intro v2 w2 o2 b2)
  have hb2 := hb1.trans b2
  rw [rounds_succ]
  go_wp2_with (at_builtin; refine wp_app1K (wr := w2) rfl _ _ rfl B v2 (m + 2) ((xs ++ [(n : Int) / 16777216 % 256]) ++ [(n : Int) / 65536 % 256]) rfl o2 ((n : Int) / 256 % 256) l2.1 l2.2 rfl (by omega) (Nat.le_trans hB hb2.size) ?_; intro v3 w3 o3 b3)
  have hb3 := hb2.trans b3
  rw [rounds_succ]
  go_wp2_with (at_builtin; refine wp_app1K (wr := w3) rfl _ _ rfl B v3 (m + 3) (((xs ++ [(n : Int) / 16777216 % 256]) ++ [(n : Int) / 65536 % 256]) ++ [(n : Int) / 256 % 256]) rfl o3 ((n : Int) % 256) l3.1 l3.2 rfl (by omega) (Nat.le_trans hB hb3.size) ?_; intro v4 w4 o4 b4)
  have hb4 := hb3.trans b4
  rw [rounds_succ]
  go_wp2
  go_ret
  refine ⟨_, rfl, ?_, hb4⟩
  rw [HE.out]
  simpa [List.append_assoc, Nat.add_assoc] using o4

theorem big8 (n : Nat) : bigL 8 n = [(n : Int) / 72057594037927936 % 256, (n : Int) / 281474976710656 % 256, (n : Int) / 1099511627776 % 256, (n : Int) / 4294967296 % 256, (n : Int) / 16777216 % 256, (n : Int) / 65536 % 256, (n : Int) / 256 % 256, (n : Int) % 256] := by
  have e : bigL 8 n = [((n / 256 ^ 7 % 256 : Nat) : Int), ((n / 256 ^ 6 % 256 : Nat) : Int), ((n / 256 ^ 5 % 256 : Nat) : Int), ((n / 256 ^ 4 % 256 : Nat) : Int), ((n / 256 ^ 3 % 256 : Nat) : Int), ((n / 256 ^ 2 % 256 : Nat) : Int), ((n / 256 ^ 1 % 256 : Nat) : Int), ((n / 256 ^ 0 % 256 : Nat) : Int)] := rfl
  rw [e]
  simp only [List.cons.injEq, and_true]
  refine ⟨?_, ?_, ?_, ?_, ?_, ?_, ?_, ?_⟩ <;> omega
set_option maxRecDepth 100000 in
set_option maxHeartbeats 2000000 in
theorem put8_any (B : Nat) (v : Value) (m : Nat) (xs : List Int) (n : Nat) (hm : m ≤ 2000000) (w : World) (hB : B ≤ w.heap.size) (hown : w.ownsRow B 5 1 v m (bc xs)) :
    Calls Tryz.prog 136 #[v, .int .u64 (n : Int), .int .i64 8] w fun e w' => ∃ v', e = .returned v' ∧ w'.ownsRow B 5 1 v' (m + 8) (bc (xs ++ bigL 8 n)) ∧ Below B w w' := by
  have HE : Hid (bigL 8 n = [(n : Int) / 72057594037927936 % 256, (n : Int) / 281474976710656 % 256, (n : Int) / 1099511627776 % 256, (n : Int) / 4294967296 % 256, (n : Int) / 16777216 % 256, (n : Int) / 65536 % 256, (n : Int) / 256 % 256, (n : Int) % 256]) := big8 n
  have l0 : 0 ≤ (n : Int) / 72057594037927936 % 256 ∧ (n : Int) / 72057594037927936 % 256 ≤ 255 := by omega
  have l1 : 0 ≤ (n : Int) / 281474976710656 % 256 ∧ (n : Int) / 281474976710656 % 256 ≤ 255 := by omega
  have l2 : 0 ≤ (n : Int) / 1099511627776 % 256 ∧ (n : Int) / 1099511627776 % 256 ≤ 255 := by omega
  have l3 : 0 ≤ (n : Int) / 4294967296 % 256 ∧ (n : Int) / 4294967296 % 256 ≤ 255 := by omega
  have l4 : 0 ≤ (n : Int) / 16777216 % 256 ∧ (n : Int) / 16777216 % 256 ≤ 255 := by omega
  have l5 : 0 ≤ (n : Int) / 65536 % 256 ∧ (n : Int) / 65536 % 256 ≤ 255 := by omega
  have l6 : 0 ≤ (n : Int) / 256 % 256 ∧ (n : Int) / 256 % 256 ≤ 255 := by omega
  have l7 : 0 ≤ (n : Int) % 256 ∧ (n : Int) % 256 ≤ 255 := by omega
  have hb0 : Below B w w := Below.refl _ _
  go_enter Tryz.func136, Tryz.ntmps136
  go_wp2_with fail
  refine wp_loop_rounds 9 ?_
  rw [rounds_succ]
  go_wp2_with (at_builtin; refine wp_app1K (wr := w) rfl _ _ rfl B v (m + 0) (xs) rfl hown ((n : Int) / 72057594037927936 % 256) l0.1 l0.2 rfl (by omega) (Nat.le_trans hB hb0.size) ?_; intro v1 w1 o1 b1)
  have hb1 := hb0.trans b1
  rw [rounds_succ]
  go_wp2_with (at_builtin; refine wp_app1K (wr := w1) rfl _ _ rfl B v1 (m + 1) (xs ++ [(n : Int) / 72057594037927936 % 256]) rfl o1 ((n : Int) / 281474976710656 % 256) l1.1 l1.2 rfl (by omega) (Nat.le_trans hB hb1.size) ?_; intro v2 w2 o2 b2)
  have hb2 := hb1.trans b2
  rw [rounds_succ]
  go_wp2_with (at_builtin; refine wp_app1K (wr := w2) rfl _ _ rfl B v2 (m + 2) ((xs ++ [(n : Int) / 72057594037927936 % 256]) ++ [(n : Int) / 281474976710656 % 256]) rfl o2 ((n : Int) / 1099511627776 % 256) l2.1 l2.2 rfl (by omega) (Nat.le_trans hB hb2.size) ?_; intro v3 w3 o3 b3)
  have hb3 := hb2.trans b3
  rw [rounds_succ]
  go_wp2_with (at_builtin; refine wp_app1K (wr := w3) rfl _ _ rfl B v3 (m + 3) (((xs ++ [(n : Int) / 72057594037927936 % 256]) ++ [(n : Int) / 281474976710656 % 256]) ++ [(n : Int) / 1099511627776 % 256]) rfl o3 ((n : Int) / 4294967296 % 256) l3.1 l3.2 rfl (by omega) (Nat.le_trans hB hb3.size) ?_; intro v4 w4 o4 b4)
  have hb4 := hb3.trans b4
  rw [rounds_succ]
  go_wp2_with (at_builtin; refine wp_app1K (wr := w4) rfl _ _ rfl B v4 (m + 4) ((((xs ++ [(n : Int) / 72057594037927936 % 256]) ++ [(n : Int) / 281474976710656 % 256]) ++ [(n : Int) / 1099511627776 % 256]) ++ [(n : Int) / 4294967296 % 256]) rfl o4 ((n : Int) / 16777216 % 256) l4.1 l4.2 rfl (by omega) (Nat.le_trans hB hb4.size) ?_; intro v5 w5 o5 b5)
  have hb5 := hb4.trans b5
  rw [rounds_succ]
  go_wp2_with (at_builtin; refine wp_app1K (wr := w5) rfl _ _ rfl B v5 (m + 5) (((((xs ++ [(n : Int) / 72057594037927936 % 256]) ++ [(n : Int) / 281474976710656 % 256]) ++ [(n : Int) / 1099511627776 % 256]) ++ [(n : Int) / 4294967296 % 256]) ++ [(n : Int) / 16777216 % 256]) rfl o5 ((n : Int) / 65536 % 256) l5.1 l5.2 rfl (by omega) (Nat.le_trans hB hb5.size) ?_; intro v6 w6 o6 b6)
  have hb6 := hb5.trans b6
  rw [rounds_succ]
  go_wp2_with (at_builtin; refine wp_app1K (wr := w6) rfl _ _ rfl B v6 (m + 6) ((((((xs ++ [(n : Int) / 72057594037927936 % 256]) ++ [(n : Int) / 281474976710656 % 256]) ++ [(n : Int) / 1099511627776 % 256]) ++ [(n : Int) / 4294967296 % 256]) ++ [(n : Int) / 16777216 % 256]) ++ [(n : Int) / 65536 % 256]) rfl o6 ((n : Int) / 256 % 256) l6.1 l6.2 rfl (by omega) (Nat.le_trans hB hb6.size) ?_; intro v7 w7 o7 b7)
  have hb7 := hb6.trans b7
  rw [rounds_succ]
  go_wp2_with (at_builtin; refine wp_app1K (wr := w7) rfl _ _ rfl B v7 (m + 7) (((((((xs ++ [(n : Int) / 72057594037927936 % 256]) ++ [(n : Int) / 281474976710656 % 256]) ++ [(n : Int) / 1099511627776 % 256]) ++ [(n : Int) / 4294967296 % 256]) ++ [(n : Int) / 16777216 % 256]) ++ [(n : Int) / 65536 % 256]) ++ [(n : Int) / 256 % 256]) rfl o7 ((n : Int) % 256) l7.1 l7.2 rfl (by omega) (Nat.le_trans hB hb7.size) ?_; intro v8 w8 o8 b8)
  have hb8 := hb7.trans b8
  rw [rounds_succ]
  go_wp2
  go_ret
  refine ⟨_, rfl, ?_, hb8⟩
  rw [HE.out]
  simpa [List.append_assoc, Nat.add_assoc] using o8

/-- Bytes as a number, the highest first. -/
def numK (xs : List Int) : Nat → Nat
  | 0 => 0
  | k + 1 => numK xs k * 256 + (xs.getD k 0).toNat
def numL (xs : List Int) : Nat := numK xs xs.length
theorem numK_lt {xs : List Int} (hb : Bd xs) : ∀ k, numK xs k < 256 ^ k
  | 0 => by simp [numK]
  | k + 1 => by
    have h1 := numK_lt hb k
    have h2 : (xs.getD k 0).toNat < 256 := by have := hb.get k; omega
    show numK xs k * 256 + _ < 256 ^ (k + 1)
    rw [Nat.pow_succ]
    omega
theorem or_beN {acc : Nat} {z : Int} (h0 : 0 ≤ z) (h1 : z ≤ 255) (ha : acc < 72057594037927936) : bits .or .u64 ((acc : Int) * 256) z = ((acc * 256 + z.toNat : Nat) : Int) := by
  obtain ⟨d, rfl, hd⟩ : ∃ d : Nat, z = (d : Int) ∧ d < 256 := ⟨z.toNat, by omega, by omega⟩
  have e1 : ((acc : Int) * 256) = ((acc * 256 : Nat) : Int) := by omega
  rw [e1, bits_or_u64_nat _ _ (by omega) (by omega)]
  congr 1
  have e2 : acc * 256 = acc <<< 8 := by rw [Nat.shiftLeft_eq]
  rw [e2, ← Nat.shiftLeft_add_eq_or_of_lt (show d < 2 ^ 8 by omega)]
  simp

set_option maxHeartbeats 800000 in
theorem number_any (a : Option Addr) (n c : Nat) (xs : List Int) (w : World) (hR : Rd w a n c xs) (h8 : n ≤ 8) :
    Calls Tryz.prog 130 #[.slice a n c] w fun e w' => e = .returned (.int .u64 (numL xs : Nat)) ∧ w' = w := by
  have hl := hR.len
  have hcp := hR.cap
  have hmx : c ≤ 9223372036854775807 := hR.most
  have HL : Hid (numL xs = numK xs n) := by show numL xs = numK xs n; unfold numL; rw [hl]
  rw [HL.out]
  clear hl
  go_enter Tryz.func130, Tryz.ntmps130
  go_wp2
  go_loop [2, 4, 7] (fun s _ i => ∃ k : Nat, k ≤ n ∧ i = .int .i64 k ∧ s = .int .u64 (numK xs k)) (fun _ _ i => n - (intOf i).toNat)
  case atStart => exact ⟨0, by omega, rfl, rfl⟩
  case round =>
    obtain ⟨k, hk, rfl, rfl⟩ := hrel
    by_cases hlt : k < n
    · have hlz : (k : Int) < (n : Int) := by omega
      have hk0 : (0 : Int) ≤ (k : Int) := by omega
      have hb := hR.bytes.get k
      have hlt2 := numK_lt hR.bytes k
      have hpow : 256 ^ k ≤ 72057594037927936 := by
        have : 256 ^ k ≤ 256 ^ 7 := Nat.pow_le_pow_right (by omega) (by omega)
        simpa using this
      obtain ⟨ad, rfl⟩ : ∃ ad, a = some ad := by
        cases a with
        | none => have := hR.nil rfl; omega
        | some ad => exact ⟨ad, rfl⟩
      have hc1 := hR.cells _ rfl k hlt
      obtain ⟨z, hz⟩ : ∃ z, xs.getD k 0 = z := ⟨_, rfl⟩
      have HB : Hid (numK xs (k + 1) = numK xs k * 256 + z.toNat) := by rw [← hz]; exact rfl
      rw [hz] at hb hc1
      have ho := or_beN (acc := numK xs k) hb.1 hb.2 (by omega)
      have hbk : ((numK xs k : Nat) : Int) < 72057594037927936 := by omega
      clear hz hpow hlt2
      go_wp2
      go_round
      case rel => exact ⟨k + 1, by omega, by go_num, by rw [HB.out]; congr 1; omega⟩
      case measure => simp [intOf]; omega
    · obtain rfl : k = n := by omega
      have hlz : ¬ (k : Int) < (k : Int) := by omega
      go_wp2
      go_ret
      exact ⟨rfl, rfl⟩

theorem mk0N (w : World) (M : Nat) (hM : M ≤ 100000000) : ∃ w', (Instr.makeSlice 29 (.int .i64 0) (.int .i64 M)).run Tryz.prog w = .ok (.slice (some ⟨w.heap.size, 0, none⟩) 0 M) w' ∧ w'.ownsRow w.heap.size 5 1 (.slice (some ⟨w.heap.size, 0, none⟩) 0 M) 0 (bc []) ∧ Below w.heap.size w w' := by
  obtain ⟨i0, hi, hz0, hz1, hz2⟩ := info_parts Tryz.info5
  obtain ⟨w', h1, h2, h3⟩ := run_make_own w w.heap.size 29 5 i0 (.int .u8 0) 1 Tryz.underlying29 hi hz0 hz1 .i64 .i64 M (by rw [hz2]; omega) (by unfold maxLen; omega) (Nat.le_refl _)
  exact ⟨w', h1, h2, (Below.refl _ _).grown h3 (Nat.le_refl _) (fun k hk => by cases hk)⟩

/-- A check sum, as a number. -/
def crcN (xs : List Int) : Nat := (more 0#32 xs).toNat
theorem crcN_lt (xs : List Int) : crcN xs < 4294967296 := (more 0#32 xs).isLt
theorem sumN_any (a : Option Addr) (n c : Nat) (xs : List Int) (w : World) (hR : Rd w a n c xs) :
    Calls Tryz.prog 137 #[.slice a n c] w fun e w' => e = .returned (.int .u32 ((crcN xs : Nat) : Int)) ∧ w' = w := sum_any a n c xs w hR
/-- A record's form. -/
def formL (xs : List Int) : List Int := bigL 4 xs.length ++ bigL 4 (crcN xs) ++ xs
theorem formL_len (xs : List Int) : (formL xs).length = 8 + xs.length := by
  unfold formL
  rw [List.length_append, List.length_append, bigL_len, bigL_len]

set_option maxHeartbeats 1000000 in
theorem form_any (a : Option Addr) (n c : Nat) (xs : List Int) (w : World) (hR : Rd w a n c xs) (hn : n ≤ 1048576) :
    Calls Tryz.prog 101 #[.slice a n c] w fun e w' => ∃ v', e = .returned v' ∧ w'.ownsRow w.heap.size 5 1 v' (8 + n) (bc (formL xs)) ∧ Below w.heap.size w w' := by
  have hl := hR.len
  obtain ⟨w1, hmk, ho1, hb1⟩ := mk0N w (8 + n) (by omega)
  have hn8 : ((8 + n : Nat) : Int) = 8 + (n : Int) := by omega
  rw [hn8] at hmk
  have hS := fun w' (hb : Below w.heap.size w w') => sumN_any a n c xs w' (hR.carry (Nat.le_refl _) hb)
  have hlt := crcN_lt xs
  have HF : Hid (formL xs = bigL 4 n ++ bigL 4 (crcN xs) ++ xs) := by show formL xs = _; unfold formL; rw [hl]
  rw [HF.out]
  obtain ⟨S, HS⟩ : ∃ S, Hid (crcN xs = S) := ⟨_, rfl⟩
  rw [HS.out] at hlt ⊢
  simp only [HS.out] at hS
  have hz1 : (n : Int) ≤ 1048576 := by omega
  have hz2 : (S : Int) < 4294967296 := by omega
  have tk : True := trivial
  clear hn8 hl HF
  go_enter Tryz.func101, Tryz.ntmps101
  go_wp2_with (first
    | (clear tk; go_at_call 136; refine (put4_any w.heap.size _ 0 [] n (by omega) w1 hb1.size ho1).mono ?_; rintro e w2 ⟨v2, rfl, o2, b2⟩; have hb2 := hb1.trans b2; rw [Nat.zero_add, List.nil_append] at o2)
    | (go_at_call 137; refine (hS w2 hb2).mono ?_; rintro e w3 ⟨rfl, h3⟩; replace h3 := h3.symm; subst h3)
    | (go_at_call 136; refine (put4_any w.heap.size v2 4 (bigL 4 n) S (by omega) w2 hb2.size o2).mono ?_; rintro e w4 ⟨v4, rfl, o4, b4⟩; have hb4 := hb2.trans b4)
    | (at_builtin; refine wp_appK rfl _ _ rfl w.heap.size v4 (4 + 4) (bigL 4 n ++ bigL 4 S) rfl o4 a n c xs rfl (hR.carry (Nat.le_refl _) hb4) (by omega) hb4.size ?_; intro v5 w5 o5 g5 _))
  go_ret
  have hb5 := hb4.grown g5 hb4.size (fun k hk => (o4.lt k hk).1)
  first
    | exact ⟨_, rfl, o5, hb5⟩ 
    | exact ⟨o5, hb5⟩ | exact ⟨_, o5, hb5⟩ | trace_state

def baseL (g : Nat) : List Int := bigL 8 g ++ bigL 4 (crcN (bigL 8 g))
theorem baseL_len (g : Nat) : (baseL g).length = 12 := by unfold baseL; rw [List.length_append, bigL_len, bigL_len]
set_option maxHeartbeats 1000000 in
theorem baseForm_any (g : Nat) (w : World) :
    Calls Tryz.prog 114 #[.int .u64 (g : Int)] w fun e w' => ∃ v', e = .returned v' ∧ w'.ownsRow w.heap.size 5 1 v' 12 (bc (baseL g)) ∧ Below w.heap.size w w' := by
  have h0 : w.ownsRow w.heap.size 5 1 (.slice none 0 0) 0 (bc []) := ⟨rfl, .inl ⟨rfl, rfl⟩⟩
  have hlt := crcN_lt (bigL 8 g)
  have HF : Hid (baseL g = bigL 8 g ++ bigL 4 (crcN (bigL 8 g))) := rfl
  rw [HF.out]
  have hS := fun a n c w' (h : Rd w' a n c (bigL 8 g)) => sumN_any a n c (bigL 8 g) w' h
  obtain ⟨S, HS⟩ : ∃ S, Hid (crcN (bigL 8 g) = S) := ⟨_, rfl⟩
  rw [HS.out] at hlt ⊢
  simp only [HS.out] at hS
  have hz2 : (S : Int) < 4294967296 := by omega
  have tk : True := trivial
  clear HF
  go_enter Tryz.func114, Tryz.ntmps114
  go_wp2_with (first
    | (clear tk; go_at_call 136; refine (put8_any w.heap.size _ 0 [] g (by omega) w (Nat.le_refl _) h0).mono ?_; rintro e w2 ⟨v2, rfl, o2, b2⟩; rw [Nat.zero_add, List.nil_append] at o2; obtain ⟨a2, c2, rfl, r2⟩ := Rd.ofOwn o2 (bigL_bd 8 g); skip)
    | (go_at_call 137; refine (hS a2 _ c2 w2 r2).mono ?_; rintro e w3 ⟨rfl, h3⟩; replace h3 := h3.symm; subst h3)
    | (go_at_call 136; refine (put4_any w.heap.size _ 8 (bigL 8 g) S (by omega) w2 b2.size o2).mono ?_; rintro e w4 ⟨v4, rfl, o4, b4⟩))
  go_ret
  first
    | exact ⟨_, rfl, o4, b2.trans b4⟩ 
    | exact ⟨o4, b2.trans b4⟩ | exact ⟨_, o4, b2.trans b4⟩ | trace_state

/-- The first record of a row of forms, if its form fits. -/
def recO (xs : List Int) : Option (List Int) :=
  if xs.length < 8 then none
  else if numL (xs.take 4) > 1048576 ∨ numL (xs.take 4) > xs.length - 8 then none
  else if crcN ((xs.drop 8).take (numL (xs.take 4))) = numL ((xs.drop 4).take 4) then some ((xs.drop 8).take (numL (xs.take 4)))
  else none
theorem numL_lt4 {xs : List Int} (hb : Bd xs) (h : xs.length ≤ 4) : numL xs < 4294967296 := by
  have h1 := numK_lt hb xs.length
  have h2 : 256 ^ xs.length ≤ 256 ^ 4 := Nat.pow_le_pow_right (by omega) h
  have h3 : (256 : Nat) ^ 4 = 4294967296 := by decide
  unfold numL
  omega
theorem Rd.dropN {w : World} {b off n c : Nat} {xs : List Int} (h : Rd w (some ⟨b, off, none⟩) n c xs) {k : Nat} (hk : k ≤ n) : Rd w (some ⟨b, off + k, none⟩) (n - k) (c - k) (xs.drop k) := by
  have hl := h.len
  have hc := h.cap
  have hm := h.most
  refine ⟨by rw [List.length_drop]; omega, by omega, by omega, (fun e => by cases e), fun x hx => h.bytes x (List.mem_of_mem_drop hx), fun ad had j hj => ?_⟩
  cases had
  have h1 := h.cells _ rfl (k + j) (by omega)
  rw [add_flat] at h1 ⊢
  rw [← Nat.add_assoc] at h1
  rw [h1]
  simp [List.getD, List.getElem?_drop]
end Go.Proofs.YtikkieaokfailaaGreatDoor
