/- Texts of one seat, one behind the other: LgN, LgR, DkR, LgD. -/
import Derived.Test.YtikkieaokfailaaGreatDoorM4
import Derived.Laws.MakeOwn
import Derived.Test.YtikkieaokfailaaGreatDoorM3
/- Numbers as bytes, and the forms of records. -/
namespace Go.Proofs.YtikkieaokfailaaGreatDoor
open Go.RowKit Go.Joins

def bigL (s n : Nat) : List Int := (List.range s).map fun i => ((n / 256 ^ (s - 1 - i) % 256 : Nat) : Int)
theorem bigL_len (s n : Nat) : (bigL s n).length = s := by simp [bigL]
theorem bigL_bd (s n : Nat) : Bd (bigL s n) := by
  intro x hx
  obtain ⟨i, _, rfl⟩ := List.mem_map.1 hx
  have : n / 256 ^ (s - 1 - i) % 256 < 256 := Nat.mod_lt _ (by decide)
  omega

theorem big4 (n : Nat) : bigL 4 n = [(n : Int) / 16777216 % 256, (n : Int) / 65536 % 256, (n : Int) / 256 % 256, (n : Int) % 256] := by
  have e : bigL 4 n = [((n / 256 ^ 3 % 256 : Nat) : Int), ((n / 256 ^ 2 % 256 : Nat) : Int), ((n / 256 ^ 1 % 256 : Nat) : Int), ((n / 256 ^ 0 % 256 : Nat) : Int)] := rfl
  rw [e]
  simp only [List.cons.injEq, and_true]
  refine ⟨?_, ?_, ?_, ?_⟩ <;> omega
set_option maxRecDepth 100000 in
set_option maxHeartbeats 2000000 in
theorem put4_any (B : Nat) (v : Value) (m : Nat) (xs : List Int) (n : Nat) (hm : m ≤ 2000000) (w : World) (hB : B ≤ w.heap.size) (hown : w.ownsRow B 5 1 v m (bc xs)) :
    Calls Tryz.prog 136 #[v, .int .u64 (n : Int), .int .i64 4] w fun e w' => ∃ v', e = .returned v' ∧ w'.ownsRow B 5 1 v' (m + 4) (bc (xs ++ bigL 4 n)) ∧ Below B w w' := by
  have HE : Hid (bigL 4 n = [(n : Int) / 16777216 % 256, (n : Int) / 65536 % 256, (n : Int) / 256 % 256, (n : Int) % 256]) := big4 n
  have l0 : 0 ≤ (n : Int) / 16777216 % 256 ∧ (n : Int) / 16777216 % 256 ≤ 255 := by omega
  have l1 : 0 ≤ (n : Int) / 65536 % 256 ∧ (n : Int) / 65536 % 256 ≤ 255 := by omega
  have l2 : 0 ≤ (n : Int) / 256 % 256 ∧ (n : Int) / 256 % 256 ≤ 255 := by omega
  have l3 : 0 ≤ (n : Int) % 256 ∧ (n : Int) % 256 ≤ 255 := by omega
  have hb0 : Below B w w := Below.refl _ _
  go_enter Tryz.func136, Tryz.ntmps136
  go_wp2_with fail
  refine wp_loop_rounds 5 ?_
  rw [rounds_succ]
  go_wp2_with (at_builtin; refine wp_app1K (wr := w) rfl _ _ rfl B v (m + 0) (xs) rfl hown ((n : Int) / 16777216 % 256) l0.1 l0.2 rfl (by omega) (Nat.le_trans hB hb0.size) ?_; intro v1 w1 o1 b1)
  have hb1 := hb0.trans b1
  rw [rounds_succ]
  go_wp2_with (at_builtin; refine wp_app1K (wr := w1) rfl _ _ rfl B v1 (m + 1) (xs ++ [(n : Int) / 16777216 % 256]) rfl o1 ((n : Int) / 65536 % 256) l1.1 l1.2 rfl (by omega) (Nat.le_trans hB hb1.size) ?_; intro v2 w2 o2 b2)
  have hb2 := hb1.trans b2
  rw [rounds_succ]
  go_wp2_with (at_builtin; refine wp_app1K (wr := w2) rfl _ _ rfl B v2 (m + 2) ((xs ++ [(n : Int) / 16777216 % 256]) ++ [(n : Int) / 65536 % 256]) rfl o2 ((n : Int) / 256 % 256) l2.1 l2.2 rfl (by omega) (Nat.le_trans hB hb2.size) ?_; intro v3 w3 o3 b3)
  have hb3 := hb2.trans b3
  rw [rounds_succ]
  go_wp2_with (at_builtin; refine wp_app1K (wr := w3) rfl _ _ rfl B v3 (m + 3) (((xs ++ [(n : Int) / 16777216 % 256]) ++ [(n : Int) / 65536 % 256]) ++ [(n : Int) / 256 % 256]) rfl o3 ((n : Int) % 256) l3.1 l3.2 rfl (by omega) (Nat.le_trans hB hb3.size) ?_; intro v4 w4 o4 b4)
  have hb4 := hb3.trans b4
  rw [rounds_succ]
  go_wp2
  go_ret
  refine ⟨_, rfl, ?_, hb4⟩
  rw [HE.out]
  simpa [List.append_assoc, Nat.add_assoc] using o4

theorem big8 (n : Nat) : bigL 8 n = [(n : Int) / 72057594037927936 % 256, (n : Int) / 281474976710656 % 256, (n : Int) / 1099511627776 % 256, (n : Int) / 4294967296 % 256, (n : Int) / 16777216 % 256, (n : Int) / 65536 % 256, (n : Int) / 256 % 256, (n : Int) % 256] := by
  have e : bigL 8 n = [((n / 256 ^ 7 % 256 : Nat) : Int), ((n / 256 ^ 6 % 256 : Nat) : Int), ((n / 256 ^ 5 % 256 : Nat) : Int), ((n / 256 ^ 4 % 256 : Nat) : Int), ((n / 256 ^ 3 % 256 : Nat) : Int), ((n / 256 ^ 2 % 256 : Nat) : Int), ((n / 256 ^ 1 % 256 : Nat) : Int), ((n / 256 ^ 0 % 256 : Nat) : Int)] := rfl
  rw [e]
  simp only [List.cons.injEq, and_true]
  refine ⟨?_, ?_, ?_, ?_, ?_, ?_, ?_, ?_⟩ <;> omega
set_option maxRecDepth 100000 in
set_option maxHeartbeats 2000000 in
theorem put8_any (B : Nat) (v : Value) (m : Nat) (xs : List Int) (n : Nat) (hm : m ≤ 2000000) (w : World) (hB : B ≤ w.heap.size) (hown : w.ownsRow B 5 1 v m (bc xs)) :
    Calls Tryz.prog 136 #[v, .int .u64 (n : Int), .int .i64 8] w fun e w' => ∃ v', e = .returned v' ∧ w'.ownsRow B 5 1 v' (m + 8) (bc (xs ++ bigL 8 n)) ∧ Below B w w' := by
  have HE : Hid (bigL 8 n = [(n : Int) / 72057594037927936 % 256, (n : Int) / 281474976710656 % 256, (n : Int) / 1099511627776 % 256, (n : Int) / 4294967296 % 256, (n : Int) / 16777216 % 256, (n : Int) / 65536 % 256, (n : Int) / 256 % 256, (n : Int) % 256]) := big8 n
  have l0 : 0 ≤ (n : Int) / 72057594037927936 % 256 ∧ (n : Int) / 72057594037927936 % 256 ≤ 255 := by omega
  have l1 : 0 ≤ (n : Int) / 281474976710656 % 256 ∧ (n : Int) / 281474976710656 % 256 ≤ 255 := by omega
  have l2 : 0 ≤ (n : Int) / 1099511627776 % 256 ∧ (n : Int) / 1099511627776 % 256 ≤ 255 := by omega
  have l3 : 0 ≤ (n : Int) / 4294967296 % 256 ∧ (n : Int) / 4294967296 % 256 ≤ 255 := by omega
  have l4 : 0 ≤ (n : Int) / 16777216 % 256 ∧ (n : Int) / 16777216 % 256 ≤ 255 := by omega
  have l5 : 0 ≤ (n : Int) / 65536 % 256 ∧ (n : Int) / 65536 % 256 ≤ 255 := by omega
  have l6 : 0 ≤ (n : Int) / 256 % 256 ∧ (n : Int) / 256 % 256 ≤ 255 := by omega
  have l7 : 0 ≤ (n : Int) % 256 ∧ (n : Int) % 256 ≤ 255 := by omega
  have hb0 : Below B w w := Below.refl _ _
  go_enter Tryz.func136, Tryz.ntmps136
  go_wp2_with fail
  refine wp_loop_rounds 9 ?_
  rw [rounds_succ]
  go_wp2_with (at_builtin; refine wp_app1K (wr := w) rfl _ _ rfl B v (m + 0) (xs) rfl hown ((n : Int) / 72057594037927936 % 256) l0.1 l0.2 rfl (by omega) (Nat.le_trans hB hb0.size) ?_; intro v1 w1 o1 b1)
  have hb1 := hb0.trans b1
  rw [rounds_succ]
  go_wp2_with (at_builtin; refine wp_app1K (wr := w1) rfl _ _ rfl B v1 (m + 1) (xs ++ [(n : Int) / 72057594037927936 % 256]) rfl o1 ((n : Int) / 281474976710656 % 256) l1.1 l1.2 rfl (by omega) (Nat.le_trans hB hb1.size) ?_; intro v2 w2 o2 b2)
  have hb2 := hb1.trans b2
  rw [rounds_succ]
  go_wp2_with (at_builtin; refine wp_app1K (wr := w2) rfl _ _ rfl B v2 (m + 2) ((xs ++ [(n : Int) / 72057594037927936 % 256]) ++ [(n : Int) / 281474976710656 % 256]) rfl o2 ((n : Int) / 1099511627776 % 256) l2.1 l2.2 rfl (by omega) (Nat.le_trans hB hb2.size) ?_; intro v3 w3 o3 b3)
  have hb3 := hb2.trans b3
  rw [rounds_succ]
  go_wp2_with (at_builtin; refine wp_app1K (wr := w3) rfl _ _ rfl B v3 (m + 3) (((xs ++ [(n : Int) / 72057594037927936 % 256]) ++ [(n : Int) / 281474976710656 % 256]) ++ [(n : Int) / 1099511627776 % 256]) rfl o3 ((n : Int) / 4294967296 % 256) l3.1 l3.2 rfl (by omega) (Nat.le_trans hB hb3.size) ?_; intro v4 w4 o4 b4)
  have hb4 := hb3.trans b4
  rw [rounds_succ]
  go_wp2_with (at_builtin; refine wp_app1K (wr := w4) rfl _ _ rfl B v4 (m + 4) ((((xs ++ [(n : Int) / 72057594037927936 % 256]) ++ [(n : Int) / 281474976710656 % 256]) ++ [(n : Int) / 1099511627776 % 256]) ++ [(n : Int) / 4294967296 % 256]) rfl o4 ((n : Int) / 16777216 % 256) l4.1 l4.2 rfl (by omega) (Nat.le_trans hB hb4.size) ?_; intro v5 w5 o5 b5)
  have hb5 := hb4.trans b5
  rw [rounds_succ]
  go_wp2_with (at_builtin; refine wp_app1K (wr := w5) rfl _ _ rfl B v5 (m + 5) (((((xs ++ [(n : Int) / 72057594037927936 % 256]) ++ [(n : Int) / 281474976710656 % 256]) ++ [(n : Int) / 1099511627776 % 256]) ++ [(n : Int) / 4294967296 % 256]) ++ [(n : Int) / 16777216 % 256]) rfl o5 ((n : Int) / 65536 % 256) l5.1 l5.2 rfl (by omega) (Nat.le_trans hB hb5.size) ?_; intro v6 w6 o6 b6)
  have hb6 := hb5.trans b6
  rw [rounds_succ]
  go_wp2_with (at_builtin; refine wp_app1K (wr := w6) rfl _ _ rfl B v6 (m + 6) ((((((xs ++ [(n : Int) / 72057594037927936 % 256]) ++ [(n : Int) / 281474976710656 % 256]) ++ [(n : Int) / 1099511627776 % 256]) ++ [(n : Int) / 4294967296 % 256]) ++ [(n : Int) / 16777216 % 256]) ++ [(n : Int) / 65536 % 256]) rfl o6 ((n : Int) / 256 % 256) l6.1 l6.2 rfl (by omega) (Nat.le_trans hB hb6.size) ?_; intro v7 w7 o7 b7)
  have hb7 := hb6.trans b7
  rw [rounds_succ]
  go_wp2_with (at_builtin; refine wp_app1K (wr := w7) rfl _ _ rfl B v7 (m + 7) (((((((xs ++ [(n : Int) / 72057594037927936 % 256]) ++ [(n : Int) / 281474976710656 % 256]) ++ [(n : Int) / 1099511627776 % 256]) ++ [(n : Int) / 4294967296 % 256]) ++ [(n : Int) / 16777216 % 256]) ++ [(n : Int) / 65536 % 256]) ++ [(n : Int) / 256 % 256]) rfl o7 ((n : Int) % 256) l7.1 l7.2 rfl (by omega) (Nat.le_trans hB hb7.size) ?_; intro v8 w8 o8 b8)
  have hb8 := hb7.trans b8
  rw [rounds_succ]
  go_wp2
  go_ret
  refine ⟨_, rfl, ?_, hb8⟩
  rw [HE.out]
  simpa [List.append_assoc, Nat.add_assoc] using o8

/-- Bytes as a number, the highest first. -/
def numK (xs : List Int) : Nat → Nat
  | 0 => 0
  | k + 1 => numK xs k * 256 + (xs.getD k 0).toNat
def numL (xs : List Int) : Nat := numK xs xs.length
theorem numK_lt {xs : List Int} (hb : Bd xs) : ∀ k, numK xs k < 256 ^ k
  | 0 => by simp [numK]
  | k + 1 => by
    have h1 := numK_lt hb k
    have h2 : (xs.getD k 0).toNat < 256 := by have := hb.get k; omega
    show numK xs k * 256 + _ < 256 ^ (k + 1)
    rw [Nat.pow_succ]
    omega
theorem or_beN {acc : Nat} {z : Int} (h0 : 0 ≤ z) (h1 : z ≤ 255) (ha : acc < 72057594037927936) : bits .or .u64 ((acc : Int) * 256) z = ((acc * 256 + z.toNat : Nat) : Int) := by
  obtain ⟨d, rfl, hd⟩ : ∃ d : Nat, z = (d : Int) ∧ d < 256 := ⟨z.toNat, by omega, by omega⟩
  have e1 : ((acc : Int) * 256) = ((acc * 256 : Nat) : Int) := by omega
  rw [e1, bits_or_u64_nat _ _ (by omega) (by omega)]
  congr 1
  have e2 : acc * 256 = acc <<< 8 := by rw [Nat.shiftLeft_eq]
  rw [e2, ← Nat.shiftLeft_add_eq_or_of_lt (show d < 2 ^ 8 by omega)]
  simp

set_option maxHeartbeats 800000 in
theorem number_any (a : Option Addr) (n c : Nat) (xs : List Int) (w : World) (hR : Rd w a n c xs) (h8 : n ≤ 8) :
    Calls Tryz.prog 130 #[.slice a n c] w fun e w' => e = .returned (.int .u64 (numL xs : Nat)) ∧ w' = w := by
  have hl := hR.len
  have hcp := hR.cap
  have hmx : c ≤ 9223372036854775807 := hR.most
  have HL : Hid (numL xs = numK xs n) := by show numL xs = numK xs n; unfold numL; rw [hl]
  rw [HL.out]
  clear hl
  go_enter Tryz.func130, Tryz.ntmps130
  go_wp2
  go_loop [2, 4, 7] (fun s _ i => ∃ k : Nat, k ≤ n ∧ i = .int .i64 k ∧ s = .int .u64 (numK xs k)) (fun _ _ i => n - (intOf i).toNat)
  case atStart => exact ⟨0, by omega, rfl, rfl⟩
  case round =>
    obtain ⟨k, hk, rfl, rfl⟩ := hrel
    by_cases hlt : k < n
    · have hlz : (k : Int) < (n : Int) := by omega
      have hk0 : (0 : Int) ≤ (k : Int) := by omega
      have hb := hR.bytes.get k
      have hlt2 := numK_lt hR.bytes k
      have hpow : 256 ^ k ≤ 72057594037927936 := by
        have : 256 ^ k ≤ 256 ^ 7 := Nat.pow_le_pow_right (by omega) (by omega)
        simpa using this
      obtain ⟨ad, rfl⟩ : ∃ ad, a = some ad := by
        cases a with
        | none => have := hR.nil rfl; omega
        | some ad => exact ⟨ad, rfl⟩
      have hc1 := hR.cells _ rfl k hlt
      obtain ⟨z, hz⟩ : ∃ z, xs.getD k 0 = z := ⟨_, rfl⟩
      have HB : Hid (numK xs (k + 1) = numK xs k * 256 + z.toNat) := by rw [← hz]; exact rfl
      rw [hz] at hb hc1
      have ho := or_beN (acc := numK xs k) hb.1 hb.2 (by omega)
      have hbk : ((numK xs k : Nat) : Int) < 72057594037927936 := by omega
      clear hz hpow hlt2
      go_wp2
      go_round
      case rel => exact ⟨k + 1, by omega, by go_num, by rw [HB.out]; congr 1; omega⟩
      case measure => simp [intOf]; omega
    · obtain rfl : k = n := by omega
      have hlz : ¬ (k : Int) < (k : Int) := by omega
      go_wp2
      go_ret
      exact ⟨rfl, rfl⟩

theorem mk0N (w : World) (M : Nat) (hM : M ≤ 100000000) : ∃ w', (Instr.makeSlice 29 (.int .i64 0) (.int .i64 M)).run Tryz.prog w = .ok (.slice (some ⟨w.heap.size, 0, none⟩) 0 M) w' ∧ w'.ownsRow w.heap.size 5 1 (.slice (some ⟨w.heap.size, 0, none⟩) 0 M) 0 (bc []) ∧ Below w.heap.size w w' := by
  obtain ⟨i0, hi, hz0, hz1, hz2⟩ := info_parts Tryz.info5
  obtain ⟨w', h1, h2, h3⟩ := run_make_own w w.heap.size 29 5 i0 (.int .u8 0) 1 Tryz.underlying29 hi hz0 hz1 .i64 .i64 M (by rw [hz2]; omega) (by unfold maxLen; omega) (Nat.le_refl _)
  exact ⟨w', h1, h2, (Below.refl _ _).grown h3 (Nat.le_refl _) (fun k hk => by cases hk)⟩

/-- A check sum, as a number. -/
def crcN (xs : List Int) : Nat := (more 0#32 xs).toNat
theorem crcN_lt (xs : List Int) : crcN xs < 4294967296 := (more 0#32 xs).isLt
theorem sumN_any (a : Option Addr) (n c : Nat) (xs : List Int) (w : World) (hR : Rd w a n c xs) :
    Calls Tryz.prog 137 #[.slice a n c] w fun e w' => e = .returned (.int .u32 ((crcN xs : Nat) : Int)) ∧ w' = w := sum_any a n c xs w hR
/-- A record's form. -/
def formL (xs : List Int) : List Int := bigL 4 xs.length ++ bigL 4 (crcN xs) ++ xs
theorem formL_len (xs : List Int) : (formL xs).length = 8 + xs.length := by
  unfold formL
  rw [List.length_append, List.length_append, bigL_len, bigL_len]

set_option maxHeartbeats 1000000 in
theorem form_any (a : Option Addr) (n c : Nat) (xs : List Int) (w : World) (hR : Rd w a n c xs) (hn : n ≤ 1048576) :
    Calls Tryz.prog 101 #[.slice a n c] w fun e w' => ∃ v', e = .returned v' ∧ w'.ownsRow w.heap.size 5 1 v' (8 + n) (bc (formL xs)) ∧ Below w.heap.size w w' := by
  have hl := hR.len
  obtain ⟨w1, hmk, ho1, hb1⟩ := mk0N w (8 + n) (by omega)
  have hn8 : ((8 + n : Nat) : Int) = 8 + (n : Int) := by omega
  rw [hn8] at hmk
  have hS := fun w' (hb : Below w.heap.size w w') => sumN_any a n c xs w' (hR.carry (Nat.le_refl _) hb)
  have hlt := crcN_lt xs
  have HF : Hid (formL xs = bigL 4 n ++ bigL 4 (crcN xs) ++ xs) := by show formL xs = _; unfold formL; rw [hl]
  rw [HF.out]
  obtain ⟨S, HS⟩ : ∃ S, Hid (crcN xs = S) := ⟨_, rfl⟩
  rw [HS.out] at hlt ⊢
  simp only [HS.out] at hS
  have hz1 : (n : Int) ≤ 1048576 := by omega
  have hz2 : (S : Int) < 4294967296 := by omega
  have tk : True := trivial
  clear hn8 hl HF
  go_enter Tryz.func101, Tryz.ntmps101
  go_wp2_with (first
    | (clear tk; go_at_call 136; refine (put4_any w.heap.size _ 0 [] n (by omega) w1 hb1.size ho1).mono ?_; rintro e w2 ⟨v2, rfl, o2, b2⟩; have hb2 := hb1.trans b2; rw [Nat.zero_add, List.nil_append] at o2)
    | (go_at_call 137; refine (hS w2 hb2).mono ?_; rintro e w3 ⟨rfl, h3⟩; replace h3 := h3.symm; subst h3)
    | (go_at_call 136; refine (put4_any w.heap.size v2 4 (bigL 4 n) S (by omega) w2 hb2.size o2).mono ?_; rintro e w4 ⟨v4, rfl, o4, b4⟩; have hb4 := hb2.trans b4)
    | (at_builtin; refine wp_appK rfl _ _ rfl w.heap.size v4 (4 + 4) (bigL 4 n ++ bigL 4 S) rfl o4 a n c xs rfl (hR.carry (Nat.le_refl _) hb4) (by omega) hb4.size ?_; intro v5 w5 o5 g5 _))
  go_ret
  have hb5 := hb4.grown g5 hb4.size (fun k hk => (o4.lt k hk).1)
  first
    | exact ⟨_, rfl, o5, hb5⟩ 
    | exact ⟨o5, hb5⟩ | exact ⟨_, o5, hb5⟩ | trace_state

def baseL (g : Nat) : List Int := bigL 8 g ++ bigL 4 (crcN (bigL 8 g))
theorem baseL_len (g : Nat) : (baseL g).length = 12 := by unfold baseL; rw [List.length_append, bigL_len, bigL_len]
set_option maxHeartbeats 1000000 in
theorem baseForm_any (g : Nat) (w : World) :
    Calls Tryz.prog 114 #[.int .u64 (g : Int)] w fun e w' => ∃ v', e = .returned v' ∧ w'.ownsRow w.heap.size 5 1 v' 12 (bc (baseL g)) ∧ Below w.heap.size w w' := by
  have h0 : w.ownsRow w.heap.size 5 1 (.slice none 0 0) 0 (bc []) := ⟨rfl, .inl ⟨rfl, rfl⟩⟩
  have hlt := crcN_lt (bigL 8 g)
  have HF : Hid (baseL g = bigL 8 g ++ bigL 4 (crcN (bigL 8 g))) := rfl
  rw [HF.out]
  have hS := fun a n c w' (h : Rd w' a n c (bigL 8 g)) => sumN_any a n c (bigL 8 g) w' h
  obtain ⟨S, HS⟩ : ∃ S, Hid (crcN (bigL 8 g) = S) := ⟨_, rfl⟩
  rw [HS.out] at hlt ⊢
  simp only [HS.out] at hS
  have hz2 : (S : Int) < 4294967296 := by omega
  have tk : True := trivial
  clear HF
  go_enter Tryz.func114, Tryz.ntmps114
  go_wp2_with (first
    | (clear tk; go_at_call 136; refine (put8_any w.heap.size _ 0 [] g (by omega) w (Nat.le_refl _) h0).mono ?_; rintro e w2 ⟨v2, rfl, o2, b2⟩; rw [Nat.zero_add, List.nil_append] at o2; obtain ⟨a2, c2, rfl, r2⟩ := Rd.ofOwn o2 (bigL_bd 8 g); skip)
    | (go_at_call 137; refine (hS a2 _ c2 w2 r2).mono ?_; rintro e w3 ⟨rfl, h3⟩; replace h3 := h3.symm; subst h3)
    | (go_at_call 136; refine (put4_any w.heap.size _ 8 (bigL 8 g) S (by omega) w2 b2.size o2).mono ?_; rintro e w4 ⟨v4, rfl, o4, b4⟩))
  go_ret
  first
    | exact ⟨_, rfl, o4, b2.trans b4⟩ 
    | exact ⟨o4, b2.trans b4⟩ | exact ⟨_, o4, b2.trans b4⟩ | trace_state

/-- The first record of a row of forms, if its form fits. -/
def recO (xs : List Int) : Option (List Int) :=
  if xs.length < 8 then none
  else if numL (xs.take 4) > 1048576 ∨ numL (xs.take 4) > xs.length - 8 then none
  else if crcN ((xs.drop 8).take (numL (xs.take 4))) = numL ((xs.drop 4).take 4) then some ((xs.drop 8).take (numL (xs.take 4)))
  else none
theorem numL_lt4 {xs : List Int} (hb : Bd xs) (h : xs.length ≤ 4) : numL xs < 4294967296 := by
  have h1 := numK_lt hb xs.length
  have h2 : 256 ^ xs.length ≤ 256 ^ 4 := Nat.pow_le_pow_right (by omega) h
  have h3 : (256 : Nat) ^ 4 = 4294967296 := by decide
  unfold numL
  omega
theorem Rd.dropN {w : World} {b off n c : Nat} {xs : List Int} (h : Rd w (some ⟨b, off, none⟩) n c xs) {k : Nat} (hk : k ≤ n) : Rd w (some ⟨b, off + k, none⟩) (n - k) (c - k) (xs.drop k) := by
  have hl := h.len
  have hc := h.cap
  have hm := h.most
  refine ⟨by rw [List.length_drop]; omega, by omega, by omega, (fun e => by cases e), fun x hx => h.bytes x (List.mem_of_mem_drop hx), fun ad had j hj => ?_⟩
  cases had
  have h1 := h.cells _ rfl (k + j) (by omega)
  rw [add_flat] at h1 ⊢
  rw [← Nat.add_assoc] at h1
  rw [h1]
  simp [List.getD, List.getElem?_drop]
end Go.Proofs.YtikkieaokfailaaGreatDoor

/- A row of forms: its first record. -/
namespace Go.Proofs.YtikkieaokfailaaGreatDoor
open Go.RowKit Go.Joins

theorem Rd.take4 {w : World} {a : Option Addr} {n c : Nat} {xs : List Int} (h : Rd w a n c xs) {k : Nat} (hk : k ≤ n) : Rd w a k c (xs.take k) := h.takeK hk

theorem recO_small {xs : List Int} (h : xs.length < 8) : recO xs = none := by unfold recO; rw [if_pos h]
theorem recO_big {xs : List Int} (h : ¬ xs.length < 8) (h2 : numL (xs.take 4) > 1048576 ∨ numL (xs.take 4) > xs.length - 8) : recO xs = none := by unfold recO; rw [if_neg h, if_pos h2]
theorem recO_sum {xs : List Int} (h : ¬ xs.length < 8) (h2 : ¬ (numL (xs.take 4) > 1048576 ∨ numL (xs.take 4) > xs.length - 8)) : recO xs = if crcN ((xs.drop 8).take (numL (xs.take 4))) = numL ((xs.drop 4).take 4) then some ((xs.drop 8).take (numL (xs.take 4))) else none := by unfold recO; rw [if_neg h, if_neg h2]

/-- row[8:]: behind the head. -/
theorem behind8 (b off n c : Nat) (hn : 8 ≤ n) (hc : n ≤ c) (hc2 : c ≤ 9223372036854775807) : ∃ o8, (∀ W, (Instr.sliceAt 29 (.slice (some ⟨b, off, none⟩) n c) (some (.int .i64 8)) none none).run Tryz.prog W = .ok (.slice (some ⟨b, o8, none⟩) (n - 8) (c - 8)) W) ∧ (∀ (w : World) (xs : List Int), Rd w (some ⟨b, off, none⟩) n c xs → Rd w (some ⟨b, o8, none⟩) (n - 8) (c - 8) (xs.drop 8)) := by
  have h1 : (8 : Int) ≤ (n : Int) := by omega
  have h2 : (n : Int) ≤ (c : Int) := by omega
  by_cases h8 : c = 8
  · subst h8
    obtain rfl : n = 8 := by omega
    refine ⟨off, fun W => ?_, fun w xs h => ?_⟩
    · go_simp
    · have hl := h.len
      rw [List.drop_eq_nil_of_le (by omega)]
      exact ⟨rfl, Nat.le_refl _, by unfold maxLen; omega, (fun e => by cases e), Bd.nil, fun _ _ j hj => by omega⟩
  · refine ⟨off + 8, fun W => ?_, fun w xs h => h.dropN hn⟩
    have h3 : ¬ (8 : Int) = (c : Int) := by omega
    have h4 : ¬ (c : Int) = 8 := by omega
    have h5 : ¬ (8 : Nat) = c := by omega
    go_simp
/-- What record answers. -/
def Rec1 (w : World) (xs : List Int) (e : Ending) : Prop := match recO xs with
  | none => ∃ v, e = .returned (.tuple #[v, .bool false])
  | some r => ∃ a' c', e = .returned (.tuple #[.slice a' r.length c', .bool true]) ∧ Rd w a' r.length c' r

set_option maxHeartbeats 2000000 in
theorem record_any (b off n c : Nat) (xs : List Int) (w : World) (hR : Rd w (some ⟨b, off, none⟩) n c xs) (hn9 : n ≤ 1000000000) :
    Calls Tryz.prog 154 #[.slice (some ⟨b, off, none⟩) n c] w fun e w' => Rec1 w xs e ∧ Below w.heap.size w w' := by
  have hl := hR.len
  have hcp := hR.cap
  have hmx : c ≤ 9223372036854775807 := hR.most
  by_cases h8 : n < 8
  · have hE : recO xs = none := recO_small (by omega)
    have HR : ∀ e, Rec1 w xs e = ∃ v, e = .returned (.tuple #[v, .bool false]) := fun e => by unfold Rec1; rw [hE]
    simp only [HR]
    have hz : (n : Int) < 8 := by omega
    clear HR hE hl
    go_enter Tryz.func154, Tryz.ntmps154
    go_wp2
    go_ret2
    exact ⟨⟨_, rfl⟩, Below.refl _ _⟩
  · have hz : ¬ (n : Int) < 8 := by omega
    have hz4 : (4 : Int) ≤ (c : Int) := by omega
    have hz8 : (8 : Int) ≤ (c : Int) := by omega
    have hzn : (8 : Int) ≤ (n : Int) := by omega
    have hc4 : ¬ c = 4 := by omega
    have hnc : (n : Int) ≤ (c : Int) := by omega
    obtain ⟨o8, hsl, hrd8⟩ := behind8 b off n c (by omega) hcp hmx
    have hr1 : Rd w (some ⟨b, off, none⟩) 4 c (xs.take 4) := hR.take4 (by omega)
    have hr2 : Rd w (some ⟨b, off + 4, none⟩) 4 (c - 4) ((xs.drop 4).take 4) := (hR.dropN (k := 4) (by omega)).take4 (by omega)
    have hr3 := hrd8 w xs hR
    have hK := numL_lt4 hr1.bytes (by rw [hr1.len]; omega)
    have hS4 := numL_lt4 hr2.bytes (by rw [hr2.len]; omega)
    have hn1 := fun w' (hb : Below w.heap.size w w') => number_any _ 4 c (xs.take 4) w' (hr1.carry (Nat.le_refl _) hb) (by omega)
    have hn2 := fun w' (hb : Below w.heap.size w w') => number_any _ 4 (c - 4) ((xs.drop 4).take 4) w' (hr2.carry (Nat.le_refl _) hb) (by omega)
    have hbig : numL (xs.take 4) > 1048576 ∨ numL (xs.take 4) > xs.length - 8 → recO xs = none := fun h => recO_big (by omega) h
    have hsum := fun h => recO_sum (xs := xs) (by omega) h
    rw [hl] at hbig hsum
    obtain ⟨K, HK⟩ : ∃ K, Hid (numL (xs.take 4) = K) := ⟨_, rfl⟩
    obtain ⟨S, HS⟩ : ∃ S, Hid (numL ((xs.drop 4).take 4) = S) := ⟨_, rfl⟩
    simp only [HK.out] at hK hn1 hbig hsum
    simp only [HS.out] at hS4 hn2 hsum
    clear hrd8 hr1 hr2
    have HW : Below w.heap.size w w.drew := (Below.refl _ _).drew
    by_cases hbg : K > 1048576 ∨ K > n - 8
    · have hE := hbig hbg
      have HR : ∀ e, Rec1 w xs e = ∃ v, e = .returned (.tuple #[v, .bool false]) := fun e => by unfold Rec1; rw [hE]
      simp only [HR]
      clear HR hE hbig hsum hl
      go_enter Tryz.func154, Tryz.ntmps154
      go_upto_region 3 with fail
      refine wp_region_lx (fun w' => w' = w.drew) [] 11 (by kernel_rfl) (by kernel_rfl) ?_
      have HSx : w.drew = w.drew := rfl
      refine lx_rd 0 ?va10 (by kernel_rfl) (fun _ _ d _ _ h => by cases d <;> exact h) (by kernel_rfl) HSx rfl rfl rfl (fun w' hS => ?ha10) ?_
      case ha10 => first | (go_simp; rfl) | go_simp
      simp only [List.setIfInBounds_toArray, List.set_cons_zero, List.set_cons_succ]
      refine lx_rd 1 (.slice (some ⟨b, off, none⟩) 4 c) (by kernel_rfl) (fun _ _ d _ _ h => by cases d <;> exact h) (by kernel_rfl) HSx rfl rfl rfl (fun w' hS => ?ha11) ?_
      case ha11 => first | (go_simp; rfl) | go_simp
      simp only [List.setIfInBounds_toArray, List.set_cons_zero, List.set_cons_succ]
      refine lx_rd 3 ?va13 (by kernel_rfl) (fun _ _ d _ _ h => by cases d <;> exact h) (by kernel_rfl) HSx rfl rfl rfl (fun w' hS => ?ha13) ?_
      case ha13 => first | (go_simp; rfl) | go_simp
      simp only [List.setIfInBounds_toArray, List.set_cons_zero, List.set_cons_succ]
      refine lx_rd 4 (.slice (some ⟨b, off + 4, none⟩) 4 (c - 4)) (by kernel_rfl) (fun _ _ d _ _ h => by cases d <;> exact h) (by kernel_rfl) HSx rfl rfl rfl (fun w' hS => ?ha14) ?_
      case ha14 => first | (go_simp; rfl) | go_simp
      simp only [List.setIfInBounds_toArray, List.set_cons_zero, List.set_cons_succ]
      refine lx_rd 6 ?va16 (by kernel_rfl) (fun _ _ d _ _ h => by cases d <;> exact h) (by kernel_rfl) HSx rfl rfl rfl (fun w' hS => ?ha16) ?_
      case ha16 => first | (go_simp; rfl) | go_simp
      simp only [List.setIfInBounds_toArray, List.set_cons_zero, List.set_cons_succ]
      refine lx_rd 7 (.slice (some ⟨b, o8, none⟩) (n - 8) (c - 8)) (by kernel_rfl) (fun _ _ d _ _ h => by cases d <;> exact h) (by kernel_rfl) HSx rfl rfl rfl (fun w' hS => ?ha17) ?_
      case ha17 => first | (go_simp; rfl) | go_simp
      simp only [List.setIfInBounds_toArray, List.set_cons_zero, List.set_cons_succ]
      refine lx_one 2 (by kernel_rfl) (stepT_call 130 ?a2x1 rfl rfl rfl ?r2x1 ?_)
      case r2x1 => first | (go_simp; rfl) | go_simp
      refine (hn1 _ HW).mono ?_
      rintro e w1 ⟨rfl, h1w⟩
      replace h1w := h1w.symm
      subst h1w
      refine ⟨_, rfl, fun _ => rfl, ?_⟩
      simp only [List.setIfInBounds_toArray, List.set_cons_zero, List.set_cons_succ]
      refine lx_one 5 (by kernel_rfl) (stepT_call 130 ?a5x1 rfl rfl rfl ?r5x1 ?_)
      case r5x1 => first | (go_simp; rfl) | go_simp
      refine (hn2 _ HW).mono ?_
      rintro e w1 ⟨rfl, h1w⟩
      replace h1w := h1w.symm
      subst h1w
      refine ⟨_, rfl, fun _ => rfl, ?_⟩
      simp only [List.setIfInBounds_toArray, List.set_cons_zero, List.set_cons_succ]
      refine lx_rd 8 ?vb18 (by kernel_rfl) (fun _ _ d _ _ h => by cases d <;> exact h) (by kernel_rfl) HSx rfl rfl rfl (fun w' hS => ?hb18) ?_
      case hb18 => first | (go_simp; rfl) | go_simp
      simp only [List.setIfInBounds_toArray, List.set_cons_zero, List.set_cons_succ]
      refine lx_rd 9 ?vb19 (by kernel_rfl) (fun _ _ d _ _ h => by cases d <;> exact h) (by kernel_rfl) HSx rfl rfl rfl (fun w' hS => ?hb19) ?_
      case hb19 => first | (go_simp; rfl) | go_simp
      simp only [List.setIfInBounds_toArray, List.set_cons_zero, List.set_cons_succ]
      refine lx_rd 10 ?vb110 (by kernel_rfl) (fun _ _ d _ _ h => by cases d <;> exact h) (by kernel_rfl) HSx rfl rfl rfl (fun w' hS => ?hb110) ?_
      case hb110 => first | (go_simp; rfl) | go_simp
      simp only [List.setIfInBounds_toArray, List.set_cons_zero, List.set_cons_succ]
      refine lx_nil (by kernel_rfl) ?_
      have hi1 : ((n - 8 : Nat) : Int) = (n : Int) - 8 := by omega
      by_cases h1 : (1048576 : Int) < (K : Int)
      · go_wp2
        go_ret2
        exact ⟨⟨_, rfl⟩, HW⟩
      · have h2 : ((n - 8 : Nat) : Int) < (K : Int) := by omega
        have h2' : (n : Int) - 8 < (K : Int) := by omega
        go_wp2
        go_ret2
        exact ⟨⟨_, rfl⟩, HW⟩
    · have hE := hsum hbg
      have h1 : ¬ (1048576 : Int) < (K : Int) := by omega
      have h2 : ¬ ((n - 8 : Nat) : Int) < (K : Int) := by omega
      have hi1 : ((n - 8 : Nat) : Int) = (n : Int) - 8 := by omega
      have h2' : ¬ (n : Int) - 8 < (K : Int) := by omega
      have hKn : K ≤ n - 8 := by omega
      have hr4 := hr3.take4 hKn
      have hSm := fun w' (hb : Below w.heap.size w w') => sumN_any _ K (c - 8) ((xs.drop 8).take K) w' (hr4.carry (Nat.le_refl _) hb)
      have hCl := crcN_lt ((xs.drop 8).take K)
      obtain ⟨T, HT⟩ : ∃ T, Hid ((xs.drop 8).take K = T) := ⟨_, rfl⟩
      rw [HT.out] at hr4 hE hCl
      simp only [HT.out] at hSm
      obtain ⟨C, HC⟩ : ∃ C, Hid (crcN T = C) := ⟨_, rfl⟩
      rw [HC.out] at hE hCl
      simp only [HC.out] at hSm
      have hCz : (C : Int) < 4294967296 := by omega
      have hKc : (K : Int) ≤ ((c - 8 : Nat) : Int) := by omega
      have hKc2 : (K : Int) ≤ (c : Int) - 8 := by omega
      have hTl : T.length = K := hr4.len
      have HR : ∀ e, Rec1 w xs e = match (if C = S then some T else none) with
          | none => ∃ v, e = .returned (.tuple #[v, .bool false])
          | some r => ∃ a' c', e = .returned (.tuple #[.slice a' r.length c', .bool true]) ∧ Rd w a' r.length c' r := fun e => by unfold Rec1; rw [hE]
      simp only [HR]
      clear HR hE hbig hsum hbg hl
      have Hr4 : Hid (Rd w (some ⟨b, o8, none⟩) K (c - 8) T) := hr4
      clear hr4
      by_cases hCS : C = S
      · subst hCS
        rw [if_pos rfl]
        go_enter Tryz.func154, Tryz.ntmps154
        go_upto_region 3 with fail
        refine wp_region_lx (fun w' => w' = w.drew) [] 11 (by kernel_rfl) (by kernel_rfl) ?_
        have HSx : w.drew = w.drew := rfl
        refine lx_rd 0 ?va20 (by kernel_rfl) (fun _ _ d _ _ h => by cases d <;> exact h) (by kernel_rfl) HSx rfl rfl rfl (fun w' hS => ?ha20) ?_
        case ha20 => first | (go_simp; rfl) | go_simp
        simp only [List.setIfInBounds_toArray, List.set_cons_zero, List.set_cons_succ]
        refine lx_rd 1 (.slice (some ⟨b, off, none⟩) 4 c) (by kernel_rfl) (fun _ _ d _ _ h => by cases d <;> exact h) (by kernel_rfl) HSx rfl rfl rfl (fun w' hS => ?ha21) ?_
        case ha21 => first | (go_simp; rfl) | go_simp
        simp only [List.setIfInBounds_toArray, List.set_cons_zero, List.set_cons_succ]
        refine lx_rd 3 ?va23 (by kernel_rfl) (fun _ _ d _ _ h => by cases d <;> exact h) (by kernel_rfl) HSx rfl rfl rfl (fun w' hS => ?ha23) ?_
        case ha23 => first | (go_simp; rfl) | go_simp
        simp only [List.setIfInBounds_toArray, List.set_cons_zero, List.set_cons_succ]
        refine lx_rd 4 (.slice (some ⟨b, off + 4, none⟩) 4 (c - 4)) (by kernel_rfl) (fun _ _ d _ _ h => by cases d <;> exact h) (by kernel_rfl) HSx rfl rfl rfl (fun w' hS => ?ha24) ?_
        case ha24 => first | (go_simp; rfl) | go_simp
        simp only [List.setIfInBounds_toArray, List.set_cons_zero, List.set_cons_succ]
        refine lx_rd 6 ?va26 (by kernel_rfl) (fun _ _ d _ _ h => by cases d <;> exact h) (by kernel_rfl) HSx rfl rfl rfl (fun w' hS => ?ha26) ?_
        case ha26 => first | (go_simp; rfl) | go_simp
        simp only [List.setIfInBounds_toArray, List.set_cons_zero, List.set_cons_succ]
        refine lx_rd 7 (.slice (some ⟨b, o8, none⟩) (n - 8) (c - 8)) (by kernel_rfl) (fun _ _ d _ _ h => by cases d <;> exact h) (by kernel_rfl) HSx rfl rfl rfl (fun w' hS => ?ha27) ?_
        case ha27 => first | (go_simp; rfl) | go_simp
        simp only [List.setIfInBounds_toArray, List.set_cons_zero, List.set_cons_succ]
        refine lx_one 2 (by kernel_rfl) (stepT_call 130 ?a2x2 rfl rfl rfl ?r2x2 ?_)
        case r2x2 => first | (go_simp; rfl) | go_simp
        refine (hn1 _ HW).mono ?_
        rintro e w1 ⟨rfl, h1w⟩
        replace h1w := h1w.symm
        subst h1w
        refine ⟨_, rfl, fun _ => rfl, ?_⟩
        simp only [List.setIfInBounds_toArray, List.set_cons_zero, List.set_cons_succ]
        refine lx_one 5 (by kernel_rfl) (stepT_call 130 ?a5x2 rfl rfl rfl ?r5x2 ?_)
        case r5x2 => first | (go_simp; rfl) | go_simp
        refine (hn2 _ HW).mono ?_
        rintro e w1 ⟨rfl, h1w⟩
        replace h1w := h1w.symm
        subst h1w
        refine ⟨_, rfl, fun _ => rfl, ?_⟩
        simp only [List.setIfInBounds_toArray, List.set_cons_zero, List.set_cons_succ]
        refine lx_rd 8 ?vb28 (by kernel_rfl) (fun _ _ d _ _ h => by cases d <;> exact h) (by kernel_rfl) HSx rfl rfl rfl (fun w' hS => ?hb28) ?_
        case hb28 => first | (go_simp; rfl) | go_simp
        simp only [List.setIfInBounds_toArray, List.set_cons_zero, List.set_cons_succ]
        refine lx_rd 9 ?vb29 (by kernel_rfl) (fun _ _ d _ _ h => by cases d <;> exact h) (by kernel_rfl) HSx rfl rfl rfl (fun w' hS => ?hb29) ?_
        case hb29 => first | (go_simp; rfl) | go_simp
        simp only [List.setIfInBounds_toArray, List.set_cons_zero, List.set_cons_succ]
        refine lx_rd 10 ?vb210 (by kernel_rfl) (fun _ _ d _ _ h => by cases d <;> exact h) (by kernel_rfl) HSx rfl rfl rfl (fun w' hS => ?hb210) ?_
        case hb210 => first | (go_simp; rfl) | go_simp
        simp only [List.setIfInBounds_toArray, List.set_cons_zero, List.set_cons_succ]
        refine lx_nil (by kernel_rfl) ?_
        go_wp2_with (go_at_call 137; refine (hSm _ HW).mono ?_; rintro e w3 ⟨rfl, h3⟩; replace h3 := h3.symm; subst h3)
        go_ret2
        refine ⟨⟨some ⟨b, o8, none⟩, c - 8, ?_, ?_⟩, HW⟩
        · rw [hTl]; rfl
        · rw [hTl]; exact Hr4.out
      · rw [if_neg hCS]
        have hne : ((C : Int) == (S : Int)) = false := by rw [beq_eq_false_iff_ne]; omega
        go_enter Tryz.func154, Tryz.ntmps154
        go_upto_region 3 with fail
        refine wp_region_lx (fun w' => w' = w.drew) [] 11 (by kernel_rfl) (by kernel_rfl) ?_
        have HSx : w.drew = w.drew := rfl
        refine lx_rd 0 ?va30 (by kernel_rfl) (fun _ _ d _ _ h => by cases d <;> exact h) (by kernel_rfl) HSx rfl rfl rfl (fun w' hS => ?ha30) ?_
        case ha30 => first | (go_simp; rfl) | go_simp
        simp only [List.setIfInBounds_toArray, List.set_cons_zero, List.set_cons_succ]
        refine lx_rd 1 (.slice (some ⟨b, off, none⟩) 4 c) (by kernel_rfl) (fun _ _ d _ _ h => by cases d <;> exact h) (by kernel_rfl) HSx rfl rfl rfl (fun w' hS => ?ha31) ?_
        case ha31 => first | (go_simp; rfl) | go_simp
        simp only [List.setIfInBounds_toArray, List.set_cons_zero, List.set_cons_succ]
        refine lx_rd 3 ?va33 (by kernel_rfl) (fun _ _ d _ _ h => by cases d <;> exact h) (by kernel_rfl) HSx rfl rfl rfl (fun w' hS => ?ha33) ?_
        case ha33 => first | (go_simp; rfl) | go_simp
        simp only [List.setIfInBounds_toArray, List.set_cons_zero, List.set_cons_succ]
        refine lx_rd 4 (.slice (some ⟨b, off + 4, none⟩) 4 (c - 4)) (by kernel_rfl) (fun _ _ d _ _ h => by cases d <;> exact h) (by kernel_rfl) HSx rfl rfl rfl (fun w' hS => ?ha34) ?_
        case ha34 => first | (go_simp; rfl) | go_simp
        simp only [List.setIfInBounds_toArray, List.set_cons_zero, List.set_cons_succ]
        refine lx_rd 6 ?va36 (by kernel_rfl) (fun _ _ d _ _ h => by cases d <;> exact h) (by kernel_rfl) HSx rfl rfl rfl (fun w' hS => ?ha36) ?_
        case ha36 => first | (go_simp; rfl) | go_simp
        simp only [List.setIfInBounds_toArray, List.set_cons_zero, List.set_cons_succ]
        refine lx_rd 7 (.slice (some ⟨b, o8, none⟩) (n - 8) (c - 8)) (by kernel_rfl) (fun _ _ d _ _ h => by cases d <;> exact h) (by kernel_rfl) HSx rfl rfl rfl (fun w' hS => ?ha37) ?_
        case ha37 => first | (go_simp; rfl) | go_simp
        simp only [List.setIfInBounds_toArray, List.set_cons_zero, List.set_cons_succ]
        refine lx_one 2 (by kernel_rfl) (stepT_call 130 ?a2x3 rfl rfl rfl ?r2x3 ?_)
        case r2x3 => first | (go_simp; rfl) | go_simp
        refine (hn1 _ HW).mono ?_
        rintro e w1 ⟨rfl, h1w⟩
        replace h1w := h1w.symm
        subst h1w
        refine ⟨_, rfl, fun _ => rfl, ?_⟩
        simp only [List.setIfInBounds_toArray, List.set_cons_zero, List.set_cons_succ]
        refine lx_one 5 (by kernel_rfl) (stepT_call 130 ?a5x3 rfl rfl rfl ?r5x3 ?_)
        case r5x3 => first | (go_simp; rfl) | go_simp
        refine (hn2 _ HW).mono ?_
        rintro e w1 ⟨rfl, h1w⟩
        replace h1w := h1w.symm
        subst h1w
        refine ⟨_, rfl, fun _ => rfl, ?_⟩
        simp only [List.setIfInBounds_toArray, List.set_cons_zero, List.set_cons_succ]
        refine lx_rd 8 ?vb38 (by kernel_rfl) (fun _ _ d _ _ h => by cases d <;> exact h) (by kernel_rfl) HSx rfl rfl rfl (fun w' hS => ?hb38) ?_
        case hb38 => first | (go_simp; rfl) | go_simp
        simp only [List.setIfInBounds_toArray, List.set_cons_zero, List.set_cons_succ]
        refine lx_rd 9 ?vb39 (by kernel_rfl) (fun _ _ d _ _ h => by cases d <;> exact h) (by kernel_rfl) HSx rfl rfl rfl (fun w' hS => ?hb39) ?_
        case hb39 => first | (go_simp; rfl) | go_simp
        simp only [List.setIfInBounds_toArray, List.set_cons_zero, List.set_cons_succ]
        refine lx_rd 10 ?vb310 (by kernel_rfl) (fun _ _ d _ _ h => by cases d <;> exact h) (by kernel_rfl) HSx rfl rfl rfl (fun w' hS => ?hb310) ?_
        case hb310 => first | (go_simp; rfl) | go_simp
        simp only [List.setIfInBounds_toArray, List.set_cons_zero, List.set_cons_succ]
        refine lx_nil (by kernel_rfl) ?_
        go_wp2_with (go_at_call 137; refine (hSm _ HW).mono ?_; rintro e w3 ⟨rfl, h3⟩; replace h3 := h3.symm; subst h3)
        go_ret2
        exact ⟨⟨_, rfl⟩, HW⟩

end Go.Proofs.YtikkieaokfailaaGreatDoor

/- The disk's Restart. -/
namespace Go.Proofs.YtikkieaokfailaaGreatDoor
open Go.RowKit Go.Joins

theorem put_mid {dn post : Fls} {n : Nm} {f g : Fle} (hr : Rise (dn ++ (n, f) :: post)) : putL (dn ++ (n, f) :: post) n g = dn ++ (n, g) :: post := by
  induction dn with
  | nil =>
    show putL ((n, f) :: post) n g = _
    unfold putL
    rw [if_neg (ltN_irrefl n), if_pos rfl]
    rfl
  | cons q r ih =>
    obtain ⟨a, x⟩ := q
    show putL ((a, x) :: (r ++ (n, f) :: post)) n g = (a, x) :: (r ++ (n, g) :: post)
    have h1 : ltN a n := hr.1 (n, f) (List.mem_append_right _ (List.mem_cons_self ..))
    unfold putL
    rw [if_neg (fun h => ltN_irrefl _ (ltN_trans h h1)), if_neg (fun e => by subst e; exact ltN_irrefl _ h1), ih hr.2]
theorem look_mid {dn post : Fls} {n : Nm} {f : Fle} (hr : Rise (dn ++ (n, f) :: post)) : look (dn ++ (n, f) :: post) n = some f := look_of_mem hr (List.mem_append_right _ (List.mem_cons_self ..))

/-- A row of ints in block b, from some place on. -/
def IRd (w : World) (b : Nat) (v : Value) (zs : List Int) : Prop :=
  ∃ (a : Option Addr) (c : Nat), v = .slice a zs.length c ∧ zs.length ≤ c ∧ c ≤ 9223372036854775807 ∧ (zs ≠ [] → ∃ off, a = some ⟨b, off, none⟩ ∧ ∀ j, j < zs.length → w.cell? ⟨b, off + j, none⟩ = some (.int .i64 (zs.getD j 0)))
theorem IRd.keep {S : Nat → Prop} {w w' : World} {b : Nat} {v : Value} {zs : List Int} (h : IRd w b v zs) (hk : Keep S w w') (hs : zs ≠ [] → ¬ S b) : IRd w' b v zs := by
  obtain ⟨a, c, h1, h2, h3, h4⟩ := h
  refine ⟨a, c, h1, h2, h3, fun hz => ?_⟩
  obtain ⟨off, e, hc⟩ := h4 hz
  exact ⟨off, e, fun j hj => hk.cell (hc j hj) (hs hz)⟩

theorem rest_nil (f : Fle) (hf : f.safe ≤ f.b.length) : restF f 0 = ⟨f.b.take (f.safe + 0), f.safe + 0⟩ ∧ f.safe + 0 ≤ f.b.length := by
  refine ⟨?_, hf⟩
  unfold restF
  have : (max (0 : Int) 0 % (((f.b.length - f.safe : Nat) : Int) + 1)).toNat = 0 := by
    rw [Int.max_self, Int.zero_emod]; rfl
  rw [this]

theorem restL_len (l : Fls) (keep : List Int) : (restL l keep).length = l.length := by
  induction l generalizing keep with
  | nil => rfl
  | cons q r ih =>
    obtain ⟨n, f⟩ := q
    unfold restL
    split <;> simp [ih]

theorem used_app (a b : Fls) : used (a ++ b) = used a + used b := by
  induction a with
  | nil => simp [used]
  | cons q r ih =>
    obtain ⟨n, f⟩ := q
    show f.b.length + used (r ++ b) = f.b.length + used r + used b
    rw [ih]; omega

theorem max_int (x y : Int) (ty : TypeId) (w : World) : (Builtin.max_ #[3, 3] ty #[.int .i64 x, .int .i64 y]).run Tryz.prog w = .ok (.int .i64 (max x y)) w := by
  rw [run_max_int2]
  congr 2
  split <;> omega

set_option maxRecDepth 100000 in
set_option maxHeartbeats 3000000 in
theorem restart_any (d : Nat) (F : Nat → Prop) (k : Dk) (bk : Nat) (v : Value) (keep : List Int) (hfl : k.fs.length < 1000000) (w : World) (hDk : DiskAt w F d k) (hI : IRd w bk v keep) (hbk : keep ≠ [] → ¬ F bk) :
    Calls Tryz.prog 24 #[.pointer (some ⟨d, 0, none⟩), v] w fun e w' => e = .returned (.tuple #[]) ∧ Dp w F d (restK k keep) w' := by
  have hrise : Calls Tryz.prog 69 #[.pointer (some ⟨d, 0, none⟩)] w fun e w' => ∃ v, e = .returned v ∧ w'.ownsRow w.heap.size 9 1 v k.fs.length (nv (k.fs.map Prod.fst)) ∧ Below w.heap.size w w' := by
    obtain ⟨⟨bm, m, hD, hbm, ht, ha⟩, fd, lt, hg⟩ := hDk
    exact rising_any d bm _ _ m k.fs hg.rise (fun s => (ht s).isSome) (by omega) w hD
  have hlt := hDk.lt
  have hbkl : keep ≠ [] → bk < w.heap.size := fun h => by
    obtain ⟨a, c, _, _, _, h4⟩ := hI
    obtain ⟨off, _, hc⟩ := h4 h
    exact World.block_lt_of_cell? w _ (hc 0 (List.length_pos_iff.2 h))
  obtain ⟨N, HN⟩ : ∃ N, Hid (k.fs.length = N) := ⟨_, rfl⟩
  obtain ⟨R, HRe⟩ : ∃ R, Hid (restL k.fs keep = R) := ⟨_, rfl⟩
  have hN9 : N < 1000000 := by rw [← HN.out]; exact hfl
  have hRK : restK k keep = { k with fs := R, off := false, fu := none } := by unfold restK; rw [HRe.out]
  rw [hRK]
  rw [HN.out] at hrise
  have hroom := hDk.good.room
  go_enter Tryz.func24, Tryz.ntmps24
  go_wp2_with (first
    | (go_at_call 69; refine hrise.mono ?_; rintro e w1 ⟨vn, rfl, hrow, hb1⟩; obtain ⟨an, cn, rfl, hobn⟩ := own_formS hrow))
  have hD1 := hDk.below hb1
  have hI1 : IRd w1 bk v keep := hI.keep (S := fun _ => False) (Keep.ofBelow hb1) (fun _ h => h)
  clear hrise hDk hI hRK
  obtain ⟨An, hAn⟩ : ∃ A : Option Addr, (an.map fun g => (⟨g, 0, none⟩ : Addr)) = A := ⟨_, rfl⟩
  rw [hAn]
  go_loopw [1, 5, 6, 7, 8, 12] (fun s1 _ _ _ _ s12 wr => ∃ (i : Nat) (dn rest : Fls) (kp : List Int), s12 = .int .i64 i ∧ dn.length = i ∧ IRd wr bk s1 kp ∧ Hid (kp ≠ [] → keep ≠ []) ∧ Hid (dn ++ restL rest kp = R) ∧ Hid ((dn ++ rest).map Prod.fst = k.fs.map Prod.fst) ∧ Dp w1 F d { k with fs := dn ++ rest } wr) (fun _ _ _ _ _ s12 _ => N - (intOf s12).toNat)
  case atStart => exact ⟨0, [], k.fs, keep, rfl, rfl, hI1, fun h => h, HRe.out, rfl, Dp.refl hD1⟩
  case round =>
    obtain ⟨i, dn, rest, kp, rfl, hdn, HI, HKp, HR, HNm, HDp⟩ := hrel
    obtain ⟨Fi, hDi, hki, hFi⟩ := HDp
    have hlenN : dn.length + rest.length = N := by
      have h := congrArg List.length HNm.out
      simp only [List.length_map, List.length_append] at h
      rw [h]; exact HN.out
    cases rest with
    | nil =>
      simp only [List.length_nil] at hlenN
      obtain rfl : i = N := by omega
      have hcl : ¬ (i : Int) < (i : Int) := by omega
      have hRR : dn = R := by have h := HR.out; simpa [restL] using h
      rw [List.append_nil] at hDi
      obtain ⟨⟨bm, m, hD, hbm, ht, ha⟩, fd, lt, hg⟩ := hDi
      have p4 := hD.c4
      have z4 := hD.fz 4
      have hE1 := hD.set 4 (.bool false) { rawK { k with fs := dn } with down := false } rfl
      have p5 := hE1.c5
      have z5 := hE1.fz 5
      have hE2 := hE1.set 5 (.bool false) { rawK { k with fs := dn } with down := false, fused := false } rfl
      have p6 := hE2.c6
      have z6 := hE2.fz 6
      have hE3 := hE2.set 6 (.int .i64 0) { rawK { k with fs := dn } with down := false, fused := false, left := 0 } rfl
      have hkE := ((hD.setK 4 (.bool false)).trans (hE1.setK 5 (.bool false))).trans (hE2.setK 6 (.int .i64 0))
      clear HI HNm hI1 hD1
      go_wp2
      go_end0
      obtain ⟨x1, _, x3⟩ := DiskAt.cells (k := { k with fs := dn }) (k1 := { k with fs := dn, off := false, fu := none }) hbm ht ha fd lt hD.blk hkE hE3 rfl ⟨hg.room, hg.rise, hg.used, hg.each, fun j e => by cases e⟩
      refine ⟨rfl, ?_⟩
      rw [← hRR]
      exact Dp.from hb1 (Dp.next hki hFi ⟨Fi, x1, x3, fun _ h => Or.inl h⟩)
    | cons q post =>
      obtain ⟨n, f⟩ := q
      simp only [List.length_cons] at hlenN
      have hcl : (i : Int) < (N : Int) := by omega
      have hfl' : (dn ++ (n, f) :: post).length < 1000000 := by simp; omega
      obtain ⟨⟨bm, m, hD, hbm, ht, ha⟩, fd, lt, hg⟩ := hDi
      have p1 := hD.c1
      have hlkm := look_mid (f := f) hg.rise
      obtain ⟨hnm, hsf, hbd⟩ := look_good hg hlkm
      have hmax : n.size ≤ maxLen := by have := isNm_size hnm; unfold maxLen; omega
      have hn64 := isNm_size hnm
      have hfu : f.b.length ≤ 16777216 := by
        have h1 := lenO_used (dn ++ (n, f) :: post) n
        rw [hlkm] at h1
        have h2 := hg.used
        have h3 := hg.room
        have h4 : lenO (some f) = f.b.length := rfl
        rw [h4] at h1
        simp only at h2 h3
        omega
      have huse : used (dn ++ (n, f) :: post) ≤ 16777216 := Nat.le_trans hg.used hg.room
      have htie := ht n
      simp only at htie
      rw [hlkm] at htie
      obtain ⟨⟨a, ln, cp, sf⟩, hm0, h1, h2, hown, hFr⟩ := htie.some'
      dsimp only at h1 h2
      subst h1
      obtain ⟨A, hA⟩ : ∃ A : Option Addr, (a.map fun g => (⟨g, 0, none⟩ : Addr)) = A := ⟨_, rfl⟩
      have hslv : slv (a, ln, cp, (f.safe : Int)) = .slice A ln cp := by unfold slv; rw [hA]
      have hfo : fv ((m n).getD fv0) = .agg #[.slice A ln cp, .int .i64 (f.safe : Int)] := by rw [hm0]; show fv (a, ln, cp, (f.safe : Int)) = _; unfold fv; rw [hslv]
      rw [hslv] at hown
      have HLN : Hid (f.b.length = ln) := h2.symm
      rw [← h2] at hown hsf hfu
      have hRr : Rd wr A ln cp f.b := Rd.ofRow hown hbd
      have hm : Hid (m n = some (a, ln, cp, (f.safe : Int))) := hm0
      clear htie hm0 h2 hslv hown hA hlkm
      obtain ⟨gn, hgn, hnc⟩ : ∃ gn, an = some gn ∧ wr.cell? ⟨gn, i, none⟩ = some (.string n) := by
        cases an with
        | none =>
          rcases hrow.2 with ⟨_, h0⟩ | ⟨g, cap, cur, h1, _⟩
          · omega
          · cases h1
        | some gn =>
          refine ⟨gn, rfl, ?_⟩
          have hix : (nv (k.fs.map Prod.fst))[i]? = some (.string n) := by
            unfold nv
            rw [← HNm.out, List.getElem?_map, List.map_append, List.getElem?_append_right (by simp; omega)]
            simp [hdn]
          have hc := hrow.cells (g := gn) rfl i _ hix
          rw [add_flat, Nat.zero_add] at hc
          have hb := (hrow.lt gn rfl).1
          exact hki.cell hc (fun h => by have := hlt _ h; simp only at this; omega)
      have e1 : An = some ⟨gn, 0, none⟩ := by rw [← hAn, hgn]; rfl
      subst e1
      by_cases hq : f.b.length = f.safe
      · have hls : (ln : Int) - (f.safe : Int) = 0 := by have := HLN.out; omega
        have hwl : IntKind.i64.wrap ((ln : Int) - (f.safe : Int)) = 0 := by rw [hls]; rfl
        have hlnE : ln = f.safe := by rw [← HLN.out]; exact hq
        have hlen1 := fun w => len_slice A ln cp 29 3 w Tryz.underlying29
        have HIi := HI
        clear hI1 hD1 HI
        subst hlnE
        go_wp2_with (first
          | (at_lookup; refine wp_look1 rfl _ _ rfl bm _ m rfl hD.map n hmax rfl _ _ hfo ?_))
        have hbe : Below wr.heap.size wr (wr.alloc (.cells #[.slice A f.safe cp, .int .i64 (f.safe : Int)] 106)) := (Below.refl _ _).alloc (Nat.le_refl _) _
        refine ⟨⟨i + 1, dn ++ [(n, f)], post, kp, by go_num, by simp [hdn], HIi.keep (S := fun _ => False) (Keep.ofBelow hbe) (fun _ h => h), HKp.out, ?_, ?_, ?_⟩, ?_⟩
        · show (dn ++ [(n, f)]) ++ restL post kp = _
          rw [← HR.out, List.append_assoc]
          conv => rhs; unfold restL
          rw [if_pos hq]
          rfl
        · show List.map Prod.fst _ = _
          rw [← HNm.out]; simp
        · rw [List.append_assoc]
          refine Dp.next hki hFi (Dp.ofBelow ?_ hbe)
          exact ⟨⟨bm, m, hD, hbm, ht, ha⟩, fd, lt, hg⟩
        · simp [intOf]; omega
      · have hne : ¬ f.b.length = f.safe := hq
        have hls : f.safe < ln := by rw [HLN.out] at hq; omega
        have hwl : IntKind.i64.wrap ((ln : Int) - (f.safe : Int)) = (ln : Int) - (f.safe : Int) := by rw [IntKind.wrap_i64]; omega
        have hz0 : ((ln : Int) - (f.safe : Int) == 0) = false := by simp; omega
        have hlen1 := fun w => len_slice A ln cp 29 3 w Tryz.underlying29
        clear hI1 hD1 hq
        cases kp with
        | nil =>
          obtain ⟨ka, kc, rfl, HI2, HI3, _⟩ := HI
          go_upto_region 10 with (first
            | (at_lookup; refine wp_look1 rfl _ _ rfl bm _ m rfl hD.map n hmax rfl _ _ hfo ?_))
          have hbe : Below wr.heap.size wr (wr.alloc (.cells #[.slice A ln cp, .int .i64 (f.safe : Int)] 106)) := (Below.refl _ _).alloc (Nat.le_refl _) _
          have hfil := alloc_at wr (.cells #[.slice A ln cp, .int .i64 (f.safe : Int)] 106)
          obtain ⟨bf, hbf⟩ : ∃ bf, wr.heap.size = bf := ⟨_, rfl⟩
          rw [hbf] at hfil ⊢
          generalize wr.alloc (.cells #[.slice A ln cp, .int .i64 (f.safe : Int)] 106) = Z at *
          have f0 := cell_of_block hfil 0
          have f1 := cell_of_block hfil 1
          simp at f0 f1
          have hRZ : Rd Z A ln cp f.b := hRr.carry (Nat.le_refl _) hbe
          have hcut := fcut_any A ln cp f.b f.safe (f.safe + 0) Z hRZ (by omega) (by omega)
          have hmn : min f.safe (f.safe + 0) = f.safe := by omega
          rw [hmn] at hcut
          clear hmn
          obtain ⟨lk, HLK⟩ : ∃ lk, Hid (f.safe + 0 = lk) := ⟨_, rfl⟩
          have hwr : (f.safe : Int) + 0 = (lk : Int) := by have := HLK.out; omega
          rw [HLK.out] at hcut
          have hlkl : lk ≤ ln := by have := HLK.out; omega
          clear hfo hRZ
          go_upto_region 11 with (first
            | (go_at_call 70; refine hcut.mono ?_; rintro e w3 ⟨a5, cp5, rfl, hown5, hb3⟩; have hfil3 := box_below hfil hb3; have e0 := cell_of_block hfil3 0; have z0 := unfrozen_of_block hfil3 0; have rb1 := block_setCell (i := 0) hfil3 (.slice (a5.map fun g => ⟨g, 0, none⟩) lk cp5); have e1 := cell_of_block rb1 1; have z1 := unfrozen_of_block rb1 1; have rb2 := block_setCell (i := 1) rb1 (.int .i64 (f.safe : Int)); simp at e0 e1))
          have hob5 : (Value.slice (a5.map fun g => (⟨g, 0, none⟩ : Addr)) lk cp5).ownBlock = a5 := slv_own (a5, lk, cp5, 0)
          have hbe3 : Below wr.heap.size wr w3 := hbe.trans (hb3.mono hbe.size)
          have hk4 : Keep (fun i => i = bf) w3 ((w3.setCell ⟨bf, 0, none⟩ (.slice (a5.map fun g => ⟨g, 0, none⟩) lk cp5)).setCell ⟨bf, 1, none⟩ (.int .i64 (f.safe : Int))) := ((Keep.refl (fun i => i = bf) w3).setCell (p := ⟨bf, 0, none⟩) rfl _).setCell (p := ⟨bf, 1, none⟩) rfl _
          have hZs : bf < Z.heap.size := (Array.getElem?_eq_some_iff.1 hfil).1
          have hown6 := own_keep hown5 hk4 (fun g hg e => by have := (hown5.lt g hg).1; omega)
          have hbe4 : Below wr.heap.size wr ((w3.setCell ⟨bf, 0, none⟩ (.slice (a5.map fun g => ⟨g, 0, none⟩) lk cp5)).setCell ⟨bf, 1, none⟩ (.int .i64 (f.safe : Int))) := (hbe3.setCell (p := ⟨bf, 0, none⟩) (show wr.heap.size ≤ bf by omega) _).setCell (p := ⟨bf, 1, none⟩) (show wr.heap.size ≤ bf by omega) _
          have hd0 := cell_of_block rb2 0
          have hd1 := cell_of_block rb2 1
          simp at hd0 hd1
          clear hown5 hfil3 e0 e1 z0 z1 rb1 rb2 f0 f1 hcut hb3
          generalize (w3.setCell ⟨bf, 0, none⟩ (.slice (a5.map fun g => ⟨g, 0, none⟩) lk cp5)).setCell ⟨bf, 1, none⟩ (.int .i64 (f.safe : Int)) = V at *
          have hDV := hD.below hbe4
          have hoL : ((m n).getD fv0).2.1 = ln := by rw [hm.out]; rfl
          have hPt := put_any d bm _ _ m n (by omega) hfl' a5 lk cp5 lk V hDV (by simp [rawK]) (by simp [rawK]; omega) (by omega) (by rw [hoL]; omega)
          rw [hoL] at hPt
          obtain ⟨A5, hA5⟩ : ∃ A : Option Addr, (a5.map fun g => (⟨g, 0, none⟩ : Addr)) = A := ⟨_, rfl⟩
          rw [hA5] at hPt hd0
          have hlen5 := fun w => len_slice A5 lk cp5 29 3 w Tryz.underlying29
          clear hoL hwr
          go_wp2_with (first
            | (go_at_call 52; refine hPt.mono ?_; rintro e w7 ⟨rfl, hD7, hk7⟩))
          have hff : restF f (0) = ⟨f.b.take lk, lk⟩ := by rw [(rest_nil f (by rw [HLN.out]; exact hsf)).1, HLK.out]
          have hrst : restL ((n, f) :: post) ([]) = (n, ⟨f.b.take lk, lk⟩) :: restL post [] := by
            conv => lhs; unfold restL
            rw [if_neg hne, ← hff]
            rfl
          have hpm := put_mid (g := ⟨f.b.take lk, lk⟩) hg.rise
          have hlkn : (f.b.take lk).length = lk := by rw [List.length_take, HLN.out]; omega
          have hraw : rawK { k with fs := dn ++ (n, ⟨f.b.take lk, lk⟩) :: post } = { rawK { k with fs := dn ++ (n, f) :: post } with used := (rawK { k with fs := dn ++ (n, f) :: post }).used + ((lk : Int) - (ln : Int)) } := by
            unfold rawK
            congr 1
            show ((used (dn ++ (n, (⟨f.b.take lk, lk⟩ : Fle)) :: post) : Nat) : Int) = ((used (dn ++ (n, f) :: post) : Nat) : Int) + ((lk : Int) - (ln : Int))
            rw [used_app, used_app]
            show ((used dn + ((f.b.take lk).length + used post) : Nat) : Int) = ((used dn + (f.b.length + used post) : Nat) : Int) + ((lk : Int) - (ln : Int))
            rw [hlkn, HLN.out]
            omega
          rw [← hraw] at hD7
          have hg1 : ({ k with fs := dn ++ (n, ⟨f.b.take lk, lk⟩) :: post } : Dk).Good := by
            have h := good_put (f := ⟨f.b.take lk, lk⟩) hg hnm (by rw [hlkn]; exact Nat.le_refl _) (hbd.take lk) (by
              show used (putL (dn ++ (n, f) :: post) n ⟨f.b.take lk, lk⟩) ≤ k.room
              rw [hpm, used_app]
              have h2 := hg.used
              simp only [used_app] at h2
              have h3 : used ((n, f) :: post) = f.b.length + used post := rfl
              have h4 : used ((n, (⟨f.b.take lk, lk⟩ : Fle)) :: post) = (f.b.take lk).length + used post := rfl
              rw [h4, hlkn]
              rw [h3, HLN.out] at h2
              omega)
            have e : putL ({ k with fs := dn ++ (n, f) :: post } : Dk).fs n ⟨f.b.take lk, lk⟩ = dn ++ (n, ⟨f.b.take lk, lk⟩) :: post := hpm
            rw [e] at h
            exact h
          have hDp : Dp wr Fi d { k with fs := dn ++ (n, ⟨f.b.take lk, lk⟩) :: post } w7 := by
            refine DiskAt.put (k := { k with fs := dn ++ (n, f) :: post }) (S := fun _ => False) (c := (a5, lk, cp5, (lk : Int))) (f := ⟨f.b.take lk, lk⟩) hbm ht ha fd lt hD.blk hD.map (Keep.ofBelow hbe4) (fun i hi => hi.elim) hk7 hD7 hpm.symm hg.rise hg1 rfl hlkn.symm ?_ (fun g hg => ?_)
            · show w7.ownsRow 0 5 1 (slv (a5, lk, cp5, (lk : Int))) (f.b.take lk).length (bc (f.b.take lk))
              rw [hlkn]
              refine own_weak (own_keep hown6 hk7 (fun g hg e => ?_)) (Nat.zero_le _)
              have h1 := (hown6.lt g hg).1
              have h2 := hD.lt
              have h3 := hD.map.lt
              omega
            · have hg' : a5 = some g := hg
              have h1 := hown6.lt g (by rw [hob5]; exact hg')
              have hgn : wr.heap.size ≤ g := by have := hbe.size; omega
              exact ⟨Or.inr ⟨hgn, by have := hk7.size; omega⟩, fun t e _ he => row_new (k := { k with fs := dn ++ (n, f) :: post }) ht lt hgn t e he⟩
          obtain ⟨F7, hDk7, hk8, hF8⟩ := hDp
          have HI7 : True := trivial
          refine ⟨⟨i + 1, dn ++ [(n, ⟨f.b.take lk, lk⟩)], post, [], by go_num, by simp [hdn], ?_, ?_, ?_, ?_, ?_⟩, ?_⟩
          · exact ⟨_, _, rfl, HI2, HI3, fun h => absurd rfl h⟩
          · exact fun h => absurd rfl h
          · show (dn ++ [(n, (⟨f.b.take lk, lk⟩ : Fle))]) ++ restL post [] = _
            rw [← HR.out, hrst, List.append_assoc]
            rfl
          · show List.map Prod.fst _ = _
            rw [← HNm.out]; simp
          · rw [List.append_assoc]
            exact Dp.next hki hFi ⟨F7, hDk7, hk8, hF8⟩
          · simp [intOf]; omega
        | cons z zs =>
          obtain ⟨ka, kc, rfl, HI2, HI3, HI4⟩ := HI
          obtain ⟨off, rfl, hkc⟩ := HI4 (by simp)
          have hz := hkc 0 (by simp)
          simp only [Nat.add_zero, List.getD_cons_zero] at hz
          simp only [List.length_cons] at HI2
          obtain ⟨kq, hrf, hkq⟩ : ∃ kq : Nat, restF f z = ⟨f.b.take (f.safe + kq), f.safe + kq⟩ ∧ kq = ((max z 0) % (((f.b.length - f.safe : Nat) : Int) + 1)).toNat := ⟨_, rfl, rfl⟩
          have hkq2 : (max z 0) % (((ln : Int) - (f.safe : Int)) + 1) = (kq : Int) ∧ f.safe + kq ≤ ln := by
            rw [HLN.out] at hkq
            have e1 : ((ln - f.safe : Nat) : Int) = (ln : Int) - (f.safe : Int) := by omega
            rw [e1] at hkq
            have h1 := Int.emod_nonneg (max z 0) (show ((ln : Int) - (f.safe : Int)) + 1 ≠ 0 by omega)
            have h2 := Int.emod_lt_of_pos (max z 0) (show 0 < ((ln : Int) - (f.safe : Int)) + 1 by omega)
            omega
          obtain ⟨hkq3, hkq4⟩ := hkq2
          have HRF : Hid (restF f z = ⟨f.b.take (f.safe + kq), f.safe + kq⟩) := hrf
          clear hkq hrf
          have hzs : zs.length + 1 ≤ kc := HI2
          have hmx := fun (w : World) (ty : TypeId) => max_int z 0 ty w
          have hz' := fun (o : Obj) => ((Keep.refl (fun _ => False) wr).alloc o).cell hz (fun h => h)
          have hwl2 : IntKind.i64.wrap ((ln : Int) - (f.safe : Int) + 1) = (ln : Int) - (f.safe : Int) + 1 := by rw [IntKind.wrap_i64]; omega
          by_cases hkc1 : kc = 1
          · have hzs0 : zs.length = 0 := by omega
            have hzn : zs = [] := List.eq_nil_of_length_eq_zero hzs0
            subst hzn
            subst hkc1
            have hIB : IRd wr bk (.slice (some ⟨bk, off, none⟩) 0 0) [] := ⟨_, _, rfl, Nat.le_refl _, by omega, fun h => absurd rfl h⟩
            go_upto_region 10 with (first
              | (at_lookup; refine wp_look1 rfl _ _ rfl bm _ m rfl hD.map n hmax rfl _ _ hfo ?_))
            rw [hkq3]
            clear hkq3 hmx hwl2
            have hbe : Below wr.heap.size wr (wr.alloc (.cells #[.slice A ln cp, .int .i64 (f.safe : Int)] 106)) := (Below.refl _ _).alloc (Nat.le_refl _) _
            have hfil := alloc_at wr (.cells #[.slice A ln cp, .int .i64 (f.safe : Int)] 106)
            obtain ⟨bf, hbf⟩ : ∃ bf, wr.heap.size = bf := ⟨_, rfl⟩
            rw [hbf] at hfil ⊢
            generalize wr.alloc (.cells #[.slice A ln cp, .int .i64 (f.safe : Int)] 106) = Z at *
            have f0 := cell_of_block hfil 0
            have f1 := cell_of_block hfil 1
            simp at f0 f1
            have hRZ : Rd Z A ln cp f.b := hRr.carry (Nat.le_refl _) hbe
            have hcut := fcut_any A ln cp f.b f.safe (f.safe + kq) Z hRZ (by omega) (by omega)
            have hmn : min f.safe (f.safe + kq) = f.safe := by omega
            rw [hmn] at hcut
            clear hmn
            obtain ⟨lk, HLK⟩ : ∃ lk, Hid (f.safe + kq = lk) := ⟨_, rfl⟩
            have hwr : (f.safe : Int) + (kq : Int) = (lk : Int) := by have := HLK.out; omega
            rw [HLK.out] at hcut
            have hlkl : lk ≤ ln := by have := HLK.out; omega
            clear hfo hRZ
            go_upto_region 11 with (first
              | (go_at_call 70; refine hcut.mono ?_; rintro e w3 ⟨a5, cp5, rfl, hown5, hb3⟩; have hfil3 := box_below hfil hb3; have e0 := cell_of_block hfil3 0; have z0 := unfrozen_of_block hfil3 0; have rb1 := block_setCell (i := 0) hfil3 (.slice (a5.map fun g => ⟨g, 0, none⟩) lk cp5); have e1 := cell_of_block rb1 1; have z1 := unfrozen_of_block rb1 1; have rb2 := block_setCell (i := 1) rb1 (.int .i64 (f.safe : Int)); simp at e0 e1))
            have hob5 : (Value.slice (a5.map fun g => (⟨g, 0, none⟩ : Addr)) lk cp5).ownBlock = a5 := slv_own (a5, lk, cp5, 0)
            have hbe3 : Below wr.heap.size wr w3 := hbe.trans (hb3.mono hbe.size)
            have hk4 : Keep (fun i => i = bf) w3 ((w3.setCell ⟨bf, 0, none⟩ (.slice (a5.map fun g => ⟨g, 0, none⟩) lk cp5)).setCell ⟨bf, 1, none⟩ (.int .i64 (f.safe : Int))) := ((Keep.refl (fun i => i = bf) w3).setCell (p := ⟨bf, 0, none⟩) rfl _).setCell (p := ⟨bf, 1, none⟩) rfl _
            have hZs : bf < Z.heap.size := (Array.getElem?_eq_some_iff.1 hfil).1
            have hown6 := own_keep hown5 hk4 (fun g hg e => by have := (hown5.lt g hg).1; omega)
            have hbe4 : Below wr.heap.size wr ((w3.setCell ⟨bf, 0, none⟩ (.slice (a5.map fun g => ⟨g, 0, none⟩) lk cp5)).setCell ⟨bf, 1, none⟩ (.int .i64 (f.safe : Int))) := (hbe3.setCell (p := ⟨bf, 0, none⟩) (show wr.heap.size ≤ bf by omega) _).setCell (p := ⟨bf, 1, none⟩) (show wr.heap.size ≤ bf by omega) _
            have hd0 := cell_of_block rb2 0
            have hd1 := cell_of_block rb2 1
            simp at hd0 hd1
            clear hown5 hfil3 e0 e1 z0 z1 rb1 rb2 f0 f1 hcut hb3
            generalize (w3.setCell ⟨bf, 0, none⟩ (.slice (a5.map fun g => ⟨g, 0, none⟩) lk cp5)).setCell ⟨bf, 1, none⟩ (.int .i64 (f.safe : Int)) = V at *
            have hDV := hD.below hbe4
            have hoL : ((m n).getD fv0).2.1 = ln := by rw [hm.out]; rfl
            have hPt := put_any d bm _ _ m n (by omega) hfl' a5 lk cp5 lk V hDV (by simp [rawK]) (by simp [rawK]; omega) (by omega) (by rw [hoL]; omega)
            rw [hoL] at hPt
            obtain ⟨A5, hA5⟩ : ∃ A : Option Addr, (a5.map fun g => (⟨g, 0, none⟩ : Addr)) = A := ⟨_, rfl⟩
            rw [hA5] at hPt hd0
            have hlen5 := fun w => len_slice A5 lk cp5 29 3 w Tryz.underlying29
            clear hoL hwr
            go_wp2_with (first
              | (go_at_call 52; refine hPt.mono ?_; rintro e w7 ⟨rfl, hD7, hk7⟩))
            have hff : restF f (z) = ⟨f.b.take lk, lk⟩ := by rw [HRF.out, HLK.out]
            have hrst : restL ((n, f) :: post) (z :: ([] : List Int)) = (n, ⟨f.b.take lk, lk⟩) :: restL post ([] : List Int) := by
              conv => lhs; unfold restL
              rw [if_neg hne, ← hff]
              rfl
            have hpm := put_mid (g := ⟨f.b.take lk, lk⟩) hg.rise
            have hlkn : (f.b.take lk).length = lk := by rw [List.length_take, HLN.out]; omega
            have hraw : rawK { k with fs := dn ++ (n, ⟨f.b.take lk, lk⟩) :: post } = { rawK { k with fs := dn ++ (n, f) :: post } with used := (rawK { k with fs := dn ++ (n, f) :: post }).used + ((lk : Int) - (ln : Int)) } := by
              unfold rawK
              congr 1
              show ((used (dn ++ (n, (⟨f.b.take lk, lk⟩ : Fle)) :: post) : Nat) : Int) = ((used (dn ++ (n, f) :: post) : Nat) : Int) + ((lk : Int) - (ln : Int))
              rw [used_app, used_app]
              show ((used dn + ((f.b.take lk).length + used post) : Nat) : Int) = ((used dn + (f.b.length + used post) : Nat) : Int) + ((lk : Int) - (ln : Int))
              rw [hlkn, HLN.out]
              omega
            rw [← hraw] at hD7
            have hg1 : ({ k with fs := dn ++ (n, ⟨f.b.take lk, lk⟩) :: post } : Dk).Good := by
              have h := good_put (f := ⟨f.b.take lk, lk⟩) hg hnm (by rw [hlkn]; exact Nat.le_refl _) (hbd.take lk) (by
                show used (putL (dn ++ (n, f) :: post) n ⟨f.b.take lk, lk⟩) ≤ k.room
                rw [hpm, used_app]
                have h2 := hg.used
                simp only [used_app] at h2
                have h3 : used ((n, f) :: post) = f.b.length + used post := rfl
                have h4 : used ((n, (⟨f.b.take lk, lk⟩ : Fle)) :: post) = (f.b.take lk).length + used post := rfl
                rw [h4, hlkn]
                rw [h3, HLN.out] at h2
                omega)
              have e : putL ({ k with fs := dn ++ (n, f) :: post } : Dk).fs n ⟨f.b.take lk, lk⟩ = dn ++ (n, ⟨f.b.take lk, lk⟩) :: post := hpm
              rw [e] at h
              exact h
            have hDp : Dp wr Fi d { k with fs := dn ++ (n, ⟨f.b.take lk, lk⟩) :: post } w7 := by
              refine DiskAt.put (k := { k with fs := dn ++ (n, f) :: post }) (S := fun _ => False) (c := (a5, lk, cp5, (lk : Int))) (f := ⟨f.b.take lk, lk⟩) hbm ht ha fd lt hD.blk hD.map (Keep.ofBelow hbe4) (fun i hi => hi.elim) hk7 hD7 hpm.symm hg.rise hg1 rfl hlkn.symm ?_ (fun g hg => ?_)
              · show w7.ownsRow 0 5 1 (slv (a5, lk, cp5, (lk : Int))) (f.b.take lk).length (bc (f.b.take lk))
                rw [hlkn]
                refine own_weak (own_keep hown6 hk7 (fun g hg e => ?_)) (Nat.zero_le _)
                have h1 := (hown6.lt g hg).1
                have h2 := hD.lt
                have h3 := hD.map.lt
                omega
              · have hg' : a5 = some g := hg
                have h1 := hown6.lt g (by rw [hob5]; exact hg')
                have hgn : wr.heap.size ≤ g := by have := hbe.size; omega
                exact ⟨Or.inr ⟨hgn, by have := hk7.size; omega⟩, fun t e _ he => row_new (k := { k with fs := dn ++ (n, f) :: post }) ht lt hgn t e he⟩
            obtain ⟨F7, hDk7, hk8, hF8⟩ := hDp
            have HI7 : ([] : List Int) ≠ [] → ¬ Fi bk := fun hz h => by
              rcases hFi bk h with h | h
              · exact hbk (HKp.out (by simp)) h
              · have := hbkl (HKp.out (by simp)); have := hb1.size; omega
            refine ⟨⟨i + 1, dn ++ [(n, ⟨f.b.take lk, lk⟩)], post, ([] : List Int), by go_num, by simp [hdn], ?_, ?_, ?_, ?_, ?_⟩, ?_⟩
            · exact hIB.keep hk8 HI7
            · exact fun h => HKp.out (by simp)
            · show (dn ++ [(n, (⟨f.b.take lk, lk⟩ : Fle))]) ++ restL post ([] : List Int) = _
              rw [← HR.out, hrst, List.append_assoc]
              rfl
            · show List.map Prod.fst _ = _
              rw [← HNm.out]; simp
            · rw [List.append_assoc]
              exact Dp.next hki hFi ⟨F7, hDk7, hk8, hF8⟩
            · simp [intOf]; omega
          · have hIC : IRd wr bk (.slice (some ⟨bk, off + 1, none⟩) zs.length (kc - 1)) zs := ⟨_, _, rfl, by omega, by omega, fun _ => ⟨off + 1, rfl, fun j hj => by
              have := hkc (j + 1) (by simp; omega)
              rw [List.getD_cons_succ] at this
              rw [← this]
              congr 2
              omega⟩⟩
            have hkc2 : (1 : Int) ≤ (kc : Int) := by omega
            have hkc3 : ¬ kc = 1 := hkc1
            go_upto_region 10 with (first
              | (at_lookup; refine wp_look1 rfl _ _ rfl bm _ m rfl hD.map n hmax rfl _ _ hfo ?_))
            rw [hkq3]
            clear hkq3 hmx hwl2
            have hbe : Below wr.heap.size wr (wr.alloc (.cells #[.slice A ln cp, .int .i64 (f.safe : Int)] 106)) := (Below.refl _ _).alloc (Nat.le_refl _) _
            have hfil := alloc_at wr (.cells #[.slice A ln cp, .int .i64 (f.safe : Int)] 106)
            obtain ⟨bf, hbf⟩ : ∃ bf, wr.heap.size = bf := ⟨_, rfl⟩
            rw [hbf] at hfil ⊢
            generalize wr.alloc (.cells #[.slice A ln cp, .int .i64 (f.safe : Int)] 106) = Z at *
            have f0 := cell_of_block hfil 0
            have f1 := cell_of_block hfil 1
            simp at f0 f1
            have hRZ : Rd Z A ln cp f.b := hRr.carry (Nat.le_refl _) hbe
            have hcut := fcut_any A ln cp f.b f.safe (f.safe + kq) Z hRZ (by omega) (by omega)
            have hmn : min f.safe (f.safe + kq) = f.safe := by omega
            rw [hmn] at hcut
            clear hmn
            obtain ⟨lk, HLK⟩ : ∃ lk, Hid (f.safe + kq = lk) := ⟨_, rfl⟩
            have hwr : (f.safe : Int) + (kq : Int) = (lk : Int) := by have := HLK.out; omega
            rw [HLK.out] at hcut
            have hlkl : lk ≤ ln := by have := HLK.out; omega
            clear hfo hRZ
            go_upto_region 11 with (first
              | (go_at_call 70; refine hcut.mono ?_; rintro e w3 ⟨a5, cp5, rfl, hown5, hb3⟩; have hfil3 := box_below hfil hb3; have e0 := cell_of_block hfil3 0; have z0 := unfrozen_of_block hfil3 0; have rb1 := block_setCell (i := 0) hfil3 (.slice (a5.map fun g => ⟨g, 0, none⟩) lk cp5); have e1 := cell_of_block rb1 1; have z1 := unfrozen_of_block rb1 1; have rb2 := block_setCell (i := 1) rb1 (.int .i64 (f.safe : Int)); simp at e0 e1))
            have hob5 : (Value.slice (a5.map fun g => (⟨g, 0, none⟩ : Addr)) lk cp5).ownBlock = a5 := slv_own (a5, lk, cp5, 0)
            have hbe3 : Below wr.heap.size wr w3 := hbe.trans (hb3.mono hbe.size)
            have hk4 : Keep (fun i => i = bf) w3 ((w3.setCell ⟨bf, 0, none⟩ (.slice (a5.map fun g => ⟨g, 0, none⟩) lk cp5)).setCell ⟨bf, 1, none⟩ (.int .i64 (f.safe : Int))) := ((Keep.refl (fun i => i = bf) w3).setCell (p := ⟨bf, 0, none⟩) rfl _).setCell (p := ⟨bf, 1, none⟩) rfl _
            have hZs : bf < Z.heap.size := (Array.getElem?_eq_some_iff.1 hfil).1
            have hown6 := own_keep hown5 hk4 (fun g hg e => by have := (hown5.lt g hg).1; omega)
            have hbe4 : Below wr.heap.size wr ((w3.setCell ⟨bf, 0, none⟩ (.slice (a5.map fun g => ⟨g, 0, none⟩) lk cp5)).setCell ⟨bf, 1, none⟩ (.int .i64 (f.safe : Int))) := (hbe3.setCell (p := ⟨bf, 0, none⟩) (show wr.heap.size ≤ bf by omega) _).setCell (p := ⟨bf, 1, none⟩) (show wr.heap.size ≤ bf by omega) _
            have hd0 := cell_of_block rb2 0
            have hd1 := cell_of_block rb2 1
            simp at hd0 hd1
            clear hown5 hfil3 e0 e1 z0 z1 rb1 rb2 f0 f1 hcut hb3
            generalize (w3.setCell ⟨bf, 0, none⟩ (.slice (a5.map fun g => ⟨g, 0, none⟩) lk cp5)).setCell ⟨bf, 1, none⟩ (.int .i64 (f.safe : Int)) = V at *
            have hDV := hD.below hbe4
            have hoL : ((m n).getD fv0).2.1 = ln := by rw [hm.out]; rfl
            have hPt := put_any d bm _ _ m n (by omega) hfl' a5 lk cp5 lk V hDV (by simp [rawK]) (by simp [rawK]; omega) (by omega) (by rw [hoL]; omega)
            rw [hoL] at hPt
            obtain ⟨A5, hA5⟩ : ∃ A : Option Addr, (a5.map fun g => (⟨g, 0, none⟩ : Addr)) = A := ⟨_, rfl⟩
            rw [hA5] at hPt hd0
            have hlen5 := fun w => len_slice A5 lk cp5 29 3 w Tryz.underlying29
            clear hoL hwr
            go_wp2_with (first
              | (go_at_call 52; refine hPt.mono ?_; rintro e w7 ⟨rfl, hD7, hk7⟩))
            have hff : restF f (z) = ⟨f.b.take lk, lk⟩ := by rw [HRF.out, HLK.out]
            have hrst : restL ((n, f) :: post) (z :: zs) = (n, ⟨f.b.take lk, lk⟩) :: restL post zs := by
              conv => lhs; unfold restL
              rw [if_neg hne, ← hff]
              rfl
            have hpm := put_mid (g := ⟨f.b.take lk, lk⟩) hg.rise
            have hlkn : (f.b.take lk).length = lk := by rw [List.length_take, HLN.out]; omega
            have hraw : rawK { k with fs := dn ++ (n, ⟨f.b.take lk, lk⟩) :: post } = { rawK { k with fs := dn ++ (n, f) :: post } with used := (rawK { k with fs := dn ++ (n, f) :: post }).used + ((lk : Int) - (ln : Int)) } := by
              unfold rawK
              congr 1
              show ((used (dn ++ (n, (⟨f.b.take lk, lk⟩ : Fle)) :: post) : Nat) : Int) = ((used (dn ++ (n, f) :: post) : Nat) : Int) + ((lk : Int) - (ln : Int))
              rw [used_app, used_app]
              show ((used dn + ((f.b.take lk).length + used post) : Nat) : Int) = ((used dn + (f.b.length + used post) : Nat) : Int) + ((lk : Int) - (ln : Int))
              rw [hlkn, HLN.out]
              omega
            rw [← hraw] at hD7
            have hg1 : ({ k with fs := dn ++ (n, ⟨f.b.take lk, lk⟩) :: post } : Dk).Good := by
              have h := good_put (f := ⟨f.b.take lk, lk⟩) hg hnm (by rw [hlkn]; exact Nat.le_refl _) (hbd.take lk) (by
                show used (putL (dn ++ (n, f) :: post) n ⟨f.b.take lk, lk⟩) ≤ k.room
                rw [hpm, used_app]
                have h2 := hg.used
                simp only [used_app] at h2
                have h3 : used ((n, f) :: post) = f.b.length + used post := rfl
                have h4 : used ((n, (⟨f.b.take lk, lk⟩ : Fle)) :: post) = (f.b.take lk).length + used post := rfl
                rw [h4, hlkn]
                rw [h3, HLN.out] at h2
                omega)
              have e : putL ({ k with fs := dn ++ (n, f) :: post } : Dk).fs n ⟨f.b.take lk, lk⟩ = dn ++ (n, ⟨f.b.take lk, lk⟩) :: post := hpm
              rw [e] at h
              exact h
            have hDp : Dp wr Fi d { k with fs := dn ++ (n, ⟨f.b.take lk, lk⟩) :: post } w7 := by
              refine DiskAt.put (k := { k with fs := dn ++ (n, f) :: post }) (S := fun _ => False) (c := (a5, lk, cp5, (lk : Int))) (f := ⟨f.b.take lk, lk⟩) hbm ht ha fd lt hD.blk hD.map (Keep.ofBelow hbe4) (fun i hi => hi.elim) hk7 hD7 hpm.symm hg.rise hg1 rfl hlkn.symm ?_ (fun g hg => ?_)
              · show w7.ownsRow 0 5 1 (slv (a5, lk, cp5, (lk : Int))) (f.b.take lk).length (bc (f.b.take lk))
                rw [hlkn]
                refine own_weak (own_keep hown6 hk7 (fun g hg e => ?_)) (Nat.zero_le _)
                have h1 := (hown6.lt g hg).1
                have h2 := hD.lt
                have h3 := hD.map.lt
                omega
              · have hg' : a5 = some g := hg
                have h1 := hown6.lt g (by rw [hob5]; exact hg')
                have hgn : wr.heap.size ≤ g := by have := hbe.size; omega
                exact ⟨Or.inr ⟨hgn, by have := hk7.size; omega⟩, fun t e _ he => row_new (k := { k with fs := dn ++ (n, f) :: post }) ht lt hgn t e he⟩
            obtain ⟨F7, hDk7, hk8, hF8⟩ := hDp
            have HI7 : zs ≠ [] → ¬ Fi bk := fun hz h => by
              rcases hFi bk h with h | h
              · exact hbk (HKp.out (by simp)) h
              · have := hbkl (HKp.out (by simp)); have := hb1.size; omega
            refine ⟨⟨i + 1, dn ++ [(n, ⟨f.b.take lk, lk⟩)], post, zs, by go_num, by simp [hdn], ?_, ?_, ?_, ?_, ?_⟩, ?_⟩
            · exact hIC.keep hk8 HI7
            · exact fun h => HKp.out (by simp)
            · show (dn ++ [(n, (⟨f.b.take lk, lk⟩ : Fle))]) ++ restL post zs = _
              rw [← HR.out, hrst, List.append_assoc]
              rfl
            · show List.map Prod.fst _ = _
              rw [← HNm.out]; simp
            · rw [List.append_assoc]
              exact Dp.next hki hFi ⟨F7, hDk7, hk8, hF8⟩
            · simp [intOf]; omega

end Go.Proofs.YtikkieaokfailaaGreatDoor

/- seglog's settle and lay: at the log's own chain of segments, or at another one. -/
namespace Go.Proofs.YtikkieaokfailaaGreatDoor
open Go.RowKit Go.Joins

def chs (c : Ch) : Array Value := #[.int .u64 (c.g : Int), .int .i64 (c.cnt : Int), .int .i64 (c.size : Int), .bool c.loose]
/-- A log, and a chain of segments at cell 'off' of block b: the log's own (c0 is not looked at then), or another one. -/
structure LC (w : World) (F : Nat → Prop) (lb d most : Nat) (v : Value) (dn : Bool) (k : Dk) (b off : Nat) (c0 c : Ch) : Prop where
  L : LD w F lb d most v (if b = lb then c else c0) dn k
  o : b = lb → off = 3
  n : b ≠ lb → off = 0 ∧ ¬ F b ∧ w.heap[b]? = some (.cells (chs c) 117 (0, 0))
section
variable {w w' : World} {F : Nat → Prop} {lb d most : Nat} {v : Value} {dn : Bool} {k : Dk} {b off : Nat} {c0 c : Ch}
theorem LC.nfb (h : LC w F lb d most v dn k b off c0 c) : ¬ F b := by
  by_cases e : b = lb
  · rw [e]; exact h.L.nf
  · exact (h.n e).2.1
theorem LC.ltb (h : LC w F lb d most v dn k b off c0 c) : b < w.heap.size := by
  by_cases e : b = lb
  · rw [e]; exact h.L.lt
  · exact (Array.getElem?_eq_some_iff.1 (h.n e).2.2).1
theorem LC.below (h : LC w F lb d most v dn k b off c0 c) (hb : Below w.heap.size w w') : LC w' F lb d most v dn k b off c0 c :=
  ⟨h.L.below hb, h.o, fun e => ⟨(h.n e).1, (h.n e).2.1, box_below (h.n e).2.2 hb⟩⟩
theorem LC.keep {S : Nat → Prop} (h : LC w F lb d most v dn k b off c0 c) (hk : Keep S w w') (hF : ∀ i, F i → ¬ S i) (hl : ¬ S lb) (hb : ¬ S b) : LC w' F lb d most v dn k b off c0 c :=
  ⟨h.L.keep hk hF hl, h.o, fun e => ⟨(h.n e).1, (h.n e).2.1, box_keep (h.n e).2.2 hk hb⟩⟩
theorem LC.cell (h : LC w F lb d most v dn k b off c0 c) (j : Nat) (hj : j < 4) : w.cell? ⟨b, off + j, none⟩ = (chs c)[j]? := by
  by_cases e : b = lb
  · subst e
    have hL := h.L
    rw [if_pos rfl] at hL
    rw [h.o rfl]
    match j, hj with
    | 0, _ => exact hL.c3
    | 1, _ => exact hL.c4
    | 2, _ => exact hL.c5
    | 3, _ => exact hL.c6
  · rw [(h.n e).1, cell_of_block (h.n e).2.2, Nat.zero_add]
theorem LC.fz (h : LC w F lb d most v dn k b off c0 c) (j : Nat) : w.frozen? ⟨b, j, none⟩ = false := by
  by_cases e : b = lb
  · rw [e]; exact h.L.fz j
  · exact unfrozen_of_block (h.n e).2.2 j
theorem LC.set (h : LC w F lb d most v dn k b off c0 c) (j : Nat) (u : Value) {c' : Ch} (e1 : (chs c).setIfInBounds j u = chs c') (e2 : (lcs d most v c dn).setIfInBounds (3 + j) u = lcs d most v c' dn) : LC (w.setCell ⟨b, off + j, none⟩ u) F lb d most v dn k b off c0 c' := by
  by_cases e : b = lb
  · subst e
    have hL := h.L
    rw [if_pos rfl] at hL
    refine ⟨?_, h.o, fun e => absurd rfl e⟩
    rw [if_pos rfl, h.o rfl]
    exact hL.set (3 + j) u e2
  · have hL := h.L
    rw [if_neg e] at hL
    have hk : Keep (fun i => i = b) w (w.setCell ⟨b, off + j, none⟩ u) := (Keep.refl (fun i => i = b) w).setCell (p := ⟨b, off + j, none⟩) rfl u
    refine ⟨?_, h.o, fun _ => ⟨(h.n e).1, (h.n e).2.1, ?_⟩⟩
    · rw [if_neg e]
      exact hL.keep hk (fun i hi e2 => h.nfb (by rw [← e2]; exact hi)) (fun e2 => e e2.symm)
    · rw [(h.n e).1, Nat.zero_add, ← e1]
      exact block_setCell (h.n e).2.2 u
theorem LC.setK (_ : LC w F lb d most v dn k b off c0 c) (j : Nat) (u : Value) : Keep (fun i => F i ∨ i = lb ∨ i = b) w (w.setCell ⟨b, j, none⟩ u) := (Keep.refl _ w).setCell (p := ⟨b, j, none⟩) (Or.inr (Or.inr rfl)) u
end
def Lcp (w : World) (F : Nat → Prop) (lb d most : Nat) (v : Value) (dn : Bool) (k : Dk) (b off : Nat) (c0 c : Ch) (w' : World) : Prop := ∃ F', LC w' F' lb d most v dn k b off c0 c ∧ Keep (fun i => F i ∨ i = lb ∨ i = b) w w' ∧ (∀ i, F' i → F i ∨ w.heap.size ≤ i)
theorem Lcp.refl {w : World} {F : Nat → Prop} {lb d most : Nat} {v : Value} {dn : Bool} {k : Dk} {b off : Nat} {c0 c : Ch} (h : LC w F lb d most v dn k b off c0 c) : Lcp w F lb d most v dn k b off c0 c w := ⟨F, h, Keep.refl _ _, fun _ h => Or.inl h⟩
theorem Lcp.next {w w1 w2 : World} {F F1 : Nat → Prop} {lb d most : Nat} {v : Value} {dn : Bool} {k : Dk} {b off : Nat} {c0 c : Ch} (kp : Keep (fun i => F i ∨ i = lb ∨ i = b) w w1) (e1 : ∀ i, F1 i → F i ∨ w.heap.size ≤ i) (h : Lcp w1 F1 lb d most v dn k b off c0 c w2) : Lcp w F lb d most v dn k b off c0 c w2 := by
  obtain ⟨F', h1, h2, h3⟩ := h
  refine ⟨F', h1, kp.andThen h2 (fun i hi hs => ?_), fun i hi => ?_⟩
  · rcases hs with hs | hs
    · rcases e1 i hs with h | h
      · exact Or.inl h
      · omega
    · exact Or.inr hs
  · rcases h3 i hi with h | h
    · exact e1 i h
    · exact Or.inr (Nat.le_trans kp.size h)
theorem Lcp.from {w0 w w' : World} {F : Nat → Prop} {lb d most : Nat} {v : Value} {dn : Bool} {k : Dk} {b off : Nat} {c0 c : Ch} (hb : Below w0.heap.size w0 w) (h : Lcp w F lb d most v dn k b off c0 c w') : Lcp w0 F lb d most v dn k b off c0 c w' := by
  obtain ⟨F', h1, h2, h3⟩ := h
  exact ⟨F', h1, (Keep.ofBelow hb).trans h2, fun i hi => (h3 i hi).imp id (fun h => Nat.le_trans hb.size h)⟩
/-- A step of the disk. -/
theorem LC.step {w w1 : World} {F : Nat → Prop} {lb d most : Nat} {v : Value} {dn dn' : Bool} {k k' : Dk} {b off : Nat} {c0 c : Ch} (h : LC w F lb d most v dn k b off c0 c) (hp : Lp w F lb d most v (if b = lb then c else c0) dn' k' w1) : Lcp w F lb d most v dn' k' b off c0 c w1 := by
  obtain ⟨F1, h1, h2, h3⟩ := hp
  have hlt := h.ltb
  refine ⟨F1, ⟨h1, h.o, fun e => ⟨(h.n e).1, fun hf => ?_, box_keep (h.n e).2.2 h2 (fun hs => ?_)⟩⟩, h2.mono (fun i hi => hi.elim Or.inl (fun h => Or.inr (Or.inl h))), h3⟩
  · rcases h3 b hf with h4 | h4
    · exact h.nfb h4
    · omega
  · rcases hs with hs | hs
    · exact h.nfb hs
    · exact e hs

/-- The last segment is made to last, if that is not known of it. -/
def settleL (c : Ch) (dn : Bool) (k : Dk) : Nat × Ch × Bool × Dk :=
  if c.loose then ((stp dn k (syncK k (segN c.g c.cnt))).1, (if (stp dn k (syncK k (segN c.g c.cnt))).1 = 0 then { c with loose := false } else c), (stp dn k (syncK k (segN c.g c.cnt))).2)
  else (0, c, dn, k)

set_option maxHeartbeats 1000000 in
theorem settle_any (w : World) (F : Nat → Prop) (lb d most : Nat) (v : Value) (dn : Bool) (k : Dk) (b off : Nat) (c0 c : Ch) (h : LC w F lb d most v dn k b off c0 c) (hP : Pf w F lb) (hg : c.g < 18446744073709551616) (hi : c.cnt ≤ 9223372036854775807) (hst : k.steps < 1000000) (hfl : k.fs.length < 1000000) :
    Calls Tryz.prog 68 #[.pointer (some ⟨lb, 0, none⟩), .pointer (some ⟨b, off, none⟩)] w fun e w' => Gs (settleL c dn k).1 e ∧ Lcp w F lb d most v (settleL c dn k).2.2.1 (settleL c dn k).2.2.2 b off c0 (settleL c dn k).2.1 w' := by
  have q0 : w.cell? ⟨b, off, none⟩ = some (.int .u64 (c.g : Int)) := h.cell 0 (by omega)
  have q1 : w.cell? ⟨b, off + 1, none⟩ = some (.int .i64 (c.cnt : Int)) := h.cell 1 (by omega)
  have q3 : w.cell? ⟨b, off + 3, none⟩ = some (.bool c.loose) := h.cell 3 (by omega)
  by_cases hl : c.loose = true
  · rw [hl] at q3
    have hsg := segment_any b off c.g c.cnt hg hi w hP.pw q0
    obtain ⟨s, Hs⟩ : ∃ s, Hid (segN c.g c.cnt = s) := ⟨_, rfl⟩
    have hE : settleL c dn k = ((stp dn k (syncK k s)).1, (if (stp dn k (syncK k s)).1 = 0 then { c with loose := false } else c), (stp dn k (syncK k s)).2) := by unfold settleL; rw [if_pos hl, Hs.out]
    rw [hE]
    rw [Hs.out] at hsg
    have hsy := fun w' (hb : Below w.heap.size w w') => ssync_any lb d most F v _ dn k s hst hfl w' (h.L.below hb)
    obtain ⟨P, HP⟩ : ∃ P, Hid (stp dn k (syncK k s) = P) := ⟨_, rfl⟩
    rw [HP.out]
    simp only [HP.out] at hsy
    obtain ⟨en, dn', k'⟩ := P
    dsimp only at hsy ⊢
    have hfin : ∀ w1 w2, Below w.heap.size w w1 → Lp w1 F lb d most v (if b = lb then c else c0) dn' k' w2 → Lcp w F lb d most v dn' k' b off c0 c w2 := fun w1 w2 hb hp => ((h.below hb).step hp).from hb
    clear hE
    by_cases h0 : en = 0
    · subst h0
      rw [if_pos rfl]
      go_enter Tryz.func68, Tryz.ntmps68
      go_wp2_with (first
        | (go_at_call 103; refine hsg.mono ?_; rintro e w1 ⟨rfl, hb1⟩)
        | (go_at_call 104; refine ((hsy w1 hb1).mono (fun e w' h => And.intro (h.1.elim (fun k => k.2) (fun k => absurd rfl k.1)) h.2 : ∀ e w', _ → (e = .returned (.tuple #[]) ∧ _))).mono ?_; rintro e w2 ⟨rfl, hp⟩; obtain ⟨F2, hL2, hk2, hF2⟩ := hfin w1 w2 hb1 hp; have p3 : w2.cell? ⟨b, off + 3, none⟩ = some (.bool c.loose) := hL2.cell 3 (by omega); have z3 := hL2.fz (off + 3)))
      go_end0
      exact ⟨Or.inl ⟨rfl, rfl⟩, F2, hL2.set 3 _ rfl rfl, hk2.trans ((Keep.refl _ w2).setCell (p := ⟨b, off + 3, none⟩) (Or.inr (Or.inr rfl)) _), hF2⟩
    · rw [if_neg h0]
      go_enter Tryz.func68, Tryz.ntmps68
      go_wp2_with (first
        | (go_at_call 103; refine hsg.mono ?_; rintro e w1 ⟨rfl, hb1⟩)
        | (go_at_call 104; refine ((hsy w1 hb1).mono (fun e w' h => And.intro (h.1.elim (fun k => absurd k.1 h0) (fun k => k.2)) h.2 : ∀ e w', _ → (e = .panicked (gaveS en) ∧ _))).mono ?_; rintro e w2 ⟨rfl, hp⟩))
      exact ⟨rfl, gs_no h0 rfl, hfin w1 w2 hb1 hp⟩
  · have hl' : c.loose = false := by simpa using hl
    rw [hl'] at q3
    have hE : settleL c dn k = (0, c, dn, k) := by unfold settleL; rw [if_neg hl]
    rw [hE]
    clear hE
    go_enter Tryz.func68, Tryz.ntmps68
    go_wp2
    go_end0
    exact ⟨Or.inl ⟨rfl, rfl⟩, Lcp.refl h⟩

end Go.Proofs.YtikkieaokfailaaGreatDoor
