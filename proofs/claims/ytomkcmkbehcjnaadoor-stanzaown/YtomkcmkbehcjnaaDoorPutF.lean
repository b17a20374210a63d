/- octet.floatForm and octet.PutFloat: eight bytes, the highest first. -/
import Derived.Test.YtomkcmkbehcjnaaDoorPut
import Derived.Test.YtomkcmkbehcjnaaDoorBitsB
namespace Go.Proofs.YtomkcmkbehcjnaaDoor
open Go.RowKit

/-- The j highest bytes of a word. -/
def fbl (b : Nat) : Nat → List Int
  | 0 => []
  | j + 1 => fbl b j ++ [((b / 2 ^ (8 * (7 - j)) % 256 : Nat) : Int)]

theorem fbl_len (b : Nat) : ∀ j, (fbl b j).length = j
  | 0 => rfl
  | j + 1 => by rw [fbl, List.length_append, fbl_len b j]; rfl
theorem fbl_bd (b : Nat) : ∀ j, Bd (fbl b j)
  | 0 => Bd.nil
  | j + 1 => (fbl_bd b j).append (by intro x hx; simp at hx; omega)
theorem fbl_8 (b : Nat) : fbl b 8 = [((b / 72057594037927936 % 256 : Nat) : Int), ((b / 281474976710656 % 256 : Nat) : Int), ((b / 1099511627776 % 256 : Nat) : Int), ((b / 4294967296 % 256 : Nat) : Int), ((b / 16777216 % 256 : Nat) : Int), ((b / 65536 % 256 : Nat) : Int), ((b / 256 % 256 : Nat) : Int), ((b % 256 : Nat) : Int)] := by
  simp [fbl]

theorem make8 (w : World) : (Instr.makeSlice 28 (.int .i64 8) (.int .i64 8)).run Tryd.prog w = .ok (.slice (some ⟨w.heap.size, 0, none⟩) 8 8) (w.alloc (.cells #[.int .u8 0, .int .u8 0, .int .u8 0, .int .u8 0, .int .u8 0, .int .u8 0, .int .u8 0, .int .u8 0] 5)) := by kernel_rfl

theorem own8 (w : World) (b : Nat) : (w.alloc (.cells (bc (fbl b 8)).toArray 5)).ownsRow w.heap.size 5 1 (.slice (some ⟨w.heap.size, 0, none⟩) 8 8) 8 (bc (fbl b 8)) := by
  refine ⟨by rw [bc_len, fbl_len], .inr ⟨w.heap.size, 8, (bc (fbl b 8)).toArray, rfl, Nat.le_refl _, heap_alloc_new w _, Nat.le_refl _, by unfold maxLen; omega, by simp [bc_len, fbl_len], ?_⟩⟩
  rw [List.toList_toArray, List.take_of_length_le (by rw [bc_len, fbl_len]; omega)]

set_option maxHeartbeats 3200000 in
theorem floatForm_any (x : Nat) (w : World) (hx : x < 18446744073709551616) : Calls Tryd.prog 68 #[.float .f64 x] w fun e w' =>
    e = .returned (.slice (some ⟨w.heap.size, 0, none⟩) 8 8) ∧ w' = w.alloc (.cells (bc (fbl (bitsv x) 8)).toArray 5) := by
  have hb := run_bits
  have hmk := make8
  by_cases hn : Fl.nan x = true
  · have HB : Hid (bitsv x = 9221120237041090560) := (by unfold bitsv; rw [hn]; rfl : bitsv x = 9221120237041090560)
    go_enter Tryd.func68, Tryd.ntmps68
    go_wp2_with (go_at_call 77; refine (isNaN_any _ _).mono ?_; rintro e w' ⟨rfl, rfl⟩)
    refine wp_loop_rounds 9 ?_
    repeat (rw [rounds_succ]; go_wp2)
    go_ret
    refine ⟨rfl, ?_⟩
    rw [HB.out, fbl_8]
    rfl
  · have hn' : Fl.nan x = false := by simpa using hn
    have HB : Hid (bitsv x = x) := (by unfold bitsv; rw [hn']; rfl : bitsv x = x)
    clear hn
    go_enter Tryd.func68, Tryd.ntmps68
    go_wp2_with (go_at_call 77; refine (isNaN_any _ _).mono ?_; rintro e w' ⟨rfl, rfl⟩)
    refine wp_loop_rounds 9 ?_
    repeat (rw [rounds_succ]; go_wp2)
    go_ret
    refine ⟨rfl, ?_⟩
    rw [HB.out, fbl_8]
    clear HB
    have htop : (x : Int) / 72057594037927936 % 256 = x / 72057594037927936 := by omega
    simp [bc, htop]

set_option maxHeartbeats 800000 in
theorem putFloat_any (a : Option Addr) (n c : Nat) (xs : List Int) (x : Nat) (w : World) (h : Rd w a n c xs) (hn : n ≤ 100000) (hx : x < 18446744073709551616) :
    Calls Tryd.prog 55 #[.slice a n c, .float .f64 x] w fun e w' => ∃ v,
      e = .returned v ∧ w'.ownsRow w.heap.size 5 1 v (n + 8) (bc (xs ++ fbl (bitsv x) 8)) ∧ Below w.heap.size w w' := by
  have hown := own8 w (bitsv x)
  have hb1 : Below w.heap.size w (w.alloc (.cells (bc (fbl (bitsv x) 8)).toArray 5)) := (Below.refl _ _).alloc (Nat.le_refl _) _
  obtain ⟨a1, c1, hv, hr⟩ := Rd.ofOwn hown (fbl_bd _ 8)
  cases hv
  generalize hw1 : w.alloc (.cells (bc (fbl (bitsv x) 8)).toArray 5) = w1 at *
  go_enter Tryd.func55, Tryd.ntmps55
  go_wp2_with (first
    | (go_at_call 68; refine (floatForm_any x _ (by assumption)).mono ?_; rintro e w1' ⟨rfl, rfl⟩; rw [hw1])
    | (go_at_call 50; refine (behind1_any a n c xs _ _ 8 8 (fbl (bitsv x) 8) _ (h.carry (Nat.le_refl _) (hb1.alloc hb1.size _)) (hr.carry (Nat.le_refl _) ((Below.refl _ _).alloc (Nat.le_refl _) _)) (by simp) (by omega) (by omega)).mono ?_; rintro e w2 ⟨rfl, hown2, hb2⟩))
  go_ret
  have hs1 := hb1.size
  simp only [World.size_alloc] at hown2
  exact ⟨.slice (some ⟨w1.heap.size + 1, 0, none⟩) (n + 8) (n + 8), rfl, own_weaken hown2 (by omega), (hb1.alloc hb1.size _).trans (hb2.mono (by simp; omega))⟩

end Go.Proofs.YtomkcmkbehcjnaaDoor
