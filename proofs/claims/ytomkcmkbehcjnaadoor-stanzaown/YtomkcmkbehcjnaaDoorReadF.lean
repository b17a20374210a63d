/- octet.Float: eight bytes, the highest first; one form of a NaN alone. -/
import Derived.Test.YtomkcmkbehcjnaaDoorUint
import Derived.Test.YtomkcmkbehcjnaaDoorPutF
import Derived.Test.YtomkcmkbehcjnaaDoorExt
namespace Go.Proofs.YtomkcmkbehcjnaaDoor
open Go.RowKit

/-- The first k bytes as one number, the highest first. -/
def fv (xs : List Int) : Nat → Nat
  | 0 => 0
  | k + 1 => fv xs k * 256 + (xs.getD k 0).toNat

theorem fv_lt {xs : List Int} (hb : Bd xs) : ∀ k, fv xs k < 256 ^ k
  | 0 => by simp [fv]
  | k + 1 => by
    have h := fv_lt hb k
    have g := hb.get k
    rw [fv, Nat.pow_succ]
    omega
theorem fv_lt8 {xs : List Int} (hb : Bd xs) {k : Nat} (hk : k ≤ 8) : fv xs k < 18446744073709551616 := by
  have e : (256 : Nat) ^ 8 = 18446744073709551616 := by decide
  rw [← e]
  exact Nat.lt_of_lt_of_le (fv_lt hb k) (Nat.pow_le_pow_right (by omega) hk)
theorem fv_lt7 {xs : List Int} (hb : Bd xs) {k : Nat} (hk : k ≤ 7) : fv xs k < 72057594037927936 := by
  have e : (256 : Nat) ^ 7 = 72057594037927936 := by decide
  rw [← e]
  exact Nat.lt_of_lt_of_le (fv_lt hb k) (Nat.pow_le_pow_right (by omega) hk)

theorem fv_div {xs : List Int} (hb : Bd xs) (k : Nat) : fv xs (k + 1) / 256 = fv xs k ∧ ((fv xs (k + 1) % 256 : Nat) : Int) = xs.getD k 0 := by
  have g := hb.get k
  rw [fv]
  constructor <;> omega

theorem or_byte {v : Nat} {z : Int} (hv : v < 72057594037927936) (h0 : 0 ≤ z) (h1 : z ≤ 255) : bits .or .u64 ((v : Int) * 256) z = ((v * 256 + z.toNat : Nat) : Int) := by
  obtain ⟨k, rfl⟩ := Int.eq_ofNat_of_zero_le h0
  have e1 : ((v : Int) * 256) = ((v * 256 : Nat) : Int) := by omega
  rw [e1, u64_or_nat _ _ (by omega) (by omega)]
  congr 1
  have e2 : v * 256 = v <<< 8 := by rw [Nat.shiftLeft_eq]
  rw [e2, ← Nat.shiftLeft_add_eq_or_of_lt (show k < 2 ^ 8 by omega)]
  omega

def NANF : Nat := 9221120237041090560
/-- Is it no form of a float? -/
def fbad (xs : List Int) : Bool := decide (xs.length < 8) || (Fl.nan (fv xs 8) && decide (fv xs 8 ≠ NANF))

set_option maxHeartbeats 1600000 in
theorem float_any (a : Option Addr) (n c : Nat) (xs : List Int) (w : World) (hR : Rd w a n c xs) (hn : n ≤ 1000000) :
    Calls Tryd.prog 76 #[.slice a n c] w fun e w' =>
      (fbad xs = true ∧ e = .returned (.tuple #[.float .f64 0, .slice none 0 0, .int .i64 2]) ∧ Ext w w') ∨
      (fbad xs = false ∧ ∃ v, e = .returned (.tuple #[.float .f64 (fv xs 8), v, .int .i64 0]) ∧ w'.ownsRow w.heap.size 5 1 v (n - 8) (bc (xs.drop 8)) ∧ Ext w w') := by
  have hl := hR.len
  have hcp := hR.cap
  have hmost : c ≤ 9223372036854775807 := hR.most
  have hfr := run_from
  by_cases h8 : (n : Int) < 8
  · have hb : fbad xs = true := by unfold fbad; rw [decide_eq_true (by omega), Bool.true_or]
    go_enter Tryd.func76, Tryd.ntmps76
    go_wp2
    go_ret3
    exact .inl ⟨hb, rfl, Ext.refl _⟩
  · obtain ⟨b, off, rfl, hcell⟩ := hR.flat (by omega)
    have HC : Hid (∀ j, j < n → w.cell? ⟨b, off + j, none⟩ = some (.int .u8 (xs.getD j 0))) := hcell
    clear hcell
    have hbd := hR.bytes
    have h8n : 8 ≤ n := by omega
    have hVlt := fv_lt8 hbd (Nat.le_refl 8)
    go_enter Tryd.func76, Tryd.ntmps76
    go_wp2
    go_loop [5, 14] (fun t i => ∃ k : Nat, k ≤ 8 ∧ i = .int .i64 k ∧ t = .int .u64 (fv xs k)) (fun _ i => 8 - (intOf i).toNat)
    case atStart => exact ⟨0, by omega, rfl, rfl⟩
    case round =>
      obtain ⟨k, hk, rfl, rfl⟩ := hrel
      by_cases hlt : k < 8
      · have hck := HC.out k (by omega)
        have hb := hbd.get k
        have hv7 := fv_lt7 hbd (show k ≤ 7 by omega)
        obtain ⟨z, hz⟩ : ∃ z, z = xs.getD k 0 := ⟨_, rfl⟩
        rw [← hz] at hck hb
        have HF : Hid (fv xs (k + 1) = fv xs k * 256 + z.toNat) := (by rw [hz]; rfl : fv xs (k + 1) = fv xs k * 256 + z.toNat)
        clear hz
        obtain ⟨hb0, hb1⟩ := hb
        have HO : Hid (bits .or .u64 ((fv xs k : Int) * 256) z = ((fv xs k * 256 + z.toNat : Nat) : Int)) := or_byte hv7 hb0 hb1
        go_wp2
        go_round
        case rel => exact ⟨k + 1, by omega, by go_num, by rw [HO.out, HF.out]⟩
        case measure => simp [intOf]; omega
      · have hk8 : k = 8 := by omega
        subst hk8
        have H8 : Hid (n ≥ 8) := h8n
        by_cases hna : Fl.nan (fv xs 8) = true
        · by_cases hnf : fv xs 8 = NANF
          · have hb : Hid (fbad xs = false) := (by unfold fbad; rw [decide_eq_false (by omega), hna, decide_eq_false (by simpa using hnf)]; rfl : fbad xs = false)
            have hne : (((fv xs 8 : Nat) : Int) != 9221120237041090560) = false := by
              simp; unfold NANF at hnf; omega
            clear hnf
            have hR8 := hR.cut 8
            rw [Option.map_some, add_flat] at hR8
            by_cases hcs : c = 8
            · subst hcs
              go_wp2_with (first | (go_at_call 77; refine (isNaN_any _ _).mono ?_; rintro e w' ⟨rfl, rfl⟩) | (go_at_call 50; refine (behind0_any _ _ _ _ _ hR.cutAll (by omega)).mono ?_; rintro e w2 ⟨rfl, hown2, hb2⟩))
              go_ret3
              have e1 : n - 8 = 0 := by omega
              have e2 : xs.drop 8 = [] := List.drop_of_length_le (by omega)
              refine .inr ⟨hb.out, _, rfl, ?_, hb2⟩
              rw [e1, e2]
              exact hown2
            · go_wp2_with (first | (go_at_call 77; refine (isNaN_any _ _).mono ?_; rintro e w' ⟨rfl, rfl⟩) | (go_at_call 50; refine (behind0_any _ _ _ _ _ hR8 (by omega)).mono ?_; rintro e w2 ⟨rfl, hown2, hb2⟩))
              go_ret3
              exact .inr ⟨hb.out, _, rfl, hown2, hb2⟩
          · have hb : Hid (fbad xs = true) := (by unfold fbad; rw [hna, decide_eq_true hnf]; simp : fbad xs = true)
            have hne : (((fv xs 8 : Nat) : Int) != 9221120237041090560) = true := by
              simp; unfold NANF at hnf; omega
            go_wp2_with (go_at_call 77; refine (isNaN_any _ _).mono ?_; rintro e w' ⟨rfl, rfl⟩)
            go_ret3
            exact .inl ⟨hb.out, rfl, Ext.refl _⟩
        · have hna' : Fl.nan (fv xs 8) = false := by simpa using hna
          have hb : Hid (fbad xs = false) := (by unfold fbad; rw [decide_eq_false (by omega), hna']; rfl : fbad xs = false)
          clear hna
          have hR8 := hR.cut 8
          rw [Option.map_some, add_flat] at hR8
          by_cases hcs : c = 8
          · subst hcs
            go_wp2_with (first | (go_at_call 77; refine (isNaN_any _ _).mono ?_; rintro e w' ⟨rfl, rfl⟩) | (go_at_call 50; refine (behind0_any _ _ _ _ _ hR.cutAll (by omega)).mono ?_; rintro e w2 ⟨rfl, hown2, hb2⟩))
            go_ret3
            have e1 : n - 8 = 0 := by omega
            have e2 : xs.drop 8 = [] := List.drop_of_length_le (by omega)
            refine .inr ⟨hb.out, _, rfl, ?_, hb2⟩
            rw [e1, e2]
            exact hown2
          · go_wp2_with (first | (go_at_call 77; refine (isNaN_any _ _).mono ?_; rintro e w' ⟨rfl, rfl⟩) | (go_at_call 50; refine (behind0_any _ _ _ _ _ hR8 (by omega)).mono ?_; rintro e w2 ⟨rfl, hown2, hb2⟩))
            go_ret3
            exact .inr ⟨hb.out, _, rfl, hown2, hb2⟩

end Go.Proofs.YtomkcmkbehcjnaaDoor
