/- CRC-32 on bit vectors: one bit's step, a byte's eight, a row's; sums go by xor; a step loses nothing. -/
import Derived.Test.YtikkieaokfailaaGreatDoorOwnA
namespace Go.Proofs.YtikkieaokfailaaGreatDoor
open Go.RowKit

def sb (r : BitVec 32) : BitVec 32 := (r >>> 1) ^^^ (if r.getLsbD 0 then 0xedb88320#32 else 0#32)
def sh (r : BitVec 32) : Nat → BitVec 32
  | 0 => r
  | k + 1 => sb (sh r k)
def byB (x : Int) : BitVec 32 := BitVec.ofInt 32 x
def reg (r : BitVec 32) : List Int → BitVec 32
  | [] => r
  | x :: xs => reg (sh (r ^^^ byB x) 8) xs
def more (s : BitVec 32) (xs : List Int) : BitVec 32 := ~~~ (reg (~~~ s) xs)

theorem reg_append (r : BitVec 32) (xs ys : List Int) : reg r (xs ++ ys) = reg (reg r xs) ys := by
  induction xs generalizing r with
  | nil => rfl
  | cons x xs ih => exact ih _
theorem more_append (s : BitVec 32) (xs ys : List Int) : more s (xs ++ ys) = more (more s xs) ys := by
  unfold more; rw [reg_append, BitVec.not_not]
theorem more_nil (s : BitVec 32) : more s [] = s := by unfold more reg; rw [BitVec.not_not]

theorem sb_xor (a b : BitVec 32) : sb (a ^^^ b) = sb a ^^^ sb b := by
  unfold sb
  rw [BitVec.ushiftRight_xor_distrib, BitVec.getLsbD_xor]
  cases a.getLsbD 0 <;> cases b.getLsbD 0 <;> simp
  · rw [BitVec.xor_assoc]
  · ac_rfl
  · rw [show a >>> 1 ^^^ 3988292384#32 ^^^ (b >>> 1 ^^^ 3988292384#32) = a >>> 1 ^^^ b >>> 1 ^^^ (3988292384#32 ^^^ 3988292384#32) by ac_rfl]; simp
theorem sh_xor (a b : BitVec 32) : ∀ k, sh (a ^^^ b) k = sh a k ^^^ sh b k
  | 0 => rfl
  | k + 1 => by unfold sh; rw [sh_xor a b k, sb_xor]
theorem sb_zero : sb 0#32 = 0#32 := by decide
theorem sh_zero : ∀ k, sh 0#32 k = 0#32
  | 0 => rfl
  | k + 1 => by unfold sh; rw [sh_zero k, sb_zero]
theorem sb_ne {d : BitVec 32} (h : sb d = 0#32) : d = 0#32 := by
  unfold sb at h
  cases hl : d.getLsbD 0 with
  | true =>
    rw [hl] at h
    have h31 := congrArg (fun z => z.getLsbD 31) h
    simp at h31
  | false =>
    rw [hl] at h
    simp at h
    have hn := congrArg BitVec.toNat h
    rw [BitVec.toNat_ushiftRight] at hn
    simp [Nat.shiftRight_eq_div_pow] at hn
    apply BitVec.eq_of_toNat_eq
    have : d.toNat.testBit 0 = false := hl
    rw [Nat.testBit_zero] at this
    simp at this
    simp
    omega
theorem sh_ne {d : BitVec 32} : ∀ {k}, sh d k = 0#32 → d = 0#32
  | 0, h => h
  | k + 1, h => sh_ne (k := k) (sb_ne h)

/-- What two rows of one length make of two registers: by xor. -/
def dif (d : BitVec 32) : List Int → List Int → BitVec 32
  | x :: xs, y :: ys => dif (sh (d ^^^ byB x ^^^ byB y) 8) xs ys
  | _, _ => d
theorem reg_dif (a b : BitVec 32) (xs ys : List Int) (h : xs.length = ys.length) : reg a xs ^^^ reg b ys = dif (a ^^^ b) xs ys := by
  induction xs generalizing a b ys with
  | nil => cases ys with
    | nil => rfl
    | cons y ys => cases h
  | cons x xs ih => cases ys with
    | nil => cases h
    | cons y ys =>
      have := ih (sh (a ^^^ byB x) 8) (sh (b ^^^ byB y) 8) ys (by simpa using h)
      show reg (sh (a ^^^ byB x) 8) xs ^^^ reg (sh (b ^^^ byB y) 8) ys = dif (sh (a ^^^ b ^^^ byB x ^^^ byB y) 8) xs ys
      rw [this, ← sh_xor]
      congr 2
      ac_rfl
theorem dif_same (d : BitVec 32) (xs : List Int) (h : dif d xs xs = 0#32) : d = 0#32 := by
  induction xs generalizing d with
  | nil => exact h
  | cons x xs ih =>
    have := sh_ne (ih _ h)
    rw [BitVec.xor_assoc, BitVec.xor_self, BitVec.xor_zero] at this
    exact this

/-! ### As whole numbers -/
def uw (r : BitVec 32) : Int := (r.toNat : Int)
theorem uw_bd (r : BitVec 32) : 0 ≤ uw r ∧ uw r ≤ 4294967295 := by unfold uw; have := r.isLt; omega
theorem uw_of {x : Int} (h0 : 0 ≤ x) (h1 : x ≤ 4294967295) : ∃ r, x = uw r := by
  refine ⟨BitVec.ofNat 32 x.toNat, ?_⟩
  unfold uw
  rw [BitVec.toNat_ofNat, Nat.mod_eq_of_lt (by omega)]
  omega
theorem uw_inj {a b : BitVec 32} (h : uw a = uw b) : a = b := by unfold uw at h; exact BitVec.eq_of_toNat_eq (by omega)
theorem wrap_uw (r : BitVec 32) : IntKind.u32.wrap (r.toNat : Int) = uw r := by
  have := r.isLt
  rw [IntKind.wrap_u32]; unfold uw; omega
theorem ofInt_uw (r : BitVec 32) : BitVec.ofInt 32 (uw r) = r := by
  unfold uw; rw [BitVec.ofInt_natCast, BitVec.ofNat_toNat, BitVec.setWidth_eq]
theorem xor_uw (a b : BitVec 32) : bits .xor .u32 (uw a) (uw b) = uw (a ^^^ b) := by
  show IntKind.u32.wrap ((BitVec.ofInt 32 (uw a) ^^^ BitVec.ofInt 32 (uw b)).toNat : Int) = _
  rw [ofInt_uw, ofInt_uw, wrap_uw]
theorem xor_byte (a : BitVec 32) (x : Int) : bits .xor .u32 (uw a) x = uw (a ^^^ byB x) := by
  show IntKind.u32.wrap ((BitVec.ofInt 32 (uw a) ^^^ BitVec.ofInt 32 x).toNat : Int) = _
  rw [ofInt_uw, wrap_uw]; rfl
theorem not_uw (a : BitVec 32) : bits .xor .u32 IntKind.u32.max (uw a) = uw (~~~ a) := by
  show IntKind.u32.wrap ((BitVec.ofInt 32 IntKind.u32.max ^^^ BitVec.ofInt 32 (uw a)).toNat : Int) = _
  rw [ofInt_uw, wrap_uw]
  have : BitVec.ofInt 32 IntKind.u32.max = BitVec.allOnes 32 := by decide
  rw [this, BitVec.allOnes_xor]
theorem and_uw (a : BitVec 32) : bits .and .u32 (uw a) 1 = if a.getLsbD 0 then 1 else 0 := by
  show IntKind.u32.wrap ((BitVec.ofInt 32 (uw a) &&& BitVec.ofInt 32 1).toNat : Int) = _
  rw [ofInt_uw, wrap_uw, uw, BitVec.toNat_and, show (BitVec.ofInt 32 1).toNat = 1 from by decide, Nat.and_one_is_mod]
  have hb : a.getLsbD 0 = decide (a.toNat % 2 = 1) := Nat.testBit_zero _
  rw [hb]
  by_cases h : a.toNat % 2 = 1
  · simp [h]
  · have h2 : a.toNat % 2 = 0 := by omega
    simp [h2]
theorem shr_uw (a : BitVec 32) : (uw a) / (2 : Int) = uw (a >>> (1 : Nat)) := by
  unfold uw; rw [BitVec.toNat_ushiftRight, Nat.shiftRight_eq_div_pow]; simp
theorem poly_uw (a : BitVec 32) : bits .xor .u32 (uw a) 3988292384 = uw (a ^^^ 0xedb88320#32) := xor_byte a 3988292384
end Go.Proofs.YtikkieaokfailaaGreatDoor
