/- utf8.ValidString, by the library's contract, as this proof's own word on UTF-8. -/
import Derived.Test.YtomkcmkbehcjnaaDoorValidA
import Derived.Test.YtomkcmkbehcjnaaDoorTexts
import Derived.Test.YtomkcmkbehcjnaaDoorShelf
import Derived.Lib.ValidLaws
namespace Go.Proofs.YtomkcmkbehcjnaaDoor
open Go.RowKit Go.Shelf

theorem tab_eq : ∀ c : Nat, c < 256 → 128 ≤ c → Lib.firstT c % 8 = usz (c : Int) ∧ (usz (c : Int) ≠ 1 → ((Lib.accLo (Lib.firstT c / 16) : Nat) : Int) = ulo (c : Int) ∧ ((Lib.accHi (Lib.firstT c / 16) : Nat) : Int) = uhi (c : Int)) := by decide +kernel

theorem getN (l : List UInt8) (j : Nat) : (l.map fun b => (b.toNat : Int)).getD j 0 = ((l.getD j 0).toNat : Int) := by
  rw [List.getD, List.getElem?_map, List.getD]
  cases l[j]? <;> simp

theorem vld_valid : ∀ (n : Nat) (l : List UInt8), l.length ≤ n → vld (l.map fun b => (b.toNat : Int)) = Lib.validD l
  | _, [], _ => by rw [List.map_nil, vld_nil, Lib.validD_nil]
  | 0, b :: t, h => by simp at h
  | n + 1, b :: t, h => by
    have hb := b.toNat_lt
    by_cases ha : b.toNat < 128
    · rw [List.map_cons, vld_ascii (by omega), Lib.validD_cons b t ha]
      exact vld_valid n t (by simp at h; omega)
    · rw [Lib.validD_lead (b :: t) (by simp) (by simp; omega)]
      have e0 : (b :: t).getD 0 0 = b := rfl
      rw [e0]
      obtain ⟨hsz, hlh⟩ := tab_eq b.toNat hb (by omega)
      rw [hsz]
      have hd : ((b :: t).map fun b => (b.toNat : Int)) = (b.toNat : Int) :: ((b :: t).map fun b => (b.toNat : Int)).drop 1 := rfl
      have hlen : ((b :: t).map fun b => (b.toNat : Int)).length = (b :: t).length := by simp
      have hdr : ∀ k, ((b :: t).map fun b => (b.toNat : Int)).drop k = ((b :: t).drop k).map fun b => (b.toNat : Int) := fun k => by rw [List.map_drop]
      have ih : ∀ k, 1 ≤ k → vld (((b :: t).map fun b => (b.toNat : Int)).drop k) = Lib.validD ((b :: t).drop k) := fun k hk => by
        rw [hdr]; exact vld_valid n _ (by rw [List.length_drop]; simp at h ⊢; omega)
      have g1 := getN (b :: t) 1
      have g2 := getN (b :: t) 2
      have g3 := getN (b :: t) 3
      rcases usz_1234 (b.toNat : Int) with hu | hu | hu | hu
      · rw [bad1 hd (by omega) hu, hu]; rfl
      · obtain ⟨h1, h2⟩ := hlh (by omega)
        rw [hu]
        simp only [Lib.checkN]
        by_cases hc : (b :: t).length < 2 ∨ ((b :: t).getD 1 0).toNat < Lib.accLo (Lib.firstT b.toNat / 16) ∨ Lib.accHi (Lib.firstT b.toNat / 16) < ((b :: t).getD 1 0).toNat
        · rw [if_pos trivial, if_pos hc]
          exact bad2 hd (by omega) hu (by rw [hlen, g1]; omega)
        · rw [if_pos trivial, if_neg hc]
          rw [ok2 hd (by omega) hu (by rw [hlen]; omega) (by rw [g1]; omega) (by rw [g1]; omega)]
          exact ih 2 (by omega)
      · obtain ⟨h1, h2⟩ := hlh (by omega)
        rw [hu]
        simp only [Lib.checkN]
        rw [if_neg (by omega), if_pos trivial]
        by_cases hc : (b :: t).length < 3 ∨ ((b :: t).getD 1 0).toNat < Lib.accLo (Lib.firstT b.toNat / 16) ∨ Lib.accHi (Lib.firstT b.toNat / 16) < ((b :: t).getD 1 0).toNat ∨ ((b :: t).getD 2 0).toNat < 128 ∨ 191 < ((b :: t).getD 2 0).toNat
        · rw [if_pos hc]
          exact bad3 hd (by omega) hu (by rw [hlen, g1, g2]; omega)
        · rw [if_neg hc]
          rw [ok3 hd (by omega) hu (by rw [hlen]; omega) (by rw [g1]; omega) (by rw [g1]; omega) (by rw [g2]; omega) (by rw [g2]; omega)]
          exact ih 3 (by omega)
      · obtain ⟨h1, h2⟩ := hlh (by omega)
        rw [hu]
        simp only [Lib.checkN]
        rw [if_neg (by omega), if_neg (by omega), if_pos trivial]
        by_cases hc : (b :: t).length < 4 ∨ ((b :: t).getD 1 0).toNat < Lib.accLo (Lib.firstT b.toNat / 16) ∨ Lib.accHi (Lib.firstT b.toNat / 16) < ((b :: t).getD 1 0).toNat ∨ ((b :: t).getD 2 0).toNat < 128 ∨ 191 < ((b :: t).getD 2 0).toNat ∨ ((b :: t).getD 3 0).toNat < 128 ∨ 191 < ((b :: t).getD 3 0).toNat
        · rw [if_pos hc]
          exact bad4 hd (by omega) hu (by rw [hlen, g1, g2, g3]; omega)
        · rw [if_neg hc]
          rw [ok4 hd (by omega) hu (by rw [hlen]; omega) (by rw [g1]; omega) (by rw [g1]; omega) (by rw [g2]; omega) (by rw [g2]; omega) (by rw [g3]; omega) (by rw [g3]; omega)]
          exact ih 4 (by omega)
theorem vld_nums (s : ByteArray) : vld (nums s) = Lib.validD s.data.toList := vld_valid _ _ (Nat.le_refl _)

theorem first_lib : ∀ c : Nat, c < 256 → fT c = Lib.firstT c := by decide +kernel
theorem lo_lib : ∀ i : Nat, i < 16 → aLo i = Lib.accLo i := by decide +kernel
theorem hi_lib : ∀ i : Nat, i < 16 → aHi i = Lib.accHi i := by decide +kernel
theorem Tabs.lib {w : World} (h : Tabs w) : Lib.Utf8Tabs 3 4 w :=
  ⟨fun c hc => by rw [← first_lib c hc]; exact h.first c hc, fun i hi => ⟨by rw [← lo_lib i hi]; exact h.lo i hi, by rw [← hi_lib i hi]; exact h.hi i hi⟩⟩

theorem validString_any (s : ByteArray) (w : World) (hs : s.size ≤ 9223372036854775807) (hT : Tabs w) :
    Calls Tryd.prog 58 #[.string s] w fun e w' => e = .returned (.bool (vld (nums s))) ∧ Below w.heap.size w w' := by
  rw [vld_nums]
  exact Any.utf8_ValidString Tryd.lays196 s w hs hT.lib

end Go.Proofs.YtomkcmkbehcjnaaDoor
