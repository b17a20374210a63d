/- lease: the law's wakes. -/
import Derived.Test.YtfakcjelibdnbaaHpI
namespace Go.Proofs.Ytfakcjelibdnbaa
open Go.RowKit Go.Joins

def kA : ByteArray := ⟨#[97]⟩
def kB : ByteArray := ⟨#[98]⟩
def kC : ByteArray := ⟨#[99]⟩
theorem wakes_L : sets (sets (sets [] kA 4611686018427387904) kB 4607182418800017408) kC 4611686018427387904 = [(kA, 4611686018427387904), (kB, 4607182418800017408), (kC, 4611686018427387904)] := by decide
theorem wakes_due : due [(kA, 4611686018427387904), (kB, 4607182418800017408), (kC, 4611686018427387904)] 4611686018427387904 = ([kB, kA, kC], []) := by decide

theorem SRd.three (w : World) (s t u : ByteArray) : SRd (w.alloc (.cells #[.string s, .string t, .string u] 9)) (some ⟨w.heap.size, 0, none⟩) 3 3 [s, t, u] := by
  refine ⟨rfl, Nat.le_refl _, by unfold maxLen; omega, (fun h => by cases h), fun ad ha j hj => ?_⟩
  cases ha
  rw [add_flat, Nat.zero_add, cell_of_block (alloc_at w _)]
  have : j = 0 ∨ j = 1 ∨ j = 2 := by omega
  rcases this with rfl | rfl | rfl <;> rfl

/-- What is left by calls on a heap of the law's own. -/
theorem Dn.below {w0 w w' : World} {F : Nat → Prop} {q tn : Nat} {L : Le} (hb : Below w0.heap.size w0 w) (hF : ∀ k, F k → w0.heap.size ≤ k) (h : Dn w w' F q tn L) : ∃ F', HAt w' F' q tn L ∧ (∀ k, F' k → w0.heap.size ≤ k) ∧ Below w0.heap.size w0 w' := by
  obtain ⟨F', h1, h2, h3⟩ := h
  refine ⟨F', h1, fun k hk => ?_, hb.trans (h3.below hb.size hF)⟩
  rcases h2 k hk with g | g
  · exact hF k g
  · exact Nat.le_trans hb.size g

set_option maxHeartbeats 2000000 in
theorem wakes_any (w : World) : Calls Try.prog 9 #[] w fun e w' => e = .returned (.bool true) ∧ Below w.heap.size w w' := by
  have cN := new_any w
  go_enter Try.func9, Try.ntmps9
  go_upto_region 2 with (go_at_call 8; refine cN.mono ?_; clear cN; rintro e w1 ⟨q, F1, rfl, hN⟩)
  have HA0 : Hid (HAt w1 F1 q 0 []) := hN.at'
  have HF0 : Hid (∀ k, F1 k → w.heap.size ≤ k) := hN.nw
  have HB0 : Hid (Below w.heap.size w w1) := hN.kp
  clear hN
  have cA := set_any HA0.out kA (by decide) (e := 4611686018427387904) (by decide) (by decide)
  go_upto_region 4 with (first
    | (go_at_call 18; refine cA.mono ?_; clear cA; rintro e w2 ⟨rfl, hD⟩; obtain ⟨F2, HA1, HF1, HB1⟩ := hD.below HB0.out HF0.out; have cB := set_any HA1 kB (by decide) (e := 4607182418800017408) (by decide) (by decide))
    | (go_at_call 18; refine cB.mono ?_; clear cB; rintro e w3 ⟨rfl, hD⟩; obtain ⟨F3, HA2, HF2, HB2⟩ := hD.below HB1 HF1; have cC := set_any HA2 kC (by decide) (e := 4611686018427387904) (by decide) (by decide))
    | (go_at_call 18; refine cC.mono ?_; clear cC; rintro e w4 ⟨rfl, hD⟩; obtain ⟨F4, HA3, HF3, HB3⟩ := hD.below HB2 HF2))
  rw [wakes_L] at HA3
  have cD := due_any HA3 4611686018427387904 (by decide)
  rw [wakes_due] at cD
  have HF3' : Hid _ := HF3
  have HB3' : Hid _ := HB3
  clear HA1 HF1 HB1 HA2 HF2 HB2 HA3 HF3 HB3 HA0 HF0 HB0
  go_wp2_with (first
    | (go_at_call 12; refine cD.mono ?_; clear cD; rintro e w5 ⟨v, rfl, hP⟩; obtain ⟨a5, c5, rfl, hS5⟩ := SRd.ofOwn hP.row; obtain ⟨F5, HA5, HF5, HB5⟩ := hP.dl.dn.below HB3'.out HF3'.out; clear hP)
    | (go_at_call 11; refine (kSame_true a5 _ c5 _ 3 [kB, kA, kC] _ (hS5.carry ((Below.refl _ _).alloc (Nat.le_refl _) _)) (SRd.three w5 kB kA kC)).mono ?_; rintro e w6 ⟨rfl, hb6⟩; have HB6 : Below w5.heap.size w5 w6 := ((Below.refl _ _).alloc (Nat.le_refl _) _).trans (hb6.mono (by simp)); have cL := lenH_any (HA5.below HB6))
    | (go_at_call 15; refine cL.mono ?_; clear cL; rintro e w7 ⟨rfl, hw7⟩; rw [hw7]; clear hw7 w7))
  go_ret
  exact ⟨rfl, HB5.trans (HB6.mono HB5.size)⟩

end Go.Proofs.Ytfakcjelibdnbaa
