/- Slices of strings; the errors of texts; stanza.checkTexts. -/
import Derived.Test.YtomkcmkbehcjnaaDoorStzA
import Derived.Test.YtomkcmkbehcjnaaDoorVldS
namespace Go.Proofs.YtomkcmkbehcjnaaDoor
open Go.RowKit

/-- What a slice of strings reads as. -/
structure SRd (w : World) (a : Option Addr) (n c : Nat) (ss : List ByteArray) : Prop where
  len : ss.length = n
  cap : n ≤ c
  most : c ≤ maxLen
  nil : a = none → c = 0
  small : ∀ s ∈ ss, s.size ≤ 9223372036854775807
  cells : ∀ ad, a = some ad → ∀ j, j < n → w.cell? (ad.add j) = some (.string (ss.getD j ⟨#[]⟩))

theorem SRd.carry {w w' : World} {a : Option Addr} {n c : Nat} {ss : List ByteArray} (h : SRd w a n c ss) (hb : Below w.heap.size w w') : SRd w' a n c ss :=
  ⟨h.len, h.cap, h.most, h.nil, h.small, fun ad ha j hj => by
    have hc := h.cells ad ha j hj
    rw [hb.cell (World.block_lt_of_cell? w _ hc)]; exact hc⟩

theorem SRd.flat {w : World} {a : Option Addr} {n c : Nat} {ss : List ByteArray} (h : SRd w a n c ss) (hn : 0 < n) : ∃ b off, a = some ⟨b, off, none⟩ ∧ ∀ j, j < n → w.cell? ⟨b, off + j, none⟩ = some (.string (ss.getD j ⟨#[]⟩)) := by
  cases a with
  | none => have := h.nil rfl; have := h.cap; omega
  | some ad =>
    obtain ⟨b, off, spot⟩ := ad
    have hc := h.cells _ rfl 0 hn
    have hspot : spot = none := by simpa [Addr.add] using World.cell?_spot hc
    subst hspot
    refine ⟨b, off, rfl, fun j hj => ?_⟩
    have := h.cells _ rfl j hj
    rw [add_flat] at this
    exact this

theorem srd_nil (w : World) : SRd w none 0 0 [] := ⟨rfl, Nat.le_refl _, by unfold maxLen; omega, fun _ => rfl, (fun _ h => by cases h), (fun _ h => by cases h)⟩

theorem drop_cons' {ss : List ByteArray} {k : Nat} (h : k < ss.length) : ss.drop k = ss.getD k ⟨#[]⟩ :: ss.drop (k + 1) := by
  rw [List.drop_eq_getElem_cons h]; simp [List.getD, List.getElem?_eq_getElem h]
theorem getD_mem' {ss : List ByteArray} {k : Nat} (h : k < ss.length) : ss.getD k ⟨#[]⟩ ∈ ss := by
  simp [List.getD, List.getElem?_eq_getElem h]

/-- A text's error; the first error of texts. -/
def terr1 (s : ByteArray) : Nat := if 1024 < s.size then 5 else if vld (nums s) = true then 0 else 4
def terrs : List ByteArray → Nat
  | [] => 0
  | s :: r => if terr1 s = 0 then terrs r else terr1 s

theorem terrs_pass {s : ByteArray} {r : List ByteArray} (h : terr1 s = 0) : terrs (s :: r) = terrs r := by rw [terrs, if_pos h]
theorem terrs_stop {s : ByteArray} {r : List ByteArray} (h : terr1 s ≠ 0) : terrs (s :: r) = terr1 s := by rw [terrs, if_neg h]

set_option maxHeartbeats 800000 in
theorem checkTexts_any (a : Option Addr) (n c : Nat) (ss : List ByteArray) (w : World) (h : SRd w a n c ss) (hT : Tabs w) :
    Calls Tryd.prog 32 #[.slice a n c] w fun e w' => e = .returned (.int .i64 ((terrs ss : Nat) : Int)) ∧ Below w.heap.size w w' := by
  have hnm := h.cap
  have hcm := h.most
  unfold maxLen at hcm
  go_enter Tryd.func32, Tryd.ntmps32
  go_wp2
  go_loopw [7] (fun i wr => ∃ k : Nat, k ≤ n ∧ i = .int .i64 k ∧ Hid (terrs (ss.drop k) = terrs ss) ∧ Below w.heap.size w wr) (fun i _ => n - (intOf i).toNat)
  case atStart => exact ⟨0, by omega, rfl, rfl, Below.refl _ _⟩
  case round =>
    obtain ⟨k, hk, rfl, HE, hb⟩ := hrel
    by_cases hkn : (k : Int) < (n : Int)
    · have hkl : k < ss.length := by rw [h.len]; omega
      obtain ⟨b, off, rfl, hcell⟩ := (h.carry hb).flat (by omega)
      have hc := hcell k (by omega)
      have hsm := h.small _ (getD_mem' hkl)
      have HD : Hid (ss.drop k = ss.getD k ⟨#[]⟩ :: ss.drop (k + 1)) := drop_cons' hkl
      have hT' := hT.carry hb
      clear hcell hkl hT h
      generalize ss.getD k ⟨#[]⟩ = s at hc hsm HD
      by_cases h1 : (1024 : Int) < (s.size : Int)
      · have HT : Hid (terr1 s = 5) := by unfold terr1; rw [if_pos (by omega)]; rfl
        go_wp2
        go_ret
        rw [← HE.out, HD.out, terrs_stop (by rw [HT.out]; decide), HT.out]
        exact ⟨rfl, hb⟩
      · cases hv : vld (nums s) with
        | false =>
          have HT : Hid (terr1 s = 4) := by unfold terr1; rw [if_neg (by omega), hv]; rfl
          have cV := validString_any s _ hsm hT'
          rw [hv] at cV
          clear hv
          go_wp2_with (go_at_call 58; refine cV.mono ?_; rintro e w1 ⟨rfl, hb1⟩)
          go_ret
          rw [← HE.out, HD.out, terrs_stop (by rw [HT.out]; decide), HT.out]
          exact ⟨rfl, hb.trans (hb1.mono hb.size)⟩
        | true =>
          have HT : Hid (terr1 s = 0) := by unfold terr1; rw [if_neg (by omega), hv]; rfl
          have cV := validString_any s _ hsm hT'
          rw [hv] at cV
          clear hv
          go_wp2_with (go_at_call 58; refine cV.mono ?_; rintro e w1 ⟨rfl, hb1⟩)
          go_roundw
          case rel => exact ⟨k + 1, by omega, by go_num, (show terrs (ss.drop (k + 1)) = terrs ss by rw [← HE.out, HD.out, terrs_pass HT.out]), hb.trans (hb1.mono hb.size)⟩
          case measure => simp [intOf]; omega
    · have hke : k = n := by omega
      subst hke
      have HN : Hid (terrs ss = 0) := by
        have := HE.out
        rw [List.drop_of_length_le (by rw [h.len]; exact Nat.le_refl _)] at this
        exact this.symm
      go_wp2
      go_ret
      rw [HN.out]
      exact ⟨rfl, hb⟩

end Go.Proofs.YtomkcmkbehcjnaaDoor
