/- digest.bytesOf, Xor, padded. -/
import Derived.Test.YtmilcknboaefkaaGreatDoorDgD
import Derived.Deep.MidRow
import Derived.Laws.CopyOwn
set_option maxRecDepth 100000
namespace Go.Proofs.YtmilcknboaefkaaGreatDoor
open Go.RowKit

def bo (hs : List Int) : Nat → List Int
  | 0 => List.replicate 32 0
  | i + 1 => (bo hs i).set i (hs.getD (i / 4) 0 / 2 ^ (24 - 8 * (i % 4)) % 256)
theorem bo_len (hs : List Int) : ∀ i, (bo hs i).length = 32
  | 0 => by simp [bo]
  | i + 1 => by simp [bo, bo_len hs i]

set_option maxRecDepth 100000 in
set_option maxHeartbeats 800000 in
theorem bytesOf_any (hs : List Int) (w : World) (hh : hs.length = 8) :
    Calls Tryz.prog 81 #[.agg (ic .u32 hs).toArray] w fun e w' => e = .returned (.agg (ic .u8 (bo hs 32)).toArray) ∧ Below w.heap.size w w' := by
  go_enter Tryz.func81, Tryz.ntmps81
  go_wp2_with (first
    | (refine wp_box_ar rfl 90 (.tmp 0) rfl .u32 hs rfl ?_; intro g1 w1 A1 hg1 hb1)
    | (refine wp_alloc_ar rfl 27 rfl .u8 (List.replicate 32 0) 32 Tryz.z23 ?_; intro g2 w2 A2 hg2 hb2))
  have hg : w.heap.size ≤ g2 := Nat.le_trans hb1.size hg2
  have h12 : g1 ≠ g2 := by have := A1.lt; omega
  have B1 := A1.below hb2 A1.lt
  have hb := (hb1.trans (hb2.mono hb1.size))
  clear A1 hb1 hb2 hg1 hg2
  go_loopw [4] (fun i wr => ∃ k : Nat, k ≤ 32 ∧ i = .int .i64 k ∧ Ar wr g1 90 .u32 hs ∧ Ar wr g2 27 .u8 (bo hs k) ∧ Below w.heap.size w wr) (fun i _ => 32 - (intOf i).toNat)
  case atStart => exact ⟨0, by omega, rfl, B1, A2, hb⟩
  case round =>
    clear B1 A2 hb
    obtain ⟨k, hk, rfl, A1, A2, hbk⟩ := hrel
    have HB : Hid (Below w.heap.size w wr) := hbk
    clear hbk
    by_cases hlt : k < 32
    · have hcl : (k : Int) < 32 := by omega
      have hc := A1.cell (j := k / 4) (by omega)
      have hc2 := A2.cell (j := k) (by rw [bo_len]; omega)
      have hf := A2.fz k
      obtain ⟨x, HX⟩ : ∃ x, Hid (hs.getD (k / 4) 0 = x) := ⟨_, rfl⟩
      obtain ⟨y, HY⟩ : ∃ x, Hid ((bo hs k).getD k 0 = x) := ⟨_, rfl⟩
      rw [HX.out] at hc
      rw [HY.out] at hc2
      clear hh
      go_wp2
      rw [show 8 * (3 - k % 4) = 24 - 8 * (k % 4) from by omega]
      refine ⟨⟨k + 1, by omega, by go_num, A1.other h12 _, ?_, HB.out.setCell (show w.heap.size ≤ g2 from hg) _⟩, by simp [intOf]; omega⟩
      have := A2.set k (x / 2 ^ (24 - 8 * (k % 4)) % 256)
      unfold bo; rw [HX.out]; exact this
    · obtain rfl : k = 32 := by omega
      have hcl2 : ¬ ((32 : Nat) : Int) < 32 := by omega
      have hi23 := (size_of Tryz.u23).2
      have h32 := bo_len hs 32
      go_wp2_with (first
        | (refine wp_load_ar rfl 27 (.tmp 2) rfl _ rfl 27 .u8 (bo hs 32) 5 32 A2 Tryz.u23 h32 ?_)
        | (refine wp_store_ar rfl 27 (.tmp 2) (.tmp 20) rfl _ rfl .u8 (bo hs 32) rfl 27 _ A2 rfl (by rw [h32]; exact hi23) ?_; intro w3 A3 hk3 hs3))
      refine bodyPost_ret (v := .agg (ic .u8 (bo hs 32)).toArray) (ar_results rfl _ _ g2 27 .u8 (bo hs 32) 5 32 rfl A3 Tryz.u23 h32) rfl ⟨rfl, ?_⟩
      exact HB.out.trans (hk3.below HB.out.size (fun j hj => by omega))

def pb (xs : List Int) (p : Int) : Nat → List Int
  | 0 => xs
  | i + 1 => (pb xs p i).set i (bits .xor .u8 ((pb xs p i).getD i 0) p)
theorem pb_len (xs : List Int) (p : Int) : ∀ i, (pb xs p i).length = xs.length
  | 0 => rfl
  | i + 1 => by simp [pb, pb_len xs p i]
theorem Bd.set {xs : List Int} (h : Bd xs) (i : Nat) {v : Int} (h0 : 0 ≤ v) (h1 : v ≤ 255) : Bd (xs.set i v) := fun x hx => by
  rcases List.mem_or_eq_of_mem_set hx with g | g
  · exact h x g
  · subst g; exact ⟨h0, h1⟩
theorem bits8 (op : BinOp) (a b : Int) : 0 ≤ bits op .u8 a b ∧ bits op .u8 a b ≤ 255 := bits_within op .u8 a b
theorem pb_bd (xs : List Int) (p : Int) (h : Bd xs) : ∀ i, Bd (pb xs p i)
  | 0 => h
  | i + 1 => by unfold pb; exact (pb_bd xs p h i).set i (bits8 _ _ _).1 (bits8 _ _ _).2

/-- The package's first state, whole. -/
theorem Kt.load {w : World} (h : Kt w) : w.rangeAt 0 0 (ic .u32 h0s) := fun j v hv => by
  have hj : j < 8 := by
    rcases Nat.lt_or_ge j 8 with g | g
    · exact g
    · rw [List.getElem?_eq_none (by simpa [ic, h0s] using g)] at hv; cases hv
  have := h.h j hj
  rw [Nat.zero_add, this, ← hv]
  simp [ic, List.getD, show j < h0s.length from hj]

set_option maxRecDepth 100000 in
set_option maxHeartbeats 800000 in
theorem padded_any (xs : List Int) (p : Int) (w : World) (hl : xs.length = 64) (hB : Bd xs) (hK : Kt w) :
    Calls Tryz.prog 79 #[.agg (ic .u8 xs).toArray, .int .u8 p] w fun e w' => e = .returned (.agg (ic .u32 (mix h0s (pb xs p 64))).toArray) ∧ Below w.heap.size w w' := by
  go_enter Tryz.func79, Tryz.ntmps79
  go_wp2_with (first
    | (refine wp_box_ar rfl 123 (.tmp 0) rfl .u8 xs rfl ?_; intro g1 w1 A1 hg1 hb1)
    | (refine wp_alloc_ar rfl 90 rfl .u32 (List.replicate 8 0) 8 Tryz.z45 ?_; intro g2 w2 A2 hg2 hb2))
  have hg : w.heap.size ≤ g2 := Nat.le_trans hb1.size hg2
  have h12 : g1 ≠ g2 := by have := A1.lt; omega
  have B1 := A1.below hb2 A1.lt
  have hb := (hb1.trans (hb2.mono hb1.size))
  clear A1 hb1 hb2 hg2
  go_loopw [6] (fun i wr => ∃ k : Nat, k ≤ 64 ∧ i = .int .i64 k ∧ Ar wr g1 123 .u8 (pb xs p k) ∧ Ar wr g2 90 .u32 (List.replicate 8 0) ∧ Below w.heap.size w wr) (fun i _ => 64 - (intOf i).toNat)
  case atStart => exact ⟨0, by omega, rfl, B1, A2, hb⟩
  case round =>
    clear B1 A2 hb
    obtain ⟨k, hk, rfl, A1, A2, hbk⟩ := hrel
    have HB : Hid (Below w.heap.size w wr) := hbk
    clear hbk
    by_cases hlt : k < 64
    · have hcl : (k : Int) < 64 := by omega
      have hc := A1.cell (j := k) (by rw [pb_len]; omega)
      have hf := A1.fz k
      obtain ⟨x, HX⟩ : ∃ x, Hid ((pb xs p k).getD k 0 = x) := ⟨_, rfl⟩
      rw [HX.out] at hc
      clear hl hB
      go_wp2
      refine ⟨⟨k + 1, by omega, by go_num, ?_, A2.other (fun e => h12 e.symm) _, HB.out.setCell (show w.heap.size ≤ g1 from hg1) _⟩, by simp [intOf]; omega⟩
      have := A1.set k (bits .xor .u8 x p)
      unfold pb; rw [HX.out]; exact this
    · obtain rfl : k = 64 := by omega
      have hcl2 : ¬ ((64 : Nat) : Int) < 64 := by omega
      have hi45 := (size_of Tryz.u45)
      have h64 : (pb xs p 64).length = 64 := by rw [pb_len, hl]
      have hKr : Kt wr := hK.below (Nat.le_refl _) HB.out
      have hml := mix_len h0s (pb xs p 64) rfl
      have hbd := pb_bd xs p hB 64
      go_wp2_with (first
        | (refine wpList_load_mid rfl 90 (.global 0) rfl _ 0 rfl (ic .u32 h0s) _ hKr.load hi45.1 rfl hi45.2 ?_)
        | (refine wp_load_ar rfl 123 (.tmp 2) rfl _ rfl 123 .u8 (pb xs p 64) 5 64 A1 Tryz.u55 h64 ?_)
        | (go_at_call 80; refine (mixed_any h0s (pb xs p 64) _ rfl h64 hbd hKr).mono ?_; rintro e w4 ⟨rfl, hb4⟩)
        | (refine wp_store_ar rfl 90 (.tmp 4) (.tmp 18) rfl _ rfl .u32 (mix h0s (pb xs p 64)) rfl 90 _ (A2.below hb4 A2.lt) (by rw [hml]; rfl) (by rw [hml]; exact hi45.2) ?_; intro w3 A3' hk3 hs3))
      refine bodyPost_ret (v := .agg (ic .u32 (mix h0s (pb xs p 64))).toArray) (ar_results rfl _ _ g2 90 .u32 _ 88 8 rfl A3' Tryz.u45 hml) rfl ⟨rfl, ?_⟩
      have hB4 := HB.out.trans (hb4.mono HB.out.size)
      exact hB4.trans (hk3.below hB4.size (fun j hj => by omega))

end Go.Proofs.YtmilcknboaefkaaGreatDoor
