/- Arguments of disk's laws, opened; copies of bytes. -/
import Derived.Test.YtikkieaokfailaaGreatDoorDkX
import Derived.WalkKit
import Derived.ProofKit
import Derived.OpenShut
import Derived.ShutString
import Derived.ChangeOld
import Derived.ChangeMaps5
import Derived.Deep.Matrix
import Derived.Deep.DeepHandedRow
set_option maxRecDepth 100000
namespace Go.Proofs.YtikkieaokfailaaGreatDoor
open Go.ChangeShapes Go.WideShapes Go.ChangeAt Go.RowKit

/-- What a slice of slices of bytes reads as. -/
structure RRd (W : World) (a : Option Addr) (n : Nat) (xs : List (List Int)) : Prop where
  len : xs.length = n
  most : n ≤ 9223372036854775807
  flat : 0 < n → ∃ b off, a = some ⟨b, off, none⟩ ∧ ∀ j, j < n → ∃ aj nj cj, W.cell? ⟨b, off + j, none⟩ = some (.slice aj nj cj) ∧ Rd W aj nj cj (xs.getD j [])
theorem RRd.below {W W' : World} {a : Option Addr} {n : Nat} {xs : List (List Int)} (h : RRd W a n xs) (hb : Below W.heap.size W W') : RRd W' a n xs := by
  refine ⟨h.len, h.most, fun h0 => ?_⟩
  obtain ⟨b, off, rfl, hc⟩ := h.flat h0
  refine ⟨b, off, rfl, fun j hj => ?_⟩
  obtain ⟨aj, nj, cj, h1, h2⟩ := hc j hj
  exact ⟨aj, nj, cj, (hb.cell (p := ⟨b, off + j, none⟩) (World.block_lt_of_cell? W _ h1)).trans h1, h2.carry (Nat.le_refl _) hb⟩
theorem rd_nilK (w : World) : Rd w none 0 0 [] := ⟨rfl, Nat.le_refl _, by unfold maxLen; omega, fun _ => rfl, Bd.nil, fun _ h => by cases h⟩

theorem rd_of_cells {H : Type} {enc : TypeId × Value → H} {W : World} {v : Value} {n : Nat} {y : DataW H × List MemPlace}
    (h : DataW.trod enc Tryz.prog W 0 (fun _ => true) true n 29 [v] = some y) : ∃ a n c zs, v = .slice a n c ∧ Rd W a n c zs := by
  rcases open_ints Tryz.underlying29 Tryz.underlying5 (by kernel_rfl) h with ⟨hcs, _⟩ | ⟨x, l, cc, zs, hcs, _, hl, hm, hz, _, hcell, hwz⟩
  · simp only [List.cons.injEq, and_true] at hcs
    exact ⟨none, 0, 0, [], hcs, rd_nilK W⟩
  · simp only [List.cons.injEq, and_true] at hcs
    have hz' : zs.length = cc := by simpa using hz
    refine ⟨some x, l, cc, zs.take l, hcs, by rw [List.length_take]; omega, hl, hm, (fun h => by cases h), fun y hy => ?_, fun ad had j hj => ?_⟩
    · have := bounds_u8 (hwz y (List.mem_of_mem_take hy)); omega
    · cases had
      rw [hcell j (by omega)]
      simp [List.getD, hj]
theorem rd_of_trod {H : Type} {enc : TypeId × Value → H} {W : World} {a : Option Addr} {n c : Nat} {d : DataW H} {ps : List MemPlace}
    (h : DataW.Trod enc Tryz.prog W 0 (fun _ => true) true 29 (.slice a n c) d ps) : ∃ zs, Rd W a n c zs := by
  obtain ⟨fuel, hf⟩ := h
  obtain ⟨_, _, _, zs, hv, hr⟩ := rd_of_cells (v := .slice a n c) (by simpa [Value.cells] using hf)
  cases hv
  exact ⟨zs, hr⟩
theorem rrd_of_cells {H : Type} {enc : TypeId × Value → H} {W : World} {v : Value} {fuel : Nat} {y : DataW H × List MemPlace}
    (hf : DataW.trod enc Tryz.prog W 0 (fun _ => true) true fuel 30 [v] = some y) : ∃ a n c xs, v = .slice a n c ∧ RRd W a n xs := by
  rcases Go.Deep.open_int_rows Tryz.underlying30 Tryz.underlying29 Tryz.underlying5 (by kernel_rfl) (by kernel_rfl) hf with ⟨hcs, _⟩ | ⟨x, l, cc, A, L, C, Z, hcs, _, hl, hm, _, hr⟩
  · simp only [List.cons.injEq, and_true] at hcs
    exact ⟨none, 0, 0, [], hcs, rfl, by omega, fun h => by omega⟩
  · simp only [List.cons.injEq, and_true] at hcs
    refine ⟨some x, l, cc, (List.range l).map (fun r => (Z r).take (L r)), hcs, by simp, by have : cc ≤ 9223372036854775807 := hm; omega, fun h0 => ?_⟩
    obtain ⟨b, off, spot⟩ := x
    have hspot : spot = none := by simpa [Addr.add] using World.cell?_spot (hr 0 (by omega)).1
    subst hspot
    refine ⟨b, off, rfl, fun j hj => ?_⟩
    obtain ⟨h1, h2, h3, h4, h5, h6, h7⟩ := hr j (by omega)
    rw [add_flat] at h1
    refine ⟨A j, L j, C j, h1, ?_⟩
    have e : ((List.range l).map (fun r => (Z r).take (L r))).getD j [] = (Z j).take (L j) := by simp [List.getD, hj]
    rw [e]
    refine ⟨by rw [List.length_take]; omega, h2, h3, h6, fun y hy => ?_, fun ad had i hi => ?_⟩
    · have := bounds_u8 (h5 y (List.mem_of_mem_take hy)); omega
    · rw [(h7 ad had).2 i (by omega)]
      simp [List.getD, hi]
theorem rrd_of_trod {H : Type} {enc : TypeId × Value → H} {W : World} {a : Option Addr} {n c : Nat} {d : DataW H} {ps : List MemPlace}
    (h : DataW.Trod enc Tryz.prog W 0 (fun _ => true) true 30 (.slice a n c) d ps) : ∃ xs, RRd W a n xs := by
  obtain ⟨fuel, hf⟩ := h
  obtain ⟨_, _, _, zs, hv, hr⟩ := rrd_of_cells (v := .slice a n c) (by simpa [Value.cells] using hf)
  cases hv
  exact ⟨zs, hr⟩

set_option maxHeartbeats 800000 in
theorem twin_any (a : Option Addr) (n c : Nat) (xs : List Int) (most : Nat) (w : World) (hR : Rd w a n c xs) (hm : most ≤ 100000) :
    Calls Tryz.prog 54 #[.slice a n c, .int .i64 most] w fun e w' => ∃ v, e = .returned v ∧ w'.ownsRow w.heap.size 5 1 v (xs.take most).length (bc (xs.take most)) ∧ Below w.heap.size w w' := by
  have hl := hR.len
  have hcp := hR.cap
  have hmx : c ≤ 9223372036854775807 := hR.most
  by_cases hn : (most : Int) < (n : Int)
  · have hlt : (xs.take most).length = most := by rw [List.length_take]; omega
    rw [hlt]
    go_enter Tryz.func54, Tryz.ntmps54
    go_wp2_with (at_builtin; refine wp_app0K rfl _ _ rfl rfl a most c (xs.take most) rfl (hR.takeK (by omega)) (by omega) ?_; intro v' w1 hown1 hb1 _)
    go_ret
    exact ⟨_, rfl, hown1, hb1⟩
  · have hlt : xs.take most = xs := List.take_of_length_le (by omega)
    rw [hlt, hl]
    go_enter Tryz.func54, Tryz.ntmps54
    go_wp2_with (at_builtin; refine wp_app0K rfl _ _ rfl rfl a n c xs rfl hR (by omega) ?_; intro v' w1 hown1 hb1 _)
    go_ret
    exact ⟨_, rfl, hown1, hb1⟩
theorem tm30 (z : Int) : ∃ k : Nat, (wrap64 (z.tmod 30 + 30)).tmod 30 = (k : Int) ∧ k < 30 := by
  have h1 : z.tmod 30 < 30 := Int.tmod_lt_of_pos z (by omega)
  have h2 : -30 < z.tmod 30 := by
    have : (-z).tmod 30 < 30 := Int.tmod_lt_of_pos (-z) (by omega)
    rw [Int.neg_tmod] at this; omega
  have h3 : wrap64 (z.tmod 30 + 30) = z.tmod 30 + 30 := by unfold wrap64; omega
  rw [h3, Int.tmod_eq_emod_of_nonneg (by omega)]
  exact ⟨((z.tmod 30 + 30) % 30).toNat, by omega, by omega⟩

end Go.Proofs.YtikkieaokfailaaGreatDoor
