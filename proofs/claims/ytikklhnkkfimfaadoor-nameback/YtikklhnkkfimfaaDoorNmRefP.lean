/- The document's Parse, its ways. -/
import Derived.Test.YtikklhnkkfimfaaDoorNmRefC
import Derived.Test.YtikklhnkkfimfaaDoorNmRefR
import Derived.Test.YtikklhnkkfimfaaDoorNmParse
namespace Go.Proofs.YtikklhnkkfimfaaDoor
open Go.RowKit

/-- Two addresses lie behind w: the answer's, and the one that is made. -/
structure St2 (w W : World) (a b c x y z : Value) : Prop where
  below : Below w.heap.size w W
  at0 : W.heap[w.heap.size]? = some (.cells #[a, b, c] 31 (0, 0))
  at1 : W.heap[w.heap.size + 1]? = some (.cells #[x, y, z] 31 (0, 0))
theorem St2.new (w : World) : St2 w ((w.alloc (.cells #[noS, noS, noS] 31)).alloc (.cells #[noS, noS, noS] 31)) noS noS noS noS noS noS := by
  refine ⟨((Below.refl _ _).alloc (Nat.le_refl _) _).alloc (by simp) _, ?_, ?_⟩
  · show ((w.heap.push (.cells #[noS, noS, noS] 31)).push (.cells #[noS, noS, noS] 31))[w.heap.size]? = _
    rw [Array.getElem?_push_lt (by simp)]
    simp
  · have h := @Array.getElem?_push_size _ (w.heap.push (.cells #[noS, noS, noS] 31)) (.cells #[noS, noS, noS] 31)
    rw [Array.size_push] at h
    exact h
theorem St2.lt {w W : World} {a b c x y z : Value} (h : St2 w W a b c x y z) : w.heap.size + 1 < W.heap.size := (Array.getElem?_eq_some_iff.1 h.at1).1
theorem St2.call {w W W' : World} {a b c x y z : Value} (h : St2 w W a b c x y z) (hb : Below W.heap.size W W') : St2 w W' a b c x y z := by
  have hl := h.lt
  exact ⟨h.below.trans (hb.mono (by omega)), (hb.block _ (by omega)).trans h.at0, (hb.block _ (by omega)).trans h.at1⟩
theorem St2.drew {w W : World} {a b c x y z : Value} (h : St2 w W a b c x y z) : St2 w W.drew a b c x y z := ⟨h.below.drew, h.at0, h.at1⟩
theorem St2.j0 {w W : World} {a b c x y z : Value} (h : St2 w W a b c x y z) (v : Value) : St2 w (W.setCell ⟨w.heap.size + 1, 0, none⟩ v) a b c v y z :=
  ⟨h.below.setCell (p := ⟨w.heap.size + 1, 0, none⟩) (Nat.le_succ _) _, (Below.heap_setCell _ _ _ _ (by show w.heap.size ≠ w.heap.size + 1; omega)).trans h.at0, by simp [World.setCell, Array.getElem?_modify, h.at1]⟩
theorem St2.j1 {w W : World} {a b c x y z : Value} (h : St2 w W a b c x y z) (v : Value) : St2 w (W.setCell ⟨w.heap.size + 1, 1, none⟩ v) a b c x v z :=
  ⟨h.below.setCell (p := ⟨w.heap.size + 1, 1, none⟩) (Nat.le_succ _) _, (Below.heap_setCell _ _ _ _ (by show w.heap.size ≠ w.heap.size + 1; omega)).trans h.at0, by simp [World.setCell, Array.getElem?_modify, h.at1]⟩
theorem St2.j2 {w W : World} {a b c x y z : Value} (h : St2 w W a b c x y z) (v : Value) : St2 w (W.setCell ⟨w.heap.size + 1, 2, none⟩ v) a b c x y v :=
  ⟨h.below.setCell (p := ⟨w.heap.size + 1, 2, none⟩) (Nat.le_succ _) _, (Below.heap_setCell _ _ _ _ (by show w.heap.size ≠ w.heap.size + 1; omega)).trans h.at0, by simp [World.setCell, Array.getElem?_modify, h.at1]⟩

def PartR (f : Nat) (s : ByteArray) (p : List UInt8 × Nat) : Prop := ∀ W, Calls Tryd.prog f #[.string s] W fun e W' => e = .returned (.tuple #[.string ⟨p.1.toArray⟩, .int .i64 p.2]) ∧ Below W.heap.size W W'
def CutR (s : ByteArray) (c : Int) (i : Int) : Prop := ∀ W, Calls Tryd.prog 35 #[.string s, .int .u8 c] W fun e W' => e = .returned (.int .i64 i) ∧ W' = W

set_option maxHeartbeats 3200000 in
theorem rparse_ttL (s a z a2 z2 : ByteArray) (i : Nat) (k : Nat) (pL : List UInt8 × Nat) (w : World) (C1 : CutR s 47 (i : Int)) (_hs : s.size ≤ 9223372036854775807) (hi : i < s.size) (_x1 : s.extract 0 i = a) (_x2 : s.extract (i + 1) s.size = z) (C2 : CutR a 64 (k : Int)) (_ha : a.size ≤ 9223372036854775807) (hk : k < a.size) (_y1 : a.extract 0 k = a2) (_y2 : a.extract (k + 1) a.size = z2) (RL : PartR 10 a2 pL) (kL : pL.2 ≠ 0) :
    Calls Tryd.prog 17 #[.string s] w fun e w' => e = .returned (.tuple #[.agg #[noS, noS, noS], .int .i64 pL.2]) ∧ Below w.heap.size w w' := by
  have tok : True := trivial
  have h0 := St2.new w
  have i1 : (0 : Int) ≤ (i : Int) := by omega
  have i2 : (i : Int) ≤ (s.size : Int) := by omega
  have i3 : (0 : Int) ≤ (i : Int) + 1 := by omega
  have i4 : (i : Int) + 1 ≤ (s.size : Int) := by omega
  have k1 : (0 : Int) ≤ (k : Int) := by omega
  have k2 : (k : Int) ≤ (a.size : Int) := by omega
  have k3 : (0 : Int) ≤ (k : Int) + 1 := by omega
  have k4 : (k : Int) + 1 ≤ (a.size : Int) := by omega
  have zL : ((pL.2 : Int) != 0) = true := by simpa using kL
  go_enter Tryd.func17, Tryd.ntmps17
  go_wp2_with (go_at_call 35; clear tok; refine (C1 _).mono ?_; rintro e w1 ⟨rfl, rfl⟩)
  go_region
  have h1 := h0.drew
  go_wp2_with (first
    | (go_at_call 35; refine (C2 _).mono ?_; rintro e w2 ⟨rfl, rfl⟩)
    | (go_at_call 10; refine (RL _).mono ?_; rintro e w3 ⟨rfl, hb3⟩; have m3 := h1.call hb3; have ca0 := cell_three0 m3.at0; have ca1 := cell_three1 m3.at0; have ca2 := cell_three2 m3.at0; have cb0 := cell_three0 m3.at1; have cb1 := cell_three1 m3.at1; have cb2 := cell_three2 m3.at1; have cf0 := thaw_three m3.at0 0; have cf1 := thaw_three m3.at0 1; have cf2 := thaw_three m3.at0 2; have cg0 := thaw_three m3.at1 0; have cg1 := thaw_three m3.at1 1; have cg2 := thaw_three m3.at1 2; have h3 := m3.j0 (.string ⟨pL.1.toArray⟩)))
  refine ⟨rfl, _, by simp [results, Tryd.results17, go_sem, ca0, ca1, ca2], rfl, ?_⟩
  exact ((h3.below.setCell (p := ⟨w.heap.size, 0, none⟩) (Nat.le_refl _) _).setCell (p := ⟨w.heap.size, 1, none⟩) (Nat.le_refl _) _).setCell (p := ⟨w.heap.size, 2, none⟩) (Nat.le_refl _) _

set_option maxHeartbeats 3200000 in
theorem rparse_ttH (s a z a2 z2 : ByteArray) (i : Nat) (k : Nat) (pL pH : List UInt8 × Nat) (w : World) (C1 : CutR s 47 (i : Int)) (_hs : s.size ≤ 9223372036854775807) (hi : i < s.size) (_x1 : s.extract 0 i = a) (_x2 : s.extract (i + 1) s.size = z) (C2 : CutR a 64 (k : Int)) (_ha : a.size ≤ 9223372036854775807) (hk : k < a.size) (_y1 : a.extract 0 k = a2) (_y2 : a.extract (k + 1) a.size = z2) (RL : PartR 10 a2 pL) (kL : pL.2 = 0) (RH : PartR 12 z2 pH) (kH : pH.2 ≠ 0) :
    Calls Tryd.prog 17 #[.string s] w fun e w' => e = .returned (.tuple #[.agg #[noS, noS, noS], .int .i64 pH.2]) ∧ Below w.heap.size w w' := by
  have tok : True := trivial
  have h0 := St2.new w
  have i1 : (0 : Int) ≤ (i : Int) := by omega
  have i2 : (i : Int) ≤ (s.size : Int) := by omega
  have i3 : (0 : Int) ≤ (i : Int) + 1 := by omega
  have i4 : (i : Int) + 1 ≤ (s.size : Int) := by omega
  have k1 : (0 : Int) ≤ (k : Int) := by omega
  have k2 : (k : Int) ≤ (a.size : Int) := by omega
  have k3 : (0 : Int) ≤ (k : Int) + 1 := by omega
  have k4 : (k : Int) + 1 ≤ (a.size : Int) := by omega
  have zL : ((pL.2 : Int) != 0) = false := by simp [kL]
  have zH : ((pH.2 : Int) != 0) = true := by simpa using kH
  go_enter Tryd.func17, Tryd.ntmps17
  go_wp2_with (go_at_call 35; clear tok; refine (C1 _).mono ?_; rintro e w1 ⟨rfl, rfl⟩)
  go_region
  have h1 := h0.drew
  go_wp2_with (first
    | (go_at_call 35; refine (C2 _).mono ?_; rintro e w2 ⟨rfl, rfl⟩)
    | (go_at_call 10; refine (RL _).mono ?_; rintro e w3 ⟨rfl, hb3⟩; have m3 := h1.call hb3; have ca0 := cell_three0 m3.at0; have ca1 := cell_three1 m3.at0; have ca2 := cell_three2 m3.at0; have cb0 := cell_three0 m3.at1; have cb1 := cell_three1 m3.at1; have cb2 := cell_three2 m3.at1; have cf0 := thaw_three m3.at0 0; have cf1 := thaw_three m3.at0 1; have cf2 := thaw_three m3.at0 2; have cg0 := thaw_three m3.at1 0; have cg1 := thaw_three m3.at1 1; have cg2 := thaw_three m3.at1 2; have h3 := m3.j0 (.string ⟨pL.1.toArray⟩))
    | (go_at_call 12; refine (RH _).mono ?_; rintro e w4 ⟨rfl, hb4⟩; have m4 := h3.call hb4; have da0 := cell_three0 m4.at0; have da1 := cell_three1 m4.at0; have da2 := cell_three2 m4.at0; have db0 := cell_three0 m4.at1; have db1 := cell_three1 m4.at1; have db2 := cell_three2 m4.at1; have df0 := thaw_three m4.at0 0; have df1 := thaw_three m4.at0 1; have df2 := thaw_three m4.at0 2; have dg0 := thaw_three m4.at1 0; have dg1 := thaw_three m4.at1 1; have dg2 := thaw_three m4.at1 2; have h4 := m4.j1 (.string ⟨pH.1.toArray⟩)))
  refine ⟨rfl, _, by simp [results, Tryd.results17, go_sem, da0, da1, da2], rfl, ?_⟩
  exact ((h4.below.setCell (p := ⟨w.heap.size, 0, none⟩) (Nat.le_refl _) _).setCell (p := ⟨w.heap.size, 1, none⟩) (Nat.le_refl _) _).setCell (p := ⟨w.heap.size, 2, none⟩) (Nat.le_refl _) _

set_option maxHeartbeats 3200000 in
theorem rparse_ttR (s a z a2 z2 : ByteArray) (i : Nat) (k : Nat) (pL pH pR : List UInt8 × Nat) (w : World) (C1 : CutR s 47 (i : Int)) (_hs : s.size ≤ 9223372036854775807) (hi : i < s.size) (_x1 : s.extract 0 i = a) (_x2 : s.extract (i + 1) s.size = z) (C2 : CutR a 64 (k : Int)) (_ha : a.size ≤ 9223372036854775807) (hk : k < a.size) (_y1 : a.extract 0 k = a2) (_y2 : a.extract (k + 1) a.size = z2) (RL : PartR 10 a2 pL) (kL : pL.2 = 0) (RH : PartR 12 z2 pH) (kH : pH.2 = 0) (RR : PartR 14 z pR) (kR : pR.2 ≠ 0) :
    Calls Tryd.prog 17 #[.string s] w fun e w' => e = .returned (.tuple #[.agg #[noS, noS, noS], .int .i64 pR.2]) ∧ Below w.heap.size w w' := by
  have tok : True := trivial
  have h0 := St2.new w
  have i1 : (0 : Int) ≤ (i : Int) := by omega
  have i2 : (i : Int) ≤ (s.size : Int) := by omega
  have i3 : (0 : Int) ≤ (i : Int) + 1 := by omega
  have i4 : (i : Int) + 1 ≤ (s.size : Int) := by omega
  have k1 : (0 : Int) ≤ (k : Int) := by omega
  have k2 : (k : Int) ≤ (a.size : Int) := by omega
  have k3 : (0 : Int) ≤ (k : Int) + 1 := by omega
  have k4 : (k : Int) + 1 ≤ (a.size : Int) := by omega
  have zL : ((pL.2 : Int) != 0) = false := by simp [kL]
  have zH : ((pH.2 : Int) != 0) = false := by simp [kH]
  have zR : ((pR.2 : Int) != 0) = true := by simpa using kR
  go_enter Tryd.func17, Tryd.ntmps17
  go_wp2_with (go_at_call 35; clear tok; refine (C1 _).mono ?_; rintro e w1 ⟨rfl, rfl⟩)
  go_region
  have h1 := h0.drew
  go_wp2_with (first
    | (go_at_call 35; refine (C2 _).mono ?_; rintro e w2 ⟨rfl, rfl⟩)
    | (go_at_call 10; refine (RL _).mono ?_; rintro e w3 ⟨rfl, hb3⟩; have m3 := h1.call hb3; have ca0 := cell_three0 m3.at0; have ca1 := cell_three1 m3.at0; have ca2 := cell_three2 m3.at0; have cb0 := cell_three0 m3.at1; have cb1 := cell_three1 m3.at1; have cb2 := cell_three2 m3.at1; have cf0 := thaw_three m3.at0 0; have cf1 := thaw_three m3.at0 1; have cf2 := thaw_three m3.at0 2; have cg0 := thaw_three m3.at1 0; have cg1 := thaw_three m3.at1 1; have cg2 := thaw_three m3.at1 2; have h3 := m3.j0 (.string ⟨pL.1.toArray⟩))
    | (go_at_call 12; refine (RH _).mono ?_; rintro e w4 ⟨rfl, hb4⟩; have m4 := h3.call hb4; have da0 := cell_three0 m4.at0; have da1 := cell_three1 m4.at0; have da2 := cell_three2 m4.at0; have db0 := cell_three0 m4.at1; have db1 := cell_three1 m4.at1; have db2 := cell_three2 m4.at1; have df0 := thaw_three m4.at0 0; have df1 := thaw_three m4.at0 1; have df2 := thaw_three m4.at0 2; have dg0 := thaw_three m4.at1 0; have dg1 := thaw_three m4.at1 1; have dg2 := thaw_three m4.at1 2; have h4 := m4.j1 (.string ⟨pH.1.toArray⟩))
    | (go_at_call 14; refine (RR _).mono ?_; rintro e w5 ⟨rfl, hb5⟩; have m5 := h4.call hb5; have ea0 := cell_three0 m5.at0; have ea1 := cell_three1 m5.at0; have ea2 := cell_three2 m5.at0; have eb0 := cell_three0 m5.at1; have eb1 := cell_three1 m5.at1; have eb2 := cell_three2 m5.at1; have ef0 := thaw_three m5.at0 0; have ef1 := thaw_three m5.at0 1; have ef2 := thaw_three m5.at0 2; have eg0 := thaw_three m5.at1 0; have eg1 := thaw_three m5.at1 1; have eg2 := thaw_three m5.at1 2; have h5 := m5.j2 (.string ⟨pR.1.toArray⟩)))
  refine ⟨rfl, _, by simp [results, Tryd.results17, go_sem, ea0, ea1, ea2], rfl, ?_⟩
  exact ((h5.below.setCell (p := ⟨w.heap.size, 0, none⟩) (Nat.le_refl _) _).setCell (p := ⟨w.heap.size, 1, none⟩) (Nat.le_refl _) _).setCell (p := ⟨w.heap.size, 2, none⟩) (Nat.le_refl _) _

set_option maxHeartbeats 3200000 in
theorem rparse_tto (s a z a2 z2 : ByteArray) (i : Nat) (k : Nat) (pL pH pR : List UInt8 × Nat) (w : World) (C1 : CutR s 47 (i : Int)) (_hs : s.size ≤ 9223372036854775807) (hi : i < s.size) (_x1 : s.extract 0 i = a) (_x2 : s.extract (i + 1) s.size = z) (C2 : CutR a 64 (k : Int)) (_ha : a.size ≤ 9223372036854775807) (hk : k < a.size) (_y1 : a.extract 0 k = a2) (_y2 : a.extract (k + 1) a.size = z2) (RL : PartR 10 a2 pL) (kL : pL.2 = 0) (RH : PartR 12 z2 pH) (kH : pH.2 = 0) (RR : PartR 14 z pR) (kR : pR.2 = 0) :
    Calls Tryd.prog 17 #[.string s] w fun e w' => e = .returned (.tuple #[.agg #[.string ⟨pL.1.toArray⟩, .string ⟨pH.1.toArray⟩, .string ⟨pR.1.toArray⟩], .int .i64 0]) ∧ Below w.heap.size w w' := by
  have tok : True := trivial
  have h0 := St2.new w
  have i1 : (0 : Int) ≤ (i : Int) := by omega
  have i2 : (i : Int) ≤ (s.size : Int) := by omega
  have i3 : (0 : Int) ≤ (i : Int) + 1 := by omega
  have i4 : (i : Int) + 1 ≤ (s.size : Int) := by omega
  have k1 : (0 : Int) ≤ (k : Int) := by omega
  have k2 : (k : Int) ≤ (a.size : Int) := by omega
  have k3 : (0 : Int) ≤ (k : Int) + 1 := by omega
  have k4 : (k : Int) + 1 ≤ (a.size : Int) := by omega
  have zL : ((pL.2 : Int) != 0) = false := by simp [kL]
  have zH : ((pH.2 : Int) != 0) = false := by simp [kH]
  have zR : ((pR.2 : Int) != 0) = false := by simp [kR]
  go_enter Tryd.func17, Tryd.ntmps17
  go_wp2_with (go_at_call 35; clear tok; refine (C1 _).mono ?_; rintro e w1 ⟨rfl, rfl⟩)
  go_region
  have h1 := h0.drew
  go_wp2_with (first
    | (go_at_call 35; refine (C2 _).mono ?_; rintro e w2 ⟨rfl, rfl⟩)
    | (go_at_call 10; refine (RL _).mono ?_; rintro e w3 ⟨rfl, hb3⟩; have m3 := h1.call hb3; have ca0 := cell_three0 m3.at0; have ca1 := cell_three1 m3.at0; have ca2 := cell_three2 m3.at0; have cb0 := cell_three0 m3.at1; have cb1 := cell_three1 m3.at1; have cb2 := cell_three2 m3.at1; have cf0 := thaw_three m3.at0 0; have cf1 := thaw_three m3.at0 1; have cf2 := thaw_three m3.at0 2; have cg0 := thaw_three m3.at1 0; have cg1 := thaw_three m3.at1 1; have cg2 := thaw_three m3.at1 2; have h3 := m3.j0 (.string ⟨pL.1.toArray⟩))
    | (go_at_call 12; refine (RH _).mono ?_; rintro e w4 ⟨rfl, hb4⟩; have m4 := h3.call hb4; have da0 := cell_three0 m4.at0; have da1 := cell_three1 m4.at0; have da2 := cell_three2 m4.at0; have db0 := cell_three0 m4.at1; have db1 := cell_three1 m4.at1; have db2 := cell_three2 m4.at1; have df0 := thaw_three m4.at0 0; have df1 := thaw_three m4.at0 1; have df2 := thaw_three m4.at0 2; have dg0 := thaw_three m4.at1 0; have dg1 := thaw_three m4.at1 1; have dg2 := thaw_three m4.at1 2; have h4 := m4.j1 (.string ⟨pH.1.toArray⟩))
    | (go_at_call 14; refine (RR _).mono ?_; rintro e w5 ⟨rfl, hb5⟩; have m5 := h4.call hb5; have ea0 := cell_three0 m5.at0; have ea1 := cell_three1 m5.at0; have ea2 := cell_three2 m5.at0; have eb0 := cell_three0 m5.at1; have eb1 := cell_three1 m5.at1; have eb2 := cell_three2 m5.at1; have ef0 := thaw_three m5.at0 0; have ef1 := thaw_three m5.at0 1; have ef2 := thaw_three m5.at0 2; have eg0 := thaw_three m5.at1 0; have eg1 := thaw_three m5.at1 1; have eg2 := thaw_three m5.at1 2; have h5 := m5.j2 (.string ⟨pR.1.toArray⟩)))
  refine ⟨rfl, _, by simp [results, Tryd.results17, go_sem, ea0, ea1, ea2], rfl, ?_⟩
  exact ((h5.below.setCell (p := ⟨w.heap.size, 0, none⟩) (Nat.le_refl _) _).setCell (p := ⟨w.heap.size, 1, none⟩) (Nat.le_refl _) _).setCell (p := ⟨w.heap.size, 2, none⟩) (Nat.le_refl _) _

set_option maxHeartbeats 3200000 in
theorem rparse_tfH (s a z : ByteArray) (i : Nat) (pH : List UInt8 × Nat) (w : World) (C1 : CutR s 47 (i : Int)) (_hs : s.size ≤ 9223372036854775807) (hi : i < s.size) (_x1 : s.extract 0 i = a) (_x2 : s.extract (i + 1) s.size = z) (C2 : CutR a 64 (-1)) (RH : PartR 12 a pH) (kH : pH.2 ≠ 0) :
    Calls Tryd.prog 17 #[.string s] w fun e w' => e = .returned (.tuple #[.agg #[noS, noS, noS], .int .i64 pH.2]) ∧ Below w.heap.size w w' := by
  have tok : True := trivial
  have h0 := St2.new w
  have i1 : (0 : Int) ≤ (i : Int) := by omega
  have i2 : (i : Int) ≤ (s.size : Int) := by omega
  have i3 : (0 : Int) ≤ (i : Int) + 1 := by omega
  have i4 : (i : Int) + 1 ≤ (s.size : Int) := by omega
  have zH : ((pH.2 : Int) != 0) = true := by simpa using kH
  go_enter Tryd.func17, Tryd.ntmps17
  go_wp2_with (go_at_call 35; clear tok; refine (C1 _).mono ?_; rintro e w1 ⟨rfl, rfl⟩)
  go_region
  have h1 := h0.drew
  go_wp2_with (first
    | (go_at_call 35; refine (C2 _).mono ?_; rintro e w2 ⟨rfl, rfl⟩)
    | (go_at_call 12; refine (RH _).mono ?_; rintro e w4 ⟨rfl, hb4⟩; have m4 := h1.call hb4; have da0 := cell_three0 m4.at0; have da1 := cell_three1 m4.at0; have da2 := cell_three2 m4.at0; have db0 := cell_three0 m4.at1; have db1 := cell_three1 m4.at1; have db2 := cell_three2 m4.at1; have df0 := thaw_three m4.at0 0; have df1 := thaw_three m4.at0 1; have df2 := thaw_three m4.at0 2; have dg0 := thaw_three m4.at1 0; have dg1 := thaw_three m4.at1 1; have dg2 := thaw_three m4.at1 2; have h4 := m4.j1 (.string ⟨pH.1.toArray⟩)))
  refine ⟨rfl, _, by simp [results, Tryd.results17, go_sem, da0, da1, da2], rfl, ?_⟩
  exact ((h4.below.setCell (p := ⟨w.heap.size, 0, none⟩) (Nat.le_refl _) _).setCell (p := ⟨w.heap.size, 1, none⟩) (Nat.le_refl _) _).setCell (p := ⟨w.heap.size, 2, none⟩) (Nat.le_refl _) _

set_option maxHeartbeats 3200000 in
theorem rparse_tfR (s a z : ByteArray) (i : Nat) (pH pR : List UInt8 × Nat) (w : World) (C1 : CutR s 47 (i : Int)) (_hs : s.size ≤ 9223372036854775807) (hi : i < s.size) (_x1 : s.extract 0 i = a) (_x2 : s.extract (i + 1) s.size = z) (C2 : CutR a 64 (-1)) (RH : PartR 12 a pH) (kH : pH.2 = 0) (RR : PartR 14 z pR) (kR : pR.2 ≠ 0) :
    Calls Tryd.prog 17 #[.string s] w fun e w' => e = .returned (.tuple #[.agg #[noS, noS, noS], .int .i64 pR.2]) ∧ Below w.heap.size w w' := by
  have tok : True := trivial
  have h0 := St2.new w
  have i1 : (0 : Int) ≤ (i : Int) := by omega
  have i2 : (i : Int) ≤ (s.size : Int) := by omega
  have i3 : (0 : Int) ≤ (i : Int) + 1 := by omega
  have i4 : (i : Int) + 1 ≤ (s.size : Int) := by omega
  have zH : ((pH.2 : Int) != 0) = false := by simp [kH]
  have zR : ((pR.2 : Int) != 0) = true := by simpa using kR
  go_enter Tryd.func17, Tryd.ntmps17
  go_wp2_with (go_at_call 35; clear tok; refine (C1 _).mono ?_; rintro e w1 ⟨rfl, rfl⟩)
  go_region
  have h1 := h0.drew
  go_wp2_with (first
    | (go_at_call 35; refine (C2 _).mono ?_; rintro e w2 ⟨rfl, rfl⟩)
    | (go_at_call 12; refine (RH _).mono ?_; rintro e w4 ⟨rfl, hb4⟩; have m4 := h1.call hb4; have da0 := cell_three0 m4.at0; have da1 := cell_three1 m4.at0; have da2 := cell_three2 m4.at0; have db0 := cell_three0 m4.at1; have db1 := cell_three1 m4.at1; have db2 := cell_three2 m4.at1; have df0 := thaw_three m4.at0 0; have df1 := thaw_three m4.at0 1; have df2 := thaw_three m4.at0 2; have dg0 := thaw_three m4.at1 0; have dg1 := thaw_three m4.at1 1; have dg2 := thaw_three m4.at1 2; have h4 := m4.j1 (.string ⟨pH.1.toArray⟩))
    | (go_at_call 14; refine (RR _).mono ?_; rintro e w5 ⟨rfl, hb5⟩; have m5 := h4.call hb5; have ea0 := cell_three0 m5.at0; have ea1 := cell_three1 m5.at0; have ea2 := cell_three2 m5.at0; have eb0 := cell_three0 m5.at1; have eb1 := cell_three1 m5.at1; have eb2 := cell_three2 m5.at1; have ef0 := thaw_three m5.at0 0; have ef1 := thaw_three m5.at0 1; have ef2 := thaw_three m5.at0 2; have eg0 := thaw_three m5.at1 0; have eg1 := thaw_three m5.at1 1; have eg2 := thaw_three m5.at1 2; have h5 := m5.j2 (.string ⟨pR.1.toArray⟩)))
  refine ⟨rfl, _, by simp [results, Tryd.results17, go_sem, ea0, ea1, ea2], rfl, ?_⟩
  exact ((h5.below.setCell (p := ⟨w.heap.size, 0, none⟩) (Nat.le_refl _) _).setCell (p := ⟨w.heap.size, 1, none⟩) (Nat.le_refl _) _).setCell (p := ⟨w.heap.size, 2, none⟩) (Nat.le_refl _) _

set_option maxHeartbeats 3200000 in
theorem rparse_tfo (s a z : ByteArray) (i : Nat) (pH pR : List UInt8 × Nat) (w : World) (C1 : CutR s 47 (i : Int)) (_hs : s.size ≤ 9223372036854775807) (hi : i < s.size) (_x1 : s.extract 0 i = a) (_x2 : s.extract (i + 1) s.size = z) (C2 : CutR a 64 (-1)) (RH : PartR 12 a pH) (kH : pH.2 = 0) (RR : PartR 14 z pR) (kR : pR.2 = 0) :
    Calls Tryd.prog 17 #[.string s] w fun e w' => e = .returned (.tuple #[.agg #[noS, .string ⟨pH.1.toArray⟩, .string ⟨pR.1.toArray⟩], .int .i64 0]) ∧ Below w.heap.size w w' := by
  have tok : True := trivial
  have h0 := St2.new w
  have i1 : (0 : Int) ≤ (i : Int) := by omega
  have i2 : (i : Int) ≤ (s.size : Int) := by omega
  have i3 : (0 : Int) ≤ (i : Int) + 1 := by omega
  have i4 : (i : Int) + 1 ≤ (s.size : Int) := by omega
  have zH : ((pH.2 : Int) != 0) = false := by simp [kH]
  have zR : ((pR.2 : Int) != 0) = false := by simp [kR]
  go_enter Tryd.func17, Tryd.ntmps17
  go_wp2_with (go_at_call 35; clear tok; refine (C1 _).mono ?_; rintro e w1 ⟨rfl, rfl⟩)
  go_region
  have h1 := h0.drew
  go_wp2_with (first
    | (go_at_call 35; refine (C2 _).mono ?_; rintro e w2 ⟨rfl, rfl⟩)
    | (go_at_call 12; refine (RH _).mono ?_; rintro e w4 ⟨rfl, hb4⟩; have m4 := h1.call hb4; have da0 := cell_three0 m4.at0; have da1 := cell_three1 m4.at0; have da2 := cell_three2 m4.at0; have db0 := cell_three0 m4.at1; have db1 := cell_three1 m4.at1; have db2 := cell_three2 m4.at1; have df0 := thaw_three m4.at0 0; have df1 := thaw_three m4.at0 1; have df2 := thaw_three m4.at0 2; have dg0 := thaw_three m4.at1 0; have dg1 := thaw_three m4.at1 1; have dg2 := thaw_three m4.at1 2; have h4 := m4.j1 (.string ⟨pH.1.toArray⟩))
    | (go_at_call 14; refine (RR _).mono ?_; rintro e w5 ⟨rfl, hb5⟩; have m5 := h4.call hb5; have ea0 := cell_three0 m5.at0; have ea1 := cell_three1 m5.at0; have ea2 := cell_three2 m5.at0; have eb0 := cell_three0 m5.at1; have eb1 := cell_three1 m5.at1; have eb2 := cell_three2 m5.at1; have ef0 := thaw_three m5.at0 0; have ef1 := thaw_three m5.at0 1; have ef2 := thaw_three m5.at0 2; have eg0 := thaw_three m5.at1 0; have eg1 := thaw_three m5.at1 1; have eg2 := thaw_three m5.at1 2; have h5 := m5.j2 (.string ⟨pR.1.toArray⟩)))
  refine ⟨rfl, _, by simp [results, Tryd.results17, go_sem, ea0, ea1, ea2], rfl, ?_⟩
  exact ((h5.below.setCell (p := ⟨w.heap.size, 0, none⟩) (Nat.le_refl _) _).setCell (p := ⟨w.heap.size, 1, none⟩) (Nat.le_refl _) _).setCell (p := ⟨w.heap.size, 2, none⟩) (Nat.le_refl _) _

set_option maxHeartbeats 3200000 in
theorem rparse_ftL (s a2 z2 : ByteArray) (k : Nat) (pL : List UInt8 × Nat) (w : World) (C1 : CutR s 47 (-1)) (C2 : CutR s 64 (k : Int)) (_ha : s.size ≤ 9223372036854775807) (hk : k < s.size) (_y1 : s.extract 0 k = a2) (_y2 : s.extract (k + 1) s.size = z2) (RL : PartR 10 a2 pL) (kL : pL.2 ≠ 0) :
    Calls Tryd.prog 17 #[.string s] w fun e w' => e = .returned (.tuple #[.agg #[noS, noS, noS], .int .i64 pL.2]) ∧ Below w.heap.size w w' := by
  have tok : True := trivial
  have h0 := St2.new w
  have k1 : (0 : Int) ≤ (k : Int) := by omega
  have k2 : (k : Int) ≤ (s.size : Int) := by omega
  have k3 : (0 : Int) ≤ (k : Int) + 1 := by omega
  have k4 : (k : Int) + 1 ≤ (s.size : Int) := by omega
  have zL : ((pL.2 : Int) != 0) = true := by simpa using kL
  go_enter Tryd.func17, Tryd.ntmps17
  go_wp2_with (first
    | (go_at_call 35; clear tok; refine (C1 _).mono ?_; rintro e w1 ⟨rfl, rfl⟩)
    | (go_at_call 35; refine (C2 _).mono ?_; rintro e w2 ⟨rfl, rfl⟩)
    | (go_at_call 10; refine (RL _).mono ?_; rintro e w3 ⟨rfl, hb3⟩; have m3 := h0.call hb3; have ca0 := cell_three0 m3.at0; have ca1 := cell_three1 m3.at0; have ca2 := cell_three2 m3.at0; have cb0 := cell_three0 m3.at1; have cb1 := cell_three1 m3.at1; have cb2 := cell_three2 m3.at1; have cf0 := thaw_three m3.at0 0; have cf1 := thaw_three m3.at0 1; have cf2 := thaw_three m3.at0 2; have cg0 := thaw_three m3.at1 0; have cg1 := thaw_three m3.at1 1; have cg2 := thaw_three m3.at1 2; have h3 := m3.j0 (.string ⟨pL.1.toArray⟩)))
  refine ⟨rfl, _, by simp [results, Tryd.results17, go_sem, ca0, ca1, ca2], rfl, ?_⟩
  exact ((h3.below.setCell (p := ⟨w.heap.size, 0, none⟩) (Nat.le_refl _) _).setCell (p := ⟨w.heap.size, 1, none⟩) (Nat.le_refl _) _).setCell (p := ⟨w.heap.size, 2, none⟩) (Nat.le_refl _) _

set_option maxHeartbeats 3200000 in
theorem rparse_ftH (s a2 z2 : ByteArray) (k : Nat) (pL pH : List UInt8 × Nat) (w : World) (C1 : CutR s 47 (-1)) (C2 : CutR s 64 (k : Int)) (_ha : s.size ≤ 9223372036854775807) (hk : k < s.size) (_y1 : s.extract 0 k = a2) (_y2 : s.extract (k + 1) s.size = z2) (RL : PartR 10 a2 pL) (kL : pL.2 = 0) (RH : PartR 12 z2 pH) (kH : pH.2 ≠ 0) :
    Calls Tryd.prog 17 #[.string s] w fun e w' => e = .returned (.tuple #[.agg #[noS, noS, noS], .int .i64 pH.2]) ∧ Below w.heap.size w w' := by
  have tok : True := trivial
  have h0 := St2.new w
  have k1 : (0 : Int) ≤ (k : Int) := by omega
  have k2 : (k : Int) ≤ (s.size : Int) := by omega
  have k3 : (0 : Int) ≤ (k : Int) + 1 := by omega
  have k4 : (k : Int) + 1 ≤ (s.size : Int) := by omega
  have zL : ((pL.2 : Int) != 0) = false := by simp [kL]
  have zH : ((pH.2 : Int) != 0) = true := by simpa using kH
  go_enter Tryd.func17, Tryd.ntmps17
  go_wp2_with (first
    | (go_at_call 35; clear tok; refine (C1 _).mono ?_; rintro e w1 ⟨rfl, rfl⟩)
    | (go_at_call 35; refine (C2 _).mono ?_; rintro e w2 ⟨rfl, rfl⟩)
    | (go_at_call 10; refine (RL _).mono ?_; rintro e w3 ⟨rfl, hb3⟩; have m3 := h0.call hb3; have ca0 := cell_three0 m3.at0; have ca1 := cell_three1 m3.at0; have ca2 := cell_three2 m3.at0; have cb0 := cell_three0 m3.at1; have cb1 := cell_three1 m3.at1; have cb2 := cell_three2 m3.at1; have cf0 := thaw_three m3.at0 0; have cf1 := thaw_three m3.at0 1; have cf2 := thaw_three m3.at0 2; have cg0 := thaw_three m3.at1 0; have cg1 := thaw_three m3.at1 1; have cg2 := thaw_three m3.at1 2; have h3 := m3.j0 (.string ⟨pL.1.toArray⟩))
    | (go_at_call 12; refine (RH _).mono ?_; rintro e w4 ⟨rfl, hb4⟩; have m4 := h3.call hb4; have da0 := cell_three0 m4.at0; have da1 := cell_three1 m4.at0; have da2 := cell_three2 m4.at0; have db0 := cell_three0 m4.at1; have db1 := cell_three1 m4.at1; have db2 := cell_three2 m4.at1; have df0 := thaw_three m4.at0 0; have df1 := thaw_three m4.at0 1; have df2 := thaw_three m4.at0 2; have dg0 := thaw_three m4.at1 0; have dg1 := thaw_three m4.at1 1; have dg2 := thaw_three m4.at1 2; have h4 := m4.j1 (.string ⟨pH.1.toArray⟩)))
  refine ⟨rfl, _, by simp [results, Tryd.results17, go_sem, da0, da1, da2], rfl, ?_⟩
  exact ((h4.below.setCell (p := ⟨w.heap.size, 0, none⟩) (Nat.le_refl _) _).setCell (p := ⟨w.heap.size, 1, none⟩) (Nat.le_refl _) _).setCell (p := ⟨w.heap.size, 2, none⟩) (Nat.le_refl _) _

set_option maxHeartbeats 3200000 in
theorem rparse_fto (s a2 z2 : ByteArray) (k : Nat) (pL pH : List UInt8 × Nat) (w : World) (C1 : CutR s 47 (-1)) (C2 : CutR s 64 (k : Int)) (_ha : s.size ≤ 9223372036854775807) (hk : k < s.size) (_y1 : s.extract 0 k = a2) (_y2 : s.extract (k + 1) s.size = z2) (RL : PartR 10 a2 pL) (kL : pL.2 = 0) (RH : PartR 12 z2 pH) (kH : pH.2 = 0) :
    Calls Tryd.prog 17 #[.string s] w fun e w' => e = .returned (.tuple #[.agg #[.string ⟨pL.1.toArray⟩, .string ⟨pH.1.toArray⟩, noS], .int .i64 0]) ∧ Below w.heap.size w w' := by
  have tok : True := trivial
  have h0 := St2.new w
  have k1 : (0 : Int) ≤ (k : Int) := by omega
  have k2 : (k : Int) ≤ (s.size : Int) := by omega
  have k3 : (0 : Int) ≤ (k : Int) + 1 := by omega
  have k4 : (k : Int) + 1 ≤ (s.size : Int) := by omega
  have zL : ((pL.2 : Int) != 0) = false := by simp [kL]
  have zH : ((pH.2 : Int) != 0) = false := by simp [kH]
  go_enter Tryd.func17, Tryd.ntmps17
  go_wp2_with (first
    | (go_at_call 35; clear tok; refine (C1 _).mono ?_; rintro e w1 ⟨rfl, rfl⟩)
    | (go_at_call 35; refine (C2 _).mono ?_; rintro e w2 ⟨rfl, rfl⟩)
    | (go_at_call 10; refine (RL _).mono ?_; rintro e w3 ⟨rfl, hb3⟩; have m3 := h0.call hb3; have ca0 := cell_three0 m3.at0; have ca1 := cell_three1 m3.at0; have ca2 := cell_three2 m3.at0; have cb0 := cell_three0 m3.at1; have cb1 := cell_three1 m3.at1; have cb2 := cell_three2 m3.at1; have cf0 := thaw_three m3.at0 0; have cf1 := thaw_three m3.at0 1; have cf2 := thaw_three m3.at0 2; have cg0 := thaw_three m3.at1 0; have cg1 := thaw_three m3.at1 1; have cg2 := thaw_three m3.at1 2; have h3 := m3.j0 (.string ⟨pL.1.toArray⟩))
    | (go_at_call 12; refine (RH _).mono ?_; rintro e w4 ⟨rfl, hb4⟩; have m4 := h3.call hb4; have da0 := cell_three0 m4.at0; have da1 := cell_three1 m4.at0; have da2 := cell_three2 m4.at0; have db0 := cell_three0 m4.at1; have db1 := cell_three1 m4.at1; have db2 := cell_three2 m4.at1; have df0 := thaw_three m4.at0 0; have df1 := thaw_three m4.at0 1; have df2 := thaw_three m4.at0 2; have dg0 := thaw_three m4.at1 0; have dg1 := thaw_three m4.at1 1; have dg2 := thaw_three m4.at1 2; have h4 := m4.j1 (.string ⟨pH.1.toArray⟩)))
  refine ⟨rfl, _, by simp [results, Tryd.results17, go_sem, da0, da1, da2], rfl, ?_⟩
  exact ((h4.below.setCell (p := ⟨w.heap.size, 0, none⟩) (Nat.le_refl _) _).setCell (p := ⟨w.heap.size, 1, none⟩) (Nat.le_refl _) _).setCell (p := ⟨w.heap.size, 2, none⟩) (Nat.le_refl _) _

set_option maxHeartbeats 3200000 in
theorem rparse_ffH (s : ByteArray) (pH : List UInt8 × Nat) (w : World) (C1 : CutR s 47 (-1)) (C2 : CutR s 64 (-1)) (RH : PartR 12 s pH) (kH : pH.2 ≠ 0) :
    Calls Tryd.prog 17 #[.string s] w fun e w' => e = .returned (.tuple #[.agg #[noS, noS, noS], .int .i64 pH.2]) ∧ Below w.heap.size w w' := by
  have tok : True := trivial
  have h0 := St2.new w
  have zH : ((pH.2 : Int) != 0) = true := by simpa using kH
  go_enter Tryd.func17, Tryd.ntmps17
  go_wp2_with (first
    | (go_at_call 35; clear tok; refine (C1 _).mono ?_; rintro e w1 ⟨rfl, rfl⟩)
    | (go_at_call 35; refine (C2 _).mono ?_; rintro e w2 ⟨rfl, rfl⟩)
    | (go_at_call 12; refine (RH _).mono ?_; rintro e w4 ⟨rfl, hb4⟩; have m4 := h0.call hb4; have da0 := cell_three0 m4.at0; have da1 := cell_three1 m4.at0; have da2 := cell_three2 m4.at0; have db0 := cell_three0 m4.at1; have db1 := cell_three1 m4.at1; have db2 := cell_three2 m4.at1; have df0 := thaw_three m4.at0 0; have df1 := thaw_three m4.at0 1; have df2 := thaw_three m4.at0 2; have dg0 := thaw_three m4.at1 0; have dg1 := thaw_three m4.at1 1; have dg2 := thaw_three m4.at1 2; have h4 := m4.j1 (.string ⟨pH.1.toArray⟩)))
  refine ⟨rfl, _, by simp [results, Tryd.results17, go_sem, da0, da1, da2], rfl, ?_⟩
  exact ((h4.below.setCell (p := ⟨w.heap.size, 0, none⟩) (Nat.le_refl _) _).setCell (p := ⟨w.heap.size, 1, none⟩) (Nat.le_refl _) _).setCell (p := ⟨w.heap.size, 2, none⟩) (Nat.le_refl _) _

set_option maxHeartbeats 3200000 in
theorem rparse_ffo (s : ByteArray) (pH : List UInt8 × Nat) (w : World) (C1 : CutR s 47 (-1)) (C2 : CutR s 64 (-1)) (RH : PartR 12 s pH) (kH : pH.2 = 0) :
    Calls Tryd.prog 17 #[.string s] w fun e w' => e = .returned (.tuple #[.agg #[noS, .string ⟨pH.1.toArray⟩, noS], .int .i64 0]) ∧ Below w.heap.size w w' := by
  have tok : True := trivial
  have h0 := St2.new w
  have zH : ((pH.2 : Int) != 0) = false := by simp [kH]
  go_enter Tryd.func17, Tryd.ntmps17
  go_wp2_with (first
    | (go_at_call 35; clear tok; refine (C1 _).mono ?_; rintro e w1 ⟨rfl, rfl⟩)
    | (go_at_call 35; refine (C2 _).mono ?_; rintro e w2 ⟨rfl, rfl⟩)
    | (go_at_call 12; refine (RH _).mono ?_; rintro e w4 ⟨rfl, hb4⟩; have m4 := h0.call hb4; have da0 := cell_three0 m4.at0; have da1 := cell_three1 m4.at0; have da2 := cell_three2 m4.at0; have db0 := cell_three0 m4.at1; have db1 := cell_three1 m4.at1; have db2 := cell_three2 m4.at1; have df0 := thaw_three m4.at0 0; have df1 := thaw_three m4.at0 1; have df2 := thaw_three m4.at0 2; have dg0 := thaw_three m4.at1 0; have dg1 := thaw_three m4.at1 1; have dg2 := thaw_three m4.at1 2; have h4 := m4.j1 (.string ⟨pH.1.toArray⟩)))
  refine ⟨rfl, _, by simp [results, Tryd.results17, go_sem, da0, da1, da2], rfl, ?_⟩
  exact ((h4.below.setCell (p := ⟨w.heap.size, 0, none⟩) (Nat.le_refl _) _).setCell (p := ⟨w.heap.size, 1, none⟩) (Nat.le_refl _) _).setCell (p := ⟨w.heap.size, 2, none⟩) (Nat.le_refl _) _
end Go.Proofs.YtikklhnkkfimfaaDoor
