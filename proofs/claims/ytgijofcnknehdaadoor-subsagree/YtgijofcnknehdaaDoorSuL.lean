/- What the rows' lists give: the package's two tables of names. -/
import Derived.Test.YtgijofcnknehdaaDoorRows
import Derived.Test.YtgijofcnknehdaaDoorSuH
import Derived.ProofKit
import Derived.OpenShut
import Derived.ChangeOld
import Derived.Deep.DeepHandedRow
import Derived.Lib.LaidTab
namespace Go.Proofs.YtgijofcnknehdaaDoor
open Go.ChangeShapes Go.WideShapes Go.ChangeAt Go.RowKit

theorem gSt : Tryd.prog.globalNamed "roost/subs.stateNames" = some 0 := by kernel_rfl
theorem gSu : Tryd.prog.globalNamed "roost/subs.subNames" = some 1 := by kernel_rfl
theorem gStT : (Tryd.prog.globals[0]?).map (·.type) = some 57 := by kernel_rfl
theorem gSuT : (Tryd.prog.globals[1]?).map (·.type) = some 57 := by kernel_rfl
theorem cells33 : Tryd.prog.cellsOf 57 = 9 := by kernel_rfl
theorem cells3 : Tryd.prog.cellsOf 56 = 3 := by kernel_rfl
theorem cells1 : Tryd.prog.cellsOf 9 = 1 := by kernel_rfl

theorem row_of {enc : TypeId × Value → Unit} {W : World} {base : Nat} {sp : Nat → Bool} {held : Bool} {fuel : Nat} {p : List MemPlace} {v0 v1 v2 : Value} {s0 s1 s2 : List UInt8}
    (h : DataW.trod enc Tryd.prog W base sp held fuel 56 [v0, v1, v2] = some (.agg [.lit (.string s0), .lit (.string s1), .lit (.string s2)], p)) : v0 = .string ⟨s0.toArray⟩ ∧ v1 = .string ⟨s1.toArray⟩ ∧ v2 = .string ⟨s2.toArray⟩ := by
  obtain ⟨xs, m, _, hx, _, hl, hf⟩ := DataW.trod_array Tryd.underlying56 h
  match xs, hl with
  | [y0, y1, y2], _ =>
    have f0 : DataW.trod enc Tryd.prog W base sp held m 9 [v0] = some y0 := by simpa [cells1] using hf 0 (by omega)
    have f1 : DataW.trod enc Tryd.prog W base sp held m 9 [v1] = some y1 := by simpa [cells1] using hf 1 (by omega)
    have f2 : DataW.trod enc Tryd.prog W base sp held m 9 [v2] = some y2 := by simpa [cells1] using hf 2 (by omega)
    obtain ⟨t0, e0, g0, _⟩ := DataW.trod_string Tryd.underlying9 f0
    obtain ⟨t1, e1, g1, _⟩ := DataW.trod_string Tryd.underlying9 f1
    obtain ⟨t2, e2, g2, _⟩ := DataW.trod_string Tryd.underlying9 f2
    subst g0 g1 g2
    simp only [List.cons.injEq, and_true] at e0 e1 e2
    subst e0 e1 e2
    simp only [List.map_cons, List.map_nil, Prod.mk.injEq, DataW.agg.injEq, List.cons.injEq, DataW.lit.injEq, Lit.string.injEq, and_true] at hx
    obtain ⟨⟨rfl, rfl, rfl⟩, _⟩ := hx
    exact ⟨rfl, rfl, rfl⟩
theorem tab_of {enc : TypeId × Value → Unit} {W : World} {base : Nat} {sp : Nat → Bool} {held : Bool} {fuel : Nat} {p : List MemPlace} {cs : List Value} {s0 s1 s2 s3 s4 s5 s6 s7 s8 : List UInt8}
    (h : DataW.trod enc Tryd.prog W base sp held fuel 57 cs = some (.agg [.agg [.lit (.string s0), .lit (.string s1), .lit (.string s2)], .agg [.lit (.string s3), .lit (.string s4), .lit (.string s5)], .agg [.lit (.string s6), .lit (.string s7), .lit (.string s8)]], p)) :
    cs = [.string ⟨s0.toArray⟩, .string ⟨s1.toArray⟩, .string ⟨s2.toArray⟩, .string ⟨s3.toArray⟩, .string ⟨s4.toArray⟩, .string ⟨s5.toArray⟩, .string ⟨s6.toArray⟩, .string ⟨s7.toArray⟩, .string ⟨s8.toArray⟩] := by
  obtain ⟨xs, m, _, hx, hn, hl, hf⟩ := DataW.trod_array Tryd.underlying57 h
  rw [cells33] at hn
  match xs, hl, cs, hn with
  | [y0, y1, y2], _, [v0, v1, v2, v3, v4, v5, v6, v7, v8], _ =>
    obtain ⟨d0, p0⟩ := y0
    obtain ⟨d1, p1⟩ := y1
    obtain ⟨d2, p2⟩ := y2
    simp only [List.map_cons, List.map_nil, Prod.mk.injEq, DataW.agg.injEq, List.cons.injEq, and_true] at hx
    obtain ⟨⟨rfl, rfl, rfl⟩, _⟩ := hx
    have f0 := row_of (by simpa [cells3] using hf 0 (by omega))
    have f1 := row_of (by simpa [cells3] using hf 1 (by omega))
    have f2 := row_of (by simpa [cells3] using hf 2 (by omega))
    obtain ⟨rfl, rfl, rfl⟩ := f0
    obtain ⟨rfl, rfl, rfl⟩ := f1
    obtain ⟨rfl, rfl, rfl⟩ := f2
    rfl
theorem ts_in {W : World} {cs : Array Value} (hv : W.var? Tryd.prog "roost/subs.stateNames" = some cs) (hc : cs.toList = stT.map Value.string) : Ts W := by
  have hcell : ∀ k, k < 9 → W.cell? ⟨0, k, none⟩ = some (.string (stT.getD k ⟨#[]⟩)) := fun k hk => by
    rw [World.var?_cell gSt hv k, ← Array.getElem?_toList, hc, List.getElem?_map]
    have hlen : k < stT.length := hk
    simp [List.getD, List.getElem?_eq_getElem hlen]
  exact ⟨World.block_lt_of_cell? W _ (hcell 0 (by omega)), hcell⟩
theorem tu_in {W : World} {cs : Array Value} (hv : W.var? Tryd.prog "roost/subs.subNames" = some cs) (hc : cs.toList = sbT.map Value.string) : Tu W := by
  have hcell : ∀ k, k < 9 → W.cell? ⟨1, k, none⟩ = some (.string (sbT.getD k ⟨#[]⟩)) := fun k hk => by
    rw [World.var?_cell gSu hv k, ← Array.getElem?_toList, hc, List.getElem?_map]
    have hlen : k < sbT.length := hk
    simp [List.getD, List.getElem?_eq_getElem hlen]
  exact ⟨World.block_lt_of_cell? W _ (hcell 0 (by omega)), hcell⟩
theorem both_of {W : World} (h : laidMetH Tryd.prog [("roost/subs.stateNames", Rows.laid_roost_subs_stateNames), ("roost/subs.subNames", Rows.laid_roost_subs_subNames)] W) : Ts W ∧ Tu W := by
  have h' : laidMet Tryd.prog [("roost/subs.stateNames", Rows.laid_roost_subs_stateNames), ("roost/subs.subNames", Rows.laid_roost_subs_subNames)] W := h
  obtain ⟨ps, ⟨g1, t1, cs1, fuel1, p1, q1, hg1, ht1, hv1, hd1, hr1, _⟩, _⟩ := h'
  obtain ⟨g2, t2, cs2, fuel2, p2, q2, hg2, ht2, hv2, hd2, _, _⟩ := hr1
  obtain rfl := Option.some.inj (gSt.symm.trans hg1)
  obtain rfl := Option.some.inj (gStT.symm.trans ht1)
  obtain rfl := Option.some.inj (gSu.symm.trans hg2)
  obtain rfl := Option.some.inj (gSuT.symm.trans ht2)
  exact ⟨ts_in hv1 (tab_of hd1), tu_in hv2 (tab_of hd2)⟩
theorem one_of {W : World} (h : laidMetH Tryd.prog [("roost/subs.subNames", Rows.laid_roost_subs_subNames)] W) : Tu W := by
  have h' : laidMet Tryd.prog [("roost/subs.subNames", Rows.laid_roost_subs_subNames)] W := h
  obtain ⟨ps, ⟨g2, t2, cs2, fuel2, p2, q2, hg2, ht2, hv2, hd2, _, _⟩, _⟩ := h'
  obtain rfl := Option.some.inj (gSu.symm.trans hg2)
  obtain rfl := Option.some.inj (gSuT.symm.trans ht2)
  exact tu_in hv2 (tab_of hd2)
end Go.Proofs.YtgijofcnknehdaaDoor
