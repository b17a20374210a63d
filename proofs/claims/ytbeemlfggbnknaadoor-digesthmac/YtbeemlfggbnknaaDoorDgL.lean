/- What the rows' list gives: the package's two tables, cell for cell; an argument of bytes, opened. -/
import Derived.Test.YtbeemlfggbnknaaDoorRows
import Derived.Test.YtbeemlfggbnknaaDoorDgI
import Derived.ProofKit
import Derived.OpenShut
import Derived.ShutString
import Derived.ChangeOld
import Derived.Deep.DeepHandedRow
import Derived.Lib.LaidTab
namespace Go.Proofs.YtbeemlfggbnknaaDoor
open Go.ChangeShapes Go.WideShapes Go.ChangeAt Go.RowKit

theorem gH : Tryd.prog.globalNamed "roost/digest.firstState" = some 0 := by kernel_rfl
theorem gK : Tryd.prog.globalNamed "roost/digest.roundWords" = some 1 := by kernel_rfl
theorem gHType : (Tryd.prog.globals[0]?).map (·.type) = some 45 := by kernel_rfl
theorem gKType : (Tryd.prog.globals[1]?).map (·.type) = some 46 := by kernel_rfl
theorem cellsH : Tryd.prog.cellsOf 45 = 8 := by kernel_rfl
theorem cellsK : Tryd.prog.cellsOf 46 = 64 := by kernel_rfl
theorem cellsU32 : Tryd.prog.cellsOf 43 = 1 := by kernel_rfl
theorem h_eq : (Rows.laid_roost_digest_firstState : DataW Unit) = Lib.tabData .u32 h0s := rfl
theorem k_eq : (Rows.laid_roost_digest_roundWords : DataW Unit) = Lib.tabData .u32 kws := rfl

theorem kt_of {W : World} (h : laidMetH Tryd.prog [("roost/digest.firstState", Rows.laid_roost_digest_firstState), ("roost/digest.roundWords", Rows.laid_roost_digest_roundWords)] W) : Kt W := by
  have h' : laidMet Tryd.prog [("roost/digest.firstState", Rows.laid_roost_digest_firstState), ("roost/digest.roundWords", Rows.laid_roost_digest_roundWords)] W := h
  obtain ⟨ps, ⟨g1, t1, cs1, fuel1, p1, q1, hg1, ht1, hv1, hd1, hr1, _⟩, _⟩ := h'
  obtain rfl := Option.some.inj (gH.symm.trans hg1)
  obtain rfl := Option.some.inj (gHType.symm.trans ht1)
  obtain ⟨g2, t2, cs2, fuel2, p2, q2, hg2, ht2, hv2, hd2, _, _⟩ := hr1
  obtain rfl := Option.some.inj (gK.symm.trans hg2)
  obtain rfl := Option.some.inj (gKType.symm.trans ht2)
  rw [h_eq] at hd1
  have hc1 := Lib.cells_of_tab Tryd.underlying45 Tryd.underlying43 cellsU32 cellsH hd1
  rw [k_eq] at hd2
  have hc2 := Lib.cells_of_tab Tryd.underlying46 Tryd.underlying43 cellsU32 cellsK hd2
  refine ⟨fun j hj => ?_, fun j hj => ?_⟩
  · rw [World.var?_cell gK hv2 j, ← Array.getElem?_toList, hc2, List.getElem?_map]
    have hlen : j < kws.length := hj
    rw [List.getElem?_eq_getElem hlen]
    simp [List.getD, List.getElem?_eq_getElem hlen]
  · rw [World.var?_cell gH hv1 j, ← Array.getElem?_toList, hc1, List.getElem?_map]
    have hlen : j < h0s.length := hj
    rw [List.getElem?_eq_getElem hlen]
    simp [List.getD, List.getElem?_eq_getElem hlen]

theorem rd_of_trod {H : Type} {enc : TypeId × Value → H} {W : World} {a : Option Addr} {n c : Nat} {d : DataW H} {ps : List MemPlace}
    (h : DataW.Trod enc Tryd.prog W 0 (fun _ => true) true 22 (.slice a n c) d ps) : ∃ zs, Rd W a n c zs := by
  obtain ⟨fuel, hf⟩ := h
  rcases open_ints Tryd.underlying22 Tryd.underlying5 (by kernel_rfl) hf with ⟨hcs, _⟩ | ⟨x, l, cc, zs, hcs, _, hl, hm, hz, _, hcell, hwz⟩
  · simp [Value.cells] at hcs
    obtain ⟨rfl, rfl, rfl⟩ := hcs
    exact ⟨[], rd_nilK W⟩
  · simp [Value.cells] at hcs
    obtain ⟨rfl, rfl, rfl⟩ := hcs
    have hz' : zs.length = c := by simpa using hz
    refine ⟨zs.take n, by rw [List.length_take]; omega, hl, hm, (fun h => by cases h), fun y hy => ?_, fun ad had j hj => ?_⟩
    · have := bounds_u8 (hwz y (List.mem_of_mem_take hy)); omega
    · cases had
      rw [hcell j (by omega)]
      simp [List.getD, hj]

end Go.Proofs.YtbeemlfggbnknaaDoor
