/- What the rows' list gives: Go's two tables of UTF-8, cell for cell. -/
import Derived.Test.YtiplalbicibahaaDoorRows
import Derived.Shelf.Unicode.ValidAny
import Derived.ProofKit
import Derived.OpenShut
import Derived.Deep.DeepHandedRow
import Derived.Lib.LaidTab
namespace Go.Proofs.YtiplalbicibahaaDoor.Nm
open Go.ChangeShapes Go.WideShapes Go.ChangeAt Go.RowKit

theorem gFirst : Tryd.prog.globalNamed "unicode/utf8.first" = some 0 := by kernel_rfl
theorem gAcc : Tryd.prog.globalNamed "unicode/utf8.acceptRanges" = some 1 := by kernel_rfl
theorem gFirstType : (Tryd.prog.globals[0]?).map (·.type) = some 89 := by kernel_rfl
theorem gAccType : (Tryd.prog.globals[1]?).map (·.type) = some 92 := by kernel_rfl
theorem cellsFirst : Tryd.prog.cellsOf 89 = 256 := by kernel_rfl
theorem cellsAcc : Tryd.prog.cellsOf 91 = 2 := by kernel_rfl
theorem cellsByte1 : Tryd.prog.cellsOf 5 = 1 := by kernel_rfl

def firstTab : List Int := Go.Pinned.utf8FirstZ.map fun (n : Nat) => (n : Int)
theorem first_eq : Rows.laid_unicode_utf8_first = Lib.tabData .u8 firstTab := by
  simp only [Rows.laid_unicode_utf8_first, Go.Pinned.utf8First, Go.Pinned.numbers, Lib.tabData, firstTab, List.map_map]
  rfl
theorem first_len : firstTab.length = 256 := by decide +kernel
theorem first_at : ∀ c : Nat, c < 256 → firstTab.getD c 0 = ((Lib.firstT c : Nat) : Int) := by decide +kernel

def accTab : List (Int × Int) := [(128, 191), (160, 191), (128, 159), (144, 191), (128, 143), (0, 0), (0, 0), (0, 0), (0, 0), (0, 0), (0, 0), (0, 0), (0, 0), (0, 0), (0, 0), (0, 0)]
theorem acc_eq : (Rows.laid_unicode_utf8_acceptRanges : DataW Unit) = .agg (accTab.map fun x => .agg [.lit (.int .u8 x.1), .lit (.int .u8 x.2)]) := rfl
theorem acc_at : ∀ i : Nat, i < 16 → (accTab.getD i (0, 0)) = (((Lib.accLo i : Nat) : Int), ((Lib.accHi i : Nat) : Int)) := by decide +kernel

theorem tabs_of {W : World} (h : laidMetH Tryd.prog [("unicode/utf8.acceptRanges", Rows.laid_unicode_utf8_acceptRanges), ("unicode/utf8.first", Rows.laid_unicode_utf8_first)] W) : Lib.Utf8Tabs 0 1 W := by
  have h' : laidMet Tryd.prog [("unicode/utf8.acceptRanges", Rows.laid_unicode_utf8_acceptRanges), ("unicode/utf8.first", Rows.laid_unicode_utf8_first)] W := h
  obtain ⟨ps, ⟨g1, t1, cs1, fuel1, p1, q1, hg1, ht1, hv1, hd1, hr1, _⟩, _⟩ := h'
  obtain rfl := Option.some.inj (gAcc.symm.trans hg1)
  obtain rfl := Option.some.inj (gAccType.symm.trans ht1)
  obtain ⟨g2, t2, cs2, fuel2, p2, q2, hg2, ht2, hv2, hd2, _, _⟩ := hr1
  obtain rfl := Option.some.inj (gFirst.symm.trans hg2)
  obtain rfl := Option.some.inj (gFirstType.symm.trans ht2)
  rw [first_eq] at hd2
  have hc2 := Lib.cells_of_tab Tryd.underlying89 Tryd.underlying5 cellsByte1 cellsFirst hd2
  rw [acc_eq] at hd1
  obtain ⟨ys, m, _, hx, _, hlen, hel⟩ := DataW.trod_array Tryd.underlying92 hd1
  have hxs : ys.map (·.1) = accTab.map fun x => (DataW.agg [.lit (.int .u8 x.1), .lit (.int .u8 x.2)] : DataW Unit) := by
    have := congrArg Prod.fst hx
    simpa using this.symm
  have hat : ∀ i, i < 16 → cs1.toList[i * 2]? = some (.int .u8 ((Lib.accLo i : Nat) : Int)) ∧ cs1.toList[i * 2 + 1]? = some (.int .u8 ((Lib.accHi i : Nat) : Int)) := by
    intro i hi
    have h1 := hel i hi
    rw [cellsAcc] at h1
    have hil : i < ys.length := by omega
    rw [List.getElem?_eq_getElem hil] at h1
    obtain ⟨y0, y1, k, hy, _, f0, f1⟩ := trod_struct2 Tryd.underlying91 h1
    simp only [cellsByte1, List.drop_zero] at f0 f1
    obtain ⟨z0, e0, e0', _⟩ := DataW.trod_int Tryd.underlying5 f0
    obtain ⟨z1, e1, e1', _⟩ := DataW.trod_int Tryd.underlying5 f1
    have h2 : (ys.map (·.1))[i]? = some (DataW.agg [.lit (.int .u8 z0), .lit (.int .u8 z1)] : DataW Unit) := by
      rw [List.getElem?_map, List.getElem?_eq_getElem hil, hy, e0', e1']; rfl
    rw [hxs, List.getElem?_map] at h2
    have h3 : accTab[i]? = some (accTab.getD i (0, 0)) := by
      have : i < accTab.length := hi
      rw [List.getD, List.getElem?_eq_getElem this]; rfl
    rw [h3, acc_at i hi] at h2
    simp only [Option.map_some, Option.some.injEq, DataW.agg.injEq, List.cons.injEq, DataW.lit.injEq, Lit.int.injEq, true_and, and_true] at h2
    rw [h2.1, h2.2]
    constructor
    · have := congrArg (·[0]?) e0
      simpa [List.getElem?_take, List.getElem?_drop] using this
    · have := congrArg (·[0]?) e1
      simpa [List.getElem?_take, List.getElem?_drop] using this
  refine ⟨fun c hc => ?_, fun i hi => ⟨?_, ?_⟩⟩
  · rw [World.var?_cell gFirst hv2 c, ← Array.getElem?_toList, hc2, List.getElem?_map]
    have hlen : c < firstTab.length := by rw [first_len]; exact hc
    rw [List.getElem?_eq_getElem hlen]
    have := first_at c hc
    simp [List.getD, List.getElem?_eq_getElem hlen] at this
    simp [this]
  · rw [World.var?_cell gAcc hv1, ← Array.getElem?_toList, Nat.mul_comm]
    exact (hat i hi).1
  · rw [World.var?_cell gAcc hv1, ← Array.getElem?_toList, Nat.mul_comm]
    exact (hat i hi).2

end Go.Proofs.YtiplalbicibahaaDoor.Nm
