/- What the rows' list gives: Go's two tables of UTF-8 and the program's own two tables, cell for cell. -/
import Derived.Test.YtomkcmkbehcjnaaDoorRows
import Derived.Test.YtomkcmkbehcjnaaDoorStzA
import Derived.ProofKit
import Derived.OpenShut
import Derived.Deep.DeepHandedRow
import Derived.Lib.LaidTab
namespace Go.Proofs.YtomkcmkbehcjnaaDoor
open Go.ChangeShapes Go.WideShapes Go.ChangeAt Go.RowKit

theorem gFirst : Tryd.prog.globalNamed "unicode/utf8.first" = some 3 := by kernel_rfl
theorem gAcc : Tryd.prog.globalNamed "unicode/utf8.acceptRanges" = some 4 := by kernel_rfl
theorem gFirstType : (Tryd.prog.globals[3]?).map (·.type) = some 108 := by kernel_rfl
theorem gAccType : (Tryd.prog.globals[4]?).map (·.type) = some 111 := by kernel_rfl
theorem cellsFirst : Tryd.prog.cellsOf 108 = 256 := by kernel_rfl
theorem cellsAcc : Tryd.prog.cellsOf 110 = 2 := by kernel_rfl
theorem cellsByte : Tryd.prog.cellsOf 5 = 1 := by kernel_rfl

def firstTab : List Int := Go.Pinned.utf8FirstZ.map fun (n : Nat) => (n : Int)
theorem first_eq : Rows.laid_unicode_utf8_first = Lib.tabData .u8 firstTab := by
  simp only [Rows.laid_unicode_utf8_first, Go.Pinned.utf8First, Go.Pinned.numbers, Lib.tabData, firstTab, List.map_map]
  rfl
theorem first_len : firstTab.length = 256 := by decide +kernel
theorem first_at : ∀ c : Nat, c < 256 → firstTab.getD c 0 = ((fT c : Nat) : Int) := by decide +kernel

def accTab : List (Int × Int) := [(128, 191), (160, 191), (128, 159), (144, 191), (128, 143), (0, 0), (0, 0), (0, 0), (0, 0), (0, 0), (0, 0), (0, 0), (0, 0), (0, 0), (0, 0), (0, 0)]
theorem acc_eq : (Rows.laid_unicode_utf8_acceptRanges : DataW Unit) = .agg (accTab.map fun x => .agg [.lit (.int .u8 x.1), .lit (.int .u8 x.2)]) := rfl
theorem acc_at : ∀ i : Nat, i < 16 → (accTab.getD i (0, 0)) = (((aLo i : Nat) : Int), ((aHi i : Nat) : Int)) := by decide +kernel

theorem gOrd : Tryd.prog.globalNamed "roost/stanza.partOrder" = some 0 := by kernel_rfl
theorem gKin : Tryd.prog.globalNamed "roost/stanza.kindParts" = some 1 := by kernel_rfl
theorem gOrdType : (Tryd.prog.globals[0]?).map (·.type) = some 62 := by kernel_rfl
theorem gKinType : (Tryd.prog.globals[1]?).map (·.type) = some 66 := by kernel_rfl
theorem cellsOrd : Tryd.prog.cellsOf 62 = 6 := by kernel_rfl
theorem cellsKin : Tryd.prog.cellsOf 66 = 47 := by kernel_rfl
def ordTab : List Int := [1, 2, 4, 8, 16, 32]
def kinTab : List Int := kindTab.map fun (n : Nat) => (n : Int)
theorem ord_eq : (Rows.laid_roost_stanza_partOrder : DataW Unit) = Lib.tabData .u8 ordTab := rfl
theorem kin_eq : (Rows.laid_roost_stanza_kindParts : DataW Unit) = Lib.tabData .u8 kinTab := rfl
theorem ord_at : ∀ i : Nat, i < 6 → ordTab.getD i 0 = ((2 ^ i : Nat) : Int) := by decide +kernel
theorem kin_at : ∀ i : Nat, i < 47 → kinTab.getD i 0 = ((kp i : Nat) : Int) := by decide +kernel

theorem lays_of {W : World} (h : laidMetH Tryd.prog [("unicode/utf8.acceptRanges", Rows.laid_unicode_utf8_acceptRanges), ("roost/stanza.partOrder", Rows.laid_roost_stanza_partOrder), ("roost/stanza.kindParts", Rows.laid_roost_stanza_kindParts), ("unicode/utf8.first", Rows.laid_unicode_utf8_first)] W) : Lays W := by
  have h' : laidMet Tryd.prog [("unicode/utf8.acceptRanges", Rows.laid_unicode_utf8_acceptRanges), ("roost/stanza.partOrder", Rows.laid_roost_stanza_partOrder), ("roost/stanza.kindParts", Rows.laid_roost_stanza_kindParts), ("unicode/utf8.first", Rows.laid_unicode_utf8_first)] W := h
  obtain ⟨ps, ⟨g1, t1, cs1, fuel1, p1, q1, hg1, ht1, hv1, hd1, hr1, _⟩, _⟩ := h'
  obtain rfl := Option.some.inj (gAcc.symm.trans hg1)
  obtain rfl := Option.some.inj (gAccType.symm.trans ht1)
  obtain ⟨g3, t3, cs3, fuel3, p3, q3, hg3, ht3, hv3, hd3, hr3, _⟩ := hr1
  obtain rfl := Option.some.inj (gOrd.symm.trans hg3)
  obtain rfl := Option.some.inj (gOrdType.symm.trans ht3)
  obtain ⟨g4, t4, cs4, fuel4, p4, q4, hg4, ht4, hv4, hd4, hr4, _⟩ := hr3
  obtain rfl := Option.some.inj (gKin.symm.trans hg4)
  obtain rfl := Option.some.inj (gKinType.symm.trans ht4)
  obtain ⟨g2, t2, cs2, fuel2, p2, q2, hg2, ht2, hv2, hd2, _, _⟩ := hr4
  obtain rfl := Option.some.inj (gFirst.symm.trans hg2)
  obtain rfl := Option.some.inj (gFirstType.symm.trans ht2)
  rw [ord_eq] at hd3
  have hc3 := Lib.cells_of_tab Tryd.underlying62 Tryd.underlying5 cellsByte cellsOrd hd3
  rw [kin_eq] at hd4
  have hc4 := Lib.cells_of_tab Tryd.underlying66 Tryd.underlying5 cellsByte cellsKin hd4
  rw [first_eq] at hd2
  have hc2 := Lib.cells_of_tab Tryd.underlying108 Tryd.underlying5 cellsByte cellsFirst hd2
  rw [acc_eq] at hd1
  obtain ⟨ys, m, _, hx, _, hlen, hel⟩ := DataW.trod_array Tryd.underlying111 hd1
  have hxs : ys.map (·.1) = accTab.map fun x => (DataW.agg [.lit (.int .u8 x.1), .lit (.int .u8 x.2)] : DataW Unit) := by
    have := congrArg Prod.fst hx
    simpa using this.symm
  have hat : ∀ i, i < 16 → cs1.toList[i * 2]? = some (.int .u8 ((aLo i : Nat) : Int)) ∧ cs1.toList[i * 2 + 1]? = some (.int .u8 ((aHi i : Nat) : Int)) := by
    intro i hi
    have h1 := hel i hi
    rw [cellsAcc] at h1
    have hil : i < ys.length := by omega
    rw [List.getElem?_eq_getElem hil] at h1
    obtain ⟨y0, y1, k, hy, _, f0, f1⟩ := trod_struct2 Tryd.underlying110 h1
    simp only [cellsByte, List.drop_zero] at f0 f1
    obtain ⟨z0, e0, e0', _⟩ := DataW.trod_int Tryd.underlying5 f0
    obtain ⟨z1, e1, e1', _⟩ := DataW.trod_int Tryd.underlying5 f1
    have h2 : (ys.map (·.1))[i]? = some (DataW.agg [.lit (.int .u8 z0), .lit (.int .u8 z1)] : DataW Unit) := by
      rw [List.getElem?_map, List.getElem?_eq_getElem hil, hy, e0', e1']; rfl
    rw [hxs, List.getElem?_map] at h2
    have h3 : accTab[i]? = some (accTab.getD i (0, 0)) := by
      have : i < accTab.length := hi
      rw [List.getD, List.getElem?_eq_getElem this]; rfl
    rw [h3, acc_at i hi] at h2
    simp only [Option.map_some, Option.some.injEq, DataW.agg.injEq, List.cons.injEq, DataW.lit.injEq, Lit.int.injEq, true_and, and_true] at h2
    rw [h2.1, h2.2]
    constructor
    · have := congrArg (·[0]?) e0
      simpa [List.getElem?_take, List.getElem?_drop] using this
    · have := congrArg (·[0]?) e1
      simpa [List.getElem?_take, List.getElem?_drop] using this
  refine ⟨⟨fun c hc => ?_, fun i hi => ?_, fun i hi => ?_⟩, fun i hi => ?_, fun i hi => ?_⟩
  · rw [World.var?_cell gFirst hv2 c, ← Array.getElem?_toList, hc2, List.getElem?_map]
    have hlen : c < firstTab.length := by rw [first_len]; exact hc
    rw [List.getElem?_eq_getElem hlen]
    have := first_at c hc
    simp [List.getD, List.getElem?_eq_getElem hlen] at this
    simp [this]
  · rw [World.var?_cell gAcc hv1, ← Array.getElem?_toList, Nat.mul_comm]
    exact (hat i hi).1
  · rw [World.var?_cell gAcc hv1, ← Array.getElem?_toList, Nat.mul_comm]
    exact (hat i hi).2
  · rw [World.var?_cell gOrd hv3 i, ← Array.getElem?_toList, hc3, List.getElem?_map]
    have hlen : i < ordTab.length := hi
    rw [List.getElem?_eq_getElem hlen]
    have := ord_at i hi
    simp [List.getD, List.getElem?_eq_getElem hlen] at this
    simp [this]
  · rw [World.var?_cell gKin hv4 i, ← Array.getElem?_toList, hc4, List.getElem?_map]
    have hlen : i < kinTab.length := hi
    rw [List.getElem?_eq_getElem hlen]
    have := kin_at i hi
    simp [List.getD, List.getElem?_eq_getElem hlen] at this
    simp [this]

end Go.Proofs.YtomkcmkbehcjnaaDoor
