/- What the rows' lists give: the tables of UTF-8 and the digest's two; an argument of the type Maker, opened. -/
import Derived.Test.YtiidjdedeenijaaDoorRows
import Derived.Shelf.Unicode.ValidAny
import Derived.ProofKit
import Derived.OpenShut
import Derived.ShutString
import Derived.ChangeOld
import Derived.Deep.DeepHandedRow
import Derived.Lib.LaidTab
import Derived.Lib.SmallJoins
import Derived.Shelf.Vars
import Derived.Test.YtiidjdedeenijaaDoorCrK
namespace Go.Proofs.YtiidjdedeenijaaDoor
open Go.ChangeShapes Go.WideShapes Go.ChangeAt Go.RowKit

theorem gUF : Tryd.prog.globalNamed "unicode/utf8.first" = some 0 := by kernel_rfl
theorem gAcc : Tryd.prog.globalNamed "unicode/utf8.acceptRanges" = some 1 := by kernel_rfl
theorem gUFType : (Tryd.prog.globals[0]?).map (·.type) = some 107 := by kernel_rfl
theorem gAccType : (Tryd.prog.globals[1]?).map (·.type) = some 110 := by kernel_rfl
theorem cellsFirst : Tryd.prog.cellsOf 107 = 256 := by kernel_rfl
theorem cellsAcc : Tryd.prog.cellsOf 109 = 2 := by kernel_rfl
theorem cellsByte1 : Tryd.prog.cellsOf 5 = 1 := by kernel_rfl

def firstTab : List Int := Go.Pinned.utf8FirstZ.map fun (n : Nat) => (n : Int)
theorem first_eq : Rows.laid_unicode_utf8_first = Lib.tabData .u8 firstTab := by
  simp only [Rows.laid_unicode_utf8_first, Go.Pinned.utf8First, Go.Pinned.numbers, Lib.tabData, firstTab, List.map_map]
  rfl
theorem first_len : firstTab.length = 256 := by decide +kernel
theorem first_at : ∀ c : Nat, c < 256 → firstTab.getD c 0 = ((Lib.firstT c : Nat) : Int) := by decide +kernel

def accTab : List (Int × Int) := [(128, 191), (160, 191), (128, 159), (144, 191), (128, 143), (0, 0), (0, 0), (0, 0), (0, 0), (0, 0), (0, 0), (0, 0), (0, 0), (0, 0), (0, 0), (0, 0)]
theorem acc_eq : (Rows.laid_unicode_utf8_acceptRanges : DataW Unit) = .agg (accTab.map fun x => .agg [.lit (.int .u8 x.1), .lit (.int .u8 x.2)]) := rfl
theorem acc_at : ∀ i : Nat, i < 16 → (accTab.getD i (0, 0)) = (((Lib.accLo i : Nat) : Int), ((Lib.accHi i : Nat) : Int)) := by decide +kernel

theorem gH : Tryd.prog.globalNamed "roost/digest.firstState" = some 2 := by kernel_rfl
theorem gK : Tryd.prog.globalNamed "roost/digest.roundWords" = some 4 := by kernel_rfl
theorem gHType : (Tryd.prog.globals[2]?).map (·.type) = some 117 := by kernel_rfl
theorem gKType : (Tryd.prog.globals[4]?).map (·.type) = some 119 := by kernel_rfl
theorem cellsH : Tryd.prog.cellsOf 117 = 8 := by kernel_rfl
theorem cellsK : Tryd.prog.cellsOf 119 = 64 := by kernel_rfl
theorem cellsU32 : Tryd.prog.cellsOf 115 = 1 := by kernel_rfl
theorem h_eq : (Rows.laid_roost_digest_firstState : DataW Unit) = Lib.tabData .u32 h0s := rfl
theorem k_eq : (Rows.laid_roost_digest_roundWords : DataW Unit) = Lib.tabData .u32 kws := rfl


section
variable {enc : TypeId × Value → Unit} {W : World} {base : Nat} {sp : Nat → Bool} {held : Bool}
theorem tabs_in {cs1 cs2 : Array Value} {fuel1 fuel2 : Nat} {p1 p2 : List MemPlace} (hv1 : W.var? Tryd.prog "unicode/utf8.acceptRanges" = some cs1) (hd1 : DataW.trod enc Tryd.prog W base sp held fuel1 110 cs1.toList = some (Rows.laid_unicode_utf8_acceptRanges, p1))
    (hv2 : W.var? Tryd.prog "unicode/utf8.first" = some cs2) (hd2 : DataW.trod enc Tryd.prog W base sp held fuel2 107 cs2.toList = some (Rows.laid_unicode_utf8_first, p2)) : Lib.Utf8Tabs 0 1 W := by
  rw [first_eq] at hd2
  have hc2 := Lib.cells_of_tab Tryd.underlying107 Tryd.underlying5 cellsByte1 cellsFirst hd2
  rw [acc_eq] at hd1
  obtain ⟨ys, m, _, hx, _, hlen, hel⟩ := DataW.trod_array Tryd.underlying110 hd1
  have hxs : ys.map (·.1) = accTab.map fun x => (DataW.agg [.lit (.int .u8 x.1), .lit (.int .u8 x.2)] : DataW Unit) := by
    have := congrArg Prod.fst hx
    simpa using this.symm
  have hat : ∀ i, i < 16 → cs1.toList[i * 2]? = some (.int .u8 ((Lib.accLo i : Nat) : Int)) ∧ cs1.toList[i * 2 + 1]? = some (.int .u8 ((Lib.accHi i : Nat) : Int)) := by
    intro i hi
    have h1 := hel i hi
    rw [cellsAcc] at h1
    have hil : i < ys.length := by omega
    rw [List.getElem?_eq_getElem hil] at h1
    obtain ⟨y0, y1, k, hy, _, f0, f1⟩ := trod_struct2 Tryd.underlying109 h1
    simp only [cellsByte1, List.drop_zero] at f0 f1
    obtain ⟨z0, e0, e0', _⟩ := DataW.trod_int Tryd.underlying5 f0
    obtain ⟨z1, e1, e1', _⟩ := DataW.trod_int Tryd.underlying5 f1
    have h2 : (ys.map (·.1))[i]? = some (DataW.agg [.lit (.int .u8 z0), .lit (.int .u8 z1)] : DataW Unit) := by
      rw [List.getElem?_map, List.getElem?_eq_getElem hil, hy, e0', e1']; rfl
    rw [hxs, List.getElem?_map] at h2
    have h3 : accTab[i]? = some (accTab.getD i (0, 0)) := by
      have : i < accTab.length := hi
      rw [List.getD, List.getElem?_eq_getElem this]; rfl
    rw [h3, acc_at i hi] at h2
    simp only [Option.map_some, Option.some.injEq, DataW.agg.injEq, List.cons.injEq, DataW.lit.injEq, Lit.int.injEq, true_and, and_true] at h2
    rw [h2.1, h2.2]
    constructor
    · have := congrArg (·[0]?) e0
      simpa [List.getElem?_take, List.getElem?_drop] using this
    · have := congrArg (·[0]?) e1
      simpa [List.getElem?_take, List.getElem?_drop] using this
  refine ⟨fun c hc => ?_, fun i hi => ⟨?_, ?_⟩⟩
  · rw [World.var?_cell gUF hv2 c, ← Array.getElem?_toList, hc2, List.getElem?_map]
    have hlen : c < firstTab.length := by rw [first_len]; exact hc
    rw [List.getElem?_eq_getElem hlen]
    have := first_at c hc
    simp [List.getD, List.getElem?_eq_getElem hlen] at this
    simp [this]
  · rw [World.var?_cell gAcc hv1, ← Array.getElem?_toList, Nat.mul_comm]
    exact (hat i hi).1
  · rw [World.var?_cell gAcc hv1, ← Array.getElem?_toList, Nat.mul_comm]
    exact (hat i hi).2
theorem kt_in {cs1 cs2 : Array Value} {fuel1 fuel2 : Nat} {p1 p2 : List MemPlace} (hv1 : W.var? Tryd.prog "roost/digest.firstState" = some cs1) (hd1 : DataW.trod enc Tryd.prog W base sp held fuel1 117 cs1.toList = some (Rows.laid_roost_digest_firstState, p1))
    (hv2 : W.var? Tryd.prog "roost/digest.roundWords" = some cs2) (hd2 : DataW.trod enc Tryd.prog W base sp held fuel2 119 cs2.toList = some (Rows.laid_roost_digest_roundWords, p2)) : Kt W := by
  rw [h_eq] at hd1
  have hc1 := Lib.cells_of_tab Tryd.underlying117 Tryd.underlying115 cellsU32 cellsH hd1
  rw [k_eq] at hd2
  have hc2 := Lib.cells_of_tab Tryd.underlying119 Tryd.underlying115 cellsU32 cellsK hd2
  refine ⟨fun j hj => ?_, fun j hj => ?_⟩
  · rw [World.var?_cell gK hv2 j, ← Array.getElem?_toList, hc2, List.getElem?_map]
    have hlen : j < kws.length := hj
    rw [List.getElem?_eq_getElem hlen]
    simp [List.getD, List.getElem?_eq_getElem hlen]
  · rw [World.var?_cell gH hv1 j, ← Array.getElem?_toList, hc1, List.getElem?_map]
    have hlen : j < h0s.length := hj
    rw [List.getElem?_eq_getElem hlen]
    simp [List.getD, List.getElem?_eq_getElem hlen]
end
theorem lm_of {W : World} (h : laidMetH Tryd.prog [("unicode/utf8.acceptRanges", Rows.laid_unicode_utf8_acceptRanges), ("roost/digest.firstState", Rows.laid_roost_digest_firstState), ("roost/digest.roundWords", Rows.laid_roost_digest_roundWords), ("unicode/utf8.first", Rows.laid_unicode_utf8_first)] W) : Kt W ∧ Lib.Utf8Tabs 0 1 W := by
  have h' : laidMet Tryd.prog [("unicode/utf8.acceptRanges", Rows.laid_unicode_utf8_acceptRanges), ("roost/digest.firstState", Rows.laid_roost_digest_firstState), ("roost/digest.roundWords", Rows.laid_roost_digest_roundWords), ("unicode/utf8.first", Rows.laid_unicode_utf8_first)] W := h
  obtain ⟨ps, ⟨g1, t1, cs1, fuel1, p1, q1, hg1, ht1, hv1, hd1, hr1, _⟩, _⟩ := h'
  obtain ⟨g2, t2, cs2, fuel2, p2, q2, hg2, ht2, hv2, hd2, hr2, _⟩ := hr1
  obtain ⟨g3, t3, cs3, fuel3, p3, q3, hg3, ht3, hv3, hd3, hr3, _⟩ := hr2
  obtain ⟨g4, t4, cs4, fuel4, p4, q4, hg4, ht4, hv4, hd4, _, _⟩ := hr3
  obtain rfl := Option.some.inj (gAcc.symm.trans hg1)
  obtain rfl := Option.some.inj (gAccType.symm.trans ht1)
  obtain rfl := Option.some.inj (gH.symm.trans hg2)
  obtain rfl := Option.some.inj (gHType.symm.trans ht2)
  obtain rfl := Option.some.inj (gK.symm.trans hg3)
  obtain rfl := Option.some.inj (gKType.symm.trans ht3)
  obtain rfl := Option.some.inj (gUF.symm.trans hg4)
  obtain rfl := Option.some.inj (gUFType.symm.trans ht4)
  exact ⟨kt_in hv2 hd2 hv3 hd3, tabs_in hv1 hd1 hv4 hd4⟩
theorem lt_of {W : World} (h : laidMetH Tryd.prog [("unicode/utf8.acceptRanges", Rows.laid_unicode_utf8_acceptRanges), ("unicode/utf8.first", Rows.laid_unicode_utf8_first)] W) : Lib.Utf8Tabs 0 1 W := by
  have h' : laidMet Tryd.prog [("unicode/utf8.acceptRanges", Rows.laid_unicode_utf8_acceptRanges), ("unicode/utf8.first", Rows.laid_unicode_utf8_first)] W := h
  obtain ⟨ps, ⟨g1, t1, cs1, fuel1, p1, q1, hg1, ht1, hv1, hd1, hr1, _⟩, _⟩ := h'
  obtain ⟨g2, t2, cs2, fuel2, p2, q2, hg2, ht2, hv2, hd2, _, _⟩ := hr1
  obtain rfl := Option.some.inj (gAcc.symm.trans hg1)
  obtain rfl := Option.some.inj (gAccType.symm.trans ht1)
  obtain rfl := Option.some.inj (gUF.symm.trans hg2)
  obtain rfl := Option.some.inj (gUFType.symm.trans ht2)
  exact tabs_in hv1 hd1 hv2 hd2

theorem cellsStr : Tryd.prog.cellsOf 9 = 1 := by kernel_rfl
theorem cellsBytes : Tryd.prog.cellsOf 22 = 1 := by kernel_rfl
theorem cellsInt : Tryd.prog.cellsOf 3 = 1 := by kernel_rfl
theorem cellsMaker : Tryd.prog.cellsOf 24 = 4 := by kernel_rfl
theorem arr4 {α : Type} {cs : Array α} (h : cs.size = 4) : ∃ c0 c1 c2 c3, cs = #[c0, c1, c2, c3] := by
  obtain ⟨l⟩ := cs
  match l, h with
  | [c0, c1, c2, c3], _ => exact ⟨c0, c1, c2, c3, rfl⟩
theorem rd_of_f {H : Type} {enc : TypeId × Value → H} {W : World} {n : Nat} {c : Value} {y : DataW H × List MemPlace} (h : DataW.trod enc Tryd.prog W 0 (fun _ => true) true n 22 [c] = some y) : ∃ a k m zs, c = .slice a k m ∧ Rd W a k m zs := by
  rcases open_ints Tryd.underlying22 Tryd.underlying5 (by kernel_rfl) h with ⟨hcs, _⟩ | ⟨x, l, cc, zs, hcs, _, hl, hm, hz, _, hcell, hwz⟩
  · simp only [List.cons.injEq, and_true] at hcs
    exact ⟨none, 0, 0, [], hcs, rd_nilK W⟩
  · simp only [List.cons.injEq, and_true] at hcs
    have hz' : zs.length = cc := by simpa using hz
    refine ⟨some x, l, cc, zs.take l, hcs, by rw [List.length_take]; omega, hl, hm, (fun h => by cases h), fun y hy => ?_, fun ad had j hj => ?_⟩
    · have := bounds_u8 (hwz y (List.mem_of_mem_take hy)); omega
    · cases had
      rw [hcell j (by omega)]
      simp [List.getD, hj]
set_option maxRecDepth 100000 in
theorem open_maker {H : Type} {enc : TypeId × Value → H} {W : World} {b0 : Nat} {v : Value} {d : DataW H} {p : List MemPlace}
    (hv : Value.okWide Tryd.prog W .any b0 24 v) (h : DataW.Trod enc Tryd.prog W 0 (fun _ => true) true 24 v d p) :
    ∃ (U P : Tx) (a : Option Addr) (n c : Nat) (ss : List Int) (N : Int), v = .agg #[.string ⟨U.toArray⟩, .string ⟨P.toArray⟩, .slice a n c, .int .i64 N] ∧ U.length ≤ 9223372036854775807 ∧ P.length ≤ 9223372036854775807 ∧ Rd W a n c ss := by
  obtain ⟨cs, rfl, hsz⟩ := okWide_struct Tryd.underlying24 hv
  obtain ⟨c0, c1, c2, c3, rfl⟩ := arr4 (hsz.trans cellsMaker)
  obtain ⟨fuel, hf⟩ := h
  obtain ⟨ys, n, _, hx, hl, hlen, hfs⟩ := DataW.trod_struct Tryd.underlying24 hf
  match ys, hlen with
  | [y0, y1, y2, y3], _ =>
    have f0 : DataW.trod enc Tryd.prog W 0 (fun _ => true) true n 9 [c0] = some y0 := by simpa [Value.cells, cellsStr] using hfs 0 _ rfl
    have f1 : DataW.trod enc Tryd.prog W 0 (fun _ => true) true n 9 [c1] = some y1 := by simpa [Value.cells, cellsStr] using hfs 1 _ rfl
    have f2 : DataW.trod enc Tryd.prog W 0 (fun _ => true) true n 22 [c2] = some y2 := by simpa [Value.cells, cellsBytes] using hfs 2 _ rfl
    have f3 : DataW.trod enc Tryd.prog W 0 (fun _ => true) true n 3 [c3] = some y3 := by simpa [Value.cells, cellsInt] using hfs 3 _ rfl
    obtain ⟨S0, e0, _, w0⟩ := DataW.trod_string Tryd.underlying9 f0
    obtain ⟨S1, e1, _, w1⟩ := DataW.trod_string Tryd.underlying9 f1
    obtain ⟨a, k, m, zs, e2, hR⟩ := rd_of_f f2
    obtain ⟨N, e3, _, w3⟩ := DataW.trod_int Tryd.underlying3 f3
    simp only [List.cons.injEq, and_true] at e0 e1 e3
    subst e0 e1 e2 e3
    have hb : ∀ S : ByteArray, S.size ≤ maxLen → S.data.toList.length ≤ 9223372036854775807 := fun S hS => by
      unfold maxLen at hS
      have : S.data.toList.length = S.size := by simp
      omega
    refine ⟨S0.data.toList, S1.data.toList, a, k, m, zs, N, ?_, hb _ w0, hb _ w1, hR⟩
    cases S0; cases S1
    simp
end Go.Proofs.YtiidjdedeenijaaDoor
