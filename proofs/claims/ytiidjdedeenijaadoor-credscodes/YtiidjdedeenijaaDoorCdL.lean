/- CredsBack's arguments opened: a record, bytes; the tables of UTF-8 as octet's texts want them. -/
import Derived.Test.YtiidjdedeenijaaDoorCdD
import Derived.Test.YtiidjdedeenijaaDoorRows
import Derived.Shelf.Unicode.ValidAny
import Derived.ProofKit
import Derived.OpenShut
import Derived.ShutString
import Derived.ChangeOld
import Derived.Deep.DeepHandedRow
import Derived.Lib.LaidTab
import Derived.Lib.SmallJoins
import Derived.Shelf.Vars
namespace Go.Proofs.YtiidjdedeenijaaDoor
open Go.ChangeShapes Go.WideShapes Go.ChangeAt Go.RowKit

theorem gUF : Tryd.prog.globalNamed "unicode/utf8.first" = some 0 := by kernel_rfl
theorem gAcc : Tryd.prog.globalNamed "unicode/utf8.acceptRanges" = some 1 := by kernel_rfl
theorem gUFType : (Tryd.prog.globals[0]?).map (·.type) = some 107 := by kernel_rfl
theorem gAccType : (Tryd.prog.globals[1]?).map (·.type) = some 110 := by kernel_rfl
theorem cellsFirst : Tryd.prog.cellsOf 107 = 256 := by kernel_rfl
theorem cellsAcc : Tryd.prog.cellsOf 109 = 2 := by kernel_rfl
theorem cellsByte1 : Tryd.prog.cellsOf 5 = 1 := by kernel_rfl

def firstTab : List Int := Go.Pinned.utf8FirstZ.map fun (n : Nat) => (n : Int)
theorem first_eq : Rows.laid_unicode_utf8_first = Lib.tabData .u8 firstTab := by
  simp only [Rows.laid_unicode_utf8_first, Go.Pinned.utf8First, Go.Pinned.numbers, Lib.tabData, firstTab, List.map_map]
  rfl
theorem first_len : firstTab.length = 256 := by decide +kernel
theorem first_at : ∀ c : Nat, c < 256 → firstTab.getD c 0 = ((Lib.firstT c : Nat) : Int) := by decide +kernel

def accTab : List (Int × Int) := [(128, 191), (160, 191), (128, 159), (144, 191), (128, 143), (0, 0), (0, 0), (0, 0), (0, 0), (0, 0), (0, 0), (0, 0), (0, 0), (0, 0), (0, 0), (0, 0)]
theorem acc_eq : (Rows.laid_unicode_utf8_acceptRanges : DataW Unit) = .agg (accTab.map fun x => .agg [.lit (.int .u8 x.1), .lit (.int .u8 x.2)]) := rfl
theorem acc_at : ∀ i : Nat, i < 16 → (accTab.getD i (0, 0)) = (((Lib.accLo i : Nat) : Int), ((Lib.accHi i : Nat) : Int)) := by decide +kernel



section
variable {enc : TypeId × Value → Unit} {W : World} {base : Nat} {sp : Nat → Bool} {held : Bool}
theorem tabs_in {cs1 cs2 : Array Value} {fuel1 fuel2 : Nat} {p1 p2 : List MemPlace} (hv1 : W.var? Tryd.prog "unicode/utf8.acceptRanges" = some cs1) (hd1 : DataW.trod enc Tryd.prog W base sp held fuel1 110 cs1.toList = some (Rows.laid_unicode_utf8_acceptRanges, p1))
    (hv2 : W.var? Tryd.prog "unicode/utf8.first" = some cs2) (hd2 : DataW.trod enc Tryd.prog W base sp held fuel2 107 cs2.toList = some (Rows.laid_unicode_utf8_first, p2)) : Lib.Utf8Tabs 0 1 W := by
  rw [first_eq] at hd2
  have hc2 := Lib.cells_of_tab Tryd.underlying107 Tryd.underlying5 cellsByte1 cellsFirst hd2
  rw [acc_eq] at hd1
  obtain ⟨ys, m, _, hx, _, hlen, hel⟩ := DataW.trod_array Tryd.underlying110 hd1
  have hxs : ys.map (·.1) = accTab.map fun x => (DataW.agg [.lit (.int .u8 x.1), .lit (.int .u8 x.2)] : DataW Unit) := by
    have := congrArg Prod.fst hx
    simpa using this.symm
  have hat : ∀ i, i < 16 → cs1.toList[i * 2]? = some (.int .u8 ((Lib.accLo i : Nat) : Int)) ∧ cs1.toList[i * 2 + 1]? = some (.int .u8 ((Lib.accHi i : Nat) : Int)) := by
    intro i hi
    have h1 := hel i hi
    rw [cellsAcc] at h1
    have hil : i < ys.length := by omega
    rw [List.getElem?_eq_getElem hil] at h1
    obtain ⟨y0, y1, k, hy, _, f0, f1⟩ := trod_struct2 Tryd.underlying109 h1
    simp only [cellsByte1, List.drop_zero] at f0 f1
    obtain ⟨z0, e0, e0', _⟩ := DataW.trod_int Tryd.underlying5 f0
    obtain ⟨z1, e1, e1', _⟩ := DataW.trod_int Tryd.underlying5 f1
    have h2 : (ys.map (·.1))[i]? = some (DataW.agg [.lit (.int .u8 z0), .lit (.int .u8 z1)] : DataW Unit) := by
      rw [List.getElem?_map, List.getElem?_eq_getElem hil, hy, e0', e1']; rfl
    rw [hxs, List.getElem?_map] at h2
    have h3 : accTab[i]? = some (accTab.getD i (0, 0)) := by
      have : i < accTab.length := hi
      rw [List.getD, List.getElem?_eq_getElem this]; rfl
    rw [h3, acc_at i hi] at h2
    simp only [Option.map_some, Option.some.injEq, DataW.agg.injEq, List.cons.injEq, DataW.lit.injEq, Lit.int.injEq, true_and, and_true] at h2
    rw [h2.1, h2.2]
    constructor
    · have := congrArg (·[0]?) e0
      simpa [List.getElem?_take, List.getElem?_drop] using this
    · have := congrArg (·[0]?) e1
      simpa [List.getElem?_take, List.getElem?_drop] using this
  refine ⟨fun c hc => ?_, fun i hi => ⟨?_, ?_⟩⟩
  · rw [World.var?_cell gUF hv2 c, ← Array.getElem?_toList, hc2, List.getElem?_map]
    have hlen : c < firstTab.length := by rw [first_len]; exact hc
    rw [List.getElem?_eq_getElem hlen]
    have := first_at c hc
    simp [List.getD, List.getElem?_eq_getElem hlen] at this
    simp [this]
  · rw [World.var?_cell gAcc hv1, ← Array.getElem?_toList, Nat.mul_comm]
    exact (hat i hi).1
  · rw [World.var?_cell gAcc hv1, ← Array.getElem?_toList, Nat.mul_comm]
    exact (hat i hi).2
end
theorem lt_of {W : World} (h : laidMetH Tryd.prog [("unicode/utf8.acceptRanges", Rows.laid_unicode_utf8_acceptRanges), ("unicode/utf8.first", Rows.laid_unicode_utf8_first)] W) : Lib.Utf8Tabs 0 1 W := by
  have h' : laidMet Tryd.prog [("unicode/utf8.acceptRanges", Rows.laid_unicode_utf8_acceptRanges), ("unicode/utf8.first", Rows.laid_unicode_utf8_first)] W := h
  obtain ⟨ps, ⟨g1, t1, cs1, fuel1, p1, q1, hg1, ht1, hv1, hd1, hr1, _⟩, _⟩ := h'
  obtain ⟨g2, t2, cs2, fuel2, p2, q2, hg2, ht2, hv2, hd2, _, _⟩ := hr1
  obtain rfl := Option.some.inj (gAcc.symm.trans hg1)
  obtain rfl := Option.some.inj (gAccType.symm.trans ht1)
  obtain rfl := Option.some.inj (gUF.symm.trans hg2)
  obtain rfl := Option.some.inj (gUFType.symm.trans ht2)
  exact tabs_in hv1 hd1 hv2 hd2

theorem cellsStr : Tryd.prog.cellsOf 9 = 1 := by kernel_rfl
theorem cellsBytes : Tryd.prog.cellsOf 22 = 1 := by kernel_rfl
theorem cellsInt : Tryd.prog.cellsOf 3 = 1 := by kernel_rfl
theorem rd_of_f {H : Type} {enc : TypeId × Value → H} {W : World} {n : Nat} {c : Value} {y : DataW H × List MemPlace} (h : DataW.trod enc Tryd.prog W 0 (fun _ => true) true n 22 [c] = some y) : ∃ a k m zs, c = .slice a k m ∧ Rd W a k m zs := by
  rcases open_ints Tryd.underlying22 Tryd.underlying5 (by kernel_rfl) h with ⟨hcs, _⟩ | ⟨x, l, cc, zs, hcs, _, hl, hm, hz, _, hcell, hwz⟩
  · simp only [List.cons.injEq, and_true] at hcs
    exact ⟨none, 0, 0, [], hcs, rd_nilK W⟩
  · simp only [List.cons.injEq, and_true] at hcs
    have hz' : zs.length = cc := by simpa using hz
    refine ⟨some x, l, cc, zs.take l, hcs, by rw [List.length_take]; omega, hl, hm, (fun h => by cases h), fun y hy => ?_, fun ad had j hj => ?_⟩
    · have := bounds_u8 (hwz y (List.mem_of_mem_take hy)); omega
    · cases had
      rw [hcell j (by omega)]
      simp [List.getD, hj]

theorem first_same : ∀ c : Nat, c < 256 → fT c = Lib.firstT c := by decide +kernel
theorem lo_same : ∀ i : Nat, i < 16 → aLo i = Lib.accLo i := by decide +kernel
theorem hi_same : ∀ i : Nat, i < 16 → aHi i = Lib.accHi i := by decide +kernel
theorem tabs_of {w : World} (h : Lib.Utf8Tabs 0 1 w) : Tabs w :=
  ⟨fun c hc => by rw [first_same c hc]; exact h.1 c hc, fun i hi => by rw [lo_same i hi]; exact (h.2 i hi).1, fun i hi => by rw [hi_same i hi]; exact (h.2 i hi).2⟩

theorem cellsB32 : Tryd.prog.cellsOf 26 = 32 := by kernel_rfl
theorem cellsRec : Tryd.prog.cellsOf 28 = 67 := by kernel_rfl
def numOf : Value → Int
  | .int _ z => z
  | _ => 0
theorem key_of_f {H : Type} {enc : TypeId × Value → H} {W : World} {n : Nat} {cs : List Value} {y : DataW H × List MemPlace} (h : DataW.trod enc Tryd.prog W 0 (fun _ => true) true n 26 cs = some y) : ∃ K : List Int, cs = ic .u8 K ∧ K.length = 32 ∧ Bd K := by
  obtain ⟨xs, m, _, _, hl, hx, hel⟩ := DataW.trod_array (size_of Tryd.u23).1 h
  rw [cellsB32] at hl
  have hat : ∀ i, i < 32 → ∃ z : Int, cs[i]? = some (.int .u8 z) ∧ 0 ≤ z ∧ z ≤ 255 := fun i hi => by
    have h1 := hel i hi
    rw [cellsByte1, List.getElem?_eq_getElem (show i < xs.length by omega)] at h1
    obtain ⟨z, e, _, wz⟩ := DataW.trod_int Tryd.underlying5 h1
    have := congrArg (·[0]?) e
    have b := bounds_u8 wz
    exact ⟨z, by simpa [List.getElem?_take, List.getElem?_drop] using this, b.1, b.2⟩
  refine ⟨cs.map numOf, ?_, by simpa using hl, fun z hz => ?_⟩
  · apply List.ext_getElem?
    intro i
    by_cases hi : i < 32
    · obtain ⟨z, e, _⟩ := hat i hi
      simp [ic, e, numOf]
    · simp [ic, List.getElem?_eq_none (show cs.length ≤ i by omega)]
  · obtain ⟨v, hv, rfl⟩ := List.mem_map.1 hz
    obtain ⟨i, hi, rfl⟩ := List.getElem_of_mem hv
    obtain ⟨z, e, b⟩ := hat i (by omega)
    rw [List.getElem?_eq_getElem hi] at e
    rw [Option.some.inj e]
    simp only [numOf]
    omega
theorem cut67 (l : List Value) (h : l.length = 67) : l = (l.drop 0).take 1 ++ ((l.drop 1).take 1 ++ ((l.drop 2).take 1 ++ ((l.drop 3).take 32 ++ (l.drop 35).take 32))) := by
  have e : (l.drop 35).take 32 = l.drop 35 := List.take_of_length_le (by rw [List.length_drop]; omega)
  have d : ∀ a k b, a + k = b → (l.drop a).take k ++ l.drop b = l.drop a := fun a k b hb => by
    subst hb
    rw [← List.drop_drop, List.take_append_drop]
  rw [e, d 3 32 35 rfl, d 2 1 3 rfl, d 1 1 2 rfl, d 0 1 1 rfl, List.drop_zero]

set_option maxRecDepth 100000 in
theorem open_record {H : Type} {enc : TypeId × Value → H} {W : World} {b0 : Nat} {v : Value} {d : DataW H} {p : List MemPlace}
    (hv : Value.okWide Tryd.prog W .any b0 28 v) (h : DataW.Trod enc Tryd.prog W 0 (fun _ => true) true 28 v d p) :
    ∃ (U : ByteArray) (a : Option Addr) (n c : Nat) (ss : List Int) (z : Int) (K V : List Int), v = .agg (recL (.string U) (.slice a n c) (.int .i64 z) K V).toArray ∧ U.size ≤ 9223372036854775807 ∧ Rd W a n c ss ∧ K.length = 32 ∧ V.length = 32 ∧ Bd K ∧ Bd V := by
  obtain ⟨cs, rfl, hsz⟩ := okWide_struct Tryd.underlying28 hv
  rw [cellsRec] at hsz
  obtain ⟨fuel, hf⟩ := h
  obtain ⟨ys, n, _, hx, hl, hlen, hfs⟩ := DataW.trod_struct Tryd.underlying28 hf
  match ys, hlen with
  | [y0, y1, y2, y3, y4], _ =>
    have f0 : DataW.trod enc Tryd.prog W 0 (fun _ => true) true n 9 ((cs.toList.drop 0).take 1) = some y0 := by simpa [Value.cells, cellsStr] using hfs 0 _ rfl
    have f1 : DataW.trod enc Tryd.prog W 0 (fun _ => true) true n 22 ((cs.toList.drop 1).take 1) = some y1 := by simpa [Value.cells, cellsBytes] using hfs 1 _ rfl
    have f2 : DataW.trod enc Tryd.prog W 0 (fun _ => true) true n 3 ((cs.toList.drop 2).take 1) = some y2 := by simpa [Value.cells, cellsInt] using hfs 2 _ rfl
    have f3 : DataW.trod enc Tryd.prog W 0 (fun _ => true) true n 26 ((cs.toList.drop 3).take 32) = some y3 := by simpa [Value.cells, cellsB32] using hfs 3 _ rfl
    have f4 : DataW.trod enc Tryd.prog W 0 (fun _ => true) true n 26 ((cs.toList.drop 35).take 32) = some y4 := by simpa [Value.cells, cellsB32] using hfs 4 _ rfl
    have hcut := cut67 cs.toList (by simpa using hsz)
    obtain ⟨S, e0, _, w0⟩ := DataW.trod_string Tryd.underlying9 f0
    obtain ⟨z, e2, _, w2⟩ := DataW.trod_int Tryd.underlying3 f2
    obtain ⟨K, e3, hK, bK⟩ := key_of_f f3
    obtain ⟨V, e4, hV, bV⟩ := key_of_f f4
    obtain ⟨c1, e1⟩ : ∃ c1, (cs.toList.drop 1).take 1 = [c1] := by
      have : ((cs.toList.drop 1).take 1).length = 1 := by
        rw [List.length_take, List.length_drop]
        have : cs.toList.length = 67 := by simpa using hsz
        omega
      exact List.length_eq_one_iff.1 this
    rw [e1] at f1
    obtain ⟨a, k, m, zs, rfl, hR⟩ := rd_of_f f1
    rw [e0, e1, e2, e3, e4] at hcut
    refine ⟨S, a, k, m, zs, z, K, V, ?_, w0, hR, hK, hV, bK, bV⟩
    congr 1
    apply Array.ext'
    rw [hcut]
    rfl
set_option maxRecDepth 100000 in
theorem open_bytes {H : Type} {enc : TypeId × Value → H} {W : World} {b0 : Nat} {v : Value} {d : DataW H} {p : List MemPlace}
    (hv : Value.okWide Tryd.prog W .any b0 22 v) (h : DataW.Trod enc Tryd.prog W 0 (fun _ => true) true 22 v d p) : ∃ a n c xs, v = .slice a n c ∧ Rd W a n c xs := by
  obtain ⟨a, n, c, e⟩ := okWide_slice Tryd.underlying22 hv
  subst e
  obtain ⟨fuel, hf⟩ := h
  obtain ⟨a', k, m, zs, e, hR⟩ := rd_of_f (c := .slice a n c) (by simpa [Value.cells] using hf)
  cases e
  exact ⟨_, _, _, zs, rfl, hR⟩

end Go.Proofs.YtiidjdedeenijaaDoor
