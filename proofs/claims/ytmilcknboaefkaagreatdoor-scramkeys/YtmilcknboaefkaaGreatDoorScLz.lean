/- What the rows' list gives: the tables of UTF-8, of powers of ten and the digest's two; an argument of the type Talk, opened. -/
import Derived.Test.YtmilcknboaefkaaGreatDoorRows
import Derived.Shelf.Unicode.ValidAny
import Derived.ProofKit
import Derived.OpenShut
import Derived.ShutString
import Derived.ChangeOld
import Derived.Deep.DeepHandedRow
import Derived.Lib.LaidTab
import Derived.Lib.SmallJoins
import Derived.Shelf.Vars
import Derived.Test.YtmilcknboaefkaaGreatDoorScD
namespace Go.Proofs.YtmilcknboaefkaaGreatDoor
open Go.ChangeShapes Go.WideShapes Go.ChangeAt Go.RowKit

theorem gUF : Tryz.prog.globalNamed "unicode/utf8.first" = some 1 := by kernel_rfl
theorem gAcc : Tryz.prog.globalNamed "unicode/utf8.acceptRanges" = some 2 := by kernel_rfl
theorem gUFType : (Tryz.prog.globals[1]?).map (·.type) = some 116 := by kernel_rfl
theorem gAccType : (Tryz.prog.globals[2]?).map (·.type) = some 119 := by kernel_rfl
theorem cellsFirst : Tryz.prog.cellsOf 116 = 256 := by kernel_rfl
theorem cellsAcc : Tryz.prog.cellsOf 118 = 2 := by kernel_rfl
theorem cellsByte1 : Tryz.prog.cellsOf 5 = 1 := by kernel_rfl

def firstTab : List Int := Go.Pinned.utf8FirstZ.map fun (n : Nat) => (n : Int)
theorem first_eq : Rows.laid_unicode_utf8_first = Lib.tabData .u8 firstTab := by
  simp only [Rows.laid_unicode_utf8_first, Go.Pinned.utf8First, Go.Pinned.numbers, Lib.tabData, firstTab, List.map_map]
  rfl
theorem first_len : firstTab.length = 256 := by decide +kernel
theorem first_at : ∀ c : Nat, c < 256 → firstTab.getD c 0 = ((Lib.firstT c : Nat) : Int) := by decide +kernel

def accTab : List (Int × Int) := [(128, 191), (160, 191), (128, 159), (144, 191), (128, 143), (0, 0), (0, 0), (0, 0), (0, 0), (0, 0), (0, 0), (0, 0), (0, 0), (0, 0), (0, 0), (0, 0)]
theorem acc_eq : (Rows.laid_unicode_utf8_acceptRanges : DataW Unit) = .agg (accTab.map fun x => .agg [.lit (.int .u8 x.1), .lit (.int .u8 x.2)]) := rfl
theorem acc_at : ∀ i : Nat, i < 16 → (accTab.getD i (0, 0)) = (((Lib.accLo i : Nat) : Int), ((Lib.accHi i : Nat) : Int)) := by decide +kernel

theorem gH : Tryz.prog.globalNamed "roost/digest.firstState" = some 0 := by kernel_rfl
theorem gK : Tryz.prog.globalNamed "roost/digest.roundWords" = some 3 := by kernel_rfl
theorem gHType : (Tryz.prog.globals[0]?).map (·.type) = some 90 := by kernel_rfl
theorem gKType : (Tryz.prog.globals[3]?).map (·.type) = some 98 := by kernel_rfl
theorem cellsH : Tryz.prog.cellsOf 90 = 8 := by kernel_rfl
theorem cellsK : Tryz.prog.cellsOf 98 = 64 := by kernel_rfl
theorem cellsU32 : Tryz.prog.cellsOf 88 = 1 := by kernel_rfl
theorem h_eq : (Rows.laid_roost_digest_firstState : DataW Unit) = Lib.tabData .u32 h0s := rfl
theorem k_eq : (Rows.laid_roost_digest_roundWords : DataW Unit) = Lib.tabData .u32 kws := rfl

theorem gPw : Tryz.prog.globalNamed "internal/strconv.uint64pow10" = some 4 := by kernel_rfl
theorem gPwType : (Tryz.prog.globals[4]?).map (·.type) = some 161 := by kernel_rfl
theorem cellsPw : Tryz.prog.cellsOf 161 = 20 := by kernel_rfl
theorem cellsU64 : Tryz.prog.cellsOf 125 = 1 := by kernel_rfl
theorem pw_eq : (Rows.laid_internal_strconv_uint64pow10 : DataW Unit) = Lib.tabData .u64 Lib.pow10Tab := rfl

section
variable {enc : TypeId × Value → Unit} {W : World} {base : Nat} {sp : Nat → Bool} {held : Bool}
theorem tabs_in {cs1 cs2 : Array Value} {fuel1 fuel2 : Nat} {p1 p2 : List MemPlace} (hv1 : W.var? Tryz.prog "unicode/utf8.acceptRanges" = some cs1) (hd1 : DataW.trod enc Tryz.prog W base sp held fuel1 119 cs1.toList = some (Rows.laid_unicode_utf8_acceptRanges, p1))
    (hv2 : W.var? Tryz.prog "unicode/utf8.first" = some cs2) (hd2 : DataW.trod enc Tryz.prog W base sp held fuel2 116 cs2.toList = some (Rows.laid_unicode_utf8_first, p2)) : Lib.Utf8Tabs 1 2 W := by
  rw [first_eq] at hd2
  have hc2 := Lib.cells_of_tab Tryz.underlying116 Tryz.underlying5 cellsByte1 cellsFirst hd2
  rw [acc_eq] at hd1
  obtain ⟨ys, m, _, hx, _, hlen, hel⟩ := DataW.trod_array Tryz.underlying119 hd1
  have hxs : ys.map (·.1) = accTab.map fun x => (DataW.agg [.lit (.int .u8 x.1), .lit (.int .u8 x.2)] : DataW Unit) := by
    have := congrArg Prod.fst hx
    simpa using this.symm
  have hat : ∀ i, i < 16 → cs1.toList[i * 2]? = some (.int .u8 ((Lib.accLo i : Nat) : Int)) ∧ cs1.toList[i * 2 + 1]? = some (.int .u8 ((Lib.accHi i : Nat) : Int)) := by
    intro i hi
    have h1 := hel i hi
    rw [cellsAcc] at h1
    have hil : i < ys.length := by omega
    rw [List.getElem?_eq_getElem hil] at h1
    obtain ⟨y0, y1, k, hy, _, f0, f1⟩ := trod_struct2 Tryz.underlying118 h1
    simp only [cellsByte1, List.drop_zero] at f0 f1
    obtain ⟨z0, e0, e0', _⟩ := DataW.trod_int Tryz.underlying5 f0
    obtain ⟨z1, e1, e1', _⟩ := DataW.trod_int Tryz.underlying5 f1
    have h2 : (ys.map (·.1))[i]? = some (DataW.agg [.lit (.int .u8 z0), .lit (.int .u8 z1)] : DataW Unit) := by
      rw [List.getElem?_map, List.getElem?_eq_getElem hil, hy, e0', e1']; rfl
    rw [hxs, List.getElem?_map] at h2
    have h3 : accTab[i]? = some (accTab.getD i (0, 0)) := by
      have : i < accTab.length := hi
      rw [List.getD, List.getElem?_eq_getElem this]; rfl
    rw [h3, acc_at i hi] at h2
    simp only [Option.map_some, Option.some.injEq, DataW.agg.injEq, List.cons.injEq, DataW.lit.injEq, Lit.int.injEq, true_and, and_true] at h2
    rw [h2.1, h2.2]
    constructor
    · have := congrArg (·[0]?) e0
      simpa [List.getElem?_take, List.getElem?_drop] using this
    · have := congrArg (·[0]?) e1
      simpa [List.getElem?_take, List.getElem?_drop] using this
  refine ⟨fun c hc => ?_, fun i hi => ⟨?_, ?_⟩⟩
  · rw [World.var?_cell gUF hv2 c, ← Array.getElem?_toList, hc2, List.getElem?_map]
    have hlen : c < firstTab.length := by rw [first_len]; exact hc
    rw [List.getElem?_eq_getElem hlen]
    have := first_at c hc
    simp [List.getD, List.getElem?_eq_getElem hlen] at this
    simp [this]
  · rw [World.var?_cell gAcc hv1, ← Array.getElem?_toList, Nat.mul_comm]
    exact (hat i hi).1
  · rw [World.var?_cell gAcc hv1, ← Array.getElem?_toList, Nat.mul_comm]
    exact (hat i hi).2
theorem kt_in {cs1 cs2 : Array Value} {fuel1 fuel2 : Nat} {p1 p2 : List MemPlace} (hv1 : W.var? Tryz.prog "roost/digest.firstState" = some cs1) (hd1 : DataW.trod enc Tryz.prog W base sp held fuel1 90 cs1.toList = some (Rows.laid_roost_digest_firstState, p1))
    (hv2 : W.var? Tryz.prog "roost/digest.roundWords" = some cs2) (hd2 : DataW.trod enc Tryz.prog W base sp held fuel2 98 cs2.toList = some (Rows.laid_roost_digest_roundWords, p2)) : Kt W := by
  rw [h_eq] at hd1
  have hc1 := Lib.cells_of_tab Tryz.underlying90 Tryz.underlying88 cellsU32 cellsH hd1
  rw [k_eq] at hd2
  have hc2 := Lib.cells_of_tab Tryz.underlying98 Tryz.underlying88 cellsU32 cellsK hd2
  refine ⟨fun j hj => ?_, fun j hj => ?_⟩
  · rw [World.var?_cell gK hv2 j, ← Array.getElem?_toList, hc2, List.getElem?_map]
    have hlen : j < kws.length := hj
    rw [List.getElem?_eq_getElem hlen]
    simp [List.getD, List.getElem?_eq_getElem hlen]
  · rw [World.var?_cell gH hv1 j, ← Array.getElem?_toList, hc1, List.getElem?_map]
    have hlen : j < h0s.length := hj
    rw [List.getElem?_eq_getElem hlen]
    simp [List.getD, List.getElem?_eq_getElem hlen]
theorem pw_in {cs : Array Value} {fuel : Nat} {p : List MemPlace} (hv : W.var? Tryz.prog "internal/strconv.uint64pow10" = some cs) (hd : DataW.trod enc Tryz.prog W base sp held fuel 161 cs.toList = some (Rows.laid_internal_strconv_uint64pow10, p)) : Pw W := by
  rw [pw_eq] at hd
  have hc := Lib.cells_of_tab Tryz.underlying161 Tryz.underlying125 cellsU64 cellsPw hd
  unfold Pw Lib.TabIs
  rw [hv, ← hc]
end
theorem lz_of {W : World} (h : laidMetH Tryz.prog [("math/bits.deBruijn32tab", Rows.laid_math_bits_deBruijn32tab), ("math/bits.deBruijn64tab", Rows.laid_math_bits_deBruijn64tab), ("internal/strconv.uint64pow10", Rows.laid_internal_strconv_uint64pow10), ("unicode/utf8.acceptRanges", Rows.laid_unicode_utf8_acceptRanges), ("roost/digest.firstState", Rows.laid_roost_digest_firstState), ("roost/digest.roundWords", Rows.laid_roost_digest_roundWords), ("unicode/utf8.first", Rows.laid_unicode_utf8_first)] W) : Kt W ∧ Lib.Utf8Tabs 1 2 W ∧ Pw W := by
  have h' : laidMet Tryz.prog [("math/bits.deBruijn32tab", Rows.laid_math_bits_deBruijn32tab), ("math/bits.deBruijn64tab", Rows.laid_math_bits_deBruijn64tab), ("internal/strconv.uint64pow10", Rows.laid_internal_strconv_uint64pow10), ("unicode/utf8.acceptRanges", Rows.laid_unicode_utf8_acceptRanges), ("roost/digest.firstState", Rows.laid_roost_digest_firstState), ("roost/digest.roundWords", Rows.laid_roost_digest_roundWords), ("unicode/utf8.first", Rows.laid_unicode_utf8_first)] W := h
  obtain ⟨ps, ⟨g1, t1, cs1, fuel1, p1, q1, hg1, ht1, hv1, hd1, hr1, _⟩, _⟩ := h'
  obtain ⟨g2, t2, cs2, fuel2, p2, q2, hg2, ht2, hv2, hd2, hr2, _⟩ := hr1
  obtain ⟨g3, t3, cs3, fuel3, p3, q3, hg3, ht3, hv3, hd3, hr3, _⟩ := hr2
  obtain ⟨g4, t4, cs4, fuel4, p4, q4, hg4, ht4, hv4, hd4, hr4, _⟩ := hr3
  obtain ⟨g5, t5, cs5, fuel5, p5, q5, hg5, ht5, hv5, hd5, hr5, _⟩ := hr4
  obtain ⟨g6, t6, cs6, fuel6, p6, q6, hg6, ht6, hv6, hd6, hr6, _⟩ := hr5
  obtain ⟨g7, t7, cs7, fuel7, p7, q7, hg7, ht7, hv7, hd7, _, _⟩ := hr6
  obtain rfl := Option.some.inj (gPw.symm.trans hg3)
  obtain rfl := Option.some.inj (gPwType.symm.trans ht3)
  obtain rfl := Option.some.inj (gAcc.symm.trans hg4)
  obtain rfl := Option.some.inj (gAccType.symm.trans ht4)
  obtain rfl := Option.some.inj (gH.symm.trans hg5)
  obtain rfl := Option.some.inj (gHType.symm.trans ht5)
  obtain rfl := Option.some.inj (gK.symm.trans hg6)
  obtain rfl := Option.some.inj (gKType.symm.trans ht6)
  obtain rfl := Option.some.inj (gUF.symm.trans hg7)
  obtain rfl := Option.some.inj (gUFType.symm.trans ht7)
  exact ⟨kt_in hv5 hd5 hv6 hd6, tabs_in hv4 hd4 hv7 hd7, pw_in hv3 hd3⟩
theorem lp_of {W : World} (h : laidMetH Tryz.prog [("math/bits.deBruijn32tab", Rows.laid_math_bits_deBruijn32tab), ("math/bits.deBruijn64tab", Rows.laid_math_bits_deBruijn64tab), ("internal/strconv.uint64pow10", Rows.laid_internal_strconv_uint64pow10), ("unicode/utf8.acceptRanges", Rows.laid_unicode_utf8_acceptRanges), ("roost/digest.firstState", Rows.laid_roost_digest_firstState), ("roost/digest.roundWords", Rows.laid_roost_digest_roundWords), ("strconv.ErrRange", Rows.laid_strconv_ErrRange), ("strconv.ErrSyntax", Rows.laid_strconv_ErrSyntax), ("unicode/utf8.first", Rows.laid_unicode_utf8_first)] W) : Kt W ∧ Lib.Utf8Tabs 1 2 W ∧ Pw W := by
  have h' : laidMet Tryz.prog [("math/bits.deBruijn32tab", Rows.laid_math_bits_deBruijn32tab), ("math/bits.deBruijn64tab", Rows.laid_math_bits_deBruijn64tab), ("internal/strconv.uint64pow10", Rows.laid_internal_strconv_uint64pow10), ("unicode/utf8.acceptRanges", Rows.laid_unicode_utf8_acceptRanges), ("roost/digest.firstState", Rows.laid_roost_digest_firstState), ("roost/digest.roundWords", Rows.laid_roost_digest_roundWords), ("strconv.ErrRange", Rows.laid_strconv_ErrRange), ("strconv.ErrSyntax", Rows.laid_strconv_ErrSyntax), ("unicode/utf8.first", Rows.laid_unicode_utf8_first)] W := h
  obtain ⟨ps, ⟨g1, t1, cs1, fuel1, p1, q1, hg1, ht1, hv1, hd1, hr1, _⟩, _⟩ := h'
  obtain ⟨g2, t2, cs2, fuel2, p2, q2, hg2, ht2, hv2, hd2, hr2, _⟩ := hr1
  obtain ⟨g3, t3, cs3, fuel3, p3, q3, hg3, ht3, hv3, hd3, hr3, _⟩ := hr2
  obtain ⟨g4, t4, cs4, fuel4, p4, q4, hg4, ht4, hv4, hd4, hr4, _⟩ := hr3
  obtain ⟨g5, t5, cs5, fuel5, p5, q5, hg5, ht5, hv5, hd5, hr5, _⟩ := hr4
  obtain ⟨g6, t6, cs6, fuel6, p6, q6, hg6, ht6, hv6, hd6, hr6, _⟩ := hr5
  obtain ⟨g7, t7, cs7, fuel7, p7, q7, hg7, ht7, hv7, hd7, hr7, _⟩ := hr6
  obtain ⟨g8, t8, cs8, fuel8, p8, q8, hg8, ht8, hv8, hd8, hr8, _⟩ := hr7
  obtain ⟨g9, t9, cs9, fuel9, p9, q9, hg9, ht9, hv9, hd9, _, _⟩ := hr8
  obtain rfl := Option.some.inj (gPw.symm.trans hg3)
  obtain rfl := Option.some.inj (gPwType.symm.trans ht3)
  obtain rfl := Option.some.inj (gAcc.symm.trans hg4)
  obtain rfl := Option.some.inj (gAccType.symm.trans ht4)
  obtain rfl := Option.some.inj (gH.symm.trans hg5)
  obtain rfl := Option.some.inj (gHType.symm.trans ht5)
  obtain rfl := Option.some.inj (gK.symm.trans hg6)
  obtain rfl := Option.some.inj (gKType.symm.trans ht6)
  obtain rfl := Option.some.inj (gUF.symm.trans hg9)
  obtain rfl := Option.some.inj (gUFType.symm.trans ht9)
  exact ⟨kt_in hv5 hd5 hv6 hd6, tabs_in hv4 hd4 hv9 hd9, pw_in hv3 hd3⟩

/-- internal/bytealg.MaxLen holds some number: out of the world's shape. -/
theorem mx_of {W : World} (h : W.ShapedOpen Tryz.prog) : Mx W :=
  cell_of_shapedOpen_int (g := 5) (t := 3) (zero := #[.int .i64 0]) h (of_decide_eq_true (by kernel_rfl)) (by kernel_rfl) rfl (by kernel_rfl) (by kernel_rfl) Tryz.underlying3

theorem cellsStr : Tryz.prog.cellsOf 9 = 1 := by kernel_rfl
theorem cellsBytes : Tryz.prog.cellsOf 22 = 1 := by kernel_rfl
theorem cellsInt : Tryz.prog.cellsOf 3 = 1 := by kernel_rfl
theorem cellsTalk : Tryz.prog.cellsOf 24 = 6 := by kernel_rfl
theorem arr6 {α : Type} {cs : Array α} (h : cs.size = 6) : ∃ c0 c1 c2 c3 c4 c5, cs = #[c0, c1, c2, c3, c4, c5] := by
  obtain ⟨l⟩ := cs
  match l, h with
  | [c0, c1, c2, c3, c4, c5], _ => exact ⟨c0, c1, c2, c3, c4, c5, rfl⟩
theorem rd_of_f {H : Type} {enc : TypeId × Value → H} {W : World} {n : Nat} {c : Value} {y : DataW H × List MemPlace} (h : DataW.trod enc Tryz.prog W 0 (fun _ => true) true n 22 [c] = some y) : ∃ a k m zs, c = .slice a k m ∧ Rd W a k m zs := by
  rcases open_ints Tryz.underlying22 Tryz.underlying5 (by kernel_rfl) h with ⟨hcs, _⟩ | ⟨x, l, cc, zs, hcs, _, hl, hm, hz, _, hcell, hwz⟩
  · simp only [List.cons.injEq, and_true] at hcs
    exact ⟨none, 0, 0, [], hcs, rd_nilK W⟩
  · simp only [List.cons.injEq, and_true] at hcs
    have hz' : zs.length = cc := by simpa using hz
    refine ⟨some x, l, cc, zs.take l, hcs, by rw [List.length_take]; omega, hl, hm, (fun h => by cases h), fun y hy => ?_, fun ad had j hj => ?_⟩
    · have := bounds_u8 (hwz y (List.mem_of_mem_take hy)); omega
    · cases had
      rw [hcell j (by omega)]
      simp [List.getD, hj]
set_option maxRecDepth 100000 in
theorem open_talk {H : Type} {enc : TypeId × Value → H} {W : World} {b0 : Nat} {v : Value} {d : DataW H} {p : List MemPlace}
    (hv : Value.okWide Tryz.prog W .any b0 24 v) (h : DataW.Trod enc Tryz.prog W 0 (fun _ => true) true 24 v d p) :
    ∃ (P U O T : Tx) (a : Option Addr) (n c : Nat) (ss : List Int) (N : Int), v = .agg #[.string ⟨P.toArray⟩, .string ⟨U.toArray⟩, .string ⟨O.toArray⟩, .string ⟨T.toArray⟩, .slice a n c, .int .i64 N] ∧ P.length ≤ 9223372036854775807 ∧ U.length ≤ 9223372036854775807 ∧ O.length ≤ 9223372036854775807 ∧ T.length ≤ 9223372036854775807 ∧ Rd W a n c ss ∧ (Lit.int .i64 N).wf = true := by
  obtain ⟨cs, rfl, hsz⟩ := okWide_struct Tryz.underlying24 hv
  obtain ⟨c0, c1, c2, c3, c4, c5, rfl⟩ := arr6 (hsz.trans cellsTalk)
  obtain ⟨fuel, hf⟩ := h
  obtain ⟨ys, n, _, hx, hl, hlen, hfs⟩ := DataW.trod_struct Tryz.underlying24 hf
  match ys, hlen with
  | [y0, y1, y2, y3, y4, y5], _ =>
    have f0 : DataW.trod enc Tryz.prog W 0 (fun _ => true) true n 9 [c0] = some y0 := by simpa [Value.cells, cellsStr] using hfs 0 _ rfl
    have f1 : DataW.trod enc Tryz.prog W 0 (fun _ => true) true n 9 [c1] = some y1 := by simpa [Value.cells, cellsStr] using hfs 1 _ rfl
    have f2 : DataW.trod enc Tryz.prog W 0 (fun _ => true) true n 9 [c2] = some y2 := by simpa [Value.cells, cellsStr] using hfs 2 _ rfl
    have f3 : DataW.trod enc Tryz.prog W 0 (fun _ => true) true n 9 [c3] = some y3 := by simpa [Value.cells, cellsStr] using hfs 3 _ rfl
    have f4 : DataW.trod enc Tryz.prog W 0 (fun _ => true) true n 22 [c4] = some y4 := by simpa [Value.cells, cellsBytes] using hfs 4 _ rfl
    have f5 : DataW.trod enc Tryz.prog W 0 (fun _ => true) true n 3 [c5] = some y5 := by simpa [Value.cells, cellsInt] using hfs 5 _ rfl
    obtain ⟨S0, e0, _, w0⟩ := DataW.trod_string Tryz.underlying9 f0
    obtain ⟨S1, e1, _, w1⟩ := DataW.trod_string Tryz.underlying9 f1
    obtain ⟨S2, e2, _, w2⟩ := DataW.trod_string Tryz.underlying9 f2
    obtain ⟨S3, e3, _, w3⟩ := DataW.trod_string Tryz.underlying9 f3
    obtain ⟨a, k, m, zs, e4, hR⟩ := rd_of_f f4
    obtain ⟨N, e5, _, w5⟩ := DataW.trod_int Tryz.underlying3 f5
    simp only [List.cons.injEq, and_true] at e0 e1 e2 e3 e5
    subst e0 e1 e2 e3 e4 e5
    have hb : ∀ S : ByteArray, S.size ≤ maxLen → S.data.toList.length ≤ 9223372036854775807 := fun S hS => by
      unfold maxLen at hS
      have : S.data.toList.length = S.size := by simp
      omega
    refine ⟨S0.data.toList, S1.data.toList, S2.data.toList, S3.data.toList, a, k, m, zs, N, ?_, hb _ w0, hb _ w1, hb _ w2, hb _ w3, hR, w5⟩
    cases S0; cases S1; cases S2; cases S3
    simp
end Go.Proofs.YtmilcknboaefkaaGreatDoor
