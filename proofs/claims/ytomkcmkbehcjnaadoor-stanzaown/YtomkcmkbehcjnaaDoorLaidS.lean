/- An argument that is a stanza, opened. -/
import Derived.Test.YtomkcmkbehcjnaaDoorStzB
import Derived.Test.YtomkcmkbehcjnaaDoorShared
import Derived.Lib.SmallJoins
import Derived.SliceStrings
import Derived.Test.YtomkcmkbehcjnaaDoorRows
import Derived.Test.YtomkcmkbehcjnaaDoorStzA
import Derived.ProofKit
import Derived.OpenShut
import Derived.Deep.DeepHandedRow
import Derived.Lib.LaidTab
namespace Go.Proofs.YtomkcmkbehcjnaaDoor
open Go.ChangeShapes Go.WideShapes Go.ChangeAt Go.RowKit

theorem cellsStz : Tryd.prog.cellsOf 26 = 8 := by kernel_rfl
theorem cellsU64 : Tryd.prog.cellsOf 22 = 1 := by kernel_rfl
theorem cellsInt : Tryd.prog.cellsOf 3 = 1 := by kernel_rfl
theorem cellsStr : Tryd.prog.cellsOf 9 = 1 := by kernel_rfl
theorem cellsStrs : Tryd.prog.cellsOf 23 = 1 := by kernel_rfl
theorem cellsF64 : Tryd.prog.cellsOf 24 = 1 := by kernel_rfl

theorem trod_f64 {P : Program} {H : Type} {enc : TypeId × Value → H} {W : World} {base : Nat} {spare : Nat → Bool} {held : Bool} {fuel : Nat} {t : TypeId} {cs : List Value} {x : DataW H × List MemPlace} (ht : P.underlying t = some (.float .f64)) (h : DataW.trod enc P W base spare held fuel t cs = some x) : ∃ n, cs = [.float .f64 n] ∧ (Lit.float .f64 n).wf = true := by
  cases fuel with
  | zero => simp [DataW.trod] at h
  | succ n =>
    unfold DataW.trod at h
    rw [ht] at h
    split at h <;> simp_all

theorem array8 {α : Type} {cs : Array α} (h : cs.size = 8) : ∃ c0 c1 c2 c3 c4 c5 c6 c7, cs = #[c0, c1, c2, c3, c4, c5, c6, c7] := by
  obtain ⟨l⟩ := cs
  match l, h with
  | [c0, c1, c2, c3, c4, c5, c6, c7], _ => exact ⟨c0, c1, c2, c3, c4, c5, c6, c7, rfl⟩

set_option maxRecDepth 100000 in
theorem open_stz {H : Type} {enc : TypeId × Value → H} {W : World} {b0 : Nat} {v : Value} {d : DataW H} {p : List MemPlace}
    (hv : Value.okWide Tryd.prog W .any b0 26 v) (h : DataW.Trod enc Tryd.prog W 0 (fun _ => true) true 26 v d p) :
    ∃ (K : Int) (I : Nat) (A B T : ByteArray) (la : Option Addr) (ln lc : Nat) (L : List ByteArray) (N : Int) (F : Nat), v = .agg #[.int .i64 K, .int .u64 I, .string A, .string B, .string T, .slice la ln lc, .int .i64 N, .float .f64 F] ∧ SRd W la ln lc L ∧ -9223372036854775808 ≤ K ∧ K ≤ 9223372036854775807 ∧ I < 18446744073709551616 ∧ A.size ≤ 9223372036854775807 ∧ B.size ≤ 9223372036854775807 ∧ T.size ≤ 9223372036854775807 ∧ -9223372036854775808 ≤ N ∧ N ≤ 9223372036854775807 ∧ F < 18446744073709551616 := by
  obtain ⟨cs, rfl, hsz⟩ := okWide_struct Tryd.underlying26 hv
  obtain ⟨c0, c1, c2, c3, c4, c5, c6, c7, rfl⟩ := array8 (hsz.trans cellsStz)
  obtain ⟨fuel, hf⟩ := h
  obtain ⟨ys, n, _, hx, hl, hlen, hfs⟩ := DataW.trod_struct Tryd.underlying26 hf
  match ys, hlen with
  | [y0, y1, y2, y3, y4, y5, y6, y7], _ =>
    have f0 : DataW.trod enc Tryd.prog W 0 (fun _ => true) true n 3 [c0] = some y0 := by simpa [Value.cells, cellsInt] using hfs 0 _ rfl
    have f1 : DataW.trod enc Tryd.prog W 0 (fun _ => true) true n 22 [c1] = some y1 := by simpa [Value.cells, cellsU64] using hfs 1 _ rfl
    have f2 : DataW.trod enc Tryd.prog W 0 (fun _ => true) true n 9 [c2] = some y2 := by simpa [Value.cells, cellsStr] using hfs 2 _ rfl
    have f3 : DataW.trod enc Tryd.prog W 0 (fun _ => true) true n 9 [c3] = some y3 := by simpa [Value.cells, cellsStr] using hfs 3 _ rfl
    have f4 : DataW.trod enc Tryd.prog W 0 (fun _ => true) true n 9 [c4] = some y4 := by simpa [Value.cells, cellsStr] using hfs 4 _ rfl
    have f5 : DataW.trod enc Tryd.prog W 0 (fun _ => true) true n 23 [c5] = some y5 := by simpa [Value.cells, cellsStrs] using hfs 5 _ rfl
    have f6 : DataW.trod enc Tryd.prog W 0 (fun _ => true) true n 3 [c6] = some y6 := by simpa [Value.cells, cellsInt] using hfs 6 _ rfl
    have f7 : DataW.trod enc Tryd.prog W 0 (fun _ => true) true n 24 [c7] = some y7 := by simpa [Value.cells, cellsF64] using hfs 7 _ rfl
    obtain ⟨K, e0, _, w0⟩ := DataW.trod_int Tryd.underlying3 f0
    obtain ⟨I, e1, _, w1⟩ := DataW.trod_int Tryd.underlying22 f1
    obtain ⟨A, e2, _, w2⟩ := DataW.trod_string Tryd.underlying9 f2
    obtain ⟨B, e3, _, w3⟩ := DataW.trod_string Tryd.underlying9 f3
    obtain ⟨T, e4, _, w4⟩ := DataW.trod_string Tryd.underlying9 f4
    obtain ⟨N, e6, _, w6⟩ := DataW.trod_int Tryd.underlying3 f6
    obtain ⟨F, e7, w7⟩ := trod_f64 Tryd.underlying24 f7
    simp only [List.cons.injEq, and_true] at e0 e1 e2 e3 e4 e6 e7
    subst e0 e1 e2 e3 e4 e6 e7
    have b0 := bounds_i64 w0
    have b1 := bounds_u64 w1
    have b6 := bounds_i64 w6
    have b7 : F < 18446744073709551616 := by simpa [Lit.wf] using w7
    obtain ⟨la, len, cap, L, rfl, hR⟩ : ∃ (la : Option Addr) (len cap : Nat) (L : List ByteArray), c5 = .slice la len cap ∧ SRd W la len cap L := by
      rcases open_strings Tryd.underlying23 Tryd.underlying9 cellsStr f5 with ⟨hcs, _⟩ | ⟨x, l, cc, ss, hcs, _, hl, hm, hz, _, hcell, hws⟩
      · simp only [List.cons.injEq, and_true] at hcs
        exact ⟨none, 0, 0, [], hcs, srd_nil W⟩
      · simp only [List.cons.injEq, and_true] at hcs
        have hz' : ss.length = cc := by simpa using hz
        refine ⟨some x, l, cc, ss.take l, hcs, by rw [List.length_take]; omega, hl, hm, (fun h => by cases h), fun y hy => hws y (List.mem_of_mem_take hy), fun ad had j hj => ?_⟩
        cases had
        have hjl : j < ss.length := by omega
        rw [hcell j (by omega)]
        simp [List.getD, hj, List.getElem?_eq_getElem hjl]
    refine ⟨K, I.toNat, A, B, T, la, len, cap, L, N, F, ?_, hR, b0.1, b0.2, by omega, w2, w3, w4, b6.1, b6.2, b7⟩
    rw [Int.toNat_of_nonneg b1.1]

end Go.Proofs.YtomkcmkbehcjnaaDoor

/- What the rows' list gives: Go's two tables of UTF-8 and the program's own two tables, cell for cell. -/
namespace Go.Proofs.YtomkcmkbehcjnaaDoor
open Go.ChangeShapes Go.WideShapes Go.ChangeAt Go.RowKit

theorem gFirst : Tryd.prog.globalNamed "unicode/utf8.first" = some 3 := by kernel_rfl
theorem gAcc : Tryd.prog.globalNamed "unicode/utf8.acceptRanges" = some 4 := by kernel_rfl
theorem gFirstType : (Tryd.prog.globals[3]?).map (·.type) = some 108 := by kernel_rfl
theorem gAccType : (Tryd.prog.globals[4]?).map (·.type) = some 111 := by kernel_rfl
theorem cellsFirst : Tryd.prog.cellsOf 108 = 256 := by kernel_rfl
theorem cellsAcc : Tryd.prog.cellsOf 110 = 2 := by kernel_rfl
theorem cellsByte : Tryd.prog.cellsOf 5 = 1 := by kernel_rfl

def firstTab : List Int := Go.Pinned.utf8FirstZ.map fun (n : Nat) => (n : Int)
theorem first_eq : Rows.laid_unicode_utf8_first = Lib.tabData .u8 firstTab := by
  simp only [Rows.laid_unicode_utf8_first, Go.Pinned.utf8First, Go.Pinned.numbers, Lib.tabData, firstTab, List.map_map]
  rfl
theorem first_len : firstTab.length = 256 := by decide +kernel
theorem first_at : ∀ c : Nat, c < 256 → firstTab.getD c 0 = ((fT c : Nat) : Int) := by decide +kernel

def accTab : List (Int × Int) := [(128, 191), (160, 191), (128, 159), (144, 191), (128, 143), (0, 0), (0, 0), (0, 0), (0, 0), (0, 0), (0, 0), (0, 0), (0, 0), (0, 0), (0, 0), (0, 0)]
theorem acc_eq : (Rows.laid_unicode_utf8_acceptRanges : DataW Unit) = .agg (accTab.map fun x => .agg [.lit (.int .u8 x.1), .lit (.int .u8 x.2)]) := rfl
theorem acc_at : ∀ i : Nat, i < 16 → (accTab.getD i (0, 0)) = (((aLo i : Nat) : Int), ((aHi i : Nat) : Int)) := by decide +kernel

theorem gOrd : Tryd.prog.globalNamed "roost/stanza.partOrder" = some 0 := by kernel_rfl
theorem gKin : Tryd.prog.globalNamed "roost/stanza.kindParts" = some 1 := by kernel_rfl
theorem gOrdType : (Tryd.prog.globals[0]?).map (·.type) = some 62 := by kernel_rfl
theorem gKinType : (Tryd.prog.globals[1]?).map (·.type) = some 66 := by kernel_rfl
theorem cellsOrd : Tryd.prog.cellsOf 62 = 6 := by kernel_rfl
theorem cellsKin : Tryd.prog.cellsOf 66 = 47 := by kernel_rfl
def ordTab : List Int := [1, 2, 4, 8, 16, 32]
def kinTab : List Int := kindTab.map fun (n : Nat) => (n : Int)
theorem ord_eq : (Rows.laid_roost_stanza_partOrder : DataW Unit) = Lib.tabData .u8 ordTab := rfl
theorem kin_eq : (Rows.laid_roost_stanza_kindParts : DataW Unit) = Lib.tabData .u8 kinTab := rfl
theorem ord_at : ∀ i : Nat, i < 6 → ordTab.getD i 0 = ((2 ^ i : Nat) : Int) := by decide +kernel
theorem kin_at : ∀ i : Nat, i < 47 → kinTab.getD i 0 = ((kp i : Nat) : Int) := by decide +kernel

theorem lays_of {W : World} (h : laidMetH Tryd.prog [("unicode/utf8.acceptRanges", Rows.laid_unicode_utf8_acceptRanges), ("roost/stanza.partOrder", Rows.laid_roost_stanza_partOrder), ("roost/stanza.kindParts", Rows.laid_roost_stanza_kindParts), ("unicode/utf8.first", Rows.laid_unicode_utf8_first)] W) : Lays W := by
  have h' : laidMet Tryd.prog [("unicode/utf8.acceptRanges", Rows.laid_unicode_utf8_acceptRanges), ("roost/stanza.partOrder", Rows.laid_roost_stanza_partOrder), ("roost/stanza.kindParts", Rows.laid_roost_stanza_kindParts), ("unicode/utf8.first", Rows.laid_unicode_utf8_first)] W := h
  obtain ⟨ps, ⟨g1, t1, cs1, fuel1, p1, q1, hg1, ht1, hv1, hd1, hr1, _⟩, _⟩ := h'
  obtain rfl := Option.some.inj (gAcc.symm.trans hg1)
  obtain rfl := Option.some.inj (gAccType.symm.trans ht1)
  obtain ⟨g3, t3, cs3, fuel3, p3, q3, hg3, ht3, hv3, hd3, hr3, _⟩ := hr1
  obtain rfl := Option.some.inj (gOrd.symm.trans hg3)
  obtain rfl := Option.some.inj (gOrdType.symm.trans ht3)
  obtain ⟨g4, t4, cs4, fuel4, p4, q4, hg4, ht4, hv4, hd4, hr4, _⟩ := hr3
  obtain rfl := Option.some.inj (gKin.symm.trans hg4)
  obtain rfl := Option.some.inj (gKinType.symm.trans ht4)
  obtain ⟨g2, t2, cs2, fuel2, p2, q2, hg2, ht2, hv2, hd2, _, _⟩ := hr4
  obtain rfl := Option.some.inj (gFirst.symm.trans hg2)
  obtain rfl := Option.some.inj (gFirstType.symm.trans ht2)
  rw [ord_eq] at hd3
  have hc3 := Lib.cells_of_tab Tryd.underlying62 Tryd.underlying5 cellsByte cellsOrd hd3
  rw [kin_eq] at hd4
  have hc4 := Lib.cells_of_tab Tryd.underlying66 Tryd.underlying5 cellsByte cellsKin hd4
  rw [first_eq] at hd2
  have hc2 := Lib.cells_of_tab Tryd.underlying108 Tryd.underlying5 cellsByte cellsFirst hd2
  rw [acc_eq] at hd1
  obtain ⟨ys, m, _, hx, _, hlen, hel⟩ := DataW.trod_array Tryd.underlying111 hd1
  have hxs : ys.map (·.1) = accTab.map fun x => (DataW.agg [.lit (.int .u8 x.1), .lit (.int .u8 x.2)] : DataW Unit) := by
    have := congrArg Prod.fst hx
    simpa using this.symm
  have hat : ∀ i, i < 16 → cs1.toList[i * 2]? = some (.int .u8 ((aLo i : Nat) : Int)) ∧ cs1.toList[i * 2 + 1]? = some (.int .u8 ((aHi i : Nat) : Int)) := by
    intro i hi
    have h1 := hel i hi
    rw [cellsAcc] at h1
    have hil : i < ys.length := by omega
    rw [List.getElem?_eq_getElem hil] at h1
    obtain ⟨y0, y1, k, hy, _, f0, f1⟩ := trod_struct2 Tryd.underlying110 h1
    simp only [cellsByte, List.drop_zero] at f0 f1
    obtain ⟨z0, e0, e0', _⟩ := DataW.trod_int Tryd.underlying5 f0
    obtain ⟨z1, e1, e1', _⟩ := DataW.trod_int Tryd.underlying5 f1
    have h2 : (ys.map (·.1))[i]? = some (DataW.agg [.lit (.int .u8 z0), .lit (.int .u8 z1)] : DataW Unit) := by
      rw [List.getElem?_map, List.getElem?_eq_getElem hil, hy, e0', e1']; rfl
    rw [hxs, List.getElem?_map] at h2
    have h3 : accTab[i]? = some (accTab.getD i (0, 0)) := by
      have : i < accTab.length := hi
      rw [List.getD, List.getElem?_eq_getElem this]; rfl
    rw [h3, acc_at i hi] at h2
    simp only [Option.map_some, Option.some.injEq, DataW.agg.injEq, List.cons.injEq, DataW.lit.injEq, Lit.int.injEq, true_and, and_true] at h2
    rw [h2.1, h2.2]
    constructor
    · have := congrArg (·[0]?) e0
      simpa [List.getElem?_take, List.getElem?_drop] using this
    · have := congrArg (·[0]?) e1
      simpa [List.getElem?_take, List.getElem?_drop] using this
  refine ⟨⟨fun c hc => ?_, fun i hi => ?_, fun i hi => ?_⟩, fun i hi => ?_, fun i hi => ?_⟩
  · rw [World.var?_cell gFirst hv2 c, ← Array.getElem?_toList, hc2, List.getElem?_map]
    have hlen : c < firstTab.length := by rw [first_len]; exact hc
    rw [List.getElem?_eq_getElem hlen]
    have := first_at c hc
    simp [List.getD, List.getElem?_eq_getElem hlen] at this
    simp [this]
  · rw [World.var?_cell gAcc hv1, ← Array.getElem?_toList, Nat.mul_comm]
    exact (hat i hi).1
  · rw [World.var?_cell gAcc hv1, ← Array.getElem?_toList, Nat.mul_comm]
    exact (hat i hi).2
  · rw [World.var?_cell gOrd hv3 i, ← Array.getElem?_toList, hc3, List.getElem?_map]
    have hlen : i < ordTab.length := hi
    rw [List.getElem?_eq_getElem hlen]
    have := ord_at i hi
    simp [List.getD, List.getElem?_eq_getElem hlen] at this
    simp [this]
  · rw [World.var?_cell gKin hv4 i, ← Array.getElem?_toList, hc4, List.getElem?_map]
    have hlen : i < kinTab.length := hi
    rw [List.getElem?_eq_getElem hlen]
    have := kin_at i hi
    simp [List.getD, List.getElem?_eq_getElem hlen] at this
    simp [this]

end Go.Proofs.YtomkcmkbehcjnaaDoor
