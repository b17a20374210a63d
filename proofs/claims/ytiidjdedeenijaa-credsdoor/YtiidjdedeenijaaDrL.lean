/- Arguments, opened: the struct Apart; a row of tries. -/
import Derived.Test.YtiidjdedeenijaaDrS
import Derived.WalkKit
import Derived.ProofKit
import Derived.OpenShut
import Derived.ShutString
import Derived.ChangeOld
import Derived.ChangeMaps5
import Derived.Deep.DeepHandedRow
import Derived.Lib.SmallJoins
import Derived.SliceStrings
namespace Go.Proofs.Ytiidjdedeenijaa
open Go.ChangeShapes Go.WideShapes Go.ChangeAt Go.RowKit

theorem cellsApart : Try.prog.cellsOf 43 = 4 := by kernel_rfl
theorem cellsU64 : Try.prog.cellsOf 22 = 1 := by kernel_rfl
theorem cellsInt : Try.prog.cellsOf 3 = 1 := by kernel_rfl
theorem cellsStr : Try.prog.cellsOf 9 = 1 := by kernel_rfl
theorem cellsStrs : Try.prog.cellsOf 41 = 1 := by kernel_rfl
theorem arr4 {α : Type} {cs : Array α} (h : cs.size = 4) : ∃ c0 c1 c2 c3, cs = #[c0, c1, c2, c3] := by
  obtain ⟨l⟩ := cs
  match l, h with
  | [c0, c1, c2, c3], _ => exact ⟨c0, c1, c2, c3, rfl⟩

theorem srd_of_cells {H : Type} {enc : TypeId × Value → H} {W : World} {v : Value} {n : Nat} {y : DataW H × List MemPlace}
    (h : DataW.trod enc Try.prog W 0 (fun _ => true) true n 41 [v] = some y) : ∃ a n c zs, v = .slice a n c ∧ SRd W a n c zs := by
  rcases open_strings Try.underlying41 Try.underlying9 cellsStr h with ⟨hcs, _⟩ | ⟨x, l, cc, ss, hcs, _, hl, hm, hz, _, hcell, hws⟩
  · simp only [List.cons.injEq, and_true] at hcs
    exact ⟨none, 0, 0, [], hcs, srd_nil W⟩
  · simp only [List.cons.injEq, and_true] at hcs
    have hz' : ss.length = cc := by simpa using hz
    refine ⟨some x, l, cc, ss.take l, hcs, by rw [List.length_take]; omega, hl, hm, (fun h => by cases h), fun y hy => hws y (List.mem_of_mem_take hy), fun ad had j hj => ?_⟩
    cases had
    have hjl : j < ss.length := by omega
    rw [hcell j (by omega)]
    simp [List.getD, hj, List.getElem?_eq_getElem hjl]

theorem open_apart {H : Type} {enc : TypeId × Value → H} {W : World} {b0 : Nat} {v : Value} {d : DataW H} {p : List MemPlace}
    (hv : Value.okWide Try.prog W .any b0 43 v) (h : DataW.Trod enc Try.prog W 0 (fun _ => true) true 43 v d p) :
    ∃ (M : Int) (S T : Nat) (a : Option Addr) (n c : Nat) (ss : List ByteArray), v = .agg #[.int .i64 M, .int .u64 S, .int .u64 T, .slice a n c] ∧ SRd W a n c ss := by
  obtain ⟨cs, rfl, hsz⟩ := okWide_struct Try.underlying43 hv
  obtain ⟨c0, c1, c2, c3, rfl⟩ := arr4 (hsz.trans cellsApart)
  obtain ⟨fuel, hf⟩ := h
  obtain ⟨ys, n, _, hx, hl, hlen, hfs⟩ := DataW.trod_struct Try.underlying43 hf
  match ys, hlen with
  | [y0, y1, y2, y3], _ =>
    have f0 : DataW.trod enc Try.prog W 0 (fun _ => true) true n 3 [c0] = some y0 := by simpa [Value.cells, cellsInt] using hfs 0 _ rfl
    have f1 : DataW.trod enc Try.prog W 0 (fun _ => true) true n 22 [c1] = some y1 := by simpa [Value.cells, cellsU64] using hfs 1 _ rfl
    have f2 : DataW.trod enc Try.prog W 0 (fun _ => true) true n 22 [c2] = some y2 := by simpa [Value.cells, cellsU64] using hfs 2 _ rfl
    have f3 : DataW.trod enc Try.prog W 0 (fun _ => true) true n 41 [c3] = some y3 := by simpa [Value.cells, cellsStrs] using hfs 3 _ rfl
    obtain ⟨M, e0, _, w0⟩ := DataW.trod_int Try.underlying3 f0
    obtain ⟨S, e1, _, w1⟩ := DataW.trod_int Try.underlying22 f1
    obtain ⟨T, e2, _, w2⟩ := DataW.trod_int Try.underlying22 f2
    simp only [List.cons.injEq, and_true] at e0 e1 e2
    subst e0 e1 e2
    have b1 := bounds_u64 w1
    have b2 := bounds_u64 w2
    obtain ⟨a, len, cap, ss, rfl, hR⟩ := srd_of_cells f3
    refine ⟨M, S.toNat, T.toNat, a, len, cap, ss, ?_, hR⟩
    rw [Int.toNat_of_nonneg b1.1, Int.toNat_of_nonneg b2.1]

end Go.Proofs.Ytiidjdedeenijaa
