/- Arguments, opened: bytes; the struct Turn. -/
import Derived.Test.YtmmjeikmifhekaaB6A
import Derived.WalkKit
import Derived.ProofKit
import Derived.OpenShut
import Derived.ShutString
import Derived.ChangeOld
import Derived.ChangeMaps5
import Derived.Deep.DeepHandedRow
import Derived.Lib.SmallJoins
namespace Go.Proofs.Ytmmjeikmifhekaa
open Go.ChangeShapes Go.WideShapes Go.ChangeAt Go.RowKit

theorem rd_of_cells {H : Type} {enc : TypeId × Value → H} {W : World} {v : Value} {n : Nat} {y : DataW H × List MemPlace}
    (h : DataW.trod enc Try.prog W 0 (fun _ => true) true n 22 [v] = some y) : ∃ a n c zs, v = .slice a n c ∧ Rd W a n c zs := by
  rcases open_ints Try.underlying22 Try.underlying5 (by kernel_rfl) h with ⟨hcs, _⟩ | ⟨x, l, cc, zs, hcs, _, hl, hm, hz, _, hcell, hwz⟩
  · simp only [List.cons.injEq, and_true] at hcs
    exact ⟨none, 0, 0, [], hcs, rd_nilK W⟩
  · simp only [List.cons.injEq, and_true] at hcs
    have hz' : zs.length = cc := by simpa using hz
    refine ⟨some x, l, cc, zs.take l, hcs, by rw [List.length_take]; omega, hl, hm, (fun h => by cases h), fun y hy => ?_, fun ad had j hj => ?_⟩
    · have := bounds_u8 (hwz y (List.mem_of_mem_take hy)); omega
    · cases had
      rw [hcell j (by omega)]
      simp [List.getD, hj]
theorem rd_of_trod {H : Type} {enc : TypeId × Value → H} {W : World} {a : Option Addr} {n c : Nat} {d : DataW H} {ps : List MemPlace}
    (h : DataW.Trod enc Try.prog W 0 (fun _ => true) true 22 (.slice a n c) d ps) : ∃ zs, Rd W a n c zs := by
  obtain ⟨fuel, hf⟩ := h
  obtain ⟨_, _, _, zs, hv, hr⟩ := rd_of_cells (v := .slice a n c) (by simpa [Value.cells] using hf)
  cases hv
  exact ⟨zs, hr⟩

theorem cellsTurn : Try.prog.cellsOf 34 = 4 := by kernel_rfl
theorem cellsBytes : Try.prog.cellsOf 22 = 1 := by kernel_rfl
theorem cellsInt : Try.prog.cellsOf 3 = 1 := by kernel_rfl
theorem cellsStr : Try.prog.cellsOf 9 = 1 := by kernel_rfl
theorem cellsByte : Try.prog.cellsOf 5 = 1 := by kernel_rfl
theorem arr4 {α : Type} {cs : Array α} (h : cs.size = 4) : ∃ c0 c1 c2 c3, cs = #[c0, c1, c2, c3] := by
  obtain ⟨l⟩ := cs
  match l, h with
  | [c0, c1, c2, c3], _ => exact ⟨c0, c1, c2, c3, rfl⟩
theorem open_turn {H : Type} {enc : TypeId × Value → H} {W : World} {b0 : Nat} {v : Value} {d : DataW H} {p : List MemPlace}
    (hv : Value.okWide Try.prog W .any b0 34 v) (h : DataW.Trod enc Try.prog W 0 (fun _ => true) true 34 v d p) :
    ∃ (a : Option Addr) (n c : Nat) (xs : List Int) (S : ByteArray) (I J : Int), v = .agg #[.slice a n c, .string S, .int .i64 I, .int .u8 J] ∧ Rd W a n c xs ∧ S.size ≤ 9223372036854775807 ∧ -9223372036854775808 ≤ I ∧ I ≤ 9223372036854775807 ∧ 0 ≤ J ∧ J ≤ 255 := by
  obtain ⟨cs, rfl, hsz⟩ := okWide_struct Try.underlying34 hv
  obtain ⟨c0, c1, c2, c3, rfl⟩ := arr4 (hsz.trans cellsTurn)
  obtain ⟨fuel, hf⟩ := h
  obtain ⟨ys, n, _, hx, hl, hlen, hfs⟩ := DataW.trod_struct Try.underlying34 hf
  match ys, hlen with
  | [y0, y1, y2, y3], _ =>
    have f0 : DataW.trod enc Try.prog W 0 (fun _ => true) true n 22 [c0] = some y0 := by simpa [Value.cells, cellsBytes] using hfs 0 _ rfl
    have f1 : DataW.trod enc Try.prog W 0 (fun _ => true) true n 9 [c1] = some y1 := by simpa [Value.cells, cellsStr] using hfs 1 _ rfl
    have f2 : DataW.trod enc Try.prog W 0 (fun _ => true) true n 3 [c2] = some y2 := by simpa [Value.cells, cellsInt] using hfs 2 _ rfl
    have f3 : DataW.trod enc Try.prog W 0 (fun _ => true) true n 5 [c3] = some y3 := by simpa [Value.cells, cellsByte] using hfs 3 _ rfl
    obtain ⟨S, e1, _, w1⟩ := DataW.trod_string Try.underlying9 f1
    obtain ⟨I, e2, _, w2⟩ := DataW.trod_int Try.underlying3 f2
    obtain ⟨J, e3, _, w3⟩ := DataW.trod_int Try.underlying5 f3
    simp only [List.cons.injEq, and_true] at e1 e2 e3
    subst e1 e2 e3
    have b2 := bounds_i64 w2
    have b3 := bounds_u8 w3
    obtain ⟨a, l, c, zs, rfl, hR⟩ := rd_of_cells f0
    exact ⟨a, l, c, zs, S, I, J, rfl, hR, w1, b2.1, b2.2, b3.1, b3.2⟩
end Go.Proofs.Ytmmjeikmifhekaa
