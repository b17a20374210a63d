/- An argument of the struct type Any, opened: bytes ahead, two numbers, a float's bits, a text. -/
import Derived.Test.YtephpbbooicfoaaDoorShared
import Derived.Lib.SmallJoins
namespace Go.Proofs.YtephpbbooicfoaaDoor
open Go.ChangeShapes Go.WideShapes Go.ChangeAt Go.RowKit

theorem cellsAny : Tryd.prog.cellsOf 47 = 5 := by kernel_rfl
theorem cellsBytes : Tryd.prog.cellsOf 22 = 1 := by kernel_rfl
theorem cellsU64 : Tryd.prog.cellsOf 24 = 1 := by kernel_rfl
theorem cellsInt : Tryd.prog.cellsOf 3 = 1 := by kernel_rfl
theorem cellsStr : Tryd.prog.cellsOf 9 = 1 := by kernel_rfl

theorem array5 {α : Type} {cs : Array α} (h : cs.size = 5) : ∃ c0 c1 c2 c3 c4, cs = #[c0, c1, c2, c3, c4] := by
  obtain ⟨l⟩ := cs
  match l, h with
  | [c0, c1, c2, c3, c4], _ => exact ⟨c0, c1, c2, c3, c4, rfl⟩

theorem open_any {H : Type} {enc : TypeId × Value → H} {W : World} {b0 : Nat} {v : Value} {d : DataW H} {p : List MemPlace}
    (hv : Value.okWide Tryd.prog W .any b0 47 v) (h : DataW.Trod enc Tryd.prog W 0 (fun _ => true) true 47 v d p) :
    ∃ (ao : Option Addr) (n c : Nat) (xs : List Int) (N : Nat) (I : Int) (F : Nat) (S : ByteArray), v = .agg #[.slice ao n c, .int .u64 N, .int .i64 I, .int .u64 F, .string S] ∧ Rd W ao n c xs ∧ N < 18446744073709551616 ∧ -9223372036854775808 ≤ I ∧ I ≤ 9223372036854775807 ∧ F < 18446744073709551616 ∧ S.size ≤ 9223372036854775807 := by
  obtain ⟨cs, rfl, hsz⟩ := okWide_struct Tryd.underlying47 hv
  obtain ⟨c0, c1, c2, c3, c4, rfl⟩ := array5 (hsz.trans cellsAny)
  obtain ⟨fuel, hf⟩ := h
  obtain ⟨ys, n, _, hx, hl, hlen, hfs⟩ := DataW.trod_struct Tryd.underlying47 hf
  match ys, hlen with
  | [y0, y1, y2, y3, y4], _ =>
    have f0 : DataW.trod enc Tryd.prog W 0 (fun _ => true) true n 22 [c0] = some y0 := by simpa [Value.cells, cellsBytes] using hfs 0 _ rfl
    have f1 : DataW.trod enc Tryd.prog W 0 (fun _ => true) true n 24 [c1] = some y1 := by simpa [Value.cells, cellsU64] using hfs 1 _ rfl
    have f2 : DataW.trod enc Tryd.prog W 0 (fun _ => true) true n 3 [c2] = some y2 := by simpa [Value.cells, cellsInt] using hfs 2 _ rfl
    have f3 : DataW.trod enc Tryd.prog W 0 (fun _ => true) true n 24 [c3] = some y3 := by simpa [Value.cells, cellsU64] using hfs 3 _ rfl
    have f4 : DataW.trod enc Tryd.prog W 0 (fun _ => true) true n 9 [c4] = some y4 := by simpa [Value.cells, cellsStr] using hfs 4 _ rfl
    obtain ⟨N, e1, _, w1⟩ := DataW.trod_int Tryd.underlying24 f1
    obtain ⟨I, e2, _, w2⟩ := DataW.trod_int Tryd.underlying3 f2
    obtain ⟨F, e3, _, w3⟩ := DataW.trod_int Tryd.underlying24 f3
    obtain ⟨S, e4, _, w4⟩ := DataW.trod_string Tryd.underlying9 f4
    simp only [List.cons.injEq, and_true] at e1 e2 e3 e4
    subst e1 e2 e3 e4
    have b1 := bounds_u64 w1
    have b2 := bounds_i64 w2
    have b3 := bounds_u64 w3
    obtain ⟨ao, len, cap, zs, rfl, hR⟩ : ∃ (ao : Option Addr) (len cap : Nat) (zs : List Int), c0 = .slice ao len cap ∧ Rd W ao len cap zs := by
      rcases open_ints Tryd.underlying22 Tryd.underlying5 (by kernel_rfl) f0 with ⟨hcs, _⟩ | ⟨x, l, cc, zs, hcs, _, hl, hm, hz, _, hcell, hwz⟩
      · simp only [List.cons.injEq, and_true] at hcs
        exact ⟨none, 0, 0, [], hcs, rd_nil W⟩
      · simp only [List.cons.injEq, and_true] at hcs
        have hz' : zs.length = cc := by simpa using hz
        refine ⟨some x, l, cc, zs.take l, hcs, by rw [List.length_take]; omega, hl, hm, (fun h => by cases h), fun y hy => ?_, fun ad had j hj => ?_⟩
        · have := bounds_u8 (hwz y (List.mem_of_mem_take hy)); omega
        · cases had
          rw [hcell j (by omega)]
          simp [List.getD, hj]
    refine ⟨ao, len, cap, zs, N.toNat, I, F.toNat, S, ?_, hR, by omega, b2.1, b2.2, by omega, w4⟩
    rw [Int.toNat_of_nonneg b1.1, Int.toNat_of_nonneg b3.1]

end Go.Proofs.YtephpbbooicfoaaDoor
