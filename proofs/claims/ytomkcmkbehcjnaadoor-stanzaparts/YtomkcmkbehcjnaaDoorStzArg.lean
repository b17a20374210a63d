/- An argument that is a stanza, opened. -/
import Derived.Test.YtomkcmkbehcjnaaDoorStzB
import Derived.Test.YtomkcmkbehcjnaaDoorShared
import Derived.Lib.SmallJoins
import Derived.SliceStrings
namespace Go.Proofs.YtomkcmkbehcjnaaDoor
open Go.ChangeShapes Go.WideShapes Go.ChangeAt Go.RowKit

theorem cellsStz : Tryd.prog.cellsOf 26 = 8 := by kernel_rfl
theorem cellsU64 : Tryd.prog.cellsOf 22 = 1 := by kernel_rfl
theorem cellsInt : Tryd.prog.cellsOf 3 = 1 := by kernel_rfl
theorem cellsStr : Tryd.prog.cellsOf 9 = 1 := by kernel_rfl
theorem cellsStrs : Tryd.prog.cellsOf 23 = 1 := by kernel_rfl
theorem cellsF64 : Tryd.prog.cellsOf 24 = 1 := by kernel_rfl

theorem trod_f64 {P : Program} {H : Type} {enc : TypeId × Value → H} {W : World} {base : Nat} {spare : Nat → Bool} {held : Bool} {fuel : Nat} {t : TypeId} {cs : List Value} {x : DataW H × List MemPlace} (ht : P.underlying t = some (.float .f64)) (h : DataW.trod enc P W base spare held fuel t cs = some x) : ∃ n, cs = [.float .f64 n] ∧ (Lit.float .f64 n).wf = true := by
  cases fuel with
  | zero => simp [DataW.trod] at h
  | succ n =>
    unfold DataW.trod at h
    rw [ht] at h
    split at h <;> simp_all

theorem array8 {α : Type} {cs : Array α} (h : cs.size = 8) : ∃ c0 c1 c2 c3 c4 c5 c6 c7, cs = #[c0, c1, c2, c3, c4, c5, c6, c7] := by
  obtain ⟨l⟩ := cs
  match l, h with
  | [c0, c1, c2, c3, c4, c5, c6, c7], _ => exact ⟨c0, c1, c2, c3, c4, c5, c6, c7, rfl⟩

set_option maxRecDepth 100000 in
theorem open_stz {H : Type} {enc : TypeId × Value → H} {W : World} {b0 : Nat} {v : Value} {d : DataW H} {p : List MemPlace}
    (hv : Value.okWide Tryd.prog W .any b0 26 v) (h : DataW.Trod enc Tryd.prog W 0 (fun _ => true) true 26 v d p) :
    ∃ (K : Int) (I : Nat) (A B T : ByteArray) (la : Option Addr) (ln lc : Nat) (L : List ByteArray) (N : Int) (F : Nat), v = .agg #[.int .i64 K, .int .u64 I, .string A, .string B, .string T, .slice la ln lc, .int .i64 N, .float .f64 F] ∧ SRd W la ln lc L ∧ -9223372036854775808 ≤ K ∧ K ≤ 9223372036854775807 ∧ I < 18446744073709551616 ∧ A.size ≤ 9223372036854775807 ∧ B.size ≤ 9223372036854775807 ∧ T.size ≤ 9223372036854775807 ∧ -9223372036854775808 ≤ N ∧ N ≤ 9223372036854775807 ∧ F < 18446744073709551616 := by
  obtain ⟨cs, rfl, hsz⟩ := okWide_struct Tryd.underlying26 hv
  obtain ⟨c0, c1, c2, c3, c4, c5, c6, c7, rfl⟩ := array8 (hsz.trans cellsStz)
  obtain ⟨fuel, hf⟩ := h
  obtain ⟨ys, n, _, hx, hl, hlen, hfs⟩ := DataW.trod_struct Tryd.underlying26 hf
  match ys, hlen with
  | [y0, y1, y2, y3, y4, y5, y6, y7], _ =>
    have f0 : DataW.trod enc Tryd.prog W 0 (fun _ => true) true n 3 [c0] = some y0 := by simpa [Value.cells, cellsInt] using hfs 0 _ rfl
    have f1 : DataW.trod enc Tryd.prog W 0 (fun _ => true) true n 22 [c1] = some y1 := by simpa [Value.cells, cellsU64] using hfs 1 _ rfl
    have f2 : DataW.trod enc Tryd.prog W 0 (fun _ => true) true n 9 [c2] = some y2 := by simpa [Value.cells, cellsStr] using hfs 2 _ rfl
    have f3 : DataW.trod enc Tryd.prog W 0 (fun _ => true) true n 9 [c3] = some y3 := by simpa [Value.cells, cellsStr] using hfs 3 _ rfl
    have f4 : DataW.trod enc Tryd.prog W 0 (fun _ => true) true n 9 [c4] = some y4 := by simpa [Value.cells, cellsStr] using hfs 4 _ rfl
    have f5 : DataW.trod enc Tryd.prog W 0 (fun _ => true) true n 23 [c5] = some y5 := by simpa [Value.cells, cellsStrs] using hfs 5 _ rfl
    have f6 : DataW.trod enc Tryd.prog W 0 (fun _ => true) true n 3 [c6] = some y6 := by simpa [Value.cells, cellsInt] using hfs 6 _ rfl
    have f7 : DataW.trod enc Tryd.prog W 0 (fun _ => true) true n 24 [c7] = some y7 := by simpa [Value.cells, cellsF64] using hfs 7 _ rfl
    obtain ⟨K, e0, _, w0⟩ := DataW.trod_int Tryd.underlying3 f0
    obtain ⟨I, e1, _, w1⟩ := DataW.trod_int Tryd.underlying22 f1
    obtain ⟨A, e2, _, w2⟩ := DataW.trod_string Tryd.underlying9 f2
    obtain ⟨B, e3, _, w3⟩ := DataW.trod_string Tryd.underlying9 f3
    obtain ⟨T, e4, _, w4⟩ := DataW.trod_string Tryd.underlying9 f4
    obtain ⟨N, e6, _, w6⟩ := DataW.trod_int Tryd.underlying3 f6
    obtain ⟨F, e7, w7⟩ := trod_f64 Tryd.underlying24 f7
    simp only [List.cons.injEq, and_true] at e0 e1 e2 e3 e4 e6 e7
    subst e0 e1 e2 e3 e4 e6 e7
    have b0 := bounds_i64 w0
    have b1 := bounds_u64 w1
    have b6 := bounds_i64 w6
    have b7 : F < 18446744073709551616 := by simpa [Lit.wf] using w7
    obtain ⟨la, len, cap, L, rfl, hR⟩ : ∃ (la : Option Addr) (len cap : Nat) (L : List ByteArray), c5 = .slice la len cap ∧ SRd W la len cap L := by
      rcases open_strings Tryd.underlying23 Tryd.underlying9 cellsStr f5 with ⟨hcs, _⟩ | ⟨x, l, cc, ss, hcs, _, hl, hm, hz, _, hcell, hws⟩
      · simp only [List.cons.injEq, and_true] at hcs
        exact ⟨none, 0, 0, [], hcs, srd_nil W⟩
      · simp only [List.cons.injEq, and_true] at hcs
        have hz' : ss.length = cc := by simpa using hz
        refine ⟨some x, l, cc, ss.take l, hcs, by rw [List.length_take]; omega, hl, hm, (fun h => by cases h), fun y hy => hws y (List.mem_of_mem_take hy), fun ad had j hj => ?_⟩
        cases had
        have hjl : j < ss.length := by omega
        rw [hcell j (by omega)]
        simp [List.getD, hj, List.getElem?_eq_getElem hjl]
    refine ⟨K, I.toNat, A, B, T, la, len, cap, L, N, F, ?_, hR, b0.1, b0.2, by omega, w2, w3, w4, b6.1, b6.2, b7⟩
    rw [Int.toNat_of_nonneg b1.1]

end Go.Proofs.YtomkcmkbehcjnaaDoor
