/- Arguments, opened: a row of asks. -/
import Derived.Test.YtmlkeobmkjdefaaMtS
import Derived.WalkKit
import Derived.ProofKit
import Derived.OpenShut
import Derived.ChangeOld
import Derived.Deep.DeepHandedRow
import Derived.Lib.SmallJoins
import Derived.Deep.Slices
namespace Go.Proofs.Ytmlkeobmkjdefaa
open Go.ChangeShapes Go.WideShapes Go.ChangeAt Go.RowKit

theorem cellsU64 : Try.prog.cellsOf 22 = 1 := by kernel_rfl
theorem cellsInt : Try.prog.cellsOf 3 = 1 := by kernel_rfl
theorem cellsAsk : Try.prog.cellsOf 35 = 3 := by kernel_rfl

theorem u64_nat {z : Int} (h : 0 ≤ z ∧ z ≤ 18446744073709551615) : ∃ x : Nat, z = (x : Int) ∧ x < 2 ^ 64 := ⟨z.toNat, by omega, by omega⟩

theorem open_asks {H : Type} {enc : TypeId × Value → H} {W : World} {b0 : Nat} {v : Value} {d : DataW H} {p : List MemPlace}
    (hv : Value.okWide Try.prog W .any b0 23 v) (h : DataW.Trod enc Try.prog W 0 (fun _ => true) true 23 v d p) : ∃ a n c, v = .slice a n c ∧ ARd W a n c := by
  obtain ⟨a, n, c, rfl⟩ := okWide_slice Try.underlying23 hv
  refine ⟨a, n, c, rfl, ?_⟩
  obtain ⟨fuel, hf⟩ := h
  rcases Go.Deep.open_slice Try.underlying23 hf with ⟨hcs, _⟩ | ⟨x, l, cc, m, k, D, Pl, hcs, hb, hl, hm, hmm, _, hx⟩
  · simp [Value.cells] at hcs
    obtain ⟨rfl, rfl, rfl⟩ := hcs
    exact ⟨Nat.le_refl _, by unfold maxLen; omega, fun h => by omega⟩
  · simp [Value.cells] at hcs
    obtain ⟨rfl, rfl, rfl⟩ := hcs
    simp only [if_true] at hmm
    subst hmm
    have each : ∀ j, j < n → ∃ (D : Int) (T C : Nat), T < 2 ^ 64 ∧ C < 2 ^ 64 ∧ W.cell? (x.add (j * 3)) = some (.int .i64 D) ∧ W.cell? (x.add (j * 3 + 1)) = some (.int .u64 (T : Int)) ∧ W.cell? (x.add (j * 3 + 2)) = some (.int .u64 (C : Int)) := by
      intro j hj
      obtain ⟨cs', h1, h2⟩ := hx j (by omega)
      rw [cellsAsk] at h1
      obtain ⟨_, hlen, hcell⟩ := World.cells?_some h1
      obtain ⟨xs, q, hq, hxy, _, hxl, hfs⟩ := DataW.trod_struct Try.underlying35 h2
      match xs, hxl, cs', hlen with
      | [y0, y1, y2], _, [v0, v1, v2], _ =>
        have f0 : DataW.trod enc Try.prog W 0 (fun _ => true) true q 3 [v0] = some y0 := by simpa [Value.cells, cellsInt] using hfs 0 _ rfl
        have f1 : DataW.trod enc Try.prog W 0 (fun _ => true) true q 22 [v1] = some y1 := by simpa [Value.cells, cellsU64] using hfs 1 _ rfl
        have f2 : DataW.trod enc Try.prog W 0 (fun _ => true) true q 22 [v2] = some y2 := by simpa [Value.cells, cellsU64] using hfs 2 _ rfl
        obtain ⟨K, e0, _, w0⟩ := DataW.trod_int Try.underlying3 f0
        obtain ⟨T, e1, _, w1⟩ := DataW.trod_int Try.underlying22 f1
        obtain ⟨C, e2, _, w2⟩ := DataW.trod_int Try.underlying22 f2
        simp only [List.cons.injEq, and_true] at e0 e1 e2
        subst e0 e1 e2
        obtain ⟨T, rfl, t1⟩ := u64_nat (bounds_u64 w1)
        obtain ⟨C, rfl, t2⟩ := u64_nat (bounds_u64 w2)
        have c0 := hcell 0 (by omega)
        have c1 := hcell 1 (by omega)
        have c2 := hcell 2 (by omega)
        rw [Go.Deep.add_add] at c0 c1 c2
        exact ⟨K, T, C, t1, t2, by simpa using c0, by simpa using c1, by simpa using c2⟩
    refine ⟨hl, hm, fun h0 => ?_⟩
    obtain ⟨b, off, spot⟩ := x
    obtain ⟨_, _, _, _, _, e0, _, _⟩ := each 0 h0
    have hspot : spot = none := by simpa [Addr.add] using World.cell?_spot e0
    subst hspot
    refine ⟨b, off, rfl, fun j hj => ?_⟩
    obtain ⟨D, T, C, t1, t2, e0, e1, e2⟩ := each j hj
    rw [add_flat] at e0 e1 e2
    exact ⟨D, T, C, t1, t2, e0, by rw [Nat.add_assoc]; exact e1, by rw [Nat.add_assoc]; exact e2⟩

end Go.Proofs.Ytmlkeobmkjdefaa
