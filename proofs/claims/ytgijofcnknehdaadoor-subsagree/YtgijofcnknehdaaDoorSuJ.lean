/- subs: the laws' arguments: events, steps. -/
import Derived.Test.YtgijofcnknehdaaDoorSuI
import Derived.WalkKit
import Derived.ProofKit
import Derived.OpenShut
import Derived.ChangeOld
import Derived.Deep.DeepHandedRow
import Derived.Deep.Slices
namespace Go.Proofs.YtgijofcnknehdaaDoor
open Go.RowKit

/-- An event: an act, a mail, a number. -/
structure EvAt (w : World) (b o : Nat) (k m x : Int) : Prop where
  c4 : w.cell? ⟨b, o + 4, none⟩ = some (.int .i64 k)
  c5 : w.cell? ⟨b, o + 5, none⟩ = some (.int .i64 m)
  c6 : w.cell? ⟨b, o + 6, none⟩ = some (.int .u64 x)
structure ERd (w : World) (a : Option Addr) (n c : Nat) (f : Nat → Int × Int × Int) : Prop where
  cap : n ≤ c
  most : c ≤ maxLen
  flat : 0 < n → ∃ b off, a = some ⟨b, off, none⟩ ∧ ∀ j, j < n → EvAt w b (off + j * 7) (f j).1 (f j).2.1 (f j).2.2
/-- A step: which end, what it does. -/
structure StAt (w : World) (b o : Nat) (e d : Int) : Prop where
  c0 : w.cell? ⟨b, o, none⟩ = some (.int .i64 e)
  c1 : w.cell? ⟨b, o + 1, none⟩ = some (.int .i64 d)
structure SRd (w : World) (a : Option Addr) (n c : Nat) (f : Nat → Int × Int) : Prop where
  cap : n ≤ c
  most : c ≤ maxLen
  flat : 0 < n → ∃ b off, a = some ⟨b, off, none⟩ ∧ ∀ j, j < n → StAt w b (off + j * 2) (f j).1 (f j).2

theorem below_cell {w w' : World} (hb : Below w.heap.size w w') {p : Addr} {v : Value} (h : w.cell? p = some v) : w'.cell? p = some v := (hb.cell (World.block_lt_of_cell? w _ h)).trans h
theorem EvAt.below {w w' : World} {b o : Nat} {k m x : Int} (h : EvAt w b o k m x) (hb : Below w.heap.size w w') : EvAt w' b o k m x := ⟨below_cell hb h.c4, below_cell hb h.c5, below_cell hb h.c6⟩
theorem StAt.below {w w' : World} {b o : Nat} {k m : Int} (h : StAt w b o k m) (hb : Below w.heap.size w w') : StAt w' b o k m := ⟨below_cell hb h.c0, below_cell hb h.c1⟩
/-- A word for each place. -/
theorem pick {α : Type} [Inhabited α] {n : Nat} {p : Nat → α → Prop} (h : ∀ j, j < n → ∃ x, p j x) : ∃ f : Nat → α, ∀ j, j < n → p j (f j) :=
  ⟨fun j => if hj : j < n then Classical.choose (h j hj) else default, fun j hj => by
    show p j (if hj : j < n then Classical.choose (h j hj) else default)
    rw [dif_pos hj]
    exact Classical.choose_spec (h j hj)⟩


section
open Go.ChangeShapes Go.WideShapes Go.ChangeAt
theorem cellsInt : Tryd.prog.cellsOf 3 = 1 := by kernel_rfl
theorem cellsU64 : Tryd.prog.cellsOf 22 = 1 := by kernel_rfl
theorem cellsEvent : Tryd.prog.cellsOf 52 = 7 := by kernel_rfl
theorem cellsStep : Tryd.prog.cellsOf 46 = 2 := by kernel_rfl
theorem open_events {H : Type} {enc : TypeId × Value → H} {W : World} {b0 : Nat} {v : Value} {d : DataW H} {p : List MemPlace}
    (hv : Value.okWide Tryd.prog W .any b0 50 v) (h : DataW.Trod enc Tryd.prog W 0 (fun _ => true) true 50 v d p) : ∃ a n c f, v = .slice a n c ∧ ERd W a n c f := by
  obtain ⟨a, n, c, rfl⟩ := okWide_slice Tryd.underlying50 hv
  obtain ⟨fuel, hf⟩ := h
  rcases Go.Deep.open_slice Tryd.underlying50 hf with ⟨hcs, _⟩ | ⟨x, l, cc, m, k, D, Pl, hcs, hb, hl, hm, hmm, _, hx⟩
  · simp [Value.cells] at hcs
    obtain ⟨rfl, rfl, rfl⟩ := hcs
    exact ⟨none, 0, 0, fun _ => (0, 0, 0), rfl, Nat.le_refl _, by unfold maxLen; omega, fun h => by omega⟩
  · simp [Value.cells] at hcs
    obtain ⟨rfl, rfl, rfl⟩ := hcs
    simp only [if_true] at hmm
    subst hmm
    have each : ∀ j, j < n → ∃ y : Int × Int × Int, (∃ v0, W.cell? (x.add (j * 7)) = some v0) ∧ W.cell? (x.add (j * 7 + 4)) = some (.int .i64 y.1) ∧ W.cell? (x.add (j * 7 + 5)) = some (.int .i64 y.2.1) ∧ W.cell? (x.add (j * 7 + 6)) = some (.int .u64 y.2.2) := by
      intro j hj
      obtain ⟨cs', h1, h2⟩ := hx j (by omega)
      rw [cellsEvent] at h1
      obtain ⟨_, hlen, hcell⟩ := World.cells?_some h1
      obtain ⟨ws, q, hq, hxy, _, hxl, hfs⟩ := DataW.trod_struct Tryd.underlying52 h2
      match ws, hxl, cs', hlen with
      | [y0, y1, y2, y3], _, [v0, v1, v2, v3, v4, v5, v6], _ =>
        have f1 : DataW.trod enc Tryd.prog W 0 (fun _ => true) true q 3 [v4] = some y1 := by simpa [Value.cells, cellsInt] using hfs 1 _ rfl
        have f2 : DataW.trod enc Tryd.prog W 0 (fun _ => true) true q 3 [v5] = some y2 := by simpa [Value.cells, cellsInt] using hfs 2 _ rfl
        have f3 : DataW.trod enc Tryd.prog W 0 (fun _ => true) true q 22 [v6] = some y3 := by simpa [Value.cells, cellsU64] using hfs 3 _ rfl
        obtain ⟨K1, e1, _, w1⟩ := DataW.trod_int Tryd.underlying3 f1
        obtain ⟨K2, e2, _, w2⟩ := DataW.trod_int Tryd.underlying3 f2
        obtain ⟨K3, e3, _, w3⟩ := DataW.trod_int Tryd.underlying22 f3
        simp only [List.cons.injEq, and_true] at e1 e2 e3
        subst e1 e2 e3
        have c0 := hcell 0 (by omega)
        have c4 := hcell 4 (by omega)
        have c5 := hcell 5 (by omega)
        have c6 := hcell 6 (by omega)
        rw [Go.Deep.add_add] at c0 c4 c5 c6
        exact ⟨(K1, K2, K3), ⟨v0, by simpa using c0⟩, by simpa using c4, by simpa using c5, by simpa using c6⟩
    obtain ⟨y, hy⟩ := pick each
    refine ⟨some x, n, _, y, rfl, hl, hm, fun h0 => ?_⟩
    obtain ⟨b, off, spot⟩ := x
    obtain ⟨v0, hv0⟩ := (hy 0 h0).1
    have hspot : spot = none := by simpa [Addr.add] using World.cell?_spot hv0
    subst hspot
    refine ⟨b, off, rfl, fun j hj => ?_⟩
    obtain ⟨_, g0, g1, g2⟩ := hy j hj
    rw [add_flat] at g0 g1 g2
    simp only [← Nat.add_assoc] at g0 g1 g2
    exact ⟨g0, g1, g2⟩
theorem open_steps {H : Type} {enc : TypeId × Value → H} {W : World} {b0 : Nat} {v : Value} {d : DataW H} {p : List MemPlace}
    (hv : Value.okWide Tryd.prog W .any b0 40 v) (h : DataW.Trod enc Tryd.prog W 0 (fun _ => true) true 40 v d p) : ∃ a n c f, v = .slice a n c ∧ SRd W a n c f := by
  obtain ⟨a, n, c, rfl⟩ := okWide_slice Tryd.underlying40 hv
  obtain ⟨fuel, hf⟩ := h
  rcases Go.Deep.open_slice Tryd.underlying40 hf with ⟨hcs, _⟩ | ⟨x, l, cc, m, k, D, Pl, hcs, hb, hl, hm, hmm, _, hx⟩
  · simp [Value.cells] at hcs
    obtain ⟨rfl, rfl, rfl⟩ := hcs
    exact ⟨none, 0, 0, fun _ => (0, 0), rfl, Nat.le_refl _, by unfold maxLen; omega, fun h => by omega⟩
  · simp [Value.cells] at hcs
    obtain ⟨rfl, rfl, rfl⟩ := hcs
    simp only [if_true] at hmm
    subst hmm
    have each : ∀ j, j < n → ∃ y : Int × Int, W.cell? (x.add (j * 2)) = some (.int .i64 y.1) ∧ W.cell? (x.add (j * 2 + 1)) = some (.int .i64 y.2) := by
      intro j hj
      obtain ⟨cs', h1, h2⟩ := hx j (by omega)
      rw [cellsStep] at h1
      obtain ⟨_, hlen, hcell⟩ := World.cells?_some h1
      obtain ⟨ws, q, hq, hxy, _, hxl, hfs⟩ := DataW.trod_struct Tryd.underlying46 h2
      match ws, hxl, cs', hlen with
      | [y0, y1], _, [v0, v1], _ =>
        have f0 : DataW.trod enc Tryd.prog W 0 (fun _ => true) true q 3 [v0] = some y0 := by simpa [Value.cells, cellsInt] using hfs 0 _ rfl
        have f1 : DataW.trod enc Tryd.prog W 0 (fun _ => true) true q 3 [v1] = some y1 := by simpa [Value.cells, cellsInt] using hfs 1 _ rfl
        obtain ⟨K0, e0, _, w0⟩ := DataW.trod_int Tryd.underlying3 f0
        obtain ⟨K1, e1, _, w1⟩ := DataW.trod_int Tryd.underlying3 f1
        simp only [List.cons.injEq, and_true] at e0 e1
        subst e0 e1
        have c0 := hcell 0 (by omega)
        have c1 := hcell 1 (by omega)
        rw [Go.Deep.add_add] at c0 c1
        exact ⟨(K0, K1), by simpa using c0, by simpa using c1⟩
    obtain ⟨y, hy⟩ := pick each
    refine ⟨some x, n, _, y, rfl, hl, hm, fun h0 => ?_⟩
    obtain ⟨b, off, spot⟩ := x
    have hspot : spot = none := by simpa [Addr.add] using World.cell?_spot (hy 0 h0).1
    subst hspot
    refine ⟨b, off, rfl, fun j hj => ?_⟩
    obtain ⟨g0, g1⟩ := hy j hj
    rw [add_flat] at g0 g1
    simp only [← Nat.add_assoc] at g1
    exact ⟨g0, g1⟩
end
end Go.Proofs.YtgijofcnknehdaaDoor
