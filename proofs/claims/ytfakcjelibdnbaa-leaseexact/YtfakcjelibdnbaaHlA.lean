/- lease: the laws' arguments: calls, numbers, answers. -/
import Derived.Test.YtfakcjelibdnbaaHpW
import Derived.WalkKit
import Derived.ProofKit
import Derived.OpenShut
import Derived.ChangeOld
import Derived.Deep.DeepHandedRow
import Derived.Deep.Slices
namespace Go.Proofs.Ytfakcjelibdnbaa
open Go.RowKit

/-- A call of the law's. -/
structure Opx where
  on : Int
  k : ByteArray
  f : Nat
  act : Int
structure OpAt (w : World) (b o : Nat) (x : Opx) : Prop where
  c0 : w.cell? ⟨b, o, none⟩ = some (.int .i64 x.on)
  c1 : w.cell? ⟨b, o + 1, none⟩ = some (.int .i64 x.act)
  c2 : w.cell? ⟨b, o + 2, none⟩ = some (.string x.k)
  c3 : w.cell? ⟨b, o + 3, none⟩ = some (.int .u64 (x.f : Int))
  sz : x.k.size ≤ 9223372036854775807
  fb : x.f < 2 ^ 64
/-- A row of calls. -/
structure LRd (w : World) (a : Option Addr) (n c : Nat) (op : Nat → Opx) : Prop where
  cap : n ≤ c
  most : c ≤ maxLen
  flat : 0 < n → ∃ b off, a = some ⟨b, off, none⟩ ∧ ∀ j, j < n → OpAt w b (off + j * 4) (op j)
/-- A row of numbers. -/
structure URd (w : World) (a : Option Addr) (n c : Nat) (u : Nat → Nat) : Prop where
  cap : n ≤ c
  most : c ≤ maxLen
  flat : 0 < n → ∃ b off, a = some ⟨b, off, none⟩ ∧ ∀ j, j < n → u j < 2 ^ 64 ∧ w.cell? ⟨b, off + j, none⟩ = some (.int .u64 (u j : Int))
/-- A row of answers. -/
structure BRd (w : World) (a : Option Addr) (n c : Nat) (g : Nat → Bool) : Prop where
  cap : n ≤ c
  most : c ≤ maxLen
  flat : 0 < n → ∃ b off, a = some ⟨b, off, none⟩ ∧ ∀ j, j < n → w.cell? ⟨b, off + j, none⟩ = some (.bool (g j))

theorem below_cell {w w' : World} (hb : Below w.heap.size w w') {p : Addr} {v : Value} (h : w.cell? p = some v) : w'.cell? p = some v := (hb.cell (World.block_lt_of_cell? w _ h)).trans h
theorem OpAt.below {w w' : World} {b o : Nat} {x : Opx} (h : OpAt w b o x) (hb : Below w.heap.size w w') : OpAt w' b o x :=
  ⟨below_cell hb h.c0, below_cell hb h.c1, below_cell hb h.c2, below_cell hb h.c3, h.sz, h.fb⟩
theorem LRd.below {w w' : World} {a : Option Addr} {n c : Nat} {op : Nat → Opx} (h : LRd w a n c op) (hb : Below w.heap.size w w') : LRd w' a n c op :=
  ⟨h.cap, h.most, fun hn => by
    obtain ⟨b, off, ha, hc⟩ := h.flat hn
    exact ⟨b, off, ha, fun j hj => (hc j hj).below hb⟩⟩
theorem URd.below {w w' : World} {a : Option Addr} {n c : Nat} {u : Nat → Nat} (h : URd w a n c u) (hb : Below w.heap.size w w') : URd w' a n c u :=
  ⟨h.cap, h.most, fun hn => by
    obtain ⟨b, off, ha, hc⟩ := h.flat hn
    exact ⟨b, off, ha, fun j hj => ⟨(hc j hj).1, below_cell hb (hc j hj).2⟩⟩⟩
theorem BRd.below {w w' : World} {a : Option Addr} {n c : Nat} {g : Nat → Bool} (h : BRd w a n c g) (hb : Below w.heap.size w w') : BRd w' a n c g :=
  ⟨h.cap, h.most, fun hn => by
    obtain ⟨b, off, ha, hc⟩ := h.flat hn
    exact ⟨b, off, ha, fun j hj => below_cell hb (hc j hj)⟩⟩

/-- A word for each place. -/
theorem pick {α : Type} [Inhabited α] {n : Nat} {p : Nat → α → Prop} (h : ∀ j, j < n → ∃ x, p j x) : ∃ f : Nat → α, ∀ j, j < n → p j (f j) :=
  ⟨fun j => if hj : j < n then Classical.choose (h j hj) else default, fun j hj => by
    show p j (if hj : j < n then Classical.choose (h j hj) else default)
    rw [dif_pos hj]
    exact Classical.choose_spec (h j hj)⟩

theorem u64_nat {z : Int} (h : 0 ≤ z ∧ z ≤ 18446744073709551615) : ∃ x : Nat, z = (x : Int) ∧ x < 2 ^ 64 := ⟨z.toNat, by omega, by omega⟩

section
open Go.ChangeShapes Go.WideShapes Go.ChangeAt
theorem cellsInt : Try.prog.cellsOf 3 = 1 := by kernel_rfl
theorem cellsU64 : Try.prog.cellsOf 33 = 1 := by kernel_rfl
theorem cellsStr : Try.prog.cellsOf 9 = 1 := by kernel_rfl
theorem cellsBool : Try.prog.cellsOf 4 = 1 := by kernel_rfl
theorem cellsOp : Try.prog.cellsOf 35 = 4 := by kernel_rfl

theorem open_nums {H : Type} {enc : TypeId × Value → H} {W : World} {b0 : Nat} {v : Value} {d : DataW H} {p : List MemPlace}
    (hv : Value.okWide Try.prog W .any b0 43 v) (h : DataW.Trod enc Try.prog W 0 (fun _ => true) true 43 v d p) : ∃ a n c u, v = .slice a n c ∧ URd W a n c u := by
  obtain ⟨a, n, c, rfl⟩ := okWide_slice Try.underlying43 hv
  obtain ⟨fuel, hf⟩ := h
  rcases Go.Deep.open_slice Try.underlying43 hf with ⟨hcs, _⟩ | ⟨x, l, cc, m, k, D, Pl, hcs, hb, hl, hm, hmm, _, hx⟩
  · simp [Value.cells] at hcs
    obtain ⟨rfl, rfl, rfl⟩ := hcs
    exact ⟨none, 0, 0, fun _ => 0, rfl, Nat.le_refl _, by unfold maxLen; omega, fun h => by omega⟩
  · simp [Value.cells] at hcs
    obtain ⟨rfl, rfl, rfl⟩ := hcs
    simp only [if_true] at hmm
    subst hmm
    have each : ∀ j, j < n → ∃ T : Nat, T < 2 ^ 64 ∧ W.cell? (x.add j) = some (.int .u64 (T : Int)) := by
      intro j hj
      obtain ⟨cs', h1, h2⟩ := hx j (by omega)
      rw [cellsU64] at h1
      obtain ⟨_, hlen, hcell⟩ := World.cells?_some h1
      match cs', hlen with
      | [v0], _ =>
        obtain ⟨K, e0, _, w0⟩ := DataW.trod_int Try.underlying33 h2
        simp only [List.cons.injEq, and_true] at e0
        subst e0
        obtain ⟨T, rfl, t1⟩ := u64_nat (bounds_u64 w0)
        have c0 := hcell 0 (by omega)
        rw [Go.Deep.add_add] at c0
        exact ⟨T, t1, by simpa using c0⟩
    obtain ⟨u, hu⟩ := pick each
    refine ⟨some x, n, _, u, rfl, hl, hm, fun h0 => ?_⟩
    obtain ⟨b, off, spot⟩ := x
    have hspot : spot = none := by simpa [Addr.add] using World.cell?_spot (hu 0 h0).2
    subst hspot
    refine ⟨b, off, rfl, fun j hj => ?_⟩
    have := hu j hj
    rw [add_flat] at this
    exact this

theorem open_bools {H : Type} {enc : TypeId × Value → H} {W : World} {b0 : Nat} {v : Value} {d : DataW H} {p : List MemPlace}
    (hv : Value.okWide Try.prog W .any b0 59 v) (h : DataW.Trod enc Try.prog W 0 (fun _ => true) true 59 v d p) : ∃ a n c g, v = .slice a n c ∧ BRd W a n c g := by
  obtain ⟨a, n, c, rfl⟩ := okWide_slice Try.underlying59 hv
  obtain ⟨fuel, hf⟩ := h
  rcases Go.Deep.open_slice Try.underlying59 hf with ⟨hcs, _⟩ | ⟨x, l, cc, m, k, D, Pl, hcs, hb, hl, hm, hmm, _, hx⟩
  · simp [Value.cells] at hcs
    obtain ⟨rfl, rfl, rfl⟩ := hcs
    exact ⟨none, 0, 0, fun _ => false, rfl, Nat.le_refl _, by unfold maxLen; omega, fun h => by omega⟩
  · simp [Value.cells] at hcs
    obtain ⟨rfl, rfl, rfl⟩ := hcs
    simp only [if_true] at hmm
    subst hmm
    have each : ∀ j, j < n → ∃ T : Bool, W.cell? (x.add j) = some (.bool T) := by
      intro j hj
      obtain ⟨cs', h1, h2⟩ := hx j (by omega)
      rw [cellsBool] at h1
      obtain ⟨_, hlen, hcell⟩ := World.cells?_some h1
      match cs', hlen with
      | [v0], _ =>
        obtain ⟨K, e0, _⟩ := DataW.trod_bool Try.underlying4 h2
        simp only [List.cons.injEq, and_true] at e0
        subst e0
        have c0 := hcell 0 (by omega)
        rw [Go.Deep.add_add] at c0
        exact ⟨K, by simpa using c0⟩
    obtain ⟨u, hu⟩ := pick each
    refine ⟨some x, n, _, u, rfl, hl, hm, fun h0 => ?_⟩
    obtain ⟨b, off, spot⟩ := x
    have hspot : spot = none := by simpa [Addr.add] using World.cell?_spot (hu 0 h0)
    subst hspot
    refine ⟨b, off, rfl, fun j hj => ?_⟩
    have := hu j hj
    rw [add_flat] at this
    exact this

theorem open_lops {H : Type} {enc : TypeId × Value → H} {W : World} {b0 : Nat} {v : Value} {d : DataW H} {p : List MemPlace}
    (hv : Value.okWide Try.prog W .any b0 22 v) (h : DataW.Trod enc Try.prog W 0 (fun _ => true) true 22 v d p) : ∃ a n c op, v = .slice a n c ∧ LRd W a n c op := by
  obtain ⟨a, n, c, rfl⟩ := okWide_slice Try.underlying22 hv
  obtain ⟨fuel, hf⟩ := h
  rcases Go.Deep.open_slice Try.underlying22 hf with ⟨hcs, _⟩ | ⟨x, l, cc, m, k, D, Pl, hcs, hb, hl, hm, hmm, _, hx⟩
  · simp [Value.cells] at hcs
    obtain ⟨rfl, rfl, rfl⟩ := hcs
    exact ⟨none, 0, 0, fun _ => ⟨0, ByteArray.empty, 0, 0⟩, rfl, Nat.le_refl _, by unfold maxLen; omega, fun h => by omega⟩
  · simp [Value.cells] at hcs
    obtain ⟨rfl, rfl, rfl⟩ := hcs
    simp only [if_true] at hmm
    subst hmm
    have each : ∀ j, j < n → ∃ y : Int × Int × ByteArray × Nat, W.cell? (x.add (j * 4)) = some (.int .i64 y.1) ∧ W.cell? (x.add (j * 4 + 1)) = some (.int .i64 y.2.1) ∧ W.cell? (x.add (j * 4 + 2)) = some (.string y.2.2.1) ∧ W.cell? (x.add (j * 4 + 3)) = some (.int .u64 (y.2.2.2 : Int)) ∧ y.2.2.1.size ≤ 9223372036854775807 ∧ y.2.2.2 < 2 ^ 64 := by
      intro j hj
      obtain ⟨cs', h1, h2⟩ := hx j (by omega)
      rw [cellsOp] at h1
      obtain ⟨_, hlen, hcell⟩ := World.cells?_some h1
      obtain ⟨ws, q, hq, hxy, _, hxl, hfs⟩ := DataW.trod_struct Try.underlying35 h2
      match ws, hxl, cs', hlen with
      | [y0, y1, y2, y3], _, [v0, v1, v2, v3], _ =>
        have f0 : DataW.trod enc Try.prog W 0 (fun _ => true) true q 3 [v0] = some y0 := by simpa [Value.cells, cellsInt] using hfs 0 _ rfl
        have f1 : DataW.trod enc Try.prog W 0 (fun _ => true) true q 3 [v1] = some y1 := by simpa [Value.cells, cellsInt] using hfs 1 _ rfl
        have f2 : DataW.trod enc Try.prog W 0 (fun _ => true) true q 9 [v2] = some y2 := by simpa [Value.cells, cellsStr] using hfs 2 _ rfl
        have f3 : DataW.trod enc Try.prog W 0 (fun _ => true) true q 33 [v3] = some y3 := by simpa [Value.cells, cellsU64] using hfs 3 _ rfl
        obtain ⟨K0, e0, _, w0⟩ := DataW.trod_int Try.underlying3 f0
        obtain ⟨K1, e1, _, w1⟩ := DataW.trod_int Try.underlying3 f1
        obtain ⟨S2, e2, _, w2⟩ := DataW.trod_string Try.underlying9 f2
        obtain ⟨K3, e3, _, w3⟩ := DataW.trod_int Try.underlying33 f3
        simp only [List.cons.injEq, and_true] at e0 e1 e2 e3
        subst e0 e1 e2 e3
        obtain ⟨T, rfl, t1⟩ := u64_nat (bounds_u64 w3)
        have c0 := hcell 0 (by omega)
        have c1 := hcell 1 (by omega)
        have c2 := hcell 2 (by omega)
        have c3 := hcell 3 (by omega)
        rw [Go.Deep.add_add] at c0 c1 c2 c3
        exact ⟨(K0, K1, S2, T), by simpa using c0, by simpa using c1, by simpa using c2, by simpa using c3, w2, t1⟩
    obtain ⟨y, hy⟩ := pick each
    refine ⟨some x, n, _, fun j => ⟨(y j).1, (y j).2.2.1, (y j).2.2.2, (y j).2.1⟩, rfl, hl, hm, fun h0 => ?_⟩
    obtain ⟨b, off, spot⟩ := x
    have hspot : spot = none := by simpa [Addr.add] using World.cell?_spot (hy 0 h0).1
    subst hspot
    refine ⟨b, off, rfl, fun j hj => ?_⟩
    obtain ⟨g0, g1, g2, g3, g4, g5⟩ := hy j hj
    rw [add_flat] at g0 g1 g2 g3
    simp only [← Nat.add_assoc] at g1 g2 g3
    exact ⟨g0, g1, g2, g3, g4, g5⟩
end

end Go.Proofs.Ytfakcjelibdnbaa
