/- A slice of bools, as an argument. -/
import Derived.Test.YtikklhnkkfimfaaDoorNmCaseL
import Derived.Deep.Grids
namespace Go.Proofs.YtikklhnkkfimfaaDoor
open Go.ChangeShapes Go.WideShapes

theorem cellsBool : Tryd.prog.cellsOf 4 = 1 := by kernel_rfl

theorem open_ups {H : Type} {enc : TypeId × Value → H} {W : World} {br : Option Addr} {nr cr : Nat} {d : DataW H} {p : List MemPlace}
    (h : DataW.Trod enc Tryd.prog W 0 (fun _ => true) true 42 (.slice br nr cr) d p) : ∃ U, Ups W br nr U := by
  obtain ⟨m, hm⟩ := h
  rcases Go.Deep.open_bools Tryd.underlying42 Tryd.underlying4 cellsBool hm with ⟨h0, _⟩ | ⟨a, len, cap, B, h0, _, hl, _, _, hc⟩
  · have e : Value.slice br nr cr = .slice none 0 0 := by simpa [Value.cells] using h0
    cases e
    exact ⟨fun _ => false, ⟨fun h => absurd h (Nat.lt_irrefl 0)⟩⟩
  · have e : Value.slice br nr cr = .slice (some a) len cap := by simpa [Value.cells] using h0
    cases e
    refine ⟨B, ⟨fun hn => ?_⟩⟩
    obtain ⟨b, off, spot⟩ := a
    have hc0 := hc 0 (by omega)
    have hspot : spot = none := by simpa [Addr.add] using World.cell?_spot hc0
    subst hspot
    refine ⟨b, off, rfl, fun j hj => ?_⟩
    have := hc j (by omega)
    rwa [add_flat] at this
end Go.Proofs.YtikklhnkkfimfaaDoor
