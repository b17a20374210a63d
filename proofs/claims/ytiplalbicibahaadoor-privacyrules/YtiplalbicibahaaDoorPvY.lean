/- privacy: a rule that is handed in; how long its texts may be (the form's own reach). -/
import Derived.Test.YtiplalbicibahaaDoorPvX
import Derived.SizedLaws
import Derived.OpenShut
set_option maxRecDepth 100000
namespace Go.Proofs.YtiplalbicibahaaDoor
open Go.ChangeShapes Go.WideShapes Go.ChangeAt Go.RowKit

theorem array5' {α : Type} {cs : Array α} (h : cs.size = 5) : ∃ c0 c1 c2 c3 c4, cs = #[c0, c1, c2, c3, c4] := by
  obtain ⟨l⟩ := cs
  match l, h with
  | [c0, c1, c2, c3, c4], _ => exact ⟨c0, c1, c2, c3, c4, rfl⟩
theorem cellsRul : Tryd.prog.cellsOf 23 = 5 := by kernel_rfl
def rd (r : Rul) {H : Type} : DataW H := .agg [.lit (.bool r.al), .lit (.bool r.i), .lit (.bool r.o), .lit (.string r.k), .lit (.string r.v)]
theorem open_rule {H : Type} {enc : TypeId × Value → H} {W : World} {b0 : Nat} {v : Value} {d : DataW H} {p : List MemPlace}
    (hv : Value.okWide Tryd.prog W .any b0 23 v) (h : DataW.Trod enc Tryd.prog W 0 (fun _ => true) true 23 v d p) : ∃ r : Rul, v = rv r ∧ d = rd r := by
  obtain ⟨cs, rfl, hsz⟩ := okWide_struct Tryd.underlying23 hv
  obtain ⟨c0, c1, c2, c3, c4, rfl⟩ := array5' (hsz.trans cellsRul)
  obtain ⟨fuel, hf⟩ := h
  obtain ⟨ys, n, _, hx, hl, hlen, hfs⟩ := DataW.trod_struct Tryd.underlying23 hf
  match ys, hlen with
  | [y0, y1, y2, y3, y4], _ =>
    have f0 : DataW.trod enc Tryd.prog W 0 (fun _ => true) true n 4 [c0] = some y0 := by simpa [Value.cells, cellsBool] using hfs 0 _ rfl
    have f1 : DataW.trod enc Tryd.prog W 0 (fun _ => true) true n 4 [c1] = some y1 := by simpa [Value.cells, cellsBool] using hfs 1 _ rfl
    have f2 : DataW.trod enc Tryd.prog W 0 (fun _ => true) true n 4 [c2] = some y2 := by simpa [Value.cells, cellsBool] using hfs 2 _ rfl
    have f3 : DataW.trod enc Tryd.prog W 0 (fun _ => true) true n 9 [c3] = some y3 := by simpa [Value.cells, cellsStr] using hfs 3 _ rfl
    have f4 : DataW.trod enc Tryd.prog W 0 (fun _ => true) true n 9 [c4] = some y4 := by simpa [Value.cells, cellsStr] using hfs 4 _ rfl
    obtain ⟨A0, e0, x0⟩ := DataW.trod_bool Tryd.underlying4 f0
    obtain ⟨A1, e1, x1⟩ := DataW.trod_bool Tryd.underlying4 f1
    obtain ⟨A2, e2, x2⟩ := DataW.trod_bool Tryd.underlying4 f2
    obtain ⟨A3, e3, x3, _⟩ := DataW.trod_string Tryd.underlying9 f3
    obtain ⟨A4, e4, x4, _⟩ := DataW.trod_string Tryd.underlying9 f4
    simp only [List.cons.injEq, and_true] at e0 e1 e2 e3 e4
    subst e0 e1 e2 e3 e4 x0 x1 x2 x3 x4
    simp only [List.map_cons, List.map_nil, Prod.mk.injEq] at hx
    refine ⟨⟨A0, A1, A2, A3.data.toList, A4.data.toList⟩, ?_, ?_⟩
    · unfold rv rc; simp only [ba_back]
    · unfold rd; exact hx.1
theorem rule_size {H : Type} {ts : List TypeId} {ds : List (DataW H)} (h : (DataW.weightsEach Tryd.prog ts ds).all (· ≤ reachBytes) = true) {j : Nat} {r : Rul} (ht : ts[j]? = some 23) (hd : ds[j]? = some (rd r)) : r.k.length + r.v.length ≤ 281474976710000 := by
  have hw := List.all_eq_true.1 h
  have m1 : r.k.length ∈ (rd r : DataW H).weights Tryd.prog 23 := by simp [rd, DataW.weights, DataW.weightsEach, Tryd.underlying23]
  have m2 : r.v.length ∈ (rd r : DataW H).weights Tryd.prog 23 := by simp [rd, DataW.weights, DataW.weightsEach, Tryd.underlying23]
  have b1 := hw _ (DataW.weights_mem_each ht hd _ m1)
  have b2 := hw _ (DataW.weights_mem_each ht hd _ m2)
  have := reachBytes_lt
  simp only [decide_eq_true_eq] at b1 b2
  have e : reachBytes = 140737488351232 := rfl
  omega
end Go.Proofs.YtiplalbicibahaaDoor
