/- An argument of the type Texts, opened: four texts. -/
import Derived.Test.YtmilcknboaefkaaDoorScLd
namespace Go.Proofs.YtmilcknboaefkaaDoor
open Go.ChangeShapes Go.WideShapes Go.ChangeAt Go.RowKit

theorem cellsTexts : Tryd.prog.cellsOf 23 = 4 := by kernel_rfl
theorem arr4 {α : Type} {cs : Array α} (h : cs.size = 4) : ∃ c0 c1 c2 c3, cs = #[c0, c1, c2, c3] := by
  obtain ⟨l⟩ := cs
  match l, h with
  | [c0, c1, c2, c3], _ => exact ⟨c0, c1, c2, c3, rfl⟩
set_option maxRecDepth 100000 in
theorem open_texts {H : Type} {enc : TypeId × Value → H} {W : World} {b0 : Nat} {v : Value} {d : DataW H} {p : List MemPlace}
    (hv : Value.okWide Tryd.prog W .any b0 23 v) (h : DataW.Trod enc Tryd.prog W 0 (fun _ => true) true 23 v d p) :
    ∃ a b c e : Tx, v = .agg #[.string ⟨a.toArray⟩, .string ⟨b.toArray⟩, .string ⟨c.toArray⟩, .string ⟨e.toArray⟩] ∧ a.length ≤ 9223372036854775807 ∧ b.length ≤ 9223372036854775807 ∧ c.length ≤ 9223372036854775807 ∧ e.length ≤ 9223372036854775807 := by
  obtain ⟨cs, rfl, hsz⟩ := okWide_struct Tryd.underlying23 hv
  obtain ⟨c0, c1, c2, c3, rfl⟩ := arr4 (hsz.trans cellsTexts)
  obtain ⟨fuel, hf⟩ := h
  obtain ⟨ys, n, _, hx, hl, hlen, hfs⟩ := DataW.trod_struct Tryd.underlying23 hf
  match ys, hlen with
  | [y0, y1, y2, y3], _ =>
    have f0 : DataW.trod enc Tryd.prog W 0 (fun _ => true) true n 9 [c0] = some y0 := by simpa [Value.cells, cellsStr] using hfs 0 _ rfl
    have f1 : DataW.trod enc Tryd.prog W 0 (fun _ => true) true n 9 [c1] = some y1 := by simpa [Value.cells, cellsStr] using hfs 1 _ rfl
    have f2 : DataW.trod enc Tryd.prog W 0 (fun _ => true) true n 9 [c2] = some y2 := by simpa [Value.cells, cellsStr] using hfs 2 _ rfl
    have f3 : DataW.trod enc Tryd.prog W 0 (fun _ => true) true n 9 [c3] = some y3 := by simpa [Value.cells, cellsStr] using hfs 3 _ rfl
    obtain ⟨S0, e0, _, w0⟩ := DataW.trod_string Tryd.underlying9 f0
    obtain ⟨S1, e1, _, w1⟩ := DataW.trod_string Tryd.underlying9 f1
    obtain ⟨S2, e2, _, w2⟩ := DataW.trod_string Tryd.underlying9 f2
    obtain ⟨S3, e3, _, w3⟩ := DataW.trod_string Tryd.underlying9 f3
    simp only [List.cons.injEq, and_true] at e0 e1 e2 e3
    subst e0 e1 e2 e3
    have hb : ∀ S : ByteArray, S.size ≤ maxLen → S.data.toList.length ≤ 9223372036854775807 := fun S hS => by
      unfold maxLen at hS
      have : S.data.toList.length = S.size := by simp
      omega
    refine ⟨S0.data.toList, S1.data.toList, S2.data.toList, S3.data.toList, ?_, hb _ w0, hb _ w1, hb _ w2, hb _ w3⟩
    cases S0; cases S1; cases S2; cases S3
    simp
end Go.Proofs.YtmilcknboaefkaaDoor
