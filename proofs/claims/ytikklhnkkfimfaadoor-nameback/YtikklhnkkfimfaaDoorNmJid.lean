/- An argument of the type api.Jid, opened: three texts. -/
import Derived.Test.YtikklhnkkfimfaaDoorNmBegunJ
import Derived.Lib.SmallJoins
import Derived.OpenShut
namespace Go.Proofs.YtikklhnkkfimfaaDoor
open Go.ChangeShapes Go.WideShapes Go.ChangeAt Go.RowKit

theorem cellsJid : Tryd.prog.cellsOf 31 = 3 := by kernel_rfl
theorem cellsStr : Tryd.prog.cellsOf 9 = 1 := by kernel_rfl
theorem array3 {α : Type} {cs : Array α} (h : cs.size = 3) : ∃ c0 c1 c2, cs = #[c0, c1, c2] := by
  obtain ⟨l⟩ := cs
  match l, h with
  | [c0, c1, c2], _ => exact ⟨c0, c1, c2, rfl⟩

theorem open_jid {H : Type} {enc : TypeId × Value → H} {W : World} {b0 : Nat} {v : Value} {d : DataW H} {p : List MemPlace}
    (hv : Value.okWide Tryd.prog W .any b0 31 v) (h : DataW.Trod enc Tryd.prog W 0 (fun _ => true) true 31 v d p) :
    ∃ j : Jid, v = .agg (cellsJ j) ∧ j.l.length ≤ 9223372036854775807 ∧ j.h.length ≤ 9223372036854775807 ∧ j.r.length ≤ 9223372036854775807 := by
  obtain ⟨cs, rfl, hsz⟩ := okWide_struct Tryd.underlying31 hv
  obtain ⟨c0, c1, c2, rfl⟩ := array3 (hsz.trans cellsJid)
  obtain ⟨fuel, hf⟩ := h
  obtain ⟨ys, n, _, hx, hl, hlen, hfs⟩ := DataW.trod_struct Tryd.underlying31 hf
  match ys, hlen with
  | [y0, y1, y2], _ =>
    have f0 : DataW.trod enc Tryd.prog W 0 (fun _ => true) true n 9 [c0] = some y0 := by simpa [Value.cells, cellsStr] using hfs 0 _ rfl
    have f1 : DataW.trod enc Tryd.prog W 0 (fun _ => true) true n 9 [c1] = some y1 := by simpa [Value.cells, cellsStr] using hfs 1 _ rfl
    have f2 : DataW.trod enc Tryd.prog W 0 (fun _ => true) true n 9 [c2] = some y2 := by simpa [Value.cells, cellsStr] using hfs 2 _ rfl
    obtain ⟨S0, e0, _, w0⟩ := DataW.trod_string Tryd.underlying9 f0
    obtain ⟨S1, e1, _, w1⟩ := DataW.trod_string Tryd.underlying9 f1
    obtain ⟨S2, e2, _, w2⟩ := DataW.trod_string Tryd.underlying9 f2
    simp only [List.cons.injEq, and_true] at e0 e1 e2
    subst e0 e1 e2
    have hb : ∀ S : ByteArray, S.size ≤ maxLen → S.data.toList.length ≤ 9223372036854775807 := fun S hS => by
      unfold maxLen at hS
      have : S.data.toList.length = S.size := by simp
      omega
    refine ⟨⟨S0.data.toList, S1.data.toList, S2.data.toList⟩, ?_, hb _ w0, hb _ w1, hb _ w2⟩
    cases S0; cases S1; cases S2
    simp [cellsJ]
end Go.Proofs.YtikklhnkkfimfaaDoor
