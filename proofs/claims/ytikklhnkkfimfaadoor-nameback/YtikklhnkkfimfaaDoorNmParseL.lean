/- NameParse, the law. -/
import Derived.Test.YtikklhnkkfimfaaDoorNmRefT
import Derived.Test.YtikklhnkkfimfaaDoorNmWakes
import Derived.Test.YtikklhnkkfimfaaDoorNmKeep
namespace Go.Proofs.YtikklhnkkfimfaaDoor
open Go.RowKit

/-- An address lies in block g. -/
def JAt (W : World) (g : Nat) (a b c : Value) : Prop := W.heap[g]? = some (.cells #[a, b, c] 31 (0, 0))
theorem JAt.lt {W : World} {g : Nat} {a b c : Value} (h : JAt W g a b c) : g < W.heap.size := (Array.getElem?_eq_some_iff.1 (show W.heap[g]? = _ from h)).1
theorem JAt.call {W W' : World} {g : Nat} {a b c : Value} (h : JAt W g a b c) (hb : Below W.heap.size W W') : JAt W' g a b c := (hb.block g h.lt).trans h
theorem JAt.new (W : World) (a b c : Value) : JAt (W.alloc (.cells #[a, b, c] 31)) W.heap.size a b c := by
  show (W.heap.push (.cells #[a, b, c] 31))[W.heap.size]? = _
  simp

theorem list_self (l : List UInt8) : (l == l) = true := beq_self_eq_true l

set_option maxHeartbeats 3200000 in
theorem nameParse_any (x : ByteArray) (j : Jid) (w : World) (hl : j.l.length ≤ 9223372036854775807) (hh : j.h.length ≤ 9223372036854775807) (hr : j.r.length ≤ 9223372036854775807) (hT : Lib.Utf8Tabs 0 1 w) :
    Calls Tryd.prog 4 #[.string x, .agg (cellsJ j)] w fun e w' => e = .returned (.bool true) ∧ Below w.heap.size w w' := by
  obtain ⟨t, n, htx⟩ : ∃ t n, textN j = (t, n) := ⟨_, _, rfl⟩
  have cT := fun W hW => nText_any j W hl hh hr hW
  have rT := fun W => refText_any j W hl hh hr
  rw [htx] at cT rT
  unfold cellsJ Told at cT rT
  unfold cellsJ
  have hJ0 := JAt.new w (.string ⟨j.l.toArray⟩) (.string ⟨j.h.toArray⟩) (.string ⟨j.r.toArray⟩)
  have b0 := below_new w (.cells #[.string ⟨j.l.toArray⟩, .string ⟨j.h.toArray⟩, .string ⟨j.r.toArray⟩] 31)
  go_enter Tryd.func4, Tryd.ntmps4
  go_wp2_with (first
    | (go_at_call 8; refine (text_any x 300 _ (by omega)).mono ?_; rintro e w1 ⟨s, rfl, hs, rfl⟩
       obtain ⟨p, m, hp⟩ : ∃ p m, parseN s.data.toList = (p, m) := ⟨_, _, rfl⟩
       have cP := fun W hW => parse_any s.data.toList W (by rw [size_list]; omega) hW
       have rP := fun W => refParse_any s.data.toList W (by rw [size_list]; omega)
       rw [hp, back_arr] at cP rP
       unfold ToldJ cellsJ at cP rP)
    | (go_at_call 16; refine (cP _ (tabs_below hT b0)).mono ?_; rintro e w2 ⟨rfl, hb2⟩
       have b2 := (b0.trans (hb2.mono b0.size)).alloc (b0.trans (hb2.mono b0.size)).size (.cells #[.string ⟨p.l.toArray⟩, .string ⟨p.h.toArray⟩, .string ⟨p.r.toArray⟩] 31)
       have hJ2 := (hJ0.call hb2).call (below_new w2 (.cells #[.string ⟨p.l.toArray⟩, .string ⟨p.h.toArray⟩, .string ⟨p.r.toArray⟩] 31))
       have hA2 := JAt.new w2 (.string ⟨p.l.toArray⟩) (.string ⟨p.h.toArray⟩) (.string ⟨p.r.toArray⟩))
    | (go_at_call 17; refine (rP _).mono ?_; rintro e w3 ⟨rfl, hb3⟩
       have b3 := (b2.trans (hb3.mono b2.size)).alloc (b2.trans (hb3.mono b2.size)).size (.cells #[.string ⟨p.l.toArray⟩, .string ⟨p.h.toArray⟩, .string ⟨p.r.toArray⟩] 31)
       have hJ3 := (hJ2.call hb3).call (below_new w3 (.cells #[.string ⟨p.l.toArray⟩, .string ⟨p.h.toArray⟩, .string ⟨p.r.toArray⟩] 31))
       have hA3 := (hA2.call hb3).call (below_new w3 (.cells #[.string ⟨p.l.toArray⟩, .string ⟨p.h.toArray⟩, .string ⟨p.r.toArray⟩] 31))
       have hB3 := JAt.new w3 (.string ⟨p.l.toArray⟩) (.string ⟨p.h.toArray⟩) (.string ⟨p.r.toArray⟩)
       have c0 := cell_three0 hJ3; have c1 := cell_three1 hJ3; have c2 := cell_three2 hJ3)
    | (go_at_call 18; refine (cT _ (tabs_below hT b3)).mono ?_; rintro e w4 ⟨rfl, hb4⟩
       have b4 := b3.trans (hb4.mono b3.size)
       have hJ4 := hJ3.call hb4; have hA4 := hA3.call hb4; have hB4 := hB3.call hb4
       have d0 := cell_three0 hJ4; have d1 := cell_three1 hJ4; have d2 := cell_three2 hJ4)
    | (go_at_call 19; refine (rT _).mono ?_; rintro e w5 ⟨rfl, hb5⟩
       have b5 := b4.trans (hb5.mono b4.size)
       have hA5 := hA4.call hb5; have hB5 := hB4.call hb5
       have e0 := cell_three0 hA5; have e1 := cell_three1 hA5; have e2 := cell_three2 hA5
       have f0 := cell_three0 hB5; have f1 := cell_three1 hB5; have f2 := cell_three2 hB5)
    | (go_at_call 15; refine (wakes_any _ (tabs_below hT b5)).mono ?_; rintro e w6 ⟨rfl, hb6⟩))
  go_ret
  exact ⟨rfl, b5.trans (hb6.mono b5.size)⟩
end Go.Proofs.YtikklhnkkfimfaaDoor
