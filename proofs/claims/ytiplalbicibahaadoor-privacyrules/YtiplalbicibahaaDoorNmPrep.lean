/- local, host, resource: what each makes of a text, or how it gives up. -/
import Derived.Test.YtiplalbicibahaaDoorNmEach
namespace Go.Proofs.YtiplalbicibahaaDoor.Nm
open Go.RowKit

/-- A text that was prepared, or the error's number with which it was given up. -/
def Gave (p : List UInt8 × Nat) (e : Ending) : Prop := (p.2 = 0 ∧ e = .returned (.string ⟨p.1.toArray⟩)) ∨ (p.2 ≠ 0 ∧ e = .panicked (gaveUp p.2))

theorem tabs_below {w w' : World} (hT : Lib.Utf8Tabs 0 1 w) (hb : Below w.heap.size w w') : Lib.Utf8Tabs 0 1 w' :=
  ⟨fun c hc => (Below.cell hb (World.block_lt_of_cell? w _ (hT.1 c hc))).trans (hT.1 c hc),
   fun i hi => ⟨(Below.cell hb (World.block_lt_of_cell? w _ (hT.2 i hi).1)).trans (hT.2 i hi).1, (Below.cell hb (World.block_lt_of_cell? w _ (hT.2 i hi).2)).trans (hT.2 i hi).2⟩⟩

theorem eachX_num (step : Int → Int → Option Int) (l : List UInt8) (n : Nat) (h : eachX step l = .error n) : n ≠ 0 := by
  unfold eachX at h
  split at h
  · cases h; omega
  · split at h
    · cases h; omega
    · cases he : each step 46 l with
      | none => rw [he] at h; cases h; omega
      | some p => rw [he] at h; cases h

theorem inLocal_any (s : ByteArray) (w : World) (hs : s.size ≤ 9223372036854775807) (hT : Lib.Utf8Tabs 0 1 w) :
    Calls Tryd.prog 63 #[.string s] w fun e w' => Gave (localN s.data.toList) e ∧ Below w.heap.size w w' := by
  have cE := each_any 70 #[] stepL w.heap.size (fun _ _ => True) s w hs (Nat.le_refl _) (takerL _) trivial hT
  rw [localN, prep_eachX]
  generalize hX : eachX stepL s.data.toList = X at cE ⊢
  cases X with
  | error n =>
    have hn := eachX_num _ _ _ hX
    go_enter Tryd.func63, Tryd.ntmps63
    go_wp2_with (go_at_call 69; refine cE.mono ?_; rintro e w1 ⟨rfl, hb⟩)
    exact ⟨rfl, .inr ⟨hn, rfl⟩, hb⟩
  | ok p =>
    obtain ⟨bs, st⟩ := p
    go_enter Tryd.func63, Tryd.ntmps63
    go_wp2_with (go_at_call 69; refine cE.mono ?_; rintro e w1 ⟨⟨rfl, _⟩, hb⟩)
    go_ret
    exact ⟨.inl ⟨rfl, rfl⟩, hb⟩

theorem lastAt_new (w : World) : LastAt w.heap.size 46 (w.alloc (.cells #[.int .i32 46] 21)) := by
  show (w.heap.push (.cells #[.int .i32 46] 21))[w.heap.size]? = _
  simp

end Go.Proofs.YtiplalbicibahaaDoor.Nm
