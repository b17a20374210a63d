/- local, host, resource: what each makes of a text, or how it gives up. -/
import Derived.Test.YtikklhnkkfimfaaDoorNmEach
namespace Go.Proofs.YtikklhnkkfimfaaDoor
open Go.RowKit

/-- A text that was prepared, or the error's number with which it was given up. -/
def Gave (p : List UInt8 × Nat) (e : Ending) : Prop := (p.2 = 0 ∧ e = .returned (.string ⟨p.1.toArray⟩)) ∨ (p.2 ≠ 0 ∧ e = .panicked (gaveUp p.2))

theorem tabs_below {w w' : World} (hT : Lib.Utf8Tabs 0 1 w) (hb : Below w.heap.size w w') : Lib.Utf8Tabs 0 1 w' :=
  ⟨fun c hc => (Below.cell hb (World.block_lt_of_cell? w _ (hT.1 c hc))).trans (hT.1 c hc),
   fun i hi => ⟨(Below.cell hb (World.block_lt_of_cell? w _ (hT.2 i hi).1)).trans (hT.2 i hi).1, (Below.cell hb (World.block_lt_of_cell? w _ (hT.2 i hi).2)).trans (hT.2 i hi).2⟩⟩

theorem eachX_num (step : Int → Int → Option Int) (l : List UInt8) (n : Nat) (h : eachX step l = .error n) : n ≠ 0 := by
  unfold eachX at h
  split at h
  · cases h; omega
  · split at h
    · cases h; omega
    · cases he : each step 46 l with
      | none => rw [he] at h; cases h; omega
      | some p => rw [he] at h; cases h

theorem inLocal_any (s : ByteArray) (w : World) (hs : s.size ≤ 9223372036854775807) (hT : Lib.Utf8Tabs 0 1 w) :
    Calls Tryd.prog 24 #[.string s] w fun e w' => Gave (localN s.data.toList) e ∧ Below w.heap.size w w' := by
  have cE := each_any 40 #[] stepL w.heap.size (fun _ _ => True) s w hs (Nat.le_refl _) (takerL _) trivial hT
  rw [localN, prep_eachX]
  generalize hX : eachX stepL s.data.toList = X at cE ⊢
  cases X with
  | error n =>
    have hn := eachX_num _ _ _ hX
    go_enter Tryd.func24, Tryd.ntmps24
    go_wp2_with (go_at_call 39; refine cE.mono ?_; rintro e w1 ⟨rfl, hb⟩)
    exact ⟨rfl, .inr ⟨hn, rfl⟩, hb⟩
  | ok p =>
    obtain ⟨bs, st⟩ := p
    go_enter Tryd.func24, Tryd.ntmps24
    go_wp2_with (go_at_call 39; refine cE.mono ?_; rintro e w1 ⟨⟨rfl, _⟩, hb⟩)
    go_ret
    exact ⟨.inl ⟨rfl, rfl⟩, hb⟩

theorem inResource_any (s : ByteArray) (w : World) (hs : s.size ≤ 9223372036854775807) (hT : Lib.Utf8Tabs 0 1 w) :
    Calls Tryd.prog 31 #[.string s] w fun e w' => Gave (resN s.data.toList) e ∧ Below w.heap.size w w' := by
  have cE := each_any 47 #[] stepR w.heap.size (fun _ _ => True) s w hs (Nat.le_refl _) (takerR _) trivial hT
  rw [resN, prep_eachX]
  generalize hX : eachX stepR s.data.toList = X at cE ⊢
  cases X with
  | error n =>
    have hn := eachX_num _ _ _ hX
    go_enter Tryd.func31, Tryd.ntmps31
    go_wp2_with (go_at_call 39; refine cE.mono ?_; rintro e w1 ⟨rfl, hb⟩)
    exact ⟨rfl, .inr ⟨hn, rfl⟩, hb⟩
  | ok p =>
    obtain ⟨bs, st⟩ := p
    go_enter Tryd.func31, Tryd.ntmps31
    go_wp2_with (go_at_call 39; refine cE.mono ?_; rintro e w1 ⟨⟨rfl, _⟩, hb⟩)
    go_ret
    exact ⟨.inl ⟨rfl, rfl⟩, hb⟩

theorem lastAt_new (w : World) : LastAt w.heap.size 46 (w.alloc (.cells #[.int .i32 46] 21)) := by
  show (w.heap.push (.cells #[.int .i32 46] 21))[w.heap.size]? = _
  simp

theorem inHost_any (s : ByteArray) (w : World) (hs : s.size ≤ 9223372036854775807) (hT : Lib.Utf8Tabs 0 1 w) :
    Calls Tryd.prog 29 #[.string s] w fun e w' => Gave (hostN s.data.toList) e ∧ Below w.heap.size w w' := by
  have hb0 : Below w.heap.size w (w.alloc (.cells #[.int .i32 46] 21)) := (Below.refl _ _).alloc (Nat.le_refl _) _
  have hsz : (w.alloc (.cells #[.int .i32 46] 21)).heap.size = w.heap.size + 1 := by simp
  have cE := each_any 44 #[.pointer (some ⟨w.heap.size, 0, none⟩)] stepH w.heap.size (LastAt w.heap.size) s (w.alloc (.cells #[.int .i32 46] 21)) hs (by omega) (by rw [hsz]; exact takerH _) (lastAt_new w) (tabs_below hT hb0)
  rw [hostN, prep_eachX]
  generalize hX : eachX stepH s.data.toList = X at cE ⊢
  have hmf : ∀ (fn : Fn) (first cap : Array Value) (w : World), (Instr.makeFunc fn first cap).run Tryd.prog w = .ok (.func fn first cap) w := fun _ _ _ _ => rfl
  cases X with
  | error n =>
    have hn := eachX_num _ _ _ hX
    go_enter Tryd.func29, Tryd.ntmps29
    go_wp2_with (go_at_call 39; refine cE.mono ?_; rintro e w1 ⟨rfl, hb⟩)
    exact ⟨rfl, .inr ⟨hn, rfl⟩, hb0.trans hb⟩
  | ok p =>
    obtain ⟨bs, st⟩ := p
    generalize hF : followsB st 46 = F
    cases F with
    | true =>
      rw [show finX (fun st => followsB st 46) (.ok (bs, st)) = (bs, 0) by simp [finX, hF]]
      go_enter Tryd.func29, Tryd.ntmps29
      go_wp2_with (first
        | (go_at_call 39; refine cE.mono ?_; rintro e w1 ⟨⟨rfl, hJ⟩, hb⟩; have hc := hJ.cell)
        | (go_at_call 46; refine (follows_any _ _ _).mono ?_; rw [hF]; rintro e w2 ⟨rfl, rfl⟩))
      go_ret
      exact ⟨.inl ⟨rfl, rfl⟩, hb0.trans hb⟩
    | false =>
      rw [show finX (fun st => followsB st 46) (.ok (bs, st)) = ([], 4) by simp [finX, hF]]
      go_enter Tryd.func29, Tryd.ntmps29
      go_wp2_with (first
        | (go_at_call 39; refine cE.mono ?_; rintro e w1 ⟨⟨rfl, hJ⟩, hb⟩; have hc := hJ.cell)
        | (go_at_call 46; refine (follows_any _ _ _).mono ?_; rw [hF]; rintro e w2 ⟨rfl, rfl⟩)
        | (go_at_call 43; refine (giveUp_any _ _).mono ?_; rintro e w3 ⟨rfl, rfl⟩))
      exact ⟨rfl, .inr ⟨by decide, rfl⟩, hb0.trans hb⟩
end Go.Proofs.YtikklhnkkfimfaaDoor
