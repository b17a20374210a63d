/- A reader's parts, laid into a stanza. -/
import Derived.Test.YtomkcmkbehcjnaaDoorStzH
namespace Go.Proofs.YtomkcmkbehcjnaaDoor
open Go.RowKit

theorem run_store_float (w : World) (a : Addr) (m : Mode) (x : Nat) : (store a (.float .f64 x) m).run Tryd.prog w = stored Tryd.prog w a (.float .f64 x) m := run_store Tryd.prog w a _ m rfl

/-- Eight cells of a block of its own. -/
structure Sz8 (w : World) (b : Nat) (vs : List Value) : Prop where
  len : vs.length = 8
  cell : ∀ j, j < 8 → w.cell? ⟨b, j, none⟩ = some (vs.getD j undef)
  thaw : ∀ j, w.frozen? ⟨b, j, none⟩ = false

theorem Sz8.lt {w : World} {b : Nat} {vs : List Value} (h : Sz8 w b vs) : b < w.heap.size := World.block_lt_of_cell? w _ (h.cell 0 (by omega))
theorem Sz8.keep {S : Nat → Prop} {w w' : World} {b : Nat} {vs : List Value} (h : Sz8 w b vs) (k : Keep S w w') (hs : ¬ S b) : Sz8 w' b vs :=
  ⟨h.len, fun j hj => k.cell (h.cell j hj) hs, fun j => keep_thaw k h.lt hs (h.thaw j)⟩
theorem Sz8.set {w : World} {b : Nat} {vs : List Value} (h : Sz8 w b vs) {i : Nat} (hi : i < 8) (v : Value) : Sz8 (w.setCell ⟨b, i, none⟩ v) b (vs.set i v) := by
  refine ⟨by rw [List.length_set]; exact h.len, fun j hj => ?_, fun j => by rw [World.frozen?_setCell]; exact h.thaw j⟩
  by_cases hij : i = j
  · subst hij
    rw [World.cell?_setCell_same _ _ _ (h.cell i hi)]
    simp [List.getD, h.len, hi]
  · rw [World.cell?_setCell_other _ _ _ _ (by intro e; injection e with _ e2; exact hij e2), h.cell j hj]
    simp [List.getD, List.getElem?_set_ne hij]

/-- What laying a part leaves. -/
abbrev PtB (E : Nat) (r b : Nat) (w : World) (e : Ending) (w' : World) : Prop := e = .panicked (gaveUp E) ∧ Keep (fun k => k = r ∨ k = b) w w'
abbrev PtG (vs : List Value) (X' : List Int) (r b : Nat) (w : World) (e : Ending) (w' : World) : Prop := e = .returned (.tuple #[]) ∧ Sz8 w' b vs ∧ RdAt w' r X' ∧ Keep (fun k => k = r ∨ k = b) w w'

theorem pt_put {w w1 : World} {r b : Nat} {vs : List Value} {X' : List Int} (hz : Sz8 w b vs) (hrb : r < b) (hat : RdAt w1 r X') (hk : Keep (fun k => k = r) w w1) {i : Nat} (hi : i < 8) (v : Value) :
    Sz8 (w1.setCell ⟨b, i, none⟩ v) b (vs.set i v) ∧ RdAt (w1.setCell ⟨b, i, none⟩ v) r X' ∧ Keep (fun k => k = r ∨ k = b) w (w1.setCell ⟨b, i, none⟩ v) := by
  have hz1 := hz.keep hk (fun e => by omega)
  have hkS : Keep (fun k => k = b) w1 (w1.setCell ⟨b, i, none⟩ v) := (Keep.refl (fun k => k = b) w1).setCell (p := ⟨b, i, none⟩) (show (fun k => k = b) b from rfl) _
  obtain ⟨a3, n3, c3, hz3⟩ := hat
  exact ⟨hz1.set hi v, ⟨a3, n3, c3, hz3.keep hkS (fun e => by omega) (fun j hj e => by omega)⟩, (hk.mono (fun j e => Or.inl e)).trans (hkS.mono (fun j e => Or.inr e))⟩

theorem list_any (r : Nat) (a : Option Addr) (n c : Nat) (X : List Int) (w : World) (h : RdA w r a n c X) (hL : Lays w) (hr5 : 5 ≤ r) :
    Calls Tryd.prog 72 #[.pointer (some ⟨r, 0, none⟩)] w fun e w' =>
      ((rdList X).2.2 ≠ 0 ∧ Bad (rdList X).2.2 r w e w') ∨ ((rdList X).2.2 = 0 ∧ LGood (rdList X).1 (rdList X).2.1 r w e w') := by
  obtain ⟨N, k, E, hs⟩ : ∃ N k E, scan X 0 0 = (N, k, E) := ⟨_, _, _, rfl⟩
  by_cases hE : E = 0
  · subst hE
    by_cases hN : N ≤ 64
    · have e : rdList X = rdTexts N (X.drop k) := by unfold rdList; rw [hs, if_neg (by simp), if_neg (by simp; omega)]
      rw [e]
      exact list_good r a n c X w h hL hr5 hs hN
    · have e : rdList X = ([], [], 5) := by unfold rdList; rw [hs, if_neg (by simp), if_pos (by simp; omega)]
      have cT := stp_good (takeU_any r a n c X w h hs)
      rw [e]
      have hN' : (64 : Int) < (N : Int) := by omega
      clear hs e
      go_enter Tryd.func72, Tryd.ntmps72
      go_wp2_with (first
        | (go_at_call 60; refine cT.mono ?_; rintro e w1 ⟨rfl, hat, hk⟩)
        | (go_at_call 64; refine (giveUp_any _ _).mono ?_; rintro e w2 ⟨rfl, rfl⟩))
      exact ⟨rfl, .inl ⟨by simp, rfl, hk⟩⟩
  · have e : rdList X = ([], [], E) := by unfold rdList; rw [hs, if_pos (by simpa using hE)]
    have cT := stp_bad hE (takeU_any r a n c X w h hs)
    rw [e]
    clear hs e
    go_enter Tryd.func72, Tryd.ntmps72
    go_wp2_with (go_at_call 60; refine cT.mono ?_; rintro e w1 ⟨rfl, hk⟩)
    exact ⟨rfl, .inl ⟨hE, rfl, hk⟩⟩

section
variable (r : Nat) (a : Option Addr) (n c : Nat) (X : List Int) (w : World) (b : Nat) (vs : List Value)
theorem part_0 (h : RdA w r a n c X) (hz : Sz8 w b vs) (hrb : r < b) (hT : Tabs w) :
    Calls Tryd.prog 63 #[.pointer (some ⟨r, 0, none⟩), .pointer (some ⟨b, 0, none⟩), .int .u8 1] w fun e w' => (terr X 1024 ≠ 0 ∧ PtB (terr X 1024) r b w e w') ∨ (terr X 1024 = 0 ∧ PtG (vs.set 2 (.string (tN X 1024))) (X.drop (tlen X)) r b w e w') := by
  have cX := text1_any r a n c X w h hT (E := terr X 1024) rfl (S := tN X 1024) rfl (k := tlen X) rfl
  have hsf := run_store_float
  by_cases hE : terr X 1024 = 0
  · rw [hE] at cX
    have cX' := stp_good cX
    clear cX
    go_enter Tryd.func63, Tryd.ntmps63
    go_wp2_with (go_at_call 71; refine cX'.mono ?_; rintro e w1 ⟨rfl, hat, hk⟩; have hz1 := hz.keep hk (fun e => by omega); have z0 := hz1.cell 2 (by omega); have z1 := hz1.thaw 2)
    go_end0
    obtain ⟨p1, p2, p3⟩ := pt_put hz hrb hat hk (i := 2) (by omega) (.string (tN X 1024))
    exact .inr ⟨hE, rfl, p1, p2, p3⟩
  · have cX' := stp_bad hE cX
    clear cX
    go_enter Tryd.func63, Tryd.ntmps63
    go_wp2_with (go_at_call 71; refine cX'.mono ?_; rintro e w1 ⟨rfl, hk⟩)
    exact ⟨rfl, .inl ⟨hE, rfl, hk.mono (fun j e => Or.inl e)⟩⟩

theorem part_1 (h : RdA w r a n c X) (hz : Sz8 w b vs) (hrb : r < b) (hT : Tabs w) :
    Calls Tryd.prog 63 #[.pointer (some ⟨r, 0, none⟩), .pointer (some ⟨b, 0, none⟩), .int .u8 2] w fun e w' => (terr X 1024 ≠ 0 ∧ PtB (terr X 1024) r b w e w') ∨ (terr X 1024 = 0 ∧ PtG (vs.set 3 (.string (tN X 1024))) (X.drop (tlen X)) r b w e w') := by
  have cX := text1_any r a n c X w h hT (E := terr X 1024) rfl (S := tN X 1024) rfl (k := tlen X) rfl
  have hsf := run_store_float
  by_cases hE : terr X 1024 = 0
  · rw [hE] at cX
    have cX' := stp_good cX
    clear cX
    go_enter Tryd.func63, Tryd.ntmps63
    go_wp2_with (go_at_call 71; refine cX'.mono ?_; rintro e w1 ⟨rfl, hat, hk⟩; have hz1 := hz.keep hk (fun e => by omega); have z0 := hz1.cell 3 (by omega); have z1 := hz1.thaw 3)
    go_end0
    obtain ⟨p1, p2, p3⟩ := pt_put hz hrb hat hk (i := 3) (by omega) (.string (tN X 1024))
    exact .inr ⟨hE, rfl, p1, p2, p3⟩
  · have cX' := stp_bad hE cX
    clear cX
    go_enter Tryd.func63, Tryd.ntmps63
    go_wp2_with (go_at_call 71; refine cX'.mono ?_; rintro e w1 ⟨rfl, hk⟩)
    exact ⟨rfl, .inl ⟨hE, rfl, hk.mono (fun j e => Or.inl e)⟩⟩

theorem part_2 (h : RdA w r a n c X) (hz : Sz8 w b vs) (hrb : r < b) (hT : Tabs w) :
    Calls Tryd.prog 63 #[.pointer (some ⟨r, 0, none⟩), .pointer (some ⟨b, 0, none⟩), .int .u8 4] w fun e w' => (terr X 1024 ≠ 0 ∧ PtB (terr X 1024) r b w e w') ∨ (terr X 1024 = 0 ∧ PtG (vs.set 4 (.string (tN X 1024))) (X.drop (tlen X)) r b w e w') := by
  have cX := text1_any r a n c X w h hT (E := terr X 1024) rfl (S := tN X 1024) rfl (k := tlen X) rfl
  have hsf := run_store_float
  by_cases hE : terr X 1024 = 0
  · rw [hE] at cX
    have cX' := stp_good cX
    clear cX
    go_enter Tryd.func63, Tryd.ntmps63
    go_wp2_with (go_at_call 71; refine cX'.mono ?_; rintro e w1 ⟨rfl, hat, hk⟩; have hz1 := hz.keep hk (fun e => by omega); have z0 := hz1.cell 4 (by omega); have z1 := hz1.thaw 4)
    go_end0
    obtain ⟨p1, p2, p3⟩ := pt_put hz hrb hat hk (i := 4) (by omega) (.string (tN X 1024))
    exact .inr ⟨hE, rfl, p1, p2, p3⟩
  · have cX' := stp_bad hE cX
    clear cX
    go_enter Tryd.func63, Tryd.ntmps63
    go_wp2_with (go_at_call 71; refine cX'.mono ?_; rintro e w1 ⟨rfl, hk⟩)
    exact ⟨rfl, .inl ⟨hE, rfl, hk.mono (fun j e => Or.inl e)⟩⟩

theorem part_4 (h : RdA w r a n c X) (hz : Sz8 w b vs) (hrb : r < b)  :
    Calls Tryd.prog 63 #[.pointer (some ⟨r, 0, none⟩), .pointer (some ⟨b, 0, none⟩), .int .u8 16] w fun e w' => ((scan X 0 0).2.2 ≠ 0 ∧ PtB ((scan X 0 0).2.2) r b w e w') ∨ ((scan X 0 0).2.2 = 0 ∧ PtG (vs.set 6 (.int .i64 (unfv (scan X 0 0).1))) (X.drop (scan X 0 0).2.1) r b w e w') := by
  have cX := takeI_any r a n c X w h (N := (scan X 0 0).1) (k := (scan X 0 0).2.1) (E := (scan X 0 0).2.2) rfl
  have hsf := run_store_float
  by_cases hE : (scan X 0 0).2.2 = 0
  · rw [hE] at cX
    have cX' := stp_good cX
    clear cX
    go_enter Tryd.func63, Tryd.ntmps63
    go_wp2_with (go_at_call 73; refine cX'.mono ?_; rintro e w1 ⟨rfl, hat, hk⟩; have hz1 := hz.keep hk (fun e => by omega); have z0 := hz1.cell 6 (by omega); have z1 := hz1.thaw 6)
    go_end0
    obtain ⟨p1, p2, p3⟩ := pt_put hz hrb hat hk (i := 6) (by omega) (.int .i64 (unfv (scan X 0 0).1))
    exact .inr ⟨hE, rfl, p1, p2, p3⟩
  · have cX' := stp_bad hE cX
    clear cX
    go_enter Tryd.func63, Tryd.ntmps63
    go_wp2_with (go_at_call 73; refine cX'.mono ?_; rintro e w1 ⟨rfl, hk⟩)
    exact ⟨rfl, .inl ⟨hE, rfl, hk.mono (fun j e => Or.inl e)⟩⟩

theorem part_5 (h : RdA w r a n c X) (hz : Sz8 w b vs) (hrb : r < b)  :
    Calls Tryd.prog 63 #[.pointer (some ⟨r, 0, none⟩), .pointer (some ⟨b, 0, none⟩), .int .u8 32] w fun e w' => (fE X ≠ 0 ∧ PtB (fE X) r b w e w') ∨ (fE X = 0 ∧ PtG (vs.set 7 (.float .f64 (fN X))) (X.drop 8) r b w e w') := by
  have cX := takeF_any r a n c X w h (E := fE X) rfl (N := fN X) rfl (k := 8) rfl
  have hsf := run_store_float
  by_cases hE : fE X = 0
  · rw [hE] at cX
    have cX' := stp_good cX
    clear cX
    go_enter Tryd.func63, Tryd.ntmps63
    go_wp2_with (go_at_call 75; refine cX'.mono ?_; rintro e w1 ⟨rfl, hat, hk⟩; have hz1 := hz.keep hk (fun e => by omega); have z0 := hz1.cell 7 (by omega); have z1 := hz1.thaw 7)
    go_end0
    obtain ⟨p1, p2, p3⟩ := pt_put hz hrb hat hk (i := 7) (by omega) (.float .f64 (fN X))
    exact .inr ⟨hE, rfl, p1, p2, p3⟩
  · have cX' := stp_bad hE cX
    clear cX
    go_enter Tryd.func63, Tryd.ntmps63
    go_wp2_with (go_at_call 75; refine cX'.mono ?_; rintro e w1 ⟨rfl, hk⟩)
    exact ⟨rfl, .inl ⟨hE, rfl, hk.mono (fun j e => Or.inl e)⟩⟩

theorem part_3 (h : RdA w r a n c X) (hz : Sz8 w b vs) (hrb : r < b) (hL : Lays w) (hr5 : 5 ≤ r) :
    Calls Tryd.prog 63 #[.pointer (some ⟨r, 0, none⟩), .pointer (some ⟨b, 0, none⟩), .int .u8 8] w fun e w' => ((rdList X).2.2 ≠ 0 ∧ PtB (rdList X).2.2 r b w e w') ∨ ((rdList X).2.2 = 0 ∧ ∃ g m, w.heap.size ≤ g ∧ g < w'.heap.size ∧ m ≤ 64 ∧ Ls w' g m (rdList X).1 ∧ PtG (vs.set 5 (.slice (some ⟨g, 0, none⟩) m m)) (rdList X).2.1 r b w e w') := by
  have cX := list_any r a n c X w h hL hr5
  generalize rdList X = p at cX ⊢
  obtain ⟨l, X', E⟩ := p
  by_cases hE : E = 0
  · subst hE
    have cX' := cX.mono (fun e w' g => (g.resolve_left (fun g => g.1 rfl)).2 : ∀ e w', _ → LGood l X' r w e w')
    clear cX
    go_enter Tryd.func63, Tryd.ntmps63
    go_wp2_with (go_at_call 72; refine cX'.mono ?_; rintro e w1 ⟨g, m, rfl, hg, hgl, hm, hls, hat, hk⟩; have hz1 := hz.keep hk (fun e => by omega); have z0 := hz1.cell 5 (by omega); have z1 := hz1.thaw 5)
    go_end0
    obtain ⟨p1, p2, p3⟩ := pt_put hz hrb hat hk (i := 5) (by omega) (.slice (some ⟨g, 0, none⟩) m m)
    have hbl := hz.lt
    have hkS : Keep (fun k => k = b) w1 (w1.setCell ⟨b, 5, none⟩ (.slice (some ⟨g, 0, none⟩) m m)) := (Keep.refl (fun k => k = b) w1).setCell (p := ⟨b, 5, none⟩) (show (fun k => k = b) b from rfl) _
    exact .inr ⟨trivial, g, m, hg, Nat.lt_of_lt_of_le hgl hkS.size, hm, hls.keep hkS hgl (fun e => by omega), rfl, p1, p2, p3⟩
  · have cX' := cX.mono (fun e w' g => (g.resolve_right (fun g => hE g.1)).2 : ∀ e w', _ → Bad E r w e w')
    clear cX
    go_enter Tryd.func63, Tryd.ntmps63
    go_wp2_with (go_at_call 72; refine cX'.mono ?_; rintro e w1 ⟨rfl, hk⟩)
    exact ⟨rfl, .inl ⟨hE, rfl, hk.mono (fun j e => Or.inl e)⟩⟩
end

end Go.Proofs.YtomkcmkbehcjnaaDoor
