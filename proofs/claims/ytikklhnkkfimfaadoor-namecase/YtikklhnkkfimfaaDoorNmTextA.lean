/- Text: an address written. -/
import Derived.Test.YtikklhnkkfimfaaDoorNmText
namespace Go.Proofs.YtikklhnkkfimfaaDoor
open Go.RowKit Go.Lib

theorem each_len (step : Int → Int → Option Int) : ∀ (n : Nat) (st : Int) (l bs : List UInt8) (st' : Int), l.length ≤ n → each step st l = some (bs, st') → bs.length ≤ 4 * l.length
  | n, st, [], bs, st', _, h => by
    rw [each_nil] at h; cases h; simp
  | 0, st, b :: t, bs, st', hn, _ => by simp at hn
  | n + 1, st, b :: t, bs, st', hn, h => by
    rw [each_step step st _ (by simp)] at h
    cases hs : step st ((decodeL (b :: t)).1 : Int) with
    | none => rw [hs] at h; cases h
    | some r =>
      simp only [hs] at h
      have hw := decodeL_width (b :: t)
      have hl : ((b :: t).drop (decodeL (b :: t)).2).length ≤ n := by rw [List.length_drop]; omega
      cases he : each step r ((b :: t).drop (decodeL (b :: t)).2) with
      | none => simp only [he] at h; cases h
      | some p =>
        obtain ⟨cs, s2⟩ := p
        simp only [he] at h
        cases h
        have ih := each_len step n r _ _ _ hl he
        have h4 := runeCells_le r
        rw [runeCells_length] at h4
        rw [List.length_drop] at ih
        rw [List.length_append]
        simp at ih ⊢
        omega

theorem prep_len (step : Int → Int → Option Int) (fin : Int → Bool) (l : List UInt8) : (prep step fin l).1.length ≤ 256 := by
  unfold prep
  split
  · simp
  · rename_i h64
    split
    · simp
    · split
      · simp
      · rename_i bs st he
        have := each_len step _ _ _ _ _ (Nat.le_refl _) he
        split
        · show bs.length ≤ 256; omega
        · simp

theorem emptyB {l : List UInt8} (h : l = []) : l.isEmpty = true := by rw [h]; rfl
theorem fullB {l : List UInt8} (h : l ≠ []) : l.isEmpty = false := by cases l with | nil => exact absurd rfl h | cons => rfl

theorem addressText_any (j : Jid) (w : World) (hl : j.l.length ≤ 9223372036854775807) (hh : j.h.length ≤ 9223372036854775807) (hr : j.r.length ≤ 9223372036854775807) (hT : Lib.Utf8Tabs 0 1 w) :
    Calls Tryd.prog 37 #[.agg (cellsJ j)] w fun e w' => Gave (textN j) e ∧ Below w.heap.size w w' := by
  obtain ⟨l, h, r⟩ := j
  have CL := parts_local l hl
  have CH := parts_host h hh
  have CR := parts_res r hr
  have zL : (localN l).1.length ≤ 256 := prep_len _ _ _
  have zH : (hostN h).1.length ≤ 256 := prep_len _ _ _
  have zR : (resN r).1.length ≤ 256 := prep_len _ _ _
  unfold textN optL optR cellsJ
  simp only []
  generalize localN l = pL at CL zL ⊢
  generalize hostN h = pH at CH zH ⊢
  generalize resN r = pR at CR zR ⊢
  by_cases kH : pH.2 = 0
  · rw [if_neg (by simp [kH])]
    by_cases eL : l = []
    · rw [if_pos eL, if_neg (by simp)]
      by_cases eR : r = []
      · rw [if_pos eR, if_neg (by simp)]
        refine (txt_nn l h r pH w hT CH kH (emptyB eL) (emptyB eR)).mono fun _ _ k => ⟨.inl ⟨rfl, ?_⟩, k.2⟩
        rw [k.1]; simp [eL, eR]
      · rw [if_neg eR]
        by_cases kR : pR.2 = 0
        · rw [if_neg (by simp [kR])]
          refine (txt_no l h r pH pR w hT CH kH (emptyB eL) CR kR (fullB eR) zH zR).mono fun _ _ k => ⟨.inl ⟨rfl, ?_⟩, k.2⟩
          rw [k.1]; simp [eL, eR]
        · rw [if_pos kR]
          exact (txt_ne l h r pH pR w hT CH kH (emptyB eL) CR kR (fullB eR)).mono fun _ _ k => ⟨.inr ⟨kR, k.1⟩, k.2⟩
    · rw [if_neg eL]
      by_cases kL : pL.2 = 0
      · rw [if_neg (by simp [kL])]
        by_cases eR : r = []
        · rw [if_pos eR, if_neg (by simp)]
          refine (txt_on l h r pH pL w hT CH kH CL kL (fullB eL) (emptyB eR) zH zL).mono fun _ _ k => ⟨.inl ⟨rfl, ?_⟩, k.2⟩
          rw [k.1]; simp [eL, eR]
        · rw [if_neg eR]
          by_cases kR : pR.2 = 0
          · rw [if_neg (by simp [kR])]
            refine (txt_oo l h r pH pL pR w hT CH kH CL kL (fullB eL) CR kR (fullB eR) zH zL zR).mono fun _ _ k => ⟨.inl ⟨rfl, ?_⟩, k.2⟩
            rw [k.1]; simp [eL, eR]
          · rw [if_pos kR]
            exact (txt_oe l h r pH pL pR w hT CH kH CL kL (fullB eL) CR kR (fullB eR) zH zL).mono fun _ _ k => ⟨.inr ⟨kR, k.1⟩, k.2⟩
      · rw [if_pos kL]
        exact (txt_ex l h r pH pL w hT CH kH CL kL (fullB eL)).mono fun _ _ k => ⟨.inr ⟨kL, k.1⟩, k.2⟩
  · rw [if_pos kH]
    exact (txt_hx l h r pH w hT CH kH).mono fun _ _ k => ⟨.inr ⟨kH, k.1⟩, k.2⟩

theorem textN_cases (j : Jid) : (textN j).2 = 0 ∨ (textN j).1 = [] := by
  unfold textN
  split
  · exact .inr rfl
  · split
    · exact .inr rfl
    · split
      · exact .inr rfl
      · exact .inl rfl

theorem cloText_any (B : Nat) (j : Jid) (w : World) (c0 : w.cell? ⟨B, 0, none⟩ = some (.string ⟨j.l.toArray⟩)) (c1 : w.cell? ⟨B, 1, none⟩ = some (.string ⟨j.h.toArray⟩)) (c2 : w.cell? ⟨B, 2, none⟩ = some (.string ⟨j.r.toArray⟩))
    (hl : j.l.length ≤ 9223372036854775807) (hh : j.h.length ≤ 9223372036854775807) (hr : j.r.length ≤ 9223372036854775807) (hT : Lib.Utf8Tabs 0 1 w) :
    Calls Tryd.prog 36 #[.pointer (some ⟨B, 0, none⟩)] w fun e w' => Gave (textN j) e ∧ Below w.heap.size w w' := by
  have cI := addressText_any j w hl hh hr hT
  unfold cellsJ at cI
  generalize textN j = p at cI ⊢
  obtain ⟨l, n⟩ := p
  by_cases h0 : n = 0
  · subst h0
    have cI' := cI.mono (fun e w' h => And.intro (h.1.elim (fun k => k.2) (fun k => absurd rfl k.1)) h.2 : ∀ e w', _ → (e = .returned (.string ⟨l.toArray⟩) ∧ _))
    clear cI
    go_enter Tryd.func36, Tryd.ntmps36
    go_wp2_with (go_at_call 37; refine cI'.mono ?_; rintro e w1 ⟨rfl, hb⟩)
    go_ret
    exact ⟨.inl ⟨rfl, rfl⟩, hb⟩
  · have cI' := cI.mono (fun e w' h => And.intro (h.1.elim (fun k => absurd k.1 h0) (fun k => k.2)) h.2 : ∀ e w', _ → (e = .panicked (gaveUp n) ∧ _))
    clear cI
    go_enter Tryd.func36, Tryd.ntmps36
    go_wp2_with (go_at_call 37; refine cI'.mono ?_; rintro e w1 ⟨rfl, hb⟩)
    exact ⟨rfl, .inr ⟨h0, rfl⟩, hb⟩

theorem nText_any (j : Jid) (w : World) (hl : j.l.length ≤ 9223372036854775807) (hh : j.h.length ≤ 9223372036854775807) (hr : j.r.length ≤ 9223372036854775807) (hT : Lib.Utf8Tabs 0 1 w) :
    Calls Tryd.prog 18 #[.agg (cellsJ j)] w fun e w' => e = .returned (Told (textN j)) ∧ Below w.heap.size w w' := by
  have hmf : ∀ (fn : Fn) (first cap : Array Value) (w : World), (Instr.makeFunc fn first cap).run Tryd.prog w = .ok (.func fn first cap) w := fun _ _ _ _ => rfl
  have hS := (St.box w (.string ⟨j.l.toArray⟩) (.string ⟨j.h.toArray⟩) (.string ⟨j.r.toArray⟩)).call (below_new _ (.cells #[.int .i64 0] 23))
  have cB := begunS_any 36 #[.pointer (some ⟨w.heap.size, 0, none⟩)] (textN j) (w.alloc (.cells #[.string ⟨j.l.toArray⟩, .string ⟨j.h.toArray⟩, .string ⟨j.r.toArray⟩] 31)) (enters_of Tryd.func36 (by kernel_rfl) rfl) (textN_cases j)
    ((cloText_any w.heap.size j _ hS.c0 hS.c1 hS.c2 hl hh hr (hS.tabs hT)).mono (fun e w' h => ⟨h.1, by have := h.2; simpa using this⟩))
  generalize textN j = p at cB ⊢
  unfold Told at cB ⊢
  unfold cellsJ
  go_enter Tryd.func18, Tryd.ntmps18
  go_wp2_with (go_at_call 22; refine cB.mono ?_; rintro e w1 ⟨rfl, hb⟩)
  go_ret2
  exact ⟨rfl, (below_new w _).trans (hb.mono (by simp))⟩
end Go.Proofs.YtikklhnkkfimfaaDoor
