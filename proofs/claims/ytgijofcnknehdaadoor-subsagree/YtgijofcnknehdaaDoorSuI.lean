/- subs: the law's small functions; what stays right. -/
import Derived.Test.YtgijofcnknehdaaDoorSuH
namespace Go.Proofs.YtgijofcnknehdaaDoor
open Go.RowKit Go.Joins

set_option maxHeartbeats 800000 in
theorem wakes_any (w : World) (hT : Tu w) : Calls Tryd.prog 12 #[] w fun e w' => e = .returned (.bool true) ∧ Below w.heap.size w w' := by
  have ha := fun w => Act_any ⟨0, 0, 0, 0⟩ 11 5 w
  rw [show actA ⟨0, 0, 0, 0⟩ 11 5 = ((⟨1, 5, 0, 0⟩, 1, 5), 0) from rfl] at ha
  unfold actV hfv hfc at ha
  have hu := fun w hT => fSub_any ⟨1, 5, 0, 0⟩ w hT
  rw [show nameu ⟨1, 5, 0, 0⟩ = ⟨#[110, 111, 110, 101, 44, 97, 115, 107]⟩ from rfl] at hu
  unfold hfv hfc at hu
  go_enter Tryd.func12, Tryd.ntmps12
  go_wp2_with (first
    | (go_at_call 8; refine (ha _).mono ?_; clear ha; rintro e w1 ⟨rfl, hb1⟩; have b2 := below1 w1 (.cells #[.int .i64 1, .int .u64 5, .int .i64 0, .int .u64 0] 24); have b3 := hb1.trans (b2.mono hb1.size); have T3 := hT.below b3)
    | (go_at_call 13; refine (hu _ T3).mono ?_; clear hu; rintro e w4 ⟨rfl, hb4⟩; have b4 := b3.trans (hb4.mono b3.size)))
  simp [bodyPost, results, Tryd.results12, go_sem]
  exact b4

theorem okR_cases {s n : Int} (h : okR s n = true) : (s = 0 ∧ n = 0) ∨ (s = 1 ∧ n ≠ 0) ∨ (s = 2 ∧ n ≠ 0) := by
  obtain ⟨h0, h3⟩ := Bool.and_eq_true_iff.1 h
  obtain ⟨o, ho, rfl⟩ := in3_nat h0
  have h4 : ((o : Int) == 0) = (n == 0) := by simpa using h3
  have this : (o : Int) = 0 ↔ n = 0 := by
    rw [← beq_iff_eq, h4, beq_iff_eq]
  rcases o with _ | _ | _ | o
  · exact Or.inl ⟨rfl, by simpa using this⟩
  · exact Or.inr (Or.inl ⟨rfl, by intro e; have := this.2 e; omega⟩)
  · exact Or.inr (Or.inr ⟨rfl, by intro e; have := this.2 e; omega⟩)
  · omega
theorem okR_0 : okR 0 0 = true := rfl
theorem okR_1 {n : Int} (h : n ≠ 0) : okR 1 n = true := by
  have : (n == 0) = false := by simpa using h
  unfold okR; rw [this]; rfl
theorem okR_2 {n : Int} (h : n ≠ 0) : okR 2 n = true := by
  have : (n == 0) = false := by simpa using h
  unfold okR; rw [this]; rfl
theorem okH_mk {h : Hf} (h1 : okR h.o h.n = true) (h2 : okR h.i h.m = true) : okH h = true := by unfold okH; rw [h1, h2]; rfl
theorem okH_1 {h : Hf} (hk : okH h = true) : okR h.o h.n = true := (Bool.and_eq_true_iff.1 hk).1
theorem okH_2 {h : Hf} (hk : okH h = true) : okR h.i h.m = true := (Bool.and_eq_true_iff.1 hk).2
theorem ok_ask {h : Hf} (hk : okH h = true) {x : Int} (hx : x ≠ 0) : okH (askH h x).1 = true := by
  unfold askH
  split
  · exact okH_mk (okR_1 hx) (okH_2 (h := h) hk)
  · exact hk
theorem ok_grant {h : Hf} (hk : okH h = true) : okH (grantH h).1 = true := by
  unfold grantH
  split
  · rename_i e
    refine okH_mk (okH_1 (h := h) hk) (okR_2 ?_)
    rcases okR_cases (okH_2 (h := h) hk) with ⟨a, _⟩ | ⟨_, b⟩ | ⟨a, _⟩ <;> first | exact b | omega
  · exact hk
theorem ok_leave {h : Hf} (hk : okH h = true) : okH (leaveH h).1 = true := by
  unfold leaveH
  split
  · exact hk
  · exact okH_mk okR_0 (okH_2 (h := h) hk)
theorem ok_deny {h : Hf} (hk : okH h = true) : okH (denyH h).1 = true := by
  unfold denyH
  split
  · exact hk
  · exact okH_mk (okH_1 (h := h) hk) okR_0
theorem ok_act {h : Hf} (hk : okH h = true) {kind x : Int} {r : Hf × Int × Int} (hr : actH h kind x = some r) : okH r.1 = true := by
  unfold actH at hr
  split at hr
  · split at hr
    · cases hr
    · rename_i hx
      cases hr
      exact ok_ask hk hx
  · split at hr
    · cases hr; exact ok_grant hk
    · split at hr
      · cases hr; exact ok_leave hk
      · split at hr
        · cases hr; exact ok_deny hk
        · cases hr
theorem ok_hear {h : Hf} (hk : okH h = true) {mail x : Int} (hx : x ≠ 0) {r : Hf × Int} (hr : hearH h mail x = some r) : okH r.1 = true := by
  unfold hearH at hr
  split at hr
  · cases hr; exact okH_mk (okH_1 (h := h) hk) (okR_1 hx)
  · split at hr
    · cases hr
      unfold hLeaveH
      split
      · exact hk
      · split
        · exact okH_mk (okH_1 (h := h) hk) okR_0
        · exact hk
    · split at hr
      · cases hr
        unfold hGrantH
        split
        · split
          · rename_i e1 e2
            refine okH_mk (okR_2 ?_) (okH_2 (h := h) hk)
            rcases okR_cases (okH_1 (h := h) hk) with ⟨a, _⟩ | ⟨_, b⟩ | ⟨a, _⟩ <;> first | exact b | omega
          · exact hk
        · exact hk
      · split at hr
        · cases hr
          unfold hDenyH
          split
          · exact hk
          · split
            · exact okH_mk okR_0 (okH_2 (h := h) hk)
            · exact hk
        · cases hr
/-- A right half, behind an act that is no error, is right. -/
theorem ok_actA {h : Hf} (hk : okH h = true) {kind x : Int} (h0 : (actA h kind x).2 = 0) : okH (actA h kind x).1.1 = true := by
  unfold actA at h0 ⊢
  rw [if_pos hk] at h0 ⊢
  cases hr : actH h kind x with
  | none => rw [hr] at h0; cases h0
  | some r => exact ok_act hk hr
theorem ok_hearA {h : Hf} (hk : okH h = true) {mail x : Int} (h0 : (hearA h mail x).2 = 0) : okH (hearA h mail x).1.1 = true := by
  unfold hearA at h0 ⊢
  rw [if_pos hk] at h0 ⊢
  split at h0
  · cases h0
  · rename_i hx
    rw [if_neg hx]
    cases hr : hearH h mail x with
    | none => rw [hr] at h0; cases h0
    | some r => exact ok_hear hk hx hr
end Go.Proofs.YtgijofcnknehdaaDoor
