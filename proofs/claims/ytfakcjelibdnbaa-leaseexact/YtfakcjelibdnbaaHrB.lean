/- lease: the document's heap: first, End, Next. -/
import Derived.Test.YtfakcjelibdnbaaHrA
import Derived.BigQuiet
namespace Go.Proofs.Ytfakcjelibdnbaa
open Go.RowKit Go.Joins

/-- The first one's place. -/
structure Least (L : Le) (n i : Nat) : Prop where
  lt : i < n
  le : ∀ j, ∀ h : j < L.length, j < n → ∀ hi : i < L.length, Fl.sr L[i].2 ≤ Fl.sr L[j].2
  bef : ∀ j, ∀ h : j < L.length, j < i → ∀ hi : i < L.length, Fl.sr L[i].2 < Fl.sr L[j].2
theorem least_fst : ∀ {L : Le} {i : Nat}, Least L L.length i → ∀ hi : i < L.length, fstL L = some L[i]
  | [], i, h, hi => by cases hi
  | x :: L, i, h, hi => by
    unfold fstL
    cases i with
    | zero =>
      cases hr : fstL L with
      | none => rfl
      | some r =>
        obtain ⟨j, hj, e⟩ := List.getElem_of_mem (fstL_mem hr)
        have := h.le (j + 1) (by simp; omega) (by simp; omega) hi
        simp at this
        simp only
        rw [if_neg (by rw [← e]; omega)]
        rfl
    | succ i =>
      have hi' : i < L.length := by simp at hi; omega
      have h' : Least L L.length i := ⟨hi', fun j hj _ hi2 => by
        have := h.le (j + 1) (by simp; omega) (by simp; omega) hi
        simpa using this, fun j hj hji hi2 => by
        have := h.bef (j + 1) (by simp; omega) (by omega) hi
        simpa using this⟩
      rw [least_fst h' hi']
      have := h.bef 0 (by simp) (by omega) hi
      simp at this
      simp only
      rw [if_pos this]
      simp

theorem flt_num {x y : Nat} (hx : Fl.nan x = false) (hy : Fl.nan y = false) : flt x y = decide (Fl.sr x < Fl.sr y) := by unfold flt; simp [hx, hy]

/-- Where the first one stands. -/
def Fst (L : Le) (z : Int) : Prop := (z = -1 ∧ L = []) ∨ ∃ i : Nat, ∃ _ : i < L.length, z = i ∧ fstL L = some L[i]

set_option maxHeartbeats 2000000 in
theorem first_any {w : World} {r : Nat} {L : Le} {ak : Option Nat} {ck : Nat} {ae : Option Nat} {ce : Nat} (h : RI w r L ak ck ae ce) (hl : L.length ≤ 1000000) (hN : ∀ p ∈ L, Fl.nan p.2 = false) :
    Calls Try.prog 32 #[.pointer (some ⟨r, 0, none⟩)] w fun e w' => (∃ z, e = .returned (.int .i64 z) ∧ Fst L z) ∧ ∃ k, w' = w.drewN k := by
  have c0 := h.c0
  have c1 := h.c1
  have hcap := own_cap h.kr
  have hcm : ck ≤ 9223372036854775807 := by have := hcap.2; unfold maxLen at this; omega
  have hcl : L.length ≤ ck := hcap.1
  have hcap2 := own_cap h.er
  have hcm2 : ce ≤ 9223372036854775807 := by have := hcap2.2; unfold maxLen at this; omega
  have hcl2 : L.length ≤ ce := hcap2.1
  have H : Hid (RI w r L ak ck ae ce) := h
  have HN : Hid (∀ i, ∀ h : i < L.length, Fl.nan L[i].2 = false) := fun i hi => hN _ (List.getElem_mem hi)
  clear h hcap hcap2 hN
  unfold sl at c0 c1
  go_enter Try.func32, Try.ntmps32
  go_wp2
  go_loopg [3, 4] L.length (fun kx s3 s4 wr => ∃ (j q : Nat) (z : Int), s3 = .int .i64 z ∧ s4 = .int .i64 j ∧ j + kx = L.length ∧ wr = w.drewN q ∧ Hid ((j = 0 ∧ z = -1) ∨ ∃ i : Nat, z = i ∧ Least L j i))
  case atStart => exact ⟨0, 0, -1, rfl, rfl, by omega, rfl, .inl ⟨rfl, rfl⟩⟩
  case round =>
    obtain ⟨j, q, z, rfl, rfl, hjk, rfl, HZ⟩ := hrel
    by_cases h1 : j < L.length
    · have h1z : (j : Int) < (L.length : Int) := by omega
      obtain ⟨b, rfl, hc⟩ := H.out.end' h1
      rcases HZ.out with ⟨rfl, rfl⟩ | ⟨i, rfl, hi⟩
      · have HL : Hid (Least L 1 0) := ⟨by omega, fun j hj hj1 hi => by
          have : j = 0 := by omega
          subst this; exact Int.le_refl _, fun j hj hj1 => by omega⟩
        clear HZ
        go_wp2
        go_quiet (fail)
        go_wp2
        go_roundg (gk - 1)
        case measure => omega
        case rel => exact ⟨1, _, 0, rfl, by go_num, by omega, rfl, .inr ⟨0, rfl, HL.out⟩⟩
      · have hil : i < L.length := by have := hi.lt; omega
        obtain ⟨b2, e2, hc2⟩ := H.out.end' hil
        cases e2
        have hlt := f64_lt L[j].2 L[i].2
        rw [flt_num (HN.out j h1) (HN.out i hil)] at hlt
        have hi0 : ¬ ((i : Int) < 0) := by omega
        have hil2 : (i : Int) < (L.length : Int) := by omega
        by_cases hlx : Fl.sr L[j].2 < Fl.sr L[i].2
        · rw [decide_eq_true hlx] at hlt
          have HL : Hid (Least L (j + 1) j) := ⟨by omega, fun k hk hk1 _ => by
            by_cases e : k = j
            · subst e; exact Int.le_refl _
            · have := hi.le k hk (by omega) hil; omega, fun k hk hk1 _ => by
            have := hi.le k hk (by omega) hil; omega⟩
          clear HZ hlx hi
          generalize L[j].2 = x at hc hlt
          generalize L[i].2 = y at hc2 hlt
          go_wp2
          go_quiet (fail)
          go_wp2
          go_roundg (gk - 1)
          case measure => omega
          case rel => exact ⟨j + 1, _, j, rfl, by go_num, by omega, rfl, .inr ⟨j, rfl, HL.out⟩⟩
        · rw [decide_eq_false hlx] at hlt
          have HL : Hid (Least L (j + 1) i) := ⟨by have := hi.lt; omega, fun k hk hk1 _ => by
            by_cases e : k = j
            · subst e; omega
            · exact hi.le k hk (by omega) hil, fun k hk hk1 _ => hi.bef k hk hk1 hil⟩
          clear HZ hlx hi
          generalize L[j].2 = x at hc hlt
          generalize L[i].2 = y at hc2 hlt
          go_wp2
          go_quiet (fail)
          go_wp2
          go_roundg (gk - 1)
          case measure => omega
          case rel => exact ⟨j + 1, _, i, rfl, by go_num, by omega, rfl, .inr ⟨i, rfl, HL.out⟩⟩
    · have h1z : ¬ ((j : Int) < (L.length : Int)) := by omega
      go_wp2
      go_ret
      refine ⟨⟨z, rfl, ?_⟩, q, rfl⟩
      rcases HZ.out with ⟨e1, e2⟩ | ⟨i, e, hi⟩
      · exact .inl ⟨e2, List.length_eq_zero_iff.1 (by omega)⟩
      · have hjl : j = L.length := by omega
        subst hjl
        exact .inr ⟨i, hi.lt, e, least_fst hi hi.lt⟩

theorem Stands.no {L : Le} {k : ByteArray} {z : Int} (h : Stands L k z) (hz : z < 0) : ∀ p ∈ L, p.1 ≠ k := by
  rcases h with ⟨_, h⟩ | ⟨i, hi, e, _⟩
  · exact h
  · omega
theorem Stands.yes {L : Le} {k : ByteArray} {z : Int} (h : Stands L k z) (hz : ¬ z < 0) : ∃ i : Nat, ∃ h : i < L.length, z = i ∧ L[i].1 = k := by
  rcases h with ⟨e, _⟩ | h
  · omega
  · exact h

set_option maxHeartbeats 1000000 in
theorem rend_any {w : World} {r : Nat} {L : Le} {ak : Option Nat} {ck : Nat} {ae : Option Nat} {ce : Nat} (h : RI w r L ak ck ae ce) (k : ByteArray) (hl : L.length ≤ 1000000) (hk : Nk L) :
    Calls Try.prog 28 #[.pointer (some ⟨r, 0, none⟩), .string k] w fun e w' => e = .returned (.tuple #[.float .f64 ((lk L k).getD 0), .bool (lk L k).isSome]) ∧ w' = w := by
  have cA := at_any h k hl
  have c1 := h.c1
  have hcap2 := own_cap h.er
  have hcm2 : ce ≤ 9223372036854775807 := by have := hcap2.2; unfold maxLen at this; omega
  have hcl2 : L.length ≤ ce := hcap2.1
  have H : Hid (RI w r L ak ck ae ce) := h
  have HK : Hid (Nk L) := hk
  clear h hcap2 hk
  unfold sl at c1
  go_enter Try.func28, Try.ntmps28
  go_upto_region 2 with (go_at_call 40; refine cA.mono ?_; clear cA; rintro e w1 ⟨⟨z, rfl, hz⟩, hw⟩; rw [hw]; clear hw w1)
  by_cases h0 : z < 0
  · have HE : Hid (lk L k = none) := lk_none (hz.no h0)
    clear hz
    go_wp2
    go_ret2
    exact ⟨by rw [HE.out]; rfl, rfl⟩
  · obtain ⟨i, hi, rfl, e1⟩ := hz.yes h0
    have HE : Hid (lk L k = some L[i].2) := by show _ = _; rw [← e1]; exact lk_mem HK.out (List.getElem_mem hi)
    obtain ⟨b, rfl, hc⟩ := H.out.end' hi
    have hiz : (i : Int) < (L.length : Int) := by omega
    clear hz e1
    go_wp2
    go_ret2
    exact ⟨by rw [HE.out]; rfl, rfl⟩

set_option maxHeartbeats 1000000 in
theorem rnext_any {w : World} {r : Nat} {L : Le} {ak : Option Nat} {ck : Nat} {ae : Option Nat} {ce : Nat} (h : RI w r L ak ck ae ce) (hl : L.length ≤ 1000000) (hN : ∀ p ∈ L, Fl.nan p.2 = false) :
    Calls Try.prog 30 #[.pointer (some ⟨r, 0, none⟩)] w fun e w' => e = .returned (.tuple #[.float .f64 (((fstL L).map (·.2)).getD 0), .bool (fstL L).isSome]) ∧ ∃ q, w' = w.drewN q := by
  have cF := first_any h hl hN
  have c1 := h.c1
  have hcap2 := own_cap h.er
  have hcm2 : ce ≤ 9223372036854775807 := by have := hcap2.2; unfold maxLen at this; omega
  have hcl2 : L.length ≤ ce := hcap2.1
  have H : Hid (RI w r L ak ck ae ce) := h
  clear h hcap2 hN
  unfold sl at c1
  go_enter Try.func30, Try.ntmps30
  go_upto_region 2 with (go_at_call 32; refine cF.mono ?_; clear cF; rintro e w1 ⟨⟨z, rfl, hz⟩, q, rfl⟩)
  rcases hz with ⟨rfl, rfl⟩ | ⟨i, hi, rfl, e1⟩
  · go_wp2
    go_ret2
    exact ⟨rfl, q, rfl⟩
  · have HE : Hid (fstL L = some L[i]) := e1
    obtain ⟨b, rfl, hc⟩ := H.out.end' hi
    have hiz : (i : Int) < (L.length : Int) := by omega
    have hi0 : ¬ ((i : Int) < 0) := by omega
    have hc' : (w.drewN q).cell? ⟨b, i, none⟩ = some (.float .f64 L[i].2) := hc
    have c1' : (w.drewN q).cell? ⟨r, 1, none⟩ = some (.slice (some ⟨b, 0, none⟩) L.length ce) := c1
    clear e1 c1 hc
    go_wp2
    go_ret2
    exact ⟨by rw [HE.out]; rfl, q, rfl⟩

end Go.Proofs.Ytfakcjelibdnbaa
