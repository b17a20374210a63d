/- A reader's kind, its byte of parts, its list. -/
import Derived.Test.YtomkcmkbehcjnaaDoorStzF
import Derived.Deep.OwnRows
namespace Go.Proofs.YtomkcmkbehcjnaaDoor
open Go.RowKit

abbrev Good (v : Value) (X' : List Int) (r : Nat) (w : World) (e : Ending) (w' : World) : Prop := e = .returned v ∧ RdAt w' r X' ∧ Keep (fun k => k = r) w w'
abbrev Bad (E : Nat) (r : Nat) (w : World) (e : Ending) (w' : World) : Prop := e = .panicked (gaveUp E) ∧ Keep (fun k => k = r) w w'

theorem stp_good {v : Value} {X' : List Int} {r : Nat} {w : World} {f : FuncId} {args : Array Value} (h : Calls Tryd.prog f args w (Stp 0 v X' r w)) : Calls Tryd.prog f args w (Good v X' r w) :=
  h.mono fun _ _ g => (g.resolve_left (fun g => g.1 rfl)).2
theorem stp_bad {E : Nat} (hE : E ≠ 0) {v : Value} {X' : List Int} {r : Nat} {w : World} {f : FuncId} {args : Array Value} (h : Calls Tryd.prog f args w (Stp E v X' r w)) : Calls Tryd.prog f args w (Bad E r w) :=
  h.mono fun _ _ g => (g.resolve_right (fun g => hE g.1)).2
theorem good_stp {E : Nat} (hE : E = 0) {v : Value} {X' : List Int} {r : Nat} {w : World} {e : Ending} {w' : World} (h : Good v X' r w e w') : Stp E v X' r w e w' := .inr ⟨hE, h⟩
theorem bad_stp {E : Nat} (hE : E ≠ 0) {v : Value} {X' : List Int} {r : Nat} {w : World} {e : Ending} {w' : World} (h : Bad E r w e w') : Stp E v X' r w e w' := .inl ⟨hE, h⟩

/-- The error of a kind's form. -/
def kerr (N E : Nat) : Nat := if E ≠ 0 then E else if kn (N : Int) = true then 0 else 3

set_option maxHeartbeats 800000 in
theorem kind_any (r : Nat) (a : Option Addr) (n c : Nat) (X : List Int) (w : World) (h : RdA w r a n c X) {N k E : Nat} (hs : scan X 0 0 = (N, k, E)) :
    Calls Tryd.prog 59 #[.pointer (some ⟨r, 0, none⟩)] w (Stp (kerr N E) (.int .i64 (N : Int)) (X.drop k) r w) := by
  have cT := takeU_any r a n c X w h hs
  clear hs
  by_cases hE : E = 0
  · subst hE
    have cT' := stp_good cT
    clear cT
    by_cases h46 : (46 : Int) < (N : Int)
    · have HK : Hid (kerr N 0 = 3) := by
        unfold kerr; rw [if_neg (by omega), if_neg]
        · rfl
        · intro g; have := kn_bd g; omega
      go_enter Tryd.func59, Tryd.ntmps59
      go_wp2_with (first
        | (go_at_call 60; refine cT'.mono ?_; rintro e w1 ⟨rfl, hat, hk⟩)
        | (go_at_call 64; refine (giveUp_any _ _).mono ?_; rintro e w2 ⟨rfl, rfl⟩))
      exact ⟨rfl, bad_stp (by rw [HK.out]; decide) ⟨by rw [HK.out]; rfl, hk⟩⟩
    · have hwr : IntKind.i64.wrap (N : Int) = (N : Int) := by rw [IntKind.wrap_i64]; omega
      have hw64 : wrap64 (N : Int) = (N : Int) := by unfold wrap64; omega
      cases hkn : kn (N : Int) with
      | false =>
        have HK : Hid (kerr N 0 = 3) := by unfold kerr; rw [if_neg (by omega), hkn]; rfl
        go_enter Tryd.func59, Tryd.ntmps59
        go_wp2_with (first
          | (go_at_call 60; refine cT'.mono ?_; rintro e w1 ⟨rfl, hat, hk⟩)
          | (go_at_call 31; refine (known_any _ _).mono ?_; rw [hkn]; rintro e w3 ⟨rfl, rfl⟩)
          | (go_at_call 64; refine (giveUp_any _ _).mono ?_; rintro e w2 ⟨rfl, rfl⟩))
        exact ⟨rfl, bad_stp (by rw [HK.out]; decide) ⟨by rw [HK.out]; rfl, hk⟩⟩
      | true =>
        have HK : Hid (kerr N 0 = 0) := by unfold kerr; rw [if_neg (by omega), hkn]; rfl
        go_enter Tryd.func59, Tryd.ntmps59
        go_wp2_with (first
          | (go_at_call 60; refine cT'.mono ?_; rintro e w1 ⟨rfl, hat, hk⟩)
          | (go_at_call 31; refine (known_any _ _).mono ?_; rw [hkn]; rintro e w3 ⟨rfl, rfl⟩))
        go_ret
        exact good_stp HK.out ⟨rfl, hat, hk⟩
  · have cT' := stp_bad hE cT
    clear cT
    have HK : Hid (kerr N E = E) := by unfold kerr; rw [if_pos hE]; rfl
    go_enter Tryd.func59, Tryd.ntmps59
    go_wp2_with (go_at_call 60; refine cT'.mono ?_; rintro e w1 ⟨rfl, hk⟩)
    exact ⟨rfl, bad_stp (by rw [HK.out]; exact hE) ⟨by rw [HK.out], hk⟩⟩

/-- The error of the byte that says which parts are there. -/
def herr (K : Nat) (X : List Int) : Nat := if X.length = 0 then 2 else if (bits .andNot .u8 (X.getD 0 0) ((kp K : Nat) : Int) != 0) = true then 2 else 0

set_option maxHeartbeats 1600000 in
set_option maxRecDepth 100000 in
theorem has_any (r : Nat) (a : Option Addr) (n c : Nat) (X : List Int) (w : World) (h : RdA w r a n c X) (K : Nat) (hK : K < 47) (hL : Lays w) :
    Calls Tryd.prog 62 #[.pointer (some ⟨r, 0, none⟩), .int .i64 (K : Int)] w (Stp (herr K X) (.int .u8 (X.getD 0 0)) (X.drop 1) r w) := by
  have hcap := h.rd.cap
  have hmost := h.rd.most
  have hlen := h.rd.len
  unfold maxLen at hmost
  have hW0 : Below w.heap.size w w.drew := (Below.refl _ _).drew
  have h0 := h.keep (Keep.ofBelow (S := fun _ => False) hW0) (fun h => h) (fun _ _ h => h)
  have hL0 := hL.carry hW0
  by_cases hn : n = 0
  · subst hn
    have HK : Hid (herr K X = 2) := by unfold herr; rw [if_pos hlen]; rfl
    go_enter Tryd.func62, Tryd.ntmps62
    go_wp2
    refine wp_region_lx (fun w' => w'.cell? ⟨r, 0, none⟩ = some (.slice a 0 c)) [] 19 (by kernel_rfl) (by kernel_rfl) ?_
    generalize w.drew = W0 at h0 hW0 hL0 ⊢
    have HS := h0.cell
    refine lx_rd 0 ?vR0 (by kernel_rfl) (fun _ _ d _ _ h => by cases d <;> exact h) (by kernel_rfl) HS rfl rfl rfl (fun w' hS => ?hR0) ?_
    case hR0 => first | (go_simp; rfl) | go_simp
    simp only [List.setIfInBounds_toArray, List.set_cons_zero, List.set_cons_succ]
    refine lx_rd 1 ?vR1 (by kernel_rfl) (fun _ _ d _ _ h => by cases d <;> exact h) (by kernel_rfl) HS rfl rfl rfl (fun w' hS => ?hR1) ?_
    case hR1 => first | (go_simp; rfl) | go_simp
    simp only [List.setIfInBounds_toArray, List.set_cons_zero, List.set_cons_succ]
    refine lx_rd 2 ?vR2 (by kernel_rfl) (fun _ _ d _ _ h => by cases d <;> exact h) (by kernel_rfl) HS rfl rfl rfl (fun w' hS => ?hR2) ?_
    case hR2 => first | (go_simp; rfl) | go_simp
    simp only [List.setIfInBounds_toArray, List.set_cons_zero, List.set_cons_succ]
    refine lx_rd 3 (.slice a 0 c) (by kernel_rfl) (fun _ _ d _ _ h => by cases d <;> exact h) (by kernel_rfl) HS rfl rfl rfl (fun w' hS => ?hR3) ?_
    case hR3 => have hq := hS; first | (go_simp; rfl) | go_simp
    simp only [List.setIfInBounds_toArray, List.set_cons_zero, List.set_cons_succ]
    refine lx_rd 4 ?vR4 (by kernel_rfl) (fun _ _ d _ _ h => by cases d <;> exact h) (by kernel_rfl) HS rfl rfl rfl (fun w' hS => ?hR4) ?_
    case hR4 => first | (go_simp; rfl) | go_simp
    simp only [List.setIfInBounds_toArray, List.set_cons_zero, List.set_cons_succ]
    refine lx_rd 5 (.bool true) (by kernel_rfl) (fun _ _ d _ _ h => by cases d <;> exact h) (by kernel_rfl) HS rfl rfl rfl (fun w' hS => ?hR5) ?_
    case hR5 => first | (go_simp; rfl) | go_simp
    simp only [List.setIfInBounds_toArray, List.set_cons_zero, List.set_cons_succ]
    refine lx_rd 6 ?vR6 (by kernel_rfl) (fun _ _ d _ _ h => by cases d <;> exact h) (by kernel_rfl) HS rfl rfl rfl (fun w' hS => ?hR6) ?_
    case hR6 => first | (go_simp; rfl) | go_simp
    simp only [List.setIfInBounds_toArray, List.set_cons_zero, List.set_cons_succ]
    refine lx_skip 7 (by kernel_rfl) (fun _ _ d _ _ h => by cases d <;> exact h) (by kernel_rfl) HS rfl rfl rfl ?_
    simp only [List.setIfInBounds_toArray, List.set_cons_zero, List.set_cons_succ]
    refine lx_skip 8 (by kernel_rfl) (fun _ _ d _ _ h => by cases d <;> exact h) (by kernel_rfl) HS rfl rfl rfl ?_
    simp only [List.setIfInBounds_toArray, List.set_cons_zero, List.set_cons_succ]
    refine lx_skip 9 (by kernel_rfl) (fun _ _ d _ _ h => by cases d <;> exact h) (by kernel_rfl) HS rfl rfl rfl ?_
    simp only [List.setIfInBounds_toArray, List.set_cons_zero, List.set_cons_succ]
    refine lx_skip 10 (by kernel_rfl) (fun _ _ d _ _ h => by cases d <;> exact h) (by kernel_rfl) HS rfl rfl rfl ?_
    simp only [List.setIfInBounds_toArray, List.set_cons_zero, List.set_cons_succ]
    refine lx_skip 11 (by kernel_rfl) (fun _ _ d _ _ h => by cases d <;> exact h) (by kernel_rfl) HS rfl rfl rfl ?_
    simp only [List.setIfInBounds_toArray, List.set_cons_zero, List.set_cons_succ]
    refine lx_skip 12 (by kernel_rfl) (fun _ _ d _ _ h => by cases d <;> exact h) (by kernel_rfl) HS rfl rfl rfl ?_
    simp only [List.setIfInBounds_toArray, List.set_cons_zero, List.set_cons_succ]
    refine lx_skip 13 (by kernel_rfl) (fun _ _ d _ _ h => by cases d <;> exact h) (by kernel_rfl) HS rfl rfl rfl ?_
    simp only [List.setIfInBounds_toArray, List.set_cons_zero, List.set_cons_succ]
    refine lx_skip 14 (by kernel_rfl) (fun _ _ d _ _ h => by cases d <;> exact h) (by kernel_rfl) HS rfl rfl rfl ?_
    simp only [List.setIfInBounds_toArray, List.set_cons_zero, List.set_cons_succ]
    refine lx_skip 15 (by kernel_rfl) (fun _ _ d _ _ h => by cases d <;> exact h) (by kernel_rfl) HS rfl rfl rfl ?_
    simp only [List.setIfInBounds_toArray, List.set_cons_zero, List.set_cons_succ]
    refine lx_skip 16 (by kernel_rfl) (fun _ _ d _ _ h => by cases d <;> exact h) (by kernel_rfl) HS rfl rfl rfl ?_
    simp only [List.setIfInBounds_toArray, List.set_cons_zero, List.set_cons_succ]
    refine lx_skip 17 (by kernel_rfl) (fun _ _ d _ _ h => by cases d <;> exact h) (by kernel_rfl) HS rfl rfl rfl ?_
    simp only [List.setIfInBounds_toArray, List.set_cons_zero, List.set_cons_succ]
    refine lx_rd 18 ?vR18 (by kernel_rfl) (fun _ _ d _ _ h => by cases d <;> exact h) (by kernel_rfl) HS rfl rfl rfl (fun w' hS => ?hR18) ?_
    case hR18 => first | (go_simp; rfl) | go_simp
    simp only [List.setIfInBounds_toArray, List.set_cons_zero, List.set_cons_succ]
    refine lx_nil (by kernel_rfl) ?_
    go_wp2_with (go_at_call 64; refine (giveUp_any _ _).mono ?_; rintro e w2 ⟨rfl, rfl⟩)
    exact ⟨rfl, bad_stp (by rw [HK.out]; decide) ⟨by rw [HK.out]; rfl, Keep.ofBelow hW0⟩⟩
  · obtain ⟨b, off, rfl, hcell⟩ := h0.rd.flat (by omega)
    have hc0 := hcell 0 (by omega)
    have hbd := h.rd.bytes.get 0
    have hkd := hL0.kinds K hK
    have hne : (((n : Nat) : Int) == 0) = false := by simp; omega
    have hnp : (0 : Int) < (n : Int) := by omega
    have HE : Hid (herr K X = if (bits .andNot .u8 (X.getD 0 0) ((kp K : Nat) : Int) != 0) = true then 2 else 0) := by unfold herr; rw [if_neg (by omega)]; rfl
    generalize X.getD 0 0 = x at hc0 hbd HE ⊢
    generalize ((kp K : Nat) : Int) = y at hkd HE
    have hck : 1 ≤ c := by omega
    clear hcell
    go_enter Tryd.func62, Tryd.ntmps62
    go_wp2
    refine wp_region_lx (fun w' => w'.cell? ⟨r, 0, none⟩ = some (.slice (some ⟨b, off, none⟩) n c) ∧ w'.cell? ⟨b, off, none⟩ = some (.int .u8 x) ∧ w'.cell? ⟨1, K, none⟩ = some (.int .u8 y)) [] 19 (by kernel_rfl) (by kernel_rfl) ?_
    generalize w.drew = W0 at h0 hW0 hL0 hc0 hkd ⊢
    have HS : W0.cell? ⟨r, 0, none⟩ = some (.slice (some ⟨b, off, none⟩) n c) ∧ W0.cell? ⟨b, off, none⟩ = some (.int .u8 x) ∧ W0.cell? ⟨1, K, none⟩ = some (.int .u8 y) := ⟨h0.cell, hc0, hkd⟩
    have hKi : (K : Int) < 47 := by omega
    refine lx_rd 0 ?vS0 (by kernel_rfl) (fun _ _ d _ _ h => by cases d <;> exact h) (by kernel_rfl) HS rfl rfl rfl (fun w' hS => ?hS0) ?_
    case hS0 => first | (go_simp; rfl) | go_simp
    simp only [List.setIfInBounds_toArray, List.set_cons_zero, List.set_cons_succ]
    refine lx_rd 1 ?vS1 (by kernel_rfl) (fun _ _ d _ _ h => by cases d <;> exact h) (by kernel_rfl) HS rfl rfl rfl (fun w' hS => ?hS1) ?_
    case hS1 => first | (go_simp; rfl) | go_simp
    simp only [List.setIfInBounds_toArray, List.set_cons_zero, List.set_cons_succ]
    refine lx_rd 2 ?vS2 (by kernel_rfl) (fun _ _ d _ _ h => by cases d <;> exact h) (by kernel_rfl) HS rfl rfl rfl (fun w' hS => ?hS2) ?_
    case hS2 => first | (go_simp; rfl) | go_simp
    simp only [List.setIfInBounds_toArray, List.set_cons_zero, List.set_cons_succ]
    refine lx_rd 3 (.slice (some ⟨b, off, none⟩) n c) (by kernel_rfl) (fun _ _ d _ _ h => by cases d <;> exact h) (by kernel_rfl) HS rfl rfl rfl (fun w' hS => ?hS3) ?_
    case hS3 => have hq := hS.1; first | (go_simp; rfl) | go_simp
    simp only [List.setIfInBounds_toArray, List.set_cons_zero, List.set_cons_succ]
    refine lx_rd 4 ?vS4 (by kernel_rfl) (fun _ _ d _ _ h => by cases d <;> exact h) (by kernel_rfl) HS rfl rfl rfl (fun w' hS => ?hS4) ?_
    case hS4 => first | (go_simp; rfl) | go_simp
    simp only [List.setIfInBounds_toArray, List.set_cons_zero, List.set_cons_succ]
    refine lx_rd 5 (.bool false) (by kernel_rfl) (fun _ _ d _ _ h => by cases d <;> exact h) (by kernel_rfl) HS rfl rfl rfl (fun w' hS => ?hS5) ?_
    case hS5 => first | (go_simp; rfl) | go_simp
    simp only [List.setIfInBounds_toArray, List.set_cons_zero, List.set_cons_succ]
    refine lx_rd 6 ?vS6 (by kernel_rfl) (fun _ _ d _ _ h => by cases d <;> exact h) (by kernel_rfl) HS rfl rfl rfl (fun w' hS => ?hS6) ?_
    case hS6 => first | (go_simp; rfl) | go_simp
    simp only [List.setIfInBounds_toArray, List.set_cons_zero, List.set_cons_succ]
    refine lx_rd 7 ?vS7 (by kernel_rfl) (fun _ _ d _ _ h => by cases d <;> exact h) (by kernel_rfl) HS rfl rfl rfl (fun w' hS => ?hS7) ?_
    case hS7 => first | (go_simp; rfl) | go_simp
    simp only [List.setIfInBounds_toArray, List.set_cons_zero, List.set_cons_succ]
    refine lx_rd 8 ?vS8 (by kernel_rfl) (fun _ _ d _ _ h => by cases d <;> exact h) (by kernel_rfl) HS rfl rfl rfl (fun w' hS => ?hS8) ?_
    case hS8 => first | (go_simp; rfl) | go_simp
    simp only [List.setIfInBounds_toArray, List.set_cons_zero, List.set_cons_succ]
    refine lx_rd 9 ?vS9 (by kernel_rfl) (fun _ _ d _ _ h => by cases d <;> exact h) (by kernel_rfl) HS rfl rfl rfl (fun w' hS => ?hS9) ?_
    case hS9 => first | (go_simp; rfl) | go_simp
    simp only [List.setIfInBounds_toArray, List.set_cons_zero, List.set_cons_succ]
    refine lx_rd 10 (.slice (some ⟨b, off, none⟩) n c) (by kernel_rfl) (fun _ _ d _ _ h => by cases d <;> exact h) (by kernel_rfl) HS rfl rfl rfl (fun w' hS => ?hS10) ?_
    case hS10 => have hq := hS.1; first | (go_simp; rfl) | go_simp
    simp only [List.setIfInBounds_toArray, List.set_cons_zero, List.set_cons_succ]
    refine lx_rd 11 (.pointer (some ⟨b, off, none⟩)) (by kernel_rfl) (fun _ _ d _ _ h => by cases d <;> exact h) (by kernel_rfl) HS rfl rfl rfl (fun w' hS => ?hS11) ?_
    case hS11 => first | (go_simp; rfl) | go_simp
    simp only [List.setIfInBounds_toArray, List.set_cons_zero, List.set_cons_succ]
    refine lx_rd 12 (.int .u8 x) (by kernel_rfl) (fun _ _ d _ _ h => by cases d <;> exact h) (by kernel_rfl) HS rfl rfl rfl (fun w' hS => ?hS12) ?_
    case hS12 => have hq := hS.2.1; first | (go_simp; rfl) | go_simp
    simp only [List.setIfInBounds_toArray, List.set_cons_zero, List.set_cons_succ]
    refine lx_rd 13 ?vS13 (by kernel_rfl) (fun _ _ d _ _ h => by cases d <;> exact h) (by kernel_rfl) HS rfl rfl rfl (fun w' hS => ?hS13) ?_
    case hS13 => first | (go_simp; rfl) | go_simp
    simp only [List.setIfInBounds_toArray, List.set_cons_zero, List.set_cons_succ]
    refine lx_rd 14 (.pointer (some ⟨1, K, none⟩)) (by kernel_rfl) (fun _ _ d _ _ h => by cases d <;> exact h) (by kernel_rfl) HS rfl rfl rfl (fun w' hS => ?hS14) ?_
    case hS14 => first | (go_simp; rfl) | go_simp
    simp only [List.setIfInBounds_toArray, List.set_cons_zero, List.set_cons_succ]
    refine lx_rd 15 (.int .u8 y) (by kernel_rfl) (fun _ _ d _ _ h => by cases d <;> exact h) (by kernel_rfl) HS rfl rfl rfl (fun w' hS => ?hS15) ?_
    case hS15 => have hq := hS.2.2; first | (go_simp; rfl) | go_simp
    simp only [List.setIfInBounds_toArray, List.set_cons_zero, List.set_cons_succ]
    refine lx_rd 16 ?vS16 (by kernel_rfl) (fun _ _ d _ _ h => by cases d <;> exact h) (by kernel_rfl) HS rfl rfl rfl (fun w' hS => ?hS16) ?_
    case hS16 => first | (go_simp; rfl) | go_simp
    simp only [List.setIfInBounds_toArray, List.set_cons_zero, List.set_cons_succ]
    refine lx_rd 17 ?vS17 (by kernel_rfl) (fun _ _ d _ _ h => by cases d <;> exact h) (by kernel_rfl) HS rfl rfl rfl (fun w' hS => ?hS17) ?_
    case hS17 => first | (go_simp; rfl) | go_simp
    simp only [List.setIfInBounds_toArray, List.set_cons_zero, List.set_cons_succ]
    refine lx_rd 18 ?vS18 (by kernel_rfl) (fun _ _ d _ _ h => by cases d <;> exact h) (by kernel_rfl) HS rfl rfl rfl (fun w' hS => ?hS18) ?_
    case hS18 => first | (go_simp; rfl) | go_simp
    simp only [List.setIfInBounds_toArray, List.set_cons_zero, List.set_cons_succ]
    refine lx_nil (by kernel_rfl) ?_
    obtain ⟨z0, z1, z2⟩ := HS
    have z3 := h0.thaw
    cases hx : (bits .andNot .u8 x y != 0) with
    | true =>
      go_wp2_with (go_at_call 64; refine (giveUp_any _ _).mono ?_; rintro e w2 ⟨rfl, rfl⟩)
      have HK : herr K X = 2 := by rw [HE.out, hx]; rfl
      exact ⟨rfl, bad_stp (by rw [HK]; decide) ⟨by rw [HK]; rfl, Keep.ofBelow hW0⟩⟩
    | false =>
      have HK : Hid (herr K X = 0) := by rw [HE.out, hx]; rfl
      by_cases hc1 : c = 1
      · subst hc1
        go_wp2
        go_ret
        obtain ⟨hat, hkp⟩ := h0.put h0.rd.cutAll (fun g => absurd g (Nat.lt_irrefl 0)) (by omega)
        rw [show X.drop 1 = [] from List.drop_of_length_le (by rw [hlen]; omega)]
        exact good_stp HK.out ⟨rfl, hat, (Keep.ofBelow hW0).trans hkp⟩
      · go_wp2
        go_ret
        obtain ⟨hat, hkp⟩ := h0.put (h0.rd.cut 1) (cut_apart h0.apart 1) (by have := h0.few; omega)
        exact good_stp HK.out ⟨rfl, hat, (Keep.ofBelow hW0).trans hkp⟩

end Go.Proofs.YtomkcmkbehcjnaaDoor

/- A reader's list of texts. -/
namespace Go.Proofs.YtomkcmkbehcjnaaDoor
open Go.RowKit

/-- So many texts, what is behind them, the error. -/
def rdTexts : Nat → List Int → List ByteArray × List Int × Nat
  | 0, X => ([], X, 0)
  | m + 1, X => if terr X 1024 ≠ 0 then ([], [], terr X 1024) else (tN X 1024 :: (rdTexts m (X.drop (tlen X))).1, (rdTexts m (X.drop (tlen X))).2)
/-- A list. -/
def rdList (X : List Int) : List ByteArray × List Int × Nat :=
  if (scan X 0 0).2.2 ≠ 0 then ([], [], (scan X 0 0).2.2) else if 64 < (scan X 0 0).1 then ([], [], 5) else rdTexts (scan X 0 0).1 (X.drop (scan X 0 0).2.1)

/-- A row of strings of its own. -/
structure Ls (w : World) (g n : Nat) (l : List ByteArray) : Prop where
  len : l.length = n
  cell : ∀ j, j < n → w.cell? ⟨g, j, none⟩ = some (.string (l.getD j ⟨#[]⟩))
  thaw : ∀ j, w.frozen? ⟨g, j, none⟩ = false

theorem keep_thaw {S : Nat → Prop} {w w' : World} (k : Keep S w w') {g j : Nat} (hg : g < w.heap.size) (hs : ¬ S g) (h : w.frozen? ⟨g, j, none⟩ = false) : w'.frozen? ⟨g, j, none⟩ = false := by
  have hb := k.block g hg hs
  simpa [World.frozen?, hb] using h

theorem Ls.keep {S : Nat → Prop} {w w' : World} {g n : Nat} {l : List ByteArray} (h : Ls w g n l) (k : Keep S w w') (hg : g < w.heap.size) (hs : ¬ S g) : Ls w' g n l :=
  ⟨h.len, fun j hj => k.cell (h.cell j hj) hs, fun j => keep_thaw k hg hs (h.thaw j)⟩

theorem Ls.set {w : World} {g n : Nat} {l : List ByteArray} (h : Ls w g n l) {i : Nat} (hi : i < n) (s : ByteArray) : Ls (w.setCell ⟨g, i, none⟩ (.string s)) g n (l.set i s) := by
  refine ⟨by rw [List.length_set]; exact h.len, fun j hj => ?_, fun j => by rw [World.frozen?_setCell]; exact h.thaw j⟩
  by_cases hij : i = j
  · subst hij
    rw [World.cell?_setCell_same _ _ _ (h.cell i hi)]
    simp [List.getD, h.len, hi]
  · rw [World.cell?_setCell_other _ _ _ _ (by intro e; injection e with _ e2; exact hij e2), h.cell j hj]
    simp [List.getD, List.getElem?_set_ne hij]

theorem made_get (n j : Nat) (h : j < n) : (madeCells #[Value.string ⟨#[]⟩] n)[j]? = some (.string ⟨#[]⟩) := by
  unfold madeCells
  simp [h, Nat.mod_one]

theorem thaw_at {w : World} {g : Nat} {cs : Array Value} {t : TypeId} (h : w.heap[g]? = some (.cells cs t (0, 0))) (j : Nat) : w.frozen? ⟨g, j, none⟩ = false := by simp [World.frozen?, h]

theorem Ls.made (w : World) (n : Nat) : Ls (w.alloc (.cells (madeCells #[.string ⟨#[]⟩] n) 9)) w.heap.size n (List.replicate n ⟨#[]⟩) := by
  refine ⟨by simp, fun j hj => ?_, fun j => ?_⟩
  · have : (w.alloc (.cells (madeCells #[.string ⟨#[]⟩] n) 9)).heap[w.heap.size]? = some (.cells (madeCells #[.string ⟨#[]⟩] n) 9 (0, 0)) := by
      show (w.heap.push _)[w.heap.size]? = _
      simp
    simp only [World.cell?, this, made_get n j hj]
    simp [List.getD, hj]
  · have : (w.alloc (.cells (madeCells #[.string ⟨#[]⟩] n) 9)).heap[w.heap.size]? = some (.cells (madeCells #[.string ⟨#[]⟩] n) 9 (0, 0)) := by
      show (w.heap.push _)[w.heap.size]? = _
      simp
    exact thaw_at this j

theorem Ls.srd {w : World} {g n : Nat} {l : List ByteArray} (h : Ls w g n l) (hn : n ≤ 1000000) (hs : ∀ s ∈ l, s.size ≤ 9223372036854775807) : SRd w (some ⟨g, 0, none⟩) n n l := by
  refine ⟨h.len, Nat.le_refl _, by unfold maxLen; omega, (fun h => by cases h), hs, fun ad had j hj => ?_⟩
  cases had
  rw [add_flat, Nat.zero_add]
  exact h.cell j hj

theorem RdAt.ext {w w' : World} {r : Nat} {X : List Int} (h : RdAt w r X) (k : Below w.heap.size w w') : RdAt w' r X := by
  obtain ⟨a, n, c, h⟩ := h
  exact ⟨a, n, c, h.keep (Keep.ofBelow (S := fun _ => False) k) (fun h => h) (fun _ _ h => h)⟩

theorem rdTexts_step {m : Nat} {X : List Int} (h : terr X 1024 = 0) : rdTexts (m + 1) X = (tN X 1024 :: (rdTexts m (X.drop (tlen X))).1, (rdTexts m (X.drop (tlen X))).2) := by rw [rdTexts, if_neg (by omega)]
theorem rdTexts_stop {m : Nat} {X : List Int} (h : terr X 1024 ≠ 0) : rdTexts (m + 1) X = ([], [], terr X 1024) := by rw [rdTexts, if_pos h]

theorem set_front (pre : List ByteArray) (m : Nat) (s : ByteArray) : (pre ++ List.replicate (m + 1) (⟨#[]⟩ : ByteArray)).set pre.length s = (pre ++ [s]) ++ List.replicate m (⟨#[]⟩ : ByteArray) := by
  rw [List.set_append_right _ _ (Nat.le_refl _), Nat.sub_self, List.replicate_succ, List.set_cons_zero, List.append_assoc]
  rfl

theorem run_mkStrs (n : Nat) (hn : n ≤ 64) (w : World) : (Instr.makeSlice 23 (.int .u64 (n : Int)) (.int .u64 (n : Int))).run Tryd.prog w = .ok (.slice (some ⟨w.heap.size, 0, none⟩) n n) (w.alloc (.cells (madeCells #[.string ⟨#[]⟩] n) 9)) :=
  run_make_row' 23 9 (.string ⟨#[]⟩) 16 Tryd.underlying23 (by kernel_rfl) rfl .u64 .u64 n (by omega) (by omega) w

/-- What the list's answer is. -/
abbrev LGood (l : List ByteArray) (X' : List Int) (r : Nat) (w : World) (e : Ending) (w' : World) : Prop :=
  ∃ g n, e = .returned (.slice (some ⟨g, 0, none⟩) n n) ∧ w.heap.size ≤ g ∧ g < w'.heap.size ∧ n ≤ 64 ∧ Ls w' g n l ∧ RdAt w' r X' ∧ Keep (fun k => k = r) w w'

theorem Lays.keepR {w w' : World} (h : Lays w) {r : Nat} (hr : 5 ≤ r) {S : Nat → Prop} (hS : ∀ k, S k → r ≤ k) (k : Keep S w w') : Lays w' := by
  have go : ∀ {p : Addr} {v : Value}, p.block < 5 → w.cell? p = some v → w'.cell? p = some v := fun hp hc => k.cell hc (fun hs => by have := hS _ hs; omega)
  exact ⟨⟨fun c hc => go (by show 3 < 5; omega) (h.tabs.first c hc), fun i hi => go (by show 4 < 5; omega) (h.tabs.lo i hi), fun i hi => go (by show 4 < 5; omega) (h.tabs.hi i hi)⟩, fun i hi => go (by show 0 < 5; omega) (h.ord i hi), fun i hi => go (by show 1 < 5; omega) (h.kinds i hi)⟩

set_option maxHeartbeats 1600000 in
theorem list_good (r : Nat) (a : Option Addr) (n c : Nat) (X : List Int) (w : World) (h : RdA w r a n c X) (hL : Lays w) (hr5 : 5 ≤ r) {N k : Nat} (hs : scan X 0 0 = (N, k, 0)) (hN : N ≤ 64) :
    Calls Tryd.prog 72 #[.pointer (some ⟨r, 0, none⟩)] w fun e w' =>
      ((rdTexts N (X.drop k)).2.2 ≠ 0 ∧ Bad (rdTexts N (X.drop k)).2.2 r w e w') ∨ ((rdTexts N (X.drop k)).2.2 = 0 ∧ LGood (rdTexts N (X.drop k)).1 (rdTexts N (X.drop k)).2.1 r w e w') := by
  have cT := stp_good (takeU_any r a n c X w h hs)
  clear hs
  have hrlt : r < w.heap.size := World.block_lt_of_cell? w _ h.cell
  generalize X.drop k = Y at cT ⊢
  have mk := fun w => run_mkStrs N hN w
  go_enter Tryd.func72, Tryd.ntmps72
  go_wp2_with (go_at_call 60; refine cT.mono ?_; rintro e w1 ⟨rfl, hat, hk⟩)
  have hg1 := hk.size
  have hls := Ls.made w1 N
  have hb1 : Below w1.heap.size w1 (w1.alloc (.cells (madeCells #[.string ⟨#[]⟩] N) 9)) := (Below.refl _ _).alloc (Nat.le_refl _) _
  have hat1 := RdAt.ext hat hb1
  have hk1 : Keep (fun k => k = r) w (w1.alloc (.cells (madeCells #[.string ⟨#[]⟩] N) 9)) := hk.alloc _
  have hz1 : w1.heap.size < (w1.alloc (.cells (madeCells #[.string ⟨#[]⟩] N) 9)).heap.size := by simp
  generalize w1.alloc (.cells (madeCells #[.string ⟨#[]⟩] N) 9) = W1 at hls hat1 hk1 hz1 ⊢
  generalize hg : w1.heap.size = g at hls hg1 hz1 ⊢
  clear hb1 hat hk cT mk h hg
  go_loopw [15] (fun i wr => ∃ (j m : Nat) (pre : List ByteArray) (Z : List Int), j + m = N ∧ i = .int .i64 j ∧ Hid (pre.length = j) ∧ Ls wr g N (pre ++ List.replicate m ⟨#[]⟩) ∧ RdAt wr r Z ∧ Hid (rdTexts N Y = (pre ++ (rdTexts m Z).1, (rdTexts m Z).2)) ∧ Keep (fun k => k = r) w wr ∧ g < wr.heap.size) (fun i _ => N - (intOf i).toNat)
  case atStart => exact ⟨0, N, [], Y, by omega, rfl, rfl, hls, hat1, rfl, hk1, hz1⟩
  case round =>
    obtain ⟨j, m, pre, Z, hjm, rfl, HP, hlr, ⟨a2, n2, c2, hz⟩, HY, hkr, hgr⟩ := hrel
    clear hls hat1 hk1 hz1
    cases m with
    | zero =>
      have hjN : j = N := by omega
      subst hjN
      have HE : Hid (rdTexts j Y = (pre, Z, 0)) := by
        have := HY.out
        simp only [rdTexts, List.append_nil] at this
        exact this
      have hlr' : Ls wr g j pre := by simpa using hlr
      go_wp2
      go_ret
      rw [HE.out]
      exact .inr ⟨rfl, g, j, rfl, hg1, hgr, hN, hlr', ⟨a2, n2, c2, hz⟩, hkr⟩
    | succ m =>
      have hjN : (j : Int) < (N : Int) := by omega
      have hLr := hL.keepR hr5 (r := r) (fun k e => by omega) hkr
      have cX := text1_any r a2 n2 c2 Z wr hz hLr.tabs (E := terr Z 1024) rfl (S := tN Z 1024) rfl (k := tlen Z) rfl
      by_cases hE : terr Z 1024 = 0
      · have HS : Hid (rdTexts N Y = ((pre ++ [tN Z 1024]) ++ (rdTexts m (Z.drop (tlen Z))).1, (rdTexts m (Z.drop (tlen Z))).2)) := by
          have := HY.out
          rw [rdTexts_step hE] at this
          rw [this]
          show _ = _
          simp
        rw [hE] at cX
        have cX' := stp_good cX
        generalize tN Z 1024 = s at cX' HS
        generalize Z.drop (tlen Z) = Z' at cX' HS
        clear cX hE HY
        have hne : g ≠ r := by omega
        have hjl : j < N := by omega
        go_wp2_with (go_at_call 71; refine cX'.mono ?_; rintro e w2 ⟨rfl, hat2, hk2⟩; have hl2 := hlr.keep hk2 hgr (fun e => hne e); have z0 := hl2.cell j hjl; have z1 := hl2.thaw j)
        have hset := hl2.set hjl s
        rw [← HP.out, set_front] at hset
        rw [HP.out] at hset
        have hkS : Keep (fun k => k = g) w2 (w2.setCell ⟨g, j, none⟩ (.string s)) := (Keep.refl (fun k => k = g) w2).setCell (p := ⟨g, j, none⟩) (show (fun k => k = g) g from rfl) _
        obtain ⟨a3, n3, c3, hz3⟩ := hat2
        have hz4 := hz3.keep hkS (fun e => hne e.symm) (fun i hi e => by omega)
        have hk4 : Keep (fun k => k = r) w (w2.setCell ⟨g, j, none⟩ (.string s)) := (hkr.trans hk2).andThen hkS (fun i hi e => by omega)
        have hsz4 : g < (w2.setCell ⟨g, j, none⟩ (.string s)).heap.size := Nat.lt_of_lt_of_le hgr (Nat.le_trans hk2.size hkS.size)
        generalize w2.setCell ⟨g, j, none⟩ (.string s) = w4 at hset hz4 hk4 hsz4 ⊢
        clear hl2 z0 z1 hkS hz3 hk2 hkr hlr hz
        go_roundw
        case rel => exact ⟨j + 1, m, pre ++ [s], Z', by omega, by go_num, (by rw [List.length_append, HP.out]; rfl : (pre ++ [s]).length = j + 1), hset, ⟨a3, n3, c3, hz4⟩, HS, hk4, hsz4⟩
        case measure => simp [intOf]; omega
      · have HS : Hid ((rdTexts N Y).2.2 = terr Z 1024) := by
          rw [HY.out, rdTexts_stop hE]; rfl
        have cX' := stp_bad hE cX
        clear cX
        go_wp2_with (go_at_call 71; refine cX'.mono ?_; rintro e w2 ⟨rfl, hk2⟩)
        refine ⟨rfl, .inl ?_⟩
        rw [HS.out]
        exact ⟨hE, rfl, hkr.trans hk2⟩

end Go.Proofs.YtomkcmkbehcjnaaDoor

/- A reader's parts, laid into a stanza. -/
namespace Go.Proofs.YtomkcmkbehcjnaaDoor
open Go.RowKit

theorem run_store_float (w : World) (a : Addr) (m : Mode) (x : Nat) : (store a (.float .f64 x) m).run Tryd.prog w = stored Tryd.prog w a (.float .f64 x) m := run_store Tryd.prog w a _ m rfl

/-- Eight cells of a block of its own. -/
structure Sz8 (w : World) (b : Nat) (vs : List Value) : Prop where
  len : vs.length = 8
  cell : ∀ j, j < 8 → w.cell? ⟨b, j, none⟩ = some (vs.getD j undef)
  thaw : ∀ j, w.frozen? ⟨b, j, none⟩ = false
  out : ∀ j, 8 ≤ j → w.cell? ⟨b, j, none⟩ = none

theorem Sz8.lt {w : World} {b : Nat} {vs : List Value} (h : Sz8 w b vs) : b < w.heap.size := World.block_lt_of_cell? w _ (h.cell 0 (by omega))
theorem Sz8.keep {S : Nat → Prop} {w w' : World} {b : Nat} {vs : List Value} (h : Sz8 w b vs) (k : Keep S w w') (hs : ¬ S b) : Sz8 w' b vs :=
  ⟨h.len, fun j hj => k.cell (h.cell j hj) hs, fun j => keep_thaw k h.lt hs (h.thaw j), fun j hj => by rw [World.cell?_of_block (k.block b h.lt hs)]; exact h.out j hj⟩
theorem Sz8.set {w : World} {b : Nat} {vs : List Value} (h : Sz8 w b vs) {i : Nat} (hi : i < 8) (v : Value) : Sz8 (w.setCell ⟨b, i, none⟩ v) b (vs.set i v) := by
  refine ⟨by rw [List.length_set]; exact h.len, fun j hj => ?_, fun j => by rw [World.frozen?_setCell]; exact h.thaw j, fun j hj => by rw [World.cell?_setCell_other _ _ _ _ (by intro e; injection e with _ e2; omega)]; exact h.out j hj⟩
  by_cases hij : i = j
  · subst hij
    rw [World.cell?_setCell_same _ _ _ (h.cell i hi)]
    simp [List.getD, h.len, hi]
  · rw [World.cell?_setCell_other _ _ _ _ (by intro e; injection e with _ e2; exact hij e2), h.cell j hj]
    simp [List.getD, List.getElem?_set_ne hij]
/-- Bytes never lie in a block that holds no byte. -/
theorem Sz8.apart {w : World} {b : Nat} {vs : List Value} (h : Sz8 w b vs) (hu : ∀ v ∈ vs, ∀ x, v ≠ .int .u8 x) {a : Option Addr} {n c : Nat} {X : List Int} (hr : Rd w a n c X) (h0 : 0 < n) (ad : Addr) (he : a = some ad) : ad.block ≠ b := by
  intro e
  obtain ⟨b', off, rfl, hc⟩ := hr.flat h0
  cases he
  have h1 := hc 0 h0
  have e' : b' = b := e
  subst e'
  by_cases h8 : off + 0 < 8
  · have h2 := h.cell (off + 0) h8
    rw [h1] at h2
    have hm : vs.getD (off + 0) undef ∈ vs := by
      have hl : off < vs.length := by rw [h.len]; omega
      simp [List.getD, List.getElem?_eq_getElem hl]
    exact hu _ hm _ (Option.some.inj h2).symm
  · rw [h.out (off + 0) (by omega)] at h1; cases h1

/-- What laying a part leaves. -/
abbrev PtB (E : Nat) (r b : Nat) (w : World) (e : Ending) (w' : World) : Prop := e = .panicked (gaveUp E) ∧ Keep (fun k => k = r ∨ k = b) w w'
abbrev PtG (vs : List Value) (X' : List Int) (r b : Nat) (w : World) (e : Ending) (w' : World) : Prop := e = .returned (.tuple #[]) ∧ Sz8 w' b vs ∧ RdAt w' r X' ∧ Keep (fun k => k = r ∨ k = b) w w'

theorem pt_put {w w1 : World} {r b : Nat} {vs : List Value} {X' : List Int} (hz : Sz8 w b vs) (hrb : r < b) (hat : RdAt w1 r X') (hk : Keep (fun k => k = r) w w1) {i : Nat} (hi : i < 8) (v : Value) :
    Sz8 (w1.setCell ⟨b, i, none⟩ v) b (vs.set i v) ∧ RdAt (w1.setCell ⟨b, i, none⟩ v) r X' ∧ Keep (fun k => k = r ∨ k = b) w (w1.setCell ⟨b, i, none⟩ v) := by
  have hz1 := hz.keep hk (fun e => by omega)
  have hkS : Keep (fun k => k = b) w1 (w1.setCell ⟨b, i, none⟩ v) := (Keep.refl (fun k => k = b) w1).setCell (p := ⟨b, i, none⟩) (show (fun k => k = b) b from rfl) _
  obtain ⟨a3, n3, c3, hz3⟩ := hat
  exact ⟨hz1.set hi v, ⟨a3, n3, c3, hz3.keep hkS (fun e => by omega) (fun j hj e => by omega)⟩, (hk.mono (fun j e => Or.inl e)).trans (hkS.mono (fun j e => Or.inr e))⟩

theorem list_any (r : Nat) (a : Option Addr) (n c : Nat) (X : List Int) (w : World) (h : RdA w r a n c X) (hL : Lays w) (hr5 : 5 ≤ r) :
    Calls Tryd.prog 72 #[.pointer (some ⟨r, 0, none⟩)] w fun e w' =>
      ((rdList X).2.2 ≠ 0 ∧ Bad (rdList X).2.2 r w e w') ∨ ((rdList X).2.2 = 0 ∧ LGood (rdList X).1 (rdList X).2.1 r w e w') := by
  obtain ⟨N, k, E, hs⟩ : ∃ N k E, scan X 0 0 = (N, k, E) := ⟨_, _, _, rfl⟩
  by_cases hE : E = 0
  · subst hE
    by_cases hN : N ≤ 64
    · have e : rdList X = rdTexts N (X.drop k) := by unfold rdList; rw [hs, if_neg (by simp), if_neg (by simp; omega)]
      rw [e]
      exact list_good r a n c X w h hL hr5 hs hN
    · have e : rdList X = ([], [], 5) := by unfold rdList; rw [hs, if_neg (by simp), if_pos (by simp; omega)]
      have cT := stp_good (takeU_any r a n c X w h hs)
      rw [e]
      have hN' : (64 : Int) < (N : Int) := by omega
      clear hs e
      go_enter Tryd.func72, Tryd.ntmps72
      go_wp2_with (first
        | (go_at_call 60; refine cT.mono ?_; rintro e w1 ⟨rfl, hat, hk⟩)
        | (go_at_call 64; refine (giveUp_any _ _).mono ?_; rintro e w2 ⟨rfl, rfl⟩))
      exact ⟨rfl, .inl ⟨by simp, rfl, hk⟩⟩
  · have e : rdList X = ([], [], E) := by unfold rdList; rw [hs, if_pos (by simpa using hE)]
    have cT := stp_bad hE (takeU_any r a n c X w h hs)
    rw [e]
    clear hs e
    go_enter Tryd.func72, Tryd.ntmps72
    go_wp2_with (go_at_call 60; refine cT.mono ?_; rintro e w1 ⟨rfl, hk⟩)
    exact ⟨rfl, .inl ⟨hE, rfl, hk⟩⟩

section
variable (r : Nat) (a : Option Addr) (n c : Nat) (X : List Int) (w : World) (b : Nat) (vs : List Value)
theorem part_0 (h : RdA w r a n c X) (hz : Sz8 w b vs) (hrb : r < b) (hT : Tabs w) :
    Calls Tryd.prog 63 #[.pointer (some ⟨r, 0, none⟩), .pointer (some ⟨b, 0, none⟩), .int .u8 1] w fun e w' => (terr X 1024 ≠ 0 ∧ PtB (terr X 1024) r b w e w') ∨ (terr X 1024 = 0 ∧ PtG (vs.set 2 (.string (tN X 1024))) (X.drop (tlen X)) r b w e w') := by
  have cX := text1_any r a n c X w h hT (E := terr X 1024) rfl (S := tN X 1024) rfl (k := tlen X) rfl
  have hsf := run_store_float
  by_cases hE : terr X 1024 = 0
  · rw [hE] at cX
    have cX' := stp_good cX
    clear cX
    go_enter Tryd.func63, Tryd.ntmps63
    go_wp2_with (go_at_call 71; refine cX'.mono ?_; rintro e w1 ⟨rfl, hat, hk⟩; have hz1 := hz.keep hk (fun e => by omega); have z0 := hz1.cell 2 (by omega); have z1 := hz1.thaw 2)
    go_end0
    obtain ⟨p1, p2, p3⟩ := pt_put hz hrb hat hk (i := 2) (by omega) (.string (tN X 1024))
    exact .inr ⟨hE, rfl, p1, p2, p3⟩
  · have cX' := stp_bad hE cX
    clear cX
    go_enter Tryd.func63, Tryd.ntmps63
    go_wp2_with (go_at_call 71; refine cX'.mono ?_; rintro e w1 ⟨rfl, hk⟩)
    exact ⟨rfl, .inl ⟨hE, rfl, hk.mono (fun j e => Or.inl e)⟩⟩

theorem part_1 (h : RdA w r a n c X) (hz : Sz8 w b vs) (hrb : r < b) (hT : Tabs w) :
    Calls Tryd.prog 63 #[.pointer (some ⟨r, 0, none⟩), .pointer (some ⟨b, 0, none⟩), .int .u8 2] w fun e w' => (terr X 1024 ≠ 0 ∧ PtB (terr X 1024) r b w e w') ∨ (terr X 1024 = 0 ∧ PtG (vs.set 3 (.string (tN X 1024))) (X.drop (tlen X)) r b w e w') := by
  have cX := text1_any r a n c X w h hT (E := terr X 1024) rfl (S := tN X 1024) rfl (k := tlen X) rfl
  have hsf := run_store_float
  by_cases hE : terr X 1024 = 0
  · rw [hE] at cX
    have cX' := stp_good cX
    clear cX
    go_enter Tryd.func63, Tryd.ntmps63
    go_wp2_with (go_at_call 71; refine cX'.mono ?_; rintro e w1 ⟨rfl, hat, hk⟩; have hz1 := hz.keep hk (fun e => by omega); have z0 := hz1.cell 3 (by omega); have z1 := hz1.thaw 3)
    go_end0
    obtain ⟨p1, p2, p3⟩ := pt_put hz hrb hat hk (i := 3) (by omega) (.string (tN X 1024))
    exact .inr ⟨hE, rfl, p1, p2, p3⟩
  · have cX' := stp_bad hE cX
    clear cX
    go_enter Tryd.func63, Tryd.ntmps63
    go_wp2_with (go_at_call 71; refine cX'.mono ?_; rintro e w1 ⟨rfl, hk⟩)
    exact ⟨rfl, .inl ⟨hE, rfl, hk.mono (fun j e => Or.inl e)⟩⟩

theorem part_2 (h : RdA w r a n c X) (hz : Sz8 w b vs) (hrb : r < b) (hT : Tabs w) :
    Calls Tryd.prog 63 #[.pointer (some ⟨r, 0, none⟩), .pointer (some ⟨b, 0, none⟩), .int .u8 4] w fun e w' => (terr X 1024 ≠ 0 ∧ PtB (terr X 1024) r b w e w') ∨ (terr X 1024 = 0 ∧ PtG (vs.set 4 (.string (tN X 1024))) (X.drop (tlen X)) r b w e w') := by
  have cX := text1_any r a n c X w h hT (E := terr X 1024) rfl (S := tN X 1024) rfl (k := tlen X) rfl
  have hsf := run_store_float
  by_cases hE : terr X 1024 = 0
  · rw [hE] at cX
    have cX' := stp_good cX
    clear cX
    go_enter Tryd.func63, Tryd.ntmps63
    go_wp2_with (go_at_call 71; refine cX'.mono ?_; rintro e w1 ⟨rfl, hat, hk⟩; have hz1 := hz.keep hk (fun e => by omega); have z0 := hz1.cell 4 (by omega); have z1 := hz1.thaw 4)
    go_end0
    obtain ⟨p1, p2, p3⟩ := pt_put hz hrb hat hk (i := 4) (by omega) (.string (tN X 1024))
    exact .inr ⟨hE, rfl, p1, p2, p3⟩
  · have cX' := stp_bad hE cX
    clear cX
    go_enter Tryd.func63, Tryd.ntmps63
    go_wp2_with (go_at_call 71; refine cX'.mono ?_; rintro e w1 ⟨rfl, hk⟩)
    exact ⟨rfl, .inl ⟨hE, rfl, hk.mono (fun j e => Or.inl e)⟩⟩

theorem part_4 (h : RdA w r a n c X) (hz : Sz8 w b vs) (hrb : r < b)  :
    Calls Tryd.prog 63 #[.pointer (some ⟨r, 0, none⟩), .pointer (some ⟨b, 0, none⟩), .int .u8 16] w fun e w' => ((scan X 0 0).2.2 ≠ 0 ∧ PtB ((scan X 0 0).2.2) r b w e w') ∨ ((scan X 0 0).2.2 = 0 ∧ PtG (vs.set 6 (.int .i64 (unfv (scan X 0 0).1))) (X.drop (scan X 0 0).2.1) r b w e w') := by
  have cX := takeI_any r a n c X w h (N := (scan X 0 0).1) (k := (scan X 0 0).2.1) (E := (scan X 0 0).2.2) rfl
  have hsf := run_store_float
  by_cases hE : (scan X 0 0).2.2 = 0
  · rw [hE] at cX
    have cX' := stp_good cX
    clear cX
    go_enter Tryd.func63, Tryd.ntmps63
    go_wp2_with (go_at_call 73; refine cX'.mono ?_; rintro e w1 ⟨rfl, hat, hk⟩; have hz1 := hz.keep hk (fun e => by omega); have z0 := hz1.cell 6 (by omega); have z1 := hz1.thaw 6)
    go_end0
    obtain ⟨p1, p2, p3⟩ := pt_put hz hrb hat hk (i := 6) (by omega) (.int .i64 (unfv (scan X 0 0).1))
    exact .inr ⟨hE, rfl, p1, p2, p3⟩
  · have cX' := stp_bad hE cX
    clear cX
    go_enter Tryd.func63, Tryd.ntmps63
    go_wp2_with (go_at_call 73; refine cX'.mono ?_; rintro e w1 ⟨rfl, hk⟩)
    exact ⟨rfl, .inl ⟨hE, rfl, hk.mono (fun j e => Or.inl e)⟩⟩

theorem part_5 (h : RdA w r a n c X) (hz : Sz8 w b vs) (hrb : r < b)  :
    Calls Tryd.prog 63 #[.pointer (some ⟨r, 0, none⟩), .pointer (some ⟨b, 0, none⟩), .int .u8 32] w fun e w' => (fE X ≠ 0 ∧ PtB (fE X) r b w e w') ∨ (fE X = 0 ∧ PtG (vs.set 7 (.float .f64 (fN X))) (X.drop 8) r b w e w') := by
  have cX := takeF_any r a n c X w h (E := fE X) rfl (N := fN X) rfl (k := 8) rfl
  have hsf := run_store_float
  by_cases hE : fE X = 0
  · rw [hE] at cX
    have cX' := stp_good cX
    clear cX
    go_enter Tryd.func63, Tryd.ntmps63
    go_wp2_with (go_at_call 75; refine cX'.mono ?_; rintro e w1 ⟨rfl, hat, hk⟩; have hz1 := hz.keep hk (fun e => by omega); have z0 := hz1.cell 7 (by omega); have z1 := hz1.thaw 7)
    go_end0
    obtain ⟨p1, p2, p3⟩ := pt_put hz hrb hat hk (i := 7) (by omega) (.float .f64 (fN X))
    exact .inr ⟨hE, rfl, p1, p2, p3⟩
  · have cX' := stp_bad hE cX
    clear cX
    go_enter Tryd.func63, Tryd.ntmps63
    go_wp2_with (go_at_call 75; refine cX'.mono ?_; rintro e w1 ⟨rfl, hk⟩)
    exact ⟨rfl, .inl ⟨hE, rfl, hk.mono (fun j e => Or.inl e)⟩⟩

theorem part_3 (h : RdA w r a n c X) (hz : Sz8 w b vs) (hrb : r < b) (hL : Lays w) (hr5 : 5 ≤ r) :
    Calls Tryd.prog 63 #[.pointer (some ⟨r, 0, none⟩), .pointer (some ⟨b, 0, none⟩), .int .u8 8] w fun e w' => ((rdList X).2.2 ≠ 0 ∧ PtB (rdList X).2.2 r b w e w') ∨ ((rdList X).2.2 = 0 ∧ ∃ g m, w.heap.size ≤ g ∧ g < w'.heap.size ∧ m ≤ 64 ∧ Ls w' g m (rdList X).1 ∧ PtG (vs.set 5 (.slice (some ⟨g, 0, none⟩) m m)) (rdList X).2.1 r b w e w') := by
  have cX := list_any r a n c X w h hL hr5
  generalize rdList X = p at cX ⊢
  obtain ⟨l, X', E⟩ := p
  by_cases hE : E = 0
  · subst hE
    have cX' := cX.mono (fun e w' g => (g.resolve_left (fun g => g.1 rfl)).2 : ∀ e w', _ → LGood l X' r w e w')
    clear cX
    go_enter Tryd.func63, Tryd.ntmps63
    go_wp2_with (go_at_call 72; refine cX'.mono ?_; rintro e w1 ⟨g, m, rfl, hg, hgl, hm, hls, hat, hk⟩; have hz1 := hz.keep hk (fun e => by omega); have z0 := hz1.cell 5 (by omega); have z1 := hz1.thaw 5)
    go_end0
    obtain ⟨p1, p2, p3⟩ := pt_put hz hrb hat hk (i := 5) (by omega) (.slice (some ⟨g, 0, none⟩) m m)
    have hbl := hz.lt
    have hkS : Keep (fun k => k = b) w1 (w1.setCell ⟨b, 5, none⟩ (.slice (some ⟨g, 0, none⟩) m m)) := (Keep.refl (fun k => k = b) w1).setCell (p := ⟨b, 5, none⟩) (show (fun k => k = b) b from rfl) _
    exact .inr ⟨trivial, g, m, hg, Nat.lt_of_lt_of_le hgl hkS.size, hm, hls.keep hkS hgl (fun e => by omega), rfl, p1, p2, p3⟩
  · have cX' := cX.mono (fun e w' g => (g.resolve_right (fun g => hE g.1)).2 : ∀ e w', _ → Bad E r w e w')
    clear cX
    go_enter Tryd.func63, Tryd.ntmps63
    go_wp2_with (go_at_call 72; refine cX'.mono ?_; rintro e w1 ⟨rfl, hk⟩)
    exact ⟨rfl, .inl ⟨hE, rfl, hk.mono (fun j e => Or.inl e)⟩⟩
end

end Go.Proofs.YtomkcmkbehcjnaaDoor
