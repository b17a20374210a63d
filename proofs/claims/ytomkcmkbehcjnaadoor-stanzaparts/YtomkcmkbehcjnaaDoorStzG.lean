/- A reader's kind, its byte of parts, its list. -/
import Derived.Test.YtomkcmkbehcjnaaDoorStzF
import Derived.Deep.OwnRows
namespace Go.Proofs.YtomkcmkbehcjnaaDoor
open Go.RowKit

abbrev Good (v : Value) (X' : List Int) (r : Nat) (w : World) (e : Ending) (w' : World) : Prop := e = .returned v ∧ RdAt w' r X' ∧ Keep (fun k => k = r) w w'
abbrev Bad (E : Nat) (r : Nat) (w : World) (e : Ending) (w' : World) : Prop := e = .panicked (gaveUp E) ∧ Keep (fun k => k = r) w w'

theorem stp_good {v : Value} {X' : List Int} {r : Nat} {w : World} {f : FuncId} {args : Array Value} (h : Calls Tryd.prog f args w (Stp 0 v X' r w)) : Calls Tryd.prog f args w (Good v X' r w) :=
  h.mono fun _ _ g => (g.resolve_left (fun g => g.1 rfl)).2
theorem stp_bad {E : Nat} (hE : E ≠ 0) {v : Value} {X' : List Int} {r : Nat} {w : World} {f : FuncId} {args : Array Value} (h : Calls Tryd.prog f args w (Stp E v X' r w)) : Calls Tryd.prog f args w (Bad E r w) :=
  h.mono fun _ _ g => (g.resolve_right (fun g => hE g.1)).2
theorem good_stp {E : Nat} (hE : E = 0) {v : Value} {X' : List Int} {r : Nat} {w : World} {e : Ending} {w' : World} (h : Good v X' r w e w') : Stp E v X' r w e w' := .inr ⟨hE, h⟩
theorem bad_stp {E : Nat} (hE : E ≠ 0) {v : Value} {X' : List Int} {r : Nat} {w : World} {e : Ending} {w' : World} (h : Bad E r w e w') : Stp E v X' r w e w' := .inl ⟨hE, h⟩

/-- The error of a kind's form. -/
def kerr (N E : Nat) : Nat := if E ≠ 0 then E else if kn (N : Int) = true then 0 else 3

set_option maxHeartbeats 800000 in
theorem kind_any (r : Nat) (a : Option Addr) (n c : Nat) (X : List Int) (w : World) (h : RdA w r a n c X) {N k E : Nat} (hs : scan X 0 0 = (N, k, E)) :
    Calls Tryd.prog 59 #[.pointer (some ⟨r, 0, none⟩)] w (Stp (kerr N E) (.int .i64 (N : Int)) (X.drop k) r w) := by
  have cT := takeU_any r a n c X w h hs
  clear hs
  by_cases hE : E = 0
  · subst hE
    have cT' := stp_good cT
    clear cT
    by_cases h46 : (46 : Int) < (N : Int)
    · have HK : Hid (kerr N 0 = 3) := by
        unfold kerr; rw [if_neg (by omega), if_neg]
        · rfl
        · intro g; have := kn_bd g; omega
      go_enter Tryd.func59, Tryd.ntmps59
      go_wp2_with (first
        | (go_at_call 60; refine cT'.mono ?_; rintro e w1 ⟨rfl, hat, hk⟩)
        | (go_at_call 64; refine (giveUp_any _ _).mono ?_; rintro e w2 ⟨rfl, rfl⟩))
      exact ⟨rfl, bad_stp (by rw [HK.out]; decide) ⟨by rw [HK.out]; rfl, hk⟩⟩
    · have hwr : IntKind.i64.wrap (N : Int) = (N : Int) := by rw [IntKind.wrap_i64]; omega
      have hw64 : wrap64 (N : Int) = (N : Int) := by unfold wrap64; omega
      cases hkn : kn (N : Int) with
      | false =>
        have HK : Hid (kerr N 0 = 3) := by unfold kerr; rw [if_neg (by omega), hkn]; rfl
        go_enter Tryd.func59, Tryd.ntmps59
        go_wp2_with (first
          | (go_at_call 60; refine cT'.mono ?_; rintro e w1 ⟨rfl, hat, hk⟩)
          | (go_at_call 31; refine (known_any _ _).mono ?_; rw [hkn]; rintro e w3 ⟨rfl, rfl⟩)
          | (go_at_call 64; refine (giveUp_any _ _).mono ?_; rintro e w2 ⟨rfl, rfl⟩))
        exact ⟨rfl, bad_stp (by rw [HK.out]; decide) ⟨by rw [HK.out]; rfl, hk⟩⟩
      | true =>
        have HK : Hid (kerr N 0 = 0) := by unfold kerr; rw [if_neg (by omega), hkn]; rfl
        go_enter Tryd.func59, Tryd.ntmps59
        go_wp2_with (first
          | (go_at_call 60; refine cT'.mono ?_; rintro e w1 ⟨rfl, hat, hk⟩)
          | (go_at_call 31; refine (known_any _ _).mono ?_; rw [hkn]; rintro e w3 ⟨rfl, rfl⟩))
        go_ret
        exact good_stp HK.out ⟨rfl, hat, hk⟩
  · have cT' := stp_bad hE cT
    clear cT
    have HK : Hid (kerr N E = E) := by unfold kerr; rw [if_pos hE]; rfl
    go_enter Tryd.func59, Tryd.ntmps59
    go_wp2_with (go_at_call 60; refine cT'.mono ?_; rintro e w1 ⟨rfl, hk⟩)
    exact ⟨rfl, bad_stp (by rw [HK.out]; exact hE) ⟨by rw [HK.out], hk⟩⟩

/-- The error of the byte that says which parts are there. -/
def herr (K : Nat) (X : List Int) : Nat := if X.length = 0 then 2 else if (bits .andNot .u8 (X.getD 0 0) ((kp K : Nat) : Int) != 0) = true then 2 else 0

set_option maxHeartbeats 1600000 in
set_option maxRecDepth 100000 in
theorem has_any (r : Nat) (a : Option Addr) (n c : Nat) (X : List Int) (w : World) (h : RdA w r a n c X) (K : Nat) (hK : K < 47) (hL : Lays w) :
    Calls Tryd.prog 62 #[.pointer (some ⟨r, 0, none⟩), .int .i64 (K : Int)] w (Stp (herr K X) (.int .u8 (X.getD 0 0)) (X.drop 1) r w) := by
  have hcap := h.rd.cap
  have hmost := h.rd.most
  have hlen := h.rd.len
  unfold maxLen at hmost
  have hW0 : Below w.heap.size w w.drew := (Below.refl _ _).drew
  have h0 := h.keep (Keep.ofBelow (S := fun _ => False) hW0) (fun h => h) (fun _ _ h => h)
  have hL0 := hL.carry hW0
  by_cases hn : n = 0
  · subst hn
    have HK : Hid (herr K X = 2) := by unfold herr; rw [if_pos hlen]; rfl
    go_enter Tryd.func62, Tryd.ntmps62
    go_wp2
    refine wp_region_lx (fun w' => w'.cell? ⟨r, 0, none⟩ = some (.slice a 0 c)) [] 19 (by kernel_rfl) (by kernel_rfl) ?_
    generalize w.drew = W0 at h0 hW0 hL0 ⊢
    have HS := h0.cell
    refine lx_rd 0 ?vR0 (by kernel_rfl) (fun _ _ d _ _ h => by cases d <;> exact h) (by kernel_rfl) HS rfl rfl rfl (fun w' hS => ?hR0) ?_
    case hR0 => first | (go_simp; rfl) | go_simp
    simp only [List.setIfInBounds_toArray, List.set_cons_zero, List.set_cons_succ]
    refine lx_rd 1 ?vR1 (by kernel_rfl) (fun _ _ d _ _ h => by cases d <;> exact h) (by kernel_rfl) HS rfl rfl rfl (fun w' hS => ?hR1) ?_
    case hR1 => first | (go_simp; rfl) | go_simp
    simp only [List.setIfInBounds_toArray, List.set_cons_zero, List.set_cons_succ]
    refine lx_rd 2 ?vR2 (by kernel_rfl) (fun _ _ d _ _ h => by cases d <;> exact h) (by kernel_rfl) HS rfl rfl rfl (fun w' hS => ?hR2) ?_
    case hR2 => first | (go_simp; rfl) | go_simp
    simp only [List.setIfInBounds_toArray, List.set_cons_zero, List.set_cons_succ]
    refine lx_rd 3 (.slice a 0 c) (by kernel_rfl) (fun _ _ d _ _ h => by cases d <;> exact h) (by kernel_rfl) HS rfl rfl rfl (fun w' hS => ?hR3) ?_
    case hR3 => have hq := hS; first | (go_simp; rfl) | go_simp
    simp only [List.setIfInBounds_toArray, List.set_cons_zero, List.set_cons_succ]
    refine lx_rd 4 ?vR4 (by kernel_rfl) (fun _ _ d _ _ h => by cases d <;> exact h) (by kernel_rfl) HS rfl rfl rfl (fun w' hS => ?hR4) ?_
    case hR4 => first | (go_simp; rfl) | go_simp
    simp only [List.setIfInBounds_toArray, List.set_cons_zero, List.set_cons_succ]
    refine lx_rd 5 (.bool true) (by kernel_rfl) (fun _ _ d _ _ h => by cases d <;> exact h) (by kernel_rfl) HS rfl rfl rfl (fun w' hS => ?hR5) ?_
    case hR5 => first | (go_simp; rfl) | go_simp
    simp only [List.setIfInBounds_toArray, List.set_cons_zero, List.set_cons_succ]
    refine lx_rd 6 ?vR6 (by kernel_rfl) (fun _ _ d _ _ h => by cases d <;> exact h) (by kernel_rfl) HS rfl rfl rfl (fun w' hS => ?hR6) ?_
    case hR6 => first | (go_simp; rfl) | go_simp
    simp only [List.setIfInBounds_toArray, List.set_cons_zero, List.set_cons_succ]
    refine lx_skip 7 (by kernel_rfl) (fun _ _ d _ _ h => by cases d <;> exact h) (by kernel_rfl) HS rfl rfl rfl ?_
    simp only [List.setIfInBounds_toArray, List.set_cons_zero, List.set_cons_succ]
    refine lx_skip 8 (by kernel_rfl) (fun _ _ d _ _ h => by cases d <;> exact h) (by kernel_rfl) HS rfl rfl rfl ?_
    simp only [List.setIfInBounds_toArray, List.set_cons_zero, List.set_cons_succ]
    refine lx_skip 9 (by kernel_rfl) (fun _ _ d _ _ h => by cases d <;> exact h) (by kernel_rfl) HS rfl rfl rfl ?_
    simp only [List.setIfInBounds_toArray, List.set_cons_zero, List.set_cons_succ]
    refine lx_skip 10 (by kernel_rfl) (fun _ _ d _ _ h => by cases d <;> exact h) (by kernel_rfl) HS rfl rfl rfl ?_
    simp only [List.setIfInBounds_toArray, List.set_cons_zero, List.set_cons_succ]
    refine lx_skip 11 (by kernel_rfl) (fun _ _ d _ _ h => by cases d <;> exact h) (by kernel_rfl) HS rfl rfl rfl ?_
    simp only [List.setIfInBounds_toArray, List.set_cons_zero, List.set_cons_succ]
    refine lx_skip 12 (by kernel_rfl) (fun _ _ d _ _ h => by cases d <;> exact h) (by kernel_rfl) HS rfl rfl rfl ?_
    simp only [List.setIfInBounds_toArray, List.set_cons_zero, List.set_cons_succ]
    refine lx_skip 13 (by kernel_rfl) (fun _ _ d _ _ h => by cases d <;> exact h) (by kernel_rfl) HS rfl rfl rfl ?_
    simp only [List.setIfInBounds_toArray, List.set_cons_zero, List.set_cons_succ]
    refine lx_skip 14 (by kernel_rfl) (fun _ _ d _ _ h => by cases d <;> exact h) (by kernel_rfl) HS rfl rfl rfl ?_
    simp only [List.setIfInBounds_toArray, List.set_cons_zero, List.set_cons_succ]
    refine lx_skip 15 (by kernel_rfl) (fun _ _ d _ _ h => by cases d <;> exact h) (by kernel_rfl) HS rfl rfl rfl ?_
    simp only [List.setIfInBounds_toArray, List.set_cons_zero, List.set_cons_succ]
    refine lx_skip 16 (by kernel_rfl) (fun _ _ d _ _ h => by cases d <;> exact h) (by kernel_rfl) HS rfl rfl rfl ?_
    simp only [List.setIfInBounds_toArray, List.set_cons_zero, List.set_cons_succ]
    refine lx_skip 17 (by kernel_rfl) (fun _ _ d _ _ h => by cases d <;> exact h) (by kernel_rfl) HS rfl rfl rfl ?_
    simp only [List.setIfInBounds_toArray, List.set_cons_zero, List.set_cons_succ]
    refine lx_rd 18 ?vR18 (by kernel_rfl) (fun _ _ d _ _ h => by cases d <;> exact h) (by kernel_rfl) HS rfl rfl rfl (fun w' hS => ?hR18) ?_
    case hR18 => first | (go_simp; rfl) | go_simp
    simp only [List.setIfInBounds_toArray, List.set_cons_zero, List.set_cons_succ]
    refine lx_nil (by kernel_rfl) ?_
    go_wp2_with (go_at_call 64; refine (giveUp_any _ _).mono ?_; rintro e w2 ⟨rfl, rfl⟩)
    exact ⟨rfl, bad_stp (by rw [HK.out]; decide) ⟨by rw [HK.out]; rfl, Keep.ofBelow hW0⟩⟩
  · obtain ⟨b, off, rfl, hcell⟩ := h0.rd.flat (by omega)
    have hc0 := hcell 0 (by omega)
    have hbd := h.rd.bytes.get 0
    have hkd := hL0.kinds K hK
    have hne : (((n : Nat) : Int) == 0) = false := by simp; omega
    have hnp : (0 : Int) < (n : Int) := by omega
    have HE : Hid (herr K X = if (bits .andNot .u8 (X.getD 0 0) ((kp K : Nat) : Int) != 0) = true then 2 else 0) := by unfold herr; rw [if_neg (by omega)]; rfl
    generalize X.getD 0 0 = x at hc0 hbd HE ⊢
    generalize ((kp K : Nat) : Int) = y at hkd HE
    have hck : 1 ≤ c := by omega
    clear hcell
    go_enter Tryd.func62, Tryd.ntmps62
    go_wp2
    refine wp_region_lx (fun w' => w'.cell? ⟨r, 0, none⟩ = some (.slice (some ⟨b, off, none⟩) n c) ∧ w'.cell? ⟨b, off, none⟩ = some (.int .u8 x) ∧ w'.cell? ⟨1, K, none⟩ = some (.int .u8 y)) [] 19 (by kernel_rfl) (by kernel_rfl) ?_
    generalize w.drew = W0 at h0 hW0 hL0 hc0 hkd ⊢
    have HS : W0.cell? ⟨r, 0, none⟩ = some (.slice (some ⟨b, off, none⟩) n c) ∧ W0.cell? ⟨b, off, none⟩ = some (.int .u8 x) ∧ W0.cell? ⟨1, K, none⟩ = some (.int .u8 y) := ⟨h0.cell, hc0, hkd⟩
    have hKi : (K : Int) < 47 := by omega
    refine lx_rd 0 ?vS0 (by kernel_rfl) (fun _ _ d _ _ h => by cases d <;> exact h) (by kernel_rfl) HS rfl rfl rfl (fun w' hS => ?hS0) ?_
    case hS0 => first | (go_simp; rfl) | go_simp
    simp only [List.setIfInBounds_toArray, List.set_cons_zero, List.set_cons_succ]
    refine lx_rd 1 ?vS1 (by kernel_rfl) (fun _ _ d _ _ h => by cases d <;> exact h) (by kernel_rfl) HS rfl rfl rfl (fun w' hS => ?hS1) ?_
    case hS1 => first | (go_simp; rfl) | go_simp
    simp only [List.setIfInBounds_toArray, List.set_cons_zero, List.set_cons_succ]
    refine lx_rd 2 ?vS2 (by kernel_rfl) (fun _ _ d _ _ h => by cases d <;> exact h) (by kernel_rfl) HS rfl rfl rfl (fun w' hS => ?hS2) ?_
    case hS2 => first | (go_simp; rfl) | go_simp
    simp only [List.setIfInBounds_toArray, List.set_cons_zero, List.set_cons_succ]
    refine lx_rd 3 (.slice (some ⟨b, off, none⟩) n c) (by kernel_rfl) (fun _ _ d _ _ h => by cases d <;> exact h) (by kernel_rfl) HS rfl rfl rfl (fun w' hS => ?hS3) ?_
    case hS3 => have hq := hS.1; first | (go_simp; rfl) | go_simp
    simp only [List.setIfInBounds_toArray, List.set_cons_zero, List.set_cons_succ]
    refine lx_rd 4 ?vS4 (by kernel_rfl) (fun _ _ d _ _ h => by cases d <;> exact h) (by kernel_rfl) HS rfl rfl rfl (fun w' hS => ?hS4) ?_
    case hS4 => first | (go_simp; rfl) | go_simp
    simp only [List.setIfInBounds_toArray, List.set_cons_zero, List.set_cons_succ]
    refine lx_rd 5 (.bool false) (by kernel_rfl) (fun _ _ d _ _ h => by cases d <;> exact h) (by kernel_rfl) HS rfl rfl rfl (fun w' hS => ?hS5) ?_
    case hS5 => first | (go_simp; rfl) | go_simp
    simp only [List.setIfInBounds_toArray, List.set_cons_zero, List.set_cons_succ]
    refine lx_rd 6 ?vS6 (by kernel_rfl) (fun _ _ d _ _ h => by cases d <;> exact h) (by kernel_rfl) HS rfl rfl rfl (fun w' hS => ?hS6) ?_
    case hS6 => first | (go_simp; rfl) | go_simp
    simp only [List.setIfInBounds_toArray, List.set_cons_zero, List.set_cons_succ]
    refine lx_rd 7 ?vS7 (by kernel_rfl) (fun _ _ d _ _ h => by cases d <;> exact h) (by kernel_rfl) HS rfl rfl rfl (fun w' hS => ?hS7) ?_
    case hS7 => first | (go_simp; rfl) | go_simp
    simp only [List.setIfInBounds_toArray, List.set_cons_zero, List.set_cons_succ]
    refine lx_rd 8 ?vS8 (by kernel_rfl) (fun _ _ d _ _ h => by cases d <;> exact h) (by kernel_rfl) HS rfl rfl rfl (fun w' hS => ?hS8) ?_
    case hS8 => first | (go_simp; rfl) | go_simp
    simp only [List.setIfInBounds_toArray, List.set_cons_zero, List.set_cons_succ]
    refine lx_rd 9 ?vS9 (by kernel_rfl) (fun _ _ d _ _ h => by cases d <;> exact h) (by kernel_rfl) HS rfl rfl rfl (fun w' hS => ?hS9) ?_
    case hS9 => first | (go_simp; rfl) | go_simp
    simp only [List.setIfInBounds_toArray, List.set_cons_zero, List.set_cons_succ]
    refine lx_rd 10 (.slice (some ⟨b, off, none⟩) n c) (by kernel_rfl) (fun _ _ d _ _ h => by cases d <;> exact h) (by kernel_rfl) HS rfl rfl rfl (fun w' hS => ?hS10) ?_
    case hS10 => have hq := hS.1; first | (go_simp; rfl) | go_simp
    simp only [List.setIfInBounds_toArray, List.set_cons_zero, List.set_cons_succ]
    refine lx_rd 11 (.pointer (some ⟨b, off, none⟩)) (by kernel_rfl) (fun _ _ d _ _ h => by cases d <;> exact h) (by kernel_rfl) HS rfl rfl rfl (fun w' hS => ?hS11) ?_
    case hS11 => first | (go_simp; rfl) | go_simp
    simp only [List.setIfInBounds_toArray, List.set_cons_zero, List.set_cons_succ]
    refine lx_rd 12 (.int .u8 x) (by kernel_rfl) (fun _ _ d _ _ h => by cases d <;> exact h) (by kernel_rfl) HS rfl rfl rfl (fun w' hS => ?hS12) ?_
    case hS12 => have hq := hS.2.1; first | (go_simp; rfl) | go_simp
    simp only [List.setIfInBounds_toArray, List.set_cons_zero, List.set_cons_succ]
    refine lx_rd 13 ?vS13 (by kernel_rfl) (fun _ _ d _ _ h => by cases d <;> exact h) (by kernel_rfl) HS rfl rfl rfl (fun w' hS => ?hS13) ?_
    case hS13 => first | (go_simp; rfl) | go_simp
    simp only [List.setIfInBounds_toArray, List.set_cons_zero, List.set_cons_succ]
    refine lx_rd 14 (.pointer (some ⟨1, K, none⟩)) (by kernel_rfl) (fun _ _ d _ _ h => by cases d <;> exact h) (by kernel_rfl) HS rfl rfl rfl (fun w' hS => ?hS14) ?_
    case hS14 => first | (go_simp; rfl) | go_simp
    simp only [List.setIfInBounds_toArray, List.set_cons_zero, List.set_cons_succ]
    refine lx_rd 15 (.int .u8 y) (by kernel_rfl) (fun _ _ d _ _ h => by cases d <;> exact h) (by kernel_rfl) HS rfl rfl rfl (fun w' hS => ?hS15) ?_
    case hS15 => have hq := hS.2.2; first | (go_simp; rfl) | go_simp
    simp only [List.setIfInBounds_toArray, List.set_cons_zero, List.set_cons_succ]
    refine lx_rd 16 ?vS16 (by kernel_rfl) (fun _ _ d _ _ h => by cases d <;> exact h) (by kernel_rfl) HS rfl rfl rfl (fun w' hS => ?hS16) ?_
    case hS16 => first | (go_simp; rfl) | go_simp
    simp only [List.setIfInBounds_toArray, List.set_cons_zero, List.set_cons_succ]
    refine lx_rd 17 ?vS17 (by kernel_rfl) (fun _ _ d _ _ h => by cases d <;> exact h) (by kernel_rfl) HS rfl rfl rfl (fun w' hS => ?hS17) ?_
    case hS17 => first | (go_simp; rfl) | go_simp
    simp only [List.setIfInBounds_toArray, List.set_cons_zero, List.set_cons_succ]
    refine lx_rd 18 ?vS18 (by kernel_rfl) (fun _ _ d _ _ h => by cases d <;> exact h) (by kernel_rfl) HS rfl rfl rfl (fun w' hS => ?hS18) ?_
    case hS18 => first | (go_simp; rfl) | go_simp
    simp only [List.setIfInBounds_toArray, List.set_cons_zero, List.set_cons_succ]
    refine lx_nil (by kernel_rfl) ?_
    obtain ⟨z0, z1, z2⟩ := HS
    have z3 := h0.thaw
    cases hx : (bits .andNot .u8 x y != 0) with
    | true =>
      go_wp2_with (go_at_call 64; refine (giveUp_any _ _).mono ?_; rintro e w2 ⟨rfl, rfl⟩)
      have HK : herr K X = 2 := by rw [HE.out, hx]; rfl
      exact ⟨rfl, bad_stp (by rw [HK]; decide) ⟨by rw [HK]; rfl, Keep.ofBelow hW0⟩⟩
    | false =>
      have HK : Hid (herr K X = 0) := by rw [HE.out, hx]; rfl
      by_cases hc1 : c = 1
      · subst hc1
        go_wp2
        go_ret
        obtain ⟨hat, hkp⟩ := h0.put h0.rd.cutAll (fun g => absurd g (Nat.lt_irrefl 0)) (by omega)
        rw [show X.drop 1 = [] from List.drop_of_length_le (by rw [hlen]; omega)]
        exact good_stp HK.out ⟨rfl, hat, (Keep.ofBelow hW0).trans hkp⟩
      · go_wp2
        go_ret
        obtain ⟨hat, hkp⟩ := h0.put (h0.rd.cut 1) (cut_apart h0.apart 1) (by have := h0.few; omega)
        exact good_stp HK.out ⟨rfl, hat, (Keep.ofBelow hW0).trans hkp⟩

end Go.Proofs.YtomkcmkbehcjnaaDoor
