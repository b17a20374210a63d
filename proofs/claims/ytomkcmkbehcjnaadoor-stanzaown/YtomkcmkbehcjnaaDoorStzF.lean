/- A reader's state; take: what a form answers, or giving up. -/
import Derived.Test.YtomkcmkbehcjnaaDoorStzE
import Derived.Test.YtomkcmkbehcjnaaDoorOwnA
import Derived.Test.YtomkcmkbehcjnaaDoorAnsC
namespace Go.Proofs.YtomkcmkbehcjnaaDoor
open Go.RowKit

def gaveUp (n : Int) : List PanicEntry := [{ v := .iface 72 (.agg #[.int .i64 n]), recovered := false }]

theorem giveUp_any (n : Int) (w : World) : Calls Tryd.prog 64 #[.int .i64 n] w fun e w' => e = .panicked (gaveUp n) ∧ w' = w := by
  go_enter Tryd.func64, Tryd.ntmps64
  go_wp2
  exact ⟨rfl, rfl, rfl⟩

/-- A reader: what is left of its bytes. -/
structure RdA (w : World) (r : Nat) (a : Option Addr) (n c : Nat) (X : List Int) : Prop where
  cell : w.cell? ⟨r, 0, none⟩ = some (.slice a n c)
  thaw : w.frozen? ⟨r, 0, none⟩ = false
  rd : Rd w a n c X
  apart : 0 < n → ∀ ad, a = some ad → ad.block < r
  few : n ≤ 100000
abbrev RdAt (w : World) (r : Nat) (X : List Int) : Prop := ∃ a n c, RdA w r a n c X

/-- What a reading step leaves. -/
abbrev Stp (E : Nat) (v : Value) (X' : List Int) (r : Nat) (w : World) (e : Ending) (w' : World) : Prop :=
  (E ≠ 0 ∧ e = .panicked (gaveUp E) ∧ Keep (fun k => k = r) w w') ∨ (E = 0 ∧ e = .returned v ∧ RdAt w' r X' ∧ Keep (fun k => k = r) w w')

theorem scan_take (X : List Int) : ∀ i acc, i ≤ 9 → scan (X.take (10 - i)) i acc = scan X i acc := by
  induction X with
  | nil => intro i acc _; simp
  | cons c r ih =>
    intro i acc hi
    obtain ⟨m, hm⟩ : ∃ m, 10 - i = m + 1 := ⟨9 - i, by omega⟩
    rw [hm, List.take_succ_cons, scan, scan]
    by_cases h9 : i = 9 ∧ 1 < c
    · rw [if_pos h9, if_pos h9]
    · rw [if_neg h9, if_neg h9]
      by_cases h128 : 128 ≤ c
      · rw [if_pos h128, if_pos h128]
        have h8 : i ≠ 9 := fun h => h9 ⟨h, by omega⟩
        have := ih (i + 1) (acc + (c % 128).toNat * 2 ^ (7 * i)) (by omega)
        rw [show 10 - (i + 1) = m by omega] at this
        exact this
      · rw [if_neg h128, if_neg h128]
theorem scan_take10 (X : List Int) : scan (X.take 10) 0 0 = scan X 0 0 := scan_take X 0 0 (by omega)

theorem Rd.keepP {S : Nat → Prop} {w w' : World} {a : Option Addr} {n c : Nat} {xs : List Int} (h : Rd w a n c xs) (hk : Keep S w w') (hs : 0 < n → ∀ ad, a = some ad → ¬ S ad.block) : Rd w' a n c xs :=
  ⟨h.len, h.cap, h.most, h.nil, h.bytes, fun ad ha j hj => by
    have hc := h.cells ad ha j hj
    exact hk.cell hc (by
      have : (ad.add j).block = ad.block := by unfold Addr.add; split <;> rfl
      rw [this]; exact hs (by omega) ad ha)⟩

theorem RdA.keep {S : Nat → Prop} {w w' : World} {r : Nat} {a : Option Addr} {n c : Nat} {X : List Int} (h : RdA w r a n c X) (k : Keep S w w') (hr : ¬ S r) (ha : ∀ j, j < r → ¬ S j) : RdA w' r a n c X := by
  refine ⟨k.cell h.cell hr, ?_, h.rd.keepP k (fun hn ad he => ha _ (h.apart hn ad he)), h.apart, h.few⟩
  have hb := k.block r (World.block_lt_of_cell? w _ h.cell) hr
  have := h.thaw
  simpa [World.frozen?, hb] using this

theorem uint_view {X : List Int} {N k E : Nat} (hs : scan X 0 0 = (N, k, E)) : (scan (X.take 10) 0 0).2.2 = E ∧ (E = 0 → uN (X.take 10) = N ∧ (uR (X.take 10)).length = (X.take 10).length - k ∧ k ≤ (X.take 10).length) := by
  have e : scan (X.take 10) 0 0 = (N, k, E) := (scan_take10 X).trans hs
  have l := (scan_le (X.take 10) 0 0).1
  rw [e] at l
  refine ⟨by rw [e], fun h0 => ?_⟩
  subst h0
  unfold uN uR
  rw [e]
  refine ⟨rfl, ?_, by simpa using l⟩
  show ((X.take 10).drop k).length = _
  rw [List.length_drop]

theorem RdA.put {w : World} {r : Nat} {a a' : Option Addr} {n c n' c' : Nat} {X X' : List Int} (h : RdA w r a n c X) (hr : Rd w a' n' c' X') (hap : 0 < n' → ∀ ad, a' = some ad → ad.block < r) (hf : n' ≤ 100000) :
    RdAt (w.setCell ⟨r, 0, none⟩ (.slice a' n' c')) r X' ∧ Keep (fun k => k = r) w (w.setCell ⟨r, 0, none⟩ (.slice a' n' c')) := by
  have k : Keep (fun k => k = r) w (w.setCell ⟨r, 0, none⟩ (.slice a' n' c')) := (Keep.refl (fun k => k = r) w).setCell (p := ⟨r, 0, none⟩) (show (fun k => k = r) r from rfl) _
  refine ⟨⟨a', n', c', ?_, ?_, hr.keepP k (fun hn ad he => Nat.ne_of_lt (hap hn ad he)), hap, hf⟩, k⟩
  · exact World.cell?_setCell_same _ _ _ h.cell
  · rw [World.frozen?_setCell]; exact h.thaw

theorem cut_apart {r n : Nat} {a : Option Addr} (h : 0 < n → ∀ ad, a = some ad → ad.block < r) (k : Nat) : 0 < n - k → ∀ ad, (a.map fun x => x.add k) = some ad → ad.block < r := by
  intro hn ad had
  cases a with
  | none => cases had
  | some x =>
    simp only [Option.map_some, Option.some.injEq] at had
    subst had
    have : (x.add k).block = x.block := by unfold Addr.add; split <;> rfl
    rw [this]; exact h (by omega) x rfl

set_option maxHeartbeats 3200000 in
set_option maxRecDepth 100000 in
theorem takeU_any (r : Nat) (a : Option Addr) (n c : Nat) (X : List Int) (w : World) (h : RdA w r a n c X) {N k E : Nat} (hs : scan X 0 0 = (N, k, E)) :
    Calls Tryd.prog 60 #[.pointer (some ⟨r, 0, none⟩), .int .i64 10, .func (.func 61) #[] #[]] w (Stp E (.int .u64 (N : Nat)) (X.drop k) r w) := by
  obtain ⟨m, hm, hm10, hmn⟩ : ∃ m : Nat, min (10 : Int) (n : Int) = (m : Int) ∧ m ≤ 10 ∧ m ≤ n := ⟨min 10 n, by omega, by omega, by omega⟩
  have hXm : X.take m = X.take 10 := by
    rcases Nat.lt_or_ge n 10 with g | g
    · rw [List.take_of_length_le (by rw [h.rd.len]; omega), List.take_of_length_le (by rw [h.rd.len]; omega)]
    · rw [show m = 10 by omega]
  have hcap := h.rd.cap
  have hmost := h.rd.most
  unfold maxLen at hmost
  obtain ⟨hvE, hv0⟩ := uint_view hs
  have HV : Hid (E = 0 → uN (X.take 10) = N ∧ (uR (X.take 10)).length = (X.take 10).length - k ∧ k ≤ (X.take 10).length) := hv0
  clear hv0 hs
  go_enter Tryd.func60, Tryd.ntmps60
  go_wp2
  refine wp_region_lx (fun w' => w'.cell? ⟨r, 0, none⟩ = some (.slice a n c)) [] 13 (by kernel_rfl) (by kernel_rfl) ?_
  have hW0 : Below w.heap.size w w.drew := (Below.refl _ _).drew
  have HS := (Keep.ofBelow (S := fun _ => False) hW0).cell h.cell (fun h => h)
  have h0 := h.keep (Keep.ofBelow (S := fun _ => False) hW0) (fun h => h) (fun _ _ h => h)
  generalize w.drew = W0 at HS h0 hW0 ⊢
  refine lx_rd 0 ?vR0 (by kernel_rfl) (fun _ _ d _ _ h => by cases d <;> exact h) (by kernel_rfl) HS rfl rfl rfl (fun w' hS => ?hR0) ?_
  case hR0 => first | (go_simp; rfl) | go_simp
  simp only [List.setIfInBounds_toArray, List.set_cons_zero, List.set_cons_succ]
  refine lx_rd 1 ?vR1 (by kernel_rfl) (fun _ _ d _ _ h => by cases d <;> exact h) (by kernel_rfl) HS rfl rfl rfl (fun w' hS => ?hR1) ?_
  case hR1 => first | (go_simp; rfl) | go_simp
  simp only [List.setIfInBounds_toArray, List.set_cons_zero, List.set_cons_succ]
  refine lx_rd 2 ?vR2 (by kernel_rfl) (fun _ _ d _ _ h => by cases d <;> exact h) (by kernel_rfl) HS rfl rfl rfl (fun w' hS => ?hR2) ?_
  case hR2 => first | (go_simp; rfl) | go_simp
  simp only [List.setIfInBounds_toArray, List.set_cons_zero, List.set_cons_succ]
  refine lx_rd 3 (.slice a n c) (by kernel_rfl) (fun _ _ d _ _ h => by cases d <;> exact h) (by kernel_rfl) HS rfl rfl rfl (fun w' hS => ?hR3) ?_
  case hR3 => have hq := hS; first | (go_simp; rfl) | go_simp
  simp only [List.setIfInBounds_toArray, List.set_cons_zero, List.set_cons_succ]
  refine lx_rd 4 ?vR4 (by kernel_rfl) (fun _ _ d _ _ h => by cases d <;> exact h) (by kernel_rfl) HS rfl rfl rfl (fun w' hS => ?hR4) ?_
  case hR4 => first | (go_simp; rfl) | go_simp
  simp only [List.setIfInBounds_toArray, List.set_cons_zero, List.set_cons_succ]
  refine lx_rd 5 ?vR5 (by kernel_rfl) (fun _ _ d _ _ h => by cases d <;> exact h) (by kernel_rfl) HS rfl rfl rfl (fun w' hS => ?hR5) ?_
  case hR5 => first | (go_simp; rfl) | go_simp
  simp only [List.setIfInBounds_toArray, List.set_cons_zero, List.set_cons_succ]
  refine lx_rd 6 ?vR6 (by kernel_rfl) (fun _ _ d _ _ h => by cases d <;> exact h) (by kernel_rfl) HS rfl rfl rfl (fun w' hS => ?hR6) ?_
  case hR6 => first | (go_simp; rfl) | go_simp
  simp only [List.setIfInBounds_toArray, List.set_cons_zero, List.set_cons_succ]
  refine lx_rd 7 ?vR7 (by kernel_rfl) (fun _ _ d _ _ h => by cases d <;> exact h) (by kernel_rfl) HS rfl rfl rfl (fun w' hS => ?hR7) ?_
  case hR7 => first | (go_simp; rfl) | go_simp
  simp only [List.setIfInBounds_toArray, List.set_cons_zero, List.set_cons_succ]
  refine lx_rd 8 (.slice a n c) (by kernel_rfl) (fun _ _ d _ _ h => by cases d <;> exact h) (by kernel_rfl) HS rfl rfl rfl (fun w' hS => ?hR8) ?_
  case hR8 => have hq := hS; first | (go_simp; rfl) | go_simp
  simp only [List.setIfInBounds_toArray, List.set_cons_zero, List.set_cons_succ]
  refine lx_rd 9 ?vR9 (by kernel_rfl) (fun _ _ d _ _ h => by cases d <;> exact h) (by kernel_rfl) HS rfl rfl rfl (fun w' hS => ?hR9) ?_
  case hR9 => first | (go_simp; rfl) | go_simp
  simp only [List.setIfInBounds_toArray, List.set_cons_zero, List.set_cons_succ]
  refine lx_rd 10 (.int .i64 (m : Int)) (by kernel_rfl) (fun _ _ d _ _ h => by cases d <;> exact h) (by kernel_rfl) HS rfl rfl rfl (fun w' hS => ?hR10) ?_
  case hR10 => have hq := hm; first | (go_simp; rfl) | go_simp
  simp only [List.setIfInBounds_toArray, List.set_cons_zero, List.set_cons_succ]
  refine lx_rd 11 (.slice a m c) (by kernel_rfl) (fun _ _ d _ _ h => by cases d <;> exact h) (by kernel_rfl) HS rfl rfl rfl (fun w' hS => ?hR11) ?_
  case hR11 => have hq : m ≤ c := (by omega); first | (go_simp; rfl) | go_simp
  simp only [List.setIfInBounds_toArray, List.set_cons_zero, List.set_cons_succ]
  refine lx_rd 12 ?vR12 (by kernel_rfl) (fun _ _ d _ _ h => by cases d <;> exact h) (by kernel_rfl) HS rfl rfl rfl (fun w' hS => ?hR12) ?_
  case hR12 => first | (go_simp; rfl) | go_simp
  simp only [List.setIfInBounds_toArray, List.set_cons_zero, List.set_cons_succ]
  refine lx_nil (by kernel_rfl) ?_
  have hR0 := h0.rd.take hmn
  rw [hXm] at hR0
  have hml : (X.take 10).length = m := hR0.len
  have cU := uintD (X.take 10) a m c W0 hR0 (by omega)
  unfold AnsU at cU
  rw [hvE] at cU
  clear hvE hm hXm HS hR0
  by_cases hE : E = 0
  · subst hE
    obtain ⟨hN, hlen, hk⟩ := HV.out rfl
    rw [hN] at cU
    rw [hml] at hlen hk
    clear HV hN hml
    by_cases hck : c = k
    · subst hck
      go_wp2_with (go_at_call 61; refine cU.mono ?_; rintro e w1 ⟨a1, n1, c1, rfl, hr1, hx1⟩; have hn1 := hr1.len; rw [hlen] at hn1; have h1 := h0.keep (Keep.ofBelow (S := fun _ => False) hx1) (fun h => h) (fun _ _ h => h); have z0 := h1.cell; have z1 := h1.thaw; have hsub : (m : Int) - (n1 : Int) = (c : Int) := (by omega); clear hn1 hr1 hlen)
      go_ret
      obtain ⟨hat, hkp⟩ := h1.put (h1.rd.cutAll) (fun g => absurd g (Nat.lt_irrefl 0)) (by omega)
      rw [show X.drop c = [] from List.drop_of_length_le (by rw [h.rd.len]; omega)]
      exact .inr ⟨rfl, rfl, hat, (Keep.ofBelow (hW0.trans (Below.mono hx1 hW0.size))).trans hkp⟩
    · go_wp2_with (go_at_call 61; refine cU.mono ?_; rintro e w1 ⟨a1, n1, c1, rfl, hr1, hx1⟩; have hn1 := hr1.len; rw [hlen] at hn1; have h1 := h0.keep (Keep.ofBelow (S := fun _ => False) hx1) (fun h => h) (fun _ _ h => h); have z0 := h1.cell; have z1 := h1.thaw; have hsub : (m : Int) - (n1 : Int) = (k : Int) := (by omega); clear hn1 hr1 hlen)
      go_ret
      obtain ⟨hat, hkp⟩ := h1.put (h1.rd.cut k) (cut_apart h1.apart k) (by have := h1.few; omega)
      exact .inr ⟨rfl, rfl, hat, (Keep.ofBelow (hW0.trans (Below.mono hx1 hW0.size))).trans hkp⟩
  · have hE' : ((E : Int) != 0) = true := by simp; omega
    go_wp2_with (first
      | (go_at_call 61; refine cU.mono ?_; rintro e w1 ⟨a1, n1, c1, rfl, hr1, hx1⟩)
      | (go_at_call 64; refine (giveUp_any _ _).mono ?_; rintro e w2 ⟨rfl, rfl⟩))
    exact ⟨rfl, .inl ⟨hE, rfl, Keep.ofBelow (hW0.trans (Below.mono hx1 hW0.size))⟩⟩


theorem int_view {X : List Int} {N k E : Nat} (hs : scan X 0 0 = (N, k, E)) : (scan (X.take 10) 0 0).2.2 = E ∧ (E = 0 → iN (X.take 10) = unfv N ∧ (uR (X.take 10)).length = (X.take 10).length - k ∧ k ≤ (X.take 10).length) := by
  have e : scan (X.take 10) 0 0 = (N, k, E) := (scan_take10 X).trans hs
  have v := uint_view hs
  refine ⟨v.1, fun h0 => ?_⟩
  obtain ⟨_, v2, v3⟩ := v.2 h0
  refine ⟨?_, v2, v3⟩
  subst h0
  unfold iN
  rw [e]; rfl

set_option maxHeartbeats 3200000 in
set_option maxRecDepth 100000 in
theorem takeI_any (r : Nat) (a : Option Addr) (n c : Nat) (X : List Int) (w : World) (h : RdA w r a n c X) {N k E : Nat} (hs : scan X 0 0 = (N, k, E)) :
    Calls Tryd.prog 73 #[.pointer (some ⟨r, 0, none⟩), .int .i64 10, .func (.func 74) #[] #[]] w (Stp E (.int .i64 (unfv N)) (X.drop k) r w) := by
  obtain ⟨m, hm, hm10, hmn⟩ : ∃ m : Nat, min (10 : Int) (n : Int) = (m : Int) ∧ m ≤ 10 ∧ m ≤ n := ⟨min 10 n, by omega, by omega, by omega⟩
  have hXm : X.take m = X.take 10 := by
    rcases Nat.lt_or_ge n 10 with g | g
    · rw [List.take_of_length_le (by rw [h.rd.len]; omega), List.take_of_length_le (by rw [h.rd.len]; omega)]
    · rw [show m = 10 by omega]
  have hcap := h.rd.cap
  have hmost := h.rd.most
  unfold maxLen at hmost
  obtain ⟨hvE, hv0⟩ := int_view hs
  have HV : Hid (E = 0 → iN (X.take 10) = unfv N ∧ (uR (X.take 10)).length = (X.take 10).length - k ∧ k ≤ (X.take 10).length) := hv0
  clear hv0 hs
  go_enter Tryd.func73, Tryd.ntmps73
  go_wp2
  refine wp_region_lx (fun w' => w'.cell? ⟨r, 0, none⟩ = some (.slice a n c)) [] 13 (by kernel_rfl) (by kernel_rfl) ?_
  have hW0 : Below w.heap.size w w.drew := (Below.refl _ _).drew
  have HS := (Keep.ofBelow (S := fun _ => False) hW0).cell h.cell (fun h => h)
  have h0 := h.keep (Keep.ofBelow (S := fun _ => False) hW0) (fun h => h) (fun _ _ h => h)
  generalize w.drew = W0 at HS h0 hW0 ⊢
  refine lx_rd 0 ?vR0 (by kernel_rfl) (fun _ _ d _ _ h => by cases d <;> exact h) (by kernel_rfl) HS rfl rfl rfl (fun w' hS => ?hR0) ?_
  case hR0 => first | (go_simp; rfl) | go_simp
  simp only [List.setIfInBounds_toArray, List.set_cons_zero, List.set_cons_succ]
  refine lx_rd 1 ?vR1 (by kernel_rfl) (fun _ _ d _ _ h => by cases d <;> exact h) (by kernel_rfl) HS rfl rfl rfl (fun w' hS => ?hR1) ?_
  case hR1 => first | (go_simp; rfl) | go_simp
  simp only [List.setIfInBounds_toArray, List.set_cons_zero, List.set_cons_succ]
  refine lx_rd 2 ?vR2 (by kernel_rfl) (fun _ _ d _ _ h => by cases d <;> exact h) (by kernel_rfl) HS rfl rfl rfl (fun w' hS => ?hR2) ?_
  case hR2 => first | (go_simp; rfl) | go_simp
  simp only [List.setIfInBounds_toArray, List.set_cons_zero, List.set_cons_succ]
  refine lx_rd 3 (.slice a n c) (by kernel_rfl) (fun _ _ d _ _ h => by cases d <;> exact h) (by kernel_rfl) HS rfl rfl rfl (fun w' hS => ?hR3) ?_
  case hR3 => have hq := hS; first | (go_simp; rfl) | go_simp
  simp only [List.setIfInBounds_toArray, List.set_cons_zero, List.set_cons_succ]
  refine lx_rd 4 ?vR4 (by kernel_rfl) (fun _ _ d _ _ h => by cases d <;> exact h) (by kernel_rfl) HS rfl rfl rfl (fun w' hS => ?hR4) ?_
  case hR4 => first | (go_simp; rfl) | go_simp
  simp only [List.setIfInBounds_toArray, List.set_cons_zero, List.set_cons_succ]
  refine lx_rd 5 ?vR5 (by kernel_rfl) (fun _ _ d _ _ h => by cases d <;> exact h) (by kernel_rfl) HS rfl rfl rfl (fun w' hS => ?hR5) ?_
  case hR5 => first | (go_simp; rfl) | go_simp
  simp only [List.setIfInBounds_toArray, List.set_cons_zero, List.set_cons_succ]
  refine lx_rd 6 ?vR6 (by kernel_rfl) (fun _ _ d _ _ h => by cases d <;> exact h) (by kernel_rfl) HS rfl rfl rfl (fun w' hS => ?hR6) ?_
  case hR6 => first | (go_simp; rfl) | go_simp
  simp only [List.setIfInBounds_toArray, List.set_cons_zero, List.set_cons_succ]
  refine lx_rd 7 ?vR7 (by kernel_rfl) (fun _ _ d _ _ h => by cases d <;> exact h) (by kernel_rfl) HS rfl rfl rfl (fun w' hS => ?hR7) ?_
  case hR7 => first | (go_simp; rfl) | go_simp
  simp only [List.setIfInBounds_toArray, List.set_cons_zero, List.set_cons_succ]
  refine lx_rd 8 (.slice a n c) (by kernel_rfl) (fun _ _ d _ _ h => by cases d <;> exact h) (by kernel_rfl) HS rfl rfl rfl (fun w' hS => ?hR8) ?_
  case hR8 => have hq := hS; first | (go_simp; rfl) | go_simp
  simp only [List.setIfInBounds_toArray, List.set_cons_zero, List.set_cons_succ]
  refine lx_rd 9 ?vR9 (by kernel_rfl) (fun _ _ d _ _ h => by cases d <;> exact h) (by kernel_rfl) HS rfl rfl rfl (fun w' hS => ?hR9) ?_
  case hR9 => first | (go_simp; rfl) | go_simp
  simp only [List.setIfInBounds_toArray, List.set_cons_zero, List.set_cons_succ]
  refine lx_rd 10 (.int .i64 (m : Int)) (by kernel_rfl) (fun _ _ d _ _ h => by cases d <;> exact h) (by kernel_rfl) HS rfl rfl rfl (fun w' hS => ?hR10) ?_
  case hR10 => have hq := hm; first | (go_simp; rfl) | go_simp
  simp only [List.setIfInBounds_toArray, List.set_cons_zero, List.set_cons_succ]
  refine lx_rd 11 (.slice a m c) (by kernel_rfl) (fun _ _ d _ _ h => by cases d <;> exact h) (by kernel_rfl) HS rfl rfl rfl (fun w' hS => ?hR11) ?_
  case hR11 => have hq : m ≤ c := (by omega); first | (go_simp; rfl) | go_simp
  simp only [List.setIfInBounds_toArray, List.set_cons_zero, List.set_cons_succ]
  refine lx_rd 12 ?vR12 (by kernel_rfl) (fun _ _ d _ _ h => by cases d <;> exact h) (by kernel_rfl) HS rfl rfl rfl (fun w' hS => ?hR12) ?_
  case hR12 => first | (go_simp; rfl) | go_simp
  simp only [List.setIfInBounds_toArray, List.set_cons_zero, List.set_cons_succ]
  refine lx_nil (by kernel_rfl) ?_
  have hR0 := h0.rd.take hmn
  rw [hXm] at hR0
  have hml : (X.take 10).length = m := hR0.len
  have cU := intD (X.take 10) a m c W0 hR0 (by omega)
  unfold AnsI at cU
  rw [hvE] at cU
  clear hvE hm hXm HS hR0
  by_cases hE : E = 0
  · subst hE
    obtain ⟨hN, hlen, hk⟩ := HV.out rfl
    rw [hN] at cU
    rw [hml] at hlen hk
    clear HV hN hml
    by_cases hck : c = k
    · subst hck
      go_wp2_with (go_at_call 74; refine cU.mono ?_; rintro e w1 ⟨a1, n1, c1, rfl, hr1, hx1⟩; have hn1 := hr1.len; rw [hlen] at hn1; have h1 := h0.keep (Keep.ofBelow (S := fun _ => False) hx1) (fun h => h) (fun _ _ h => h); have z0 := h1.cell; have z1 := h1.thaw; have hsub : (m : Int) - (n1 : Int) = (c : Int) := (by omega); clear hn1 hr1 hlen)
      go_ret
      obtain ⟨hat, hkp⟩ := h1.put (h1.rd.cutAll) (fun g => absurd g (Nat.lt_irrefl 0)) (by omega)
      rw [show X.drop c = [] from List.drop_of_length_le (by rw [h.rd.len]; omega)]
      exact .inr ⟨rfl, rfl, hat, (Keep.ofBelow (hW0.trans (Below.mono hx1 hW0.size))).trans hkp⟩
    · go_wp2_with (go_at_call 74; refine cU.mono ?_; rintro e w1 ⟨a1, n1, c1, rfl, hr1, hx1⟩; have hn1 := hr1.len; rw [hlen] at hn1; have h1 := h0.keep (Keep.ofBelow (S := fun _ => False) hx1) (fun h => h) (fun _ _ h => h); have z0 := h1.cell; have z1 := h1.thaw; have hsub : (m : Int) - (n1 : Int) = (k : Int) := (by omega); clear hn1 hr1 hlen)
      go_ret
      obtain ⟨hat, hkp⟩ := h1.put (h1.rd.cut k) (cut_apart h1.apart k) (by have := h1.few; omega)
      exact .inr ⟨rfl, rfl, hat, (Keep.ofBelow (hW0.trans (Below.mono hx1 hW0.size))).trans hkp⟩
  · have hE' : ((E : Int) != 0) = true := by simp; omega
    go_wp2_with (first
      | (go_at_call 74; refine cU.mono ?_; rintro e w1 ⟨a1, n1, c1, rfl, hr1, hx1⟩)
      | (go_at_call 64; refine (giveUp_any _ _).mono ?_; rintro e w2 ⟨rfl, rfl⟩))
    exact ⟨rfl, .inl ⟨hE, rfl, Keep.ofBelow (hW0.trans (Below.mono hx1 hW0.size))⟩⟩


theorem fv_take8 (X : List Int) : ∀ k, k ≤ 8 → fv (X.take 8) k = fv X k
  | 0, _ => rfl
  | k + 1, h => by
    rw [fv, fv, fv_take8 X k (by omega)]
    simp [List.getD, show k < 8 by omega]
theorem fbad_take (X : List Int) : fbad (X.take 8) = fbad X := by
  unfold fbad
  rw [fv_take8 X 8 (by omega), List.length_take]
  congr 1
  rw [decide_eq_decide]; omega
theorem float_view {X : List Int} {N k E : Nat} (hs : fE X = E) (hN : fN X = N) (hk : k = 8) : fE (X.take 8) = E ∧ (E = 0 → fN (X.take 8) = N ∧ (fR (X.take 8)).length = (X.take 8).length - k ∧ k ≤ (X.take 8).length) := by
  have e := fbad_take X
  refine ⟨by unfold fE at *; rw [e]; exact hs, fun h0 => ⟨by unfold fN at *; rw [e, fv_take8 X 8 (by omega)]; exact hN, ?_⟩⟩
  subst h0 hk
  have hb : fbad X = false := by
    unfold fE at hs
    cases h : fbad X with
    | false => rfl
    | true => rw [h] at hs; cases hs
  have hl : ¬ X.length < 8 := by
    unfold fbad at hb
    intro g
    simp [g] at hb
  unfold fR
  rw [e, hb]
  refine ⟨?_, by rw [List.length_take]; omega⟩
  show ((X.take 8).drop 8).length = _
  rw [List.length_drop]

set_option maxHeartbeats 3200000 in
set_option maxRecDepth 100000 in
theorem takeF_any (r : Nat) (a : Option Addr) (n c : Nat) (X : List Int) (w : World) (h : RdA w r a n c X) {N k E : Nat} (hs : fE X = E) (hN : fN X = N) (hk8 : Hid (k = 8)) :
    Calls Tryd.prog 75 #[.pointer (some ⟨r, 0, none⟩), .int .i64 8, .func (.func 76) #[] #[]] w (Stp E (.float .f64 N) (X.drop k) r w) := by
  obtain ⟨m, hm, hm10, hmn⟩ : ∃ m : Nat, min (8 : Int) (n : Int) = (m : Int) ∧ m ≤ 8 ∧ m ≤ n := ⟨min 8 n, by omega, by omega, by omega⟩
  have hXm : X.take m = X.take 8 := by
    rcases Nat.lt_or_ge n 8 with g | g
    · rw [List.take_of_length_le (by rw [h.rd.len]; omega), List.take_of_length_le (by rw [h.rd.len]; omega)]
    · rw [show m = 8 by omega]
  have hcap := h.rd.cap
  have hmost := h.rd.most
  unfold maxLen at hmost
  obtain ⟨hvE, hv0⟩ := float_view hs hN hk8.out
  have HV : Hid (E = 0 → fN (X.take 8) = N ∧ (fR (X.take 8)).length = (X.take 8).length - k ∧ k ≤ (X.take 8).length) := hv0
  clear hv0 hs hN hk8
  go_enter Tryd.func75, Tryd.ntmps75
  go_wp2
  refine wp_region_lx (fun w' => w'.cell? ⟨r, 0, none⟩ = some (.slice a n c)) [] 13 (by kernel_rfl) (by kernel_rfl) ?_
  have hW0 : Below w.heap.size w w.drew := (Below.refl _ _).drew
  have HS := (Keep.ofBelow (S := fun _ => False) hW0).cell h.cell (fun h => h)
  have h0 := h.keep (Keep.ofBelow (S := fun _ => False) hW0) (fun h => h) (fun _ _ h => h)
  generalize w.drew = W0 at HS h0 hW0 ⊢
  refine lx_rd 0 ?vR0 (by kernel_rfl) (fun _ _ d _ _ h => by cases d <;> exact h) (by kernel_rfl) HS rfl rfl rfl (fun w' hS => ?hR0) ?_
  case hR0 => first | (go_simp; rfl) | go_simp
  simp only [List.setIfInBounds_toArray, List.set_cons_zero, List.set_cons_succ]
  refine lx_rd 1 ?vR1 (by kernel_rfl) (fun _ _ d _ _ h => by cases d <;> exact h) (by kernel_rfl) HS rfl rfl rfl (fun w' hS => ?hR1) ?_
  case hR1 => first | (go_simp; rfl) | go_simp
  simp only [List.setIfInBounds_toArray, List.set_cons_zero, List.set_cons_succ]
  refine lx_rd 2 ?vR2 (by kernel_rfl) (fun _ _ d _ _ h => by cases d <;> exact h) (by kernel_rfl) HS rfl rfl rfl (fun w' hS => ?hR2) ?_
  case hR2 => first | (go_simp; rfl) | go_simp
  simp only [List.setIfInBounds_toArray, List.set_cons_zero, List.set_cons_succ]
  refine lx_rd 3 (.slice a n c) (by kernel_rfl) (fun _ _ d _ _ h => by cases d <;> exact h) (by kernel_rfl) HS rfl rfl rfl (fun w' hS => ?hR3) ?_
  case hR3 => have hq := hS; first | (go_simp; rfl) | go_simp
  simp only [List.setIfInBounds_toArray, List.set_cons_zero, List.set_cons_succ]
  refine lx_rd 4 ?vR4 (by kernel_rfl) (fun _ _ d _ _ h => by cases d <;> exact h) (by kernel_rfl) HS rfl rfl rfl (fun w' hS => ?hR4) ?_
  case hR4 => first | (go_simp; rfl) | go_simp
  simp only [List.setIfInBounds_toArray, List.set_cons_zero, List.set_cons_succ]
  refine lx_rd 5 ?vR5 (by kernel_rfl) (fun _ _ d _ _ h => by cases d <;> exact h) (by kernel_rfl) HS rfl rfl rfl (fun w' hS => ?hR5) ?_
  case hR5 => first | (go_simp; rfl) | go_simp
  simp only [List.setIfInBounds_toArray, List.set_cons_zero, List.set_cons_succ]
  refine lx_rd 6 ?vR6 (by kernel_rfl) (fun _ _ d _ _ h => by cases d <;> exact h) (by kernel_rfl) HS rfl rfl rfl (fun w' hS => ?hR6) ?_
  case hR6 => first | (go_simp; rfl) | go_simp
  simp only [List.setIfInBounds_toArray, List.set_cons_zero, List.set_cons_succ]
  refine lx_rd 7 ?vR7 (by kernel_rfl) (fun _ _ d _ _ h => by cases d <;> exact h) (by kernel_rfl) HS rfl rfl rfl (fun w' hS => ?hR7) ?_
  case hR7 => first | (go_simp; rfl) | go_simp
  simp only [List.setIfInBounds_toArray, List.set_cons_zero, List.set_cons_succ]
  refine lx_rd 8 (.slice a n c) (by kernel_rfl) (fun _ _ d _ _ h => by cases d <;> exact h) (by kernel_rfl) HS rfl rfl rfl (fun w' hS => ?hR8) ?_
  case hR8 => have hq := hS; first | (go_simp; rfl) | go_simp
  simp only [List.setIfInBounds_toArray, List.set_cons_zero, List.set_cons_succ]
  refine lx_rd 9 ?vR9 (by kernel_rfl) (fun _ _ d _ _ h => by cases d <;> exact h) (by kernel_rfl) HS rfl rfl rfl (fun w' hS => ?hR9) ?_
  case hR9 => first | (go_simp; rfl) | go_simp
  simp only [List.setIfInBounds_toArray, List.set_cons_zero, List.set_cons_succ]
  refine lx_rd 10 (.int .i64 (m : Int)) (by kernel_rfl) (fun _ _ d _ _ h => by cases d <;> exact h) (by kernel_rfl) HS rfl rfl rfl (fun w' hS => ?hR10) ?_
  case hR10 => have hq := hm; first | (go_simp; rfl) | go_simp
  simp only [List.setIfInBounds_toArray, List.set_cons_zero, List.set_cons_succ]
  refine lx_rd 11 (.slice a m c) (by kernel_rfl) (fun _ _ d _ _ h => by cases d <;> exact h) (by kernel_rfl) HS rfl rfl rfl (fun w' hS => ?hR11) ?_
  case hR11 => have hq : m ≤ c := (by omega); first | (go_simp; rfl) | go_simp
  simp only [List.setIfInBounds_toArray, List.set_cons_zero, List.set_cons_succ]
  refine lx_rd 12 ?vR12 (by kernel_rfl) (fun _ _ d _ _ h => by cases d <;> exact h) (by kernel_rfl) HS rfl rfl rfl (fun w' hS => ?hR12) ?_
  case hR12 => first | (go_simp; rfl) | go_simp
  simp only [List.setIfInBounds_toArray, List.set_cons_zero, List.set_cons_succ]
  refine lx_nil (by kernel_rfl) ?_
  have hR0 := h0.rd.take hmn
  rw [hXm] at hR0
  have hml : (X.take 8).length = m := hR0.len
  have cU := floatD (X.take 8) a m c W0 hR0 (by omega)
  unfold AnsF at cU
  rw [hvE] at cU
  clear hvE hm hXm HS hR0
  by_cases hE : E = 0
  · subst hE
    obtain ⟨hN, hlen, hk⟩ := HV.out rfl
    rw [hN] at cU
    rw [hml] at hlen hk
    clear HV hN hml
    by_cases hck : c = k
    · subst hck
      go_wp2_with (go_at_call 76; refine cU.mono ?_; rintro e w1 ⟨a1, n1, c1, rfl, hr1, hx1⟩; have hn1 := hr1.len; rw [hlen] at hn1; have h1 := h0.keep (Keep.ofBelow (S := fun _ => False) hx1) (fun h => h) (fun _ _ h => h); have z0 := h1.cell; have z1 := h1.thaw; have hsub : (m : Int) - (n1 : Int) = (c : Int) := (by omega); clear hn1 hr1 hlen)
      go_ret
      obtain ⟨hat, hkp⟩ := h1.put (h1.rd.cutAll) (fun g => absurd g (Nat.lt_irrefl 0)) (by omega)
      rw [show X.drop c = [] from List.drop_of_length_le (by rw [h.rd.len]; omega)]
      exact .inr ⟨rfl, rfl, hat, (Keep.ofBelow (hW0.trans (Below.mono hx1 hW0.size))).trans hkp⟩
    · go_wp2_with (go_at_call 76; refine cU.mono ?_; rintro e w1 ⟨a1, n1, c1, rfl, hr1, hx1⟩; have hn1 := hr1.len; rw [hlen] at hn1; have h1 := h0.keep (Keep.ofBelow (S := fun _ => False) hx1) (fun h => h) (fun _ _ h => h); have z0 := h1.cell; have z1 := h1.thaw; have hsub : (m : Int) - (n1 : Int) = (k : Int) := (by omega); clear hn1 hr1 hlen)
      go_ret
      obtain ⟨hat, hkp⟩ := h1.put (h1.rd.cut k) (cut_apart h1.apart k) (by have := h1.few; omega)
      exact .inr ⟨rfl, rfl, hat, (Keep.ofBelow (hW0.trans (Below.mono hx1 hW0.size))).trans hkp⟩
  · have hE' : ((E : Int) != 0) = true := by simp; omega
    go_wp2_with (first
      | (go_at_call 76; refine cU.mono ?_; rintro e w1 ⟨a1, n1, c1, rfl, hr1, hx1⟩)
      | (go_at_call 64; refine (giveUp_any _ _).mono ?_; rintro e w2 ⟨rfl, rfl⟩))
    exact ⟨rfl, .inl ⟨hE, rfl, Keep.ofBelow (hW0.trans (Below.mono hx1 hW0.size))⟩⟩


/-- What a text of up to 1024 bytes reads as: how many bytes its form has. -/
def tlen (X : List Int) : Nat := (scan X 0 0).2.1 + (scan X 0 0).1

theorem scan_take1034 (X : List Int) : scan (X.take 1034) 0 0 = scan X 0 0 := by
  rw [← scan_take10 (X.take 1034), List.take_take, show min 10 1034 = 10 from rfl, scan_take10]
theorem scan_sz (X : List Int) : ∀ i acc, i ≤ 9 → (scan X i acc).2.1 ≤ 10 := by
  induction X with
  | nil => intro i acc _; simp [scan]
  | cons c r ih =>
    intro i acc hi
    rw [scan]
    by_cases h9 : i = 9 ∧ 1 < c
    · rw [if_pos h9]; simp
    · rw [if_neg h9]
      by_cases h128 : 128 ≤ c
      · rw [if_pos h128]
        exact ih (i + 1) _ (by omega)
      · rw [if_neg h128]
        split
        · simp
        · simp; omega
theorem take_win {X : List Int} {s n : Nat} (h : s + n ≤ 1034) : ((X.take 1034).drop s).take n = (X.drop s).take n := by
  rw [List.drop_take, List.take_take, Nat.min_eq_left (by omega)]
theorem terr_take (X : List Int) : terr (X.take 1034) 1024 = terr X 1024 := by
  unfold terr
  rw [scan_take1034]
  have h10 := scan_sz X 0 0 (by omega)
  generalize (scan X 0 0).2.2 = E
  generalize (scan X 0 0).2.1 = s at h10
  generalize (scan X 0 0).1 = n
  by_cases hE : E ≠ 0
  · rw [if_pos hE, if_pos hE]
  · rw [if_neg hE, if_neg hE]
    by_cases hb : max (1024 : Int) 0 < (n : Int)
    · rw [if_pos hb, if_pos hb]
    · rw [if_neg hb, if_neg hb]
      have hn : n ≤ 1024 := by omega
      rw [take_win (by omega), List.length_take]
      have e1 : (min 1034 X.length - s < n) ↔ (X.length - s < n) := by omega
      by_cases hl : X.length - s < n
      · rw [if_pos (e1.2 hl), if_pos hl]
      · rw [if_neg (fun g => hl (e1.1 g)), if_neg hl]
theorem terr_ok {X : List Int} (h : terr X 1024 = 0) : (scan X 0 0).2.2 = 0 ∧ (scan X 0 0).1 ≤ 1024 ∧ (scan X 0 0).1 ≤ X.length - (scan X 0 0).2.1 ∧ vld ((X.drop (scan X 0 0).2.1).take (scan X 0 0).1) = true := by
  unfold terr at h
  split at h
  · rename_i g; exact absurd h g
  · rename_i g
    split at h
    · cases h
    · rename_i g1
      split at h
      · cases h
      · rename_i g2
        split at h
        · rename_i g3; exact ⟨by omega, by omega, by omega, g3⟩
        · cases h
theorem text_view {X : List Int} {S : ByteArray} {k E : Nat} (hs : terr X 1024 = E) (hS : tN X 1024 = S) (hk : tlen X = k) : terr (X.take 1034) 1024 = E ∧ (E = 0 → tN (X.take 1034) 1024 = S ∧ (tR (X.take 1034) 1024).length = (X.take 1034).length - k ∧ k ≤ (X.take 1034).length) := by
  have e := terr_take X
  refine ⟨e.trans hs, fun h0 => ?_⟩
  subst h0
  obtain ⟨g0, g1, g2, _⟩ := terr_ok hs
  have h10 := scan_sz X 0 0 (by omega)
  have hle := (scan_le X 0 0).1
  have hwin := take_win (X := X) (s := (scan X 0 0).2.1) (n := (scan X 0 0).1) (by omega)
  unfold tlen at hk
  refine ⟨?_, ?_, ?_⟩
  · rw [← hS]; unfold tN; rw [e, scan_take1034, hwin]
  · unfold tR; rw [e, hs, scan_take1034, if_pos rfl, List.drop_drop, List.length_drop, hk]
  · rw [List.length_take]; omega

theorem textC_any (X : List Int) (a : Option Addr) (n c : Nat) (w : World) (h : Rd w a n c X) (hT : Tabs w) (hn : n ≤ 1000000) : Calls Tryd.prog 79 #[.slice a n c] w (AnsT X 1024 w) := by
  go_enter Tryd.func79, Tryd.ntmps79
  go_wp2_with (go_at_call 80; refine (textD X 1024 a n c _ h hT hn (by omega) (by omega)).mono ?_; rintro e w1 ⟨a1, n1, c1, rfl, hr, hx⟩)
  go_ret3
  exact ⟨a1, n1, c1, rfl, hr, hx⟩

set_option maxHeartbeats 3200000 in
set_option maxRecDepth 100000 in
theorem takeT_any (r : Nat) (a : Option Addr) (n c : Nat) (X : List Int) (w : World) (h : RdA w r a n c X) (hT : Tabs w) {S : ByteArray} {k E : Nat} (hs : terr X 1024 = E) (hS : tN X 1024 = S) (hk : tlen X = k) :
    Calls Tryd.prog 78 #[.pointer (some ⟨r, 0, none⟩), .int .i64 1034, .func (.func 79) #[] #[]] w (Stp E (.string S) (X.drop k) r w) := by
  obtain ⟨m, hm, hm10, hmn⟩ : ∃ m : Nat, min (1034 : Int) (n : Int) = (m : Int) ∧ m ≤ 1034 ∧ m ≤ n := ⟨min 1034 n, by omega, by omega, by omega⟩
  have hXm : X.take m = X.take 1034 := by
    rcases Nat.lt_or_ge n 1034 with g | g
    · rw [List.take_of_length_le (by rw [h.rd.len]; omega), List.take_of_length_le (by rw [h.rd.len]; omega)]
    · rw [show m = 1034 by omega]
  have hcap := h.rd.cap
  have hmost := h.rd.most
  unfold maxLen at hmost
  obtain ⟨hvE, hv0⟩ := text_view hs hS hk
  have HV : Hid (E = 0 → tN (X.take 1034) 1024 = S ∧ (tR (X.take 1034) 1024).length = (X.take 1034).length - k ∧ k ≤ (X.take 1034).length) := hv0
  clear hv0 hs hS hk
  go_enter Tryd.func78, Tryd.ntmps78
  go_wp2
  refine wp_region_lx (fun w' => w'.cell? ⟨r, 0, none⟩ = some (.slice a n c)) [] 13 (by kernel_rfl) (by kernel_rfl) ?_
  have hW0 : Below w.heap.size w w.drew := (Below.refl _ _).drew
  have HS := (Keep.ofBelow (S := fun _ => False) hW0).cell h.cell (fun h => h)
  have h0 := h.keep (Keep.ofBelow (S := fun _ => False) hW0) (fun h => h) (fun _ _ h => h)
  generalize w.drew = W0 at HS h0 hW0 ⊢
  refine lx_rd 0 ?vR0 (by kernel_rfl) (fun _ _ d _ _ h => by cases d <;> exact h) (by kernel_rfl) HS rfl rfl rfl (fun w' hS => ?hR0) ?_
  case hR0 => first | (go_simp; rfl) | go_simp
  simp only [List.setIfInBounds_toArray, List.set_cons_zero, List.set_cons_succ]
  refine lx_rd 1 ?vR1 (by kernel_rfl) (fun _ _ d _ _ h => by cases d <;> exact h) (by kernel_rfl) HS rfl rfl rfl (fun w' hS => ?hR1) ?_
  case hR1 => first | (go_simp; rfl) | go_simp
  simp only [List.setIfInBounds_toArray, List.set_cons_zero, List.set_cons_succ]
  refine lx_rd 2 ?vR2 (by kernel_rfl) (fun _ _ d _ _ h => by cases d <;> exact h) (by kernel_rfl) HS rfl rfl rfl (fun w' hS => ?hR2) ?_
  case hR2 => first | (go_simp; rfl) | go_simp
  simp only [List.setIfInBounds_toArray, List.set_cons_zero, List.set_cons_succ]
  refine lx_rd 3 (.slice a n c) (by kernel_rfl) (fun _ _ d _ _ h => by cases d <;> exact h) (by kernel_rfl) HS rfl rfl rfl (fun w' hS => ?hR3) ?_
  case hR3 => have hq := hS; first | (go_simp; rfl) | go_simp
  simp only [List.setIfInBounds_toArray, List.set_cons_zero, List.set_cons_succ]
  refine lx_rd 4 ?vR4 (by kernel_rfl) (fun _ _ d _ _ h => by cases d <;> exact h) (by kernel_rfl) HS rfl rfl rfl (fun w' hS => ?hR4) ?_
  case hR4 => first | (go_simp; rfl) | go_simp
  simp only [List.setIfInBounds_toArray, List.set_cons_zero, List.set_cons_succ]
  refine lx_rd 5 ?vR5 (by kernel_rfl) (fun _ _ d _ _ h => by cases d <;> exact h) (by kernel_rfl) HS rfl rfl rfl (fun w' hS => ?hR5) ?_
  case hR5 => first | (go_simp; rfl) | go_simp
  simp only [List.setIfInBounds_toArray, List.set_cons_zero, List.set_cons_succ]
  refine lx_rd 6 ?vR6 (by kernel_rfl) (fun _ _ d _ _ h => by cases d <;> exact h) (by kernel_rfl) HS rfl rfl rfl (fun w' hS => ?hR6) ?_
  case hR6 => first | (go_simp; rfl) | go_simp
  simp only [List.setIfInBounds_toArray, List.set_cons_zero, List.set_cons_succ]
  refine lx_rd 7 ?vR7 (by kernel_rfl) (fun _ _ d _ _ h => by cases d <;> exact h) (by kernel_rfl) HS rfl rfl rfl (fun w' hS => ?hR7) ?_
  case hR7 => first | (go_simp; rfl) | go_simp
  simp only [List.setIfInBounds_toArray, List.set_cons_zero, List.set_cons_succ]
  refine lx_rd 8 (.slice a n c) (by kernel_rfl) (fun _ _ d _ _ h => by cases d <;> exact h) (by kernel_rfl) HS rfl rfl rfl (fun w' hS => ?hR8) ?_
  case hR8 => have hq := hS; first | (go_simp; rfl) | go_simp
  simp only [List.setIfInBounds_toArray, List.set_cons_zero, List.set_cons_succ]
  refine lx_rd 9 ?vR9 (by kernel_rfl) (fun _ _ d _ _ h => by cases d <;> exact h) (by kernel_rfl) HS rfl rfl rfl (fun w' hS => ?hR9) ?_
  case hR9 => first | (go_simp; rfl) | go_simp
  simp only [List.setIfInBounds_toArray, List.set_cons_zero, List.set_cons_succ]
  refine lx_rd 10 (.int .i64 (m : Int)) (by kernel_rfl) (fun _ _ d _ _ h => by cases d <;> exact h) (by kernel_rfl) HS rfl rfl rfl (fun w' hS => ?hR10) ?_
  case hR10 => have hq := hm; first | (go_simp; rfl) | go_simp
  simp only [List.setIfInBounds_toArray, List.set_cons_zero, List.set_cons_succ]
  refine lx_rd 11 (.slice a m c) (by kernel_rfl) (fun _ _ d _ _ h => by cases d <;> exact h) (by kernel_rfl) HS rfl rfl rfl (fun w' hS => ?hR11) ?_
  case hR11 => have hq : m ≤ c := (by omega); first | (go_simp; rfl) | go_simp
  simp only [List.setIfInBounds_toArray, List.set_cons_zero, List.set_cons_succ]
  refine lx_rd 12 ?vR12 (by kernel_rfl) (fun _ _ d _ _ h => by cases d <;> exact h) (by kernel_rfl) HS rfl rfl rfl (fun w' hS => ?hR12) ?_
  case hR12 => first | (go_simp; rfl) | go_simp
  simp only [List.setIfInBounds_toArray, List.set_cons_zero, List.set_cons_succ]
  refine lx_nil (by kernel_rfl) ?_
  have hR0 := h0.rd.take hmn
  rw [hXm] at hR0
  have hml : (X.take 1034).length = m := hR0.len
  have cU := textC_any (X.take 1034) a m c W0 hR0 (hT.carry hW0) (by omega)
  unfold AnsT at cU
  rw [hvE] at cU
  clear hvE hm hXm HS hR0
  by_cases hE : E = 0
  · subst hE
    obtain ⟨hN, hlen, hk⟩ := HV.out rfl
    rw [hN] at cU
    rw [hml] at hlen hk
    clear HV hN hml
    by_cases hck : c = k
    · subst hck
      go_wp2_with (go_at_call 79; refine cU.mono ?_; rintro e w1 ⟨a1, n1, c1, rfl, hr1, hx1⟩; have hn1 := hr1.len; rw [hlen] at hn1; have h1 := h0.keep (Keep.ofBelow (S := fun _ => False) hx1) (fun h => h) (fun _ _ h => h); have z0 := h1.cell; have z1 := h1.thaw; have hsub : (m : Int) - (n1 : Int) = (c : Int) := (by omega); clear hn1 hr1 hlen)
      go_ret
      obtain ⟨hat, hkp⟩ := h1.put (h1.rd.cutAll) (fun g => absurd g (Nat.lt_irrefl 0)) (by omega)
      rw [show X.drop c = [] from List.drop_of_length_le (by rw [h.rd.len]; omega)]
      exact .inr ⟨rfl, rfl, hat, (Keep.ofBelow (hW0.trans (Below.mono hx1 hW0.size))).trans hkp⟩
    · go_wp2_with (go_at_call 79; refine cU.mono ?_; rintro e w1 ⟨a1, n1, c1, rfl, hr1, hx1⟩; have hn1 := hr1.len; rw [hlen] at hn1; have h1 := h0.keep (Keep.ofBelow (S := fun _ => False) hx1) (fun h => h) (fun _ _ h => h); have z0 := h1.cell; have z1 := h1.thaw; have hsub : (m : Int) - (n1 : Int) = (k : Int) := (by omega); clear hn1 hr1 hlen)
      go_ret
      obtain ⟨hat, hkp⟩ := h1.put (h1.rd.cut k) (cut_apart h1.apart k) (by have := h1.few; omega)
      exact .inr ⟨rfl, rfl, hat, (Keep.ofBelow (hW0.trans (Below.mono hx1 hW0.size))).trans hkp⟩
  · have hE' : ((E : Int) != 0) = true := by simp; omega
    go_wp2_with (first
      | (go_at_call 79; refine cU.mono ?_; rintro e w1 ⟨a1, n1, c1, rfl, hr1, hx1⟩)
      | (go_at_call 64; refine (giveUp_any _ _).mono ?_; rintro e w2 ⟨rfl, rfl⟩))
    exact ⟨rfl, .inl ⟨hE, rfl, Keep.ofBelow (hW0.trans (Below.mono hx1 hW0.size))⟩⟩


theorem text1_any (r : Nat) (a : Option Addr) (n c : Nat) (X : List Int) (w : World) (h : RdA w r a n c X) (hT : Tabs w) {S : ByteArray} {k E : Nat} (hs : terr X 1024 = E) (hS : tN X 1024 = S) (hk : tlen X = k) :
    Calls Tryd.prog 71 #[.pointer (some ⟨r, 0, none⟩)] w (Stp E (.string S) (X.drop k) r w) := by
  have cT := takeT_any r a n c X w h hT hs hS hk
  clear hs hS hk
  by_cases hE : E = 0
  · subst hE
    have cT' := cT.mono (fun e w' g => g.resolve_left (fun g => g.1 rfl) : ∀ e w', _ → ((0 : Nat) = 0 ∧ e = .returned (.string S) ∧ RdAt w' r (X.drop k) ∧ Keep (fun k => k = r) w w'))
    clear cT
    go_enter Tryd.func71, Tryd.ntmps71
    go_wp2_with (go_at_call 78; refine cT'.mono ?_; rintro e w1 ⟨_, rfl, hat, hk⟩)
    go_ret
    exact .inr ⟨rfl, rfl, hat, hk⟩
  · have cT' := cT.mono (fun e w' g => g.resolve_right (fun g => hE g.1) : ∀ e w', _ → (E ≠ 0 ∧ e = .panicked (gaveUp E) ∧ Keep (fun k => k = r) w w'))
    clear cT
    go_enter Tryd.func71, Tryd.ntmps71
    go_wp2_with (go_at_call 78; refine cT'.mono ?_; rintro e w1 ⟨_, rfl, hk⟩)
    exact ⟨rfl, .inl ⟨hE, rfl, hk⟩⟩

end Go.Proofs.YtomkcmkbehcjnaaDoor
