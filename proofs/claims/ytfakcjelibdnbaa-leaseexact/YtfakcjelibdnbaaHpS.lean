/- Slices of texts; roostkeep.Same of the same texts. -/
import Derived.Test.YtfakcjelibdnbaaHpD
import Derived.Test.YtfakcjelibdnbaaLate
namespace Go.Proofs.Ytfakcjelibdnbaa
open Go.RowKit

/-- What a slice of texts reads as. -/
structure SRd (w : World) (a : Option Addr) (n c : Nat) (ss : List ByteArray) : Prop where
  len : ss.length = n
  cap : n ≤ c
  most : c ≤ maxLen
  nil : a = none → c = 0
  cells : ∀ ad, a = some ad → ∀ j, j < n → w.cell? (ad.add j) = some (.string (ss.getD j ⟨#[]⟩))
theorem SRd.carry {w w' : World} {a : Option Addr} {n c : Nat} {ss : List ByteArray} (h : SRd w a n c ss) (hb : Below w.heap.size w w') : SRd w' a n c ss :=
  ⟨h.len, h.cap, h.most, h.nil, fun ad ha j hj => by
    have hc := h.cells ad ha j hj
    rw [hb.cell (World.block_lt_of_cell? w _ hc)]; exact hc⟩
theorem SRd.flat {w : World} {a : Option Addr} {n c : Nat} {ss : List ByteArray} (h : SRd w a n c ss) (hn : 0 < n) : ∃ b off, a = some ⟨b, off, none⟩ ∧ ∀ j, j < n → w.cell? ⟨b, off + j, none⟩ = some (.string (ss.getD j ⟨#[]⟩)) := by
  cases a with
  | none => have := h.nil rfl; have := h.cap; omega
  | some ad =>
    obtain ⟨b, off, spot⟩ := ad
    have hc := h.cells _ rfl 0 hn
    have hspot : spot = none := by simpa [Addr.add] using World.cell?_spot hc
    subst hspot
    refine ⟨b, off, rfl, fun j hj => ?_⟩
    have := h.cells _ rfl j hj
    rw [add_flat] at this
    exact this

theorem infoStr : (Try.prog.info? 9).map (fun i => (i.zero, i.size, i.bytes)) = some (some (.string ⟨#[]⟩), 1, 16) := by kernel_rfl
/-- The cells of texts. -/
def sc (ss : List ByteArray) : List Value := ss.map Value.string
theorem sc_len (ss : List ByteArray) : (sc ss).length = ss.length := by simp [sc]
theorem SRd.ofOwn {w : World} {base : Nat} {v : Value} {n : Nat} {ss : List ByteArray} (h : w.ownsRow base 9 1 v n (sc ss)) : ∃ a c, v = .slice a n c ∧ SRd w a n c ss := by
  have hl : ss.length = n := by have := h.1; simpa [sc_len] using this
  rcases h.2 with ⟨hv, hn⟩ | ⟨g, cap, cur, hv, hg, hh, hnc, hm, hsz, ht⟩
  · subst hv; subst hn
    exact ⟨none, 0, rfl, hl, Nat.le_refl _, by unfold maxLen; omega, fun _ => rfl, fun ad ha => by cases ha⟩
  · subst hv
    refine ⟨some ⟨g, 0, none⟩, cap, rfl, hl, hnc, hm, (fun ha => by cases ha), fun ad ha j hj => ?_⟩
    have hcell := h.cells (g := g) rfl j (.string (ss.getD j ⟨#[]⟩)) (by
      have : j < ss.length := by omega
      simp [sc, List.getD, List.getElem?_eq_getElem this])
    cases ha
    exact hcell

theorem str_beq (s : ByteArray) : (s.toList == s.toList) = true := by simp

set_option maxHeartbeats 800000 in
theorem kSame_true (a : Option Addr) (n c : Nat) (b : Option Addr) (c' : Nat) (ss : List ByteArray) (w : World) (h : SRd w a n c ss) (h' : SRd w b n c' ss) :
    Calls Try.prog 11 #[.slice a n c, .slice b n c'] w fun e w' => e = .returned (.bool true) ∧ Below w.heap.size w w' := by
  have hcap := h.cap
  have hmost := h.most
  have hcap' := h'.cap
  have hmost' := h'.most
  unfold maxLen at hmost hmost'
  go_enter Try.func11, Try.ntmps11
  go_wp2
  go_loopw [5] (fun i wr => ∃ k : Nat, k ≤ n ∧ i = .int .i64 k ∧ Below w.heap.size w wr) (fun i _ => n - (intOf i).toNat)
  case atStart => exact ⟨0, by omega, rfl, Below.refl _ _⟩
  case round =>
    obtain ⟨k, hk, rfl, hb⟩ := hrel
    by_cases hkn : (k : Int) < (n : Int)
    · obtain ⟨b1, o1, rfl, hcell⟩ := (h.carry hb).flat (by omega)
      obtain ⟨b2, o2, rfl, hcell'⟩ := (h'.carry hb).flat (by omega)
      have hc := hcell k (by omega)
      have hc' := hcell' k (by omega)
      clear hcell hcell' h h'
      generalize ss.getD k ⟨#[]⟩ = s at hc hc'
      have hse := str_beq s
      go_upto_region 6 with fail
      refine wp_region_lx (fun w' => w'.cell? ⟨b1, o1 + k, none⟩ = some (.string s) ∧ w'.cell? ⟨b2, o2 + k, none⟩ = some (.string s)) [] 9 (by kernel_rfl) (by kernel_rfl) ?_
      have hbd := hb.drew
      have HS0 : wr.drew.cell? ⟨b1, o1 + k, none⟩ = some (.string s) ∧ wr.drew.cell? ⟨b2, o2 + k, none⟩ = some (.string s) := ⟨hc, hc'⟩
      clear hb hc hc'
      generalize wr.drew = W5 at hbd HS0 ⊢
      have HS : W5.cell? ⟨b1, o1 + k, none⟩ = some (.string s) ∧ W5.cell? ⟨b2, o2 + k, none⟩ = some (.string s) := HS0
      refine lx_rd 0 ?vR0 (by kernel_rfl) (fun _ _ d _ _ h => by cases d <;> exact h) (by kernel_rfl) HS rfl rfl rfl (fun w' hS => ?hR0) ?_
      case hR0 => first | (go_simp; rfl) | go_simp
      simp only [List.setIfInBounds_toArray, List.set_cons_zero, List.set_cons_succ]
      refine lx_rd 1 ?vR1 (by kernel_rfl) (fun _ _ d _ _ h => by cases d <;> exact h) (by kernel_rfl) HS rfl rfl rfl (fun w' hS => ?hR1) ?_
      case hR1 => first | (go_simp; rfl) | go_simp
      simp only [List.setIfInBounds_toArray, List.set_cons_zero, List.set_cons_succ]
      refine lx_rd 2 ?vR2 (by kernel_rfl) (fun _ _ d _ _ h => by cases d <;> exact h) (by kernel_rfl) HS rfl rfl rfl (fun w' hS => ?hR2) ?_
      case hR2 => first | (go_simp; rfl) | go_simp
      simp only [List.setIfInBounds_toArray, List.set_cons_zero, List.set_cons_succ]
      refine lx_rd 3 (.string s) (by kernel_rfl) (fun _ _ d _ _ h => by cases d <;> exact h) (by kernel_rfl) HS rfl rfl rfl (fun w' hS => ?hR3) ?_
      case hR3 => have hq := hS.1; first | (go_simp; rfl) | go_simp
      simp only [List.setIfInBounds_toArray, List.set_cons_zero, List.set_cons_succ]
      refine lx_rd 4 ?vR4 (by kernel_rfl) (fun _ _ d _ _ h => by cases d <;> exact h) (by kernel_rfl) HS rfl rfl rfl (fun w' hS => ?hR4) ?_
      case hR4 => first | (go_simp; rfl) | go_simp
      simp only [List.setIfInBounds_toArray, List.set_cons_zero, List.set_cons_succ]
      refine lx_rd 5 ?vR5 (by kernel_rfl) (fun _ _ d _ _ h => by cases d <;> exact h) (by kernel_rfl) HS rfl rfl rfl (fun w' hS => ?hR5) ?_
      case hR5 => first | (go_simp; rfl) | go_simp
      simp only [List.setIfInBounds_toArray, List.set_cons_zero, List.set_cons_succ]
      refine lx_rd 6 ?vR6 (by kernel_rfl) (fun _ _ d _ _ h => by cases d <;> exact h) (by kernel_rfl) HS rfl rfl rfl (fun w' hS => ?hR6) ?_
      case hR6 => first | (go_simp; rfl) | go_simp
      simp only [List.setIfInBounds_toArray, List.set_cons_zero, List.set_cons_succ]
      refine lx_rd 7 (.string s) (by kernel_rfl) (fun _ _ d _ _ h => by cases d <;> exact h) (by kernel_rfl) HS rfl rfl rfl (fun w' hS => ?hR7) ?_
      case hR7 => have hq := hS.2; first | (go_simp; rfl) | go_simp
      simp only [List.setIfInBounds_toArray, List.set_cons_zero, List.set_cons_succ]
      refine lx_rd 8 ?vR8 (by kernel_rfl) (fun _ _ d _ _ h => by cases d <;> exact h) (by kernel_rfl) HS rfl rfl rfl (fun w' hS => ?hR8) ?_
      case hR8 => first | (go_simp; rfl) | go_simp
      simp only [List.setIfInBounds_toArray, List.set_cons_zero, List.set_cons_succ]
      refine lx_nil (by kernel_rfl) ?_
      go_wp2
      go_roundw
      case rel => exact ⟨k + 1, by omega, by go_num, hbd⟩
      case measure => simp [intOf]; omega
    · go_wp2
      go_ret
      exact ⟨rfl, hb⟩

end Go.Proofs.Ytfakcjelibdnbaa
