/- lease: the document's heap: at, first, End, Next. -/
import Derived.Test.YtfakcjelibdnbaaHlP
namespace Go.Proofs.Ytfakcjelibdnbaa
open Go.RowKit Go.Joins

theorem infoF : (Try.prog.info? 39).map (fun i => (i.zero, i.size, i.bytes)) = some (some (.float .f64 0), 1, 8) := by kernel_rfl
/-- The cells of ends. -/
def fc (es : List Nat) : List Value := es.map (Value.float .f64)
def ks (L : Le) : List ByteArray := L.map (·.1)
def es (L : Le) : List Nat := L.map (·.2)
theorem ks_len (L : Le) : (ks L).length = L.length := by simp [ks]
theorem es_len (L : Le) : (es L).length = L.length := by simp [es]
theorem fc_len (l : List Nat) : (fc l).length = l.length := by simp [fc]

theorem str_beqL (s t : ByteArray) : (s.toList == t.toList) = decide (s = t) := by
  by_cases h : s = t
  · subst h; simp
  · rw [decide_eq_false h, beq_eq_false_iff_ne]
    intro e
    rw [Lib.toList_data, Lib.toList_data] at e
    exact h (ba_ext e)
theorem own_flat {w : World} {e : TypeId} {g : Option Nat} {n c : Nat} {xs : List Value} (h : w.ownsRow 0 e 1 (sl g n c) n xs) (hn : 0 < n) : ∃ b, g = some b ∧ ∀ i, i < n → w.cell? ⟨b, i, none⟩ = xs[i]? := by
  cases g with
  | none =>
    rcases h.2 with ⟨e, hz⟩ | ⟨b, cap, cur, e, _⟩
    · omega
    · cases e
  | some b =>
    refine ⟨b, rfl, fun i hi => ?_⟩
    have hl := h.1
    have hx : i < xs.length := by omega
    rw [List.getElem?_eq_getElem hx]
    have := h.cells (g := b) rfl i xs[i] (List.getElem?_eq_getElem hx)
    rw [add_flat, Nat.zero_add] at this
    exact this
theorem own_cap {w : World} {e : TypeId} {g : Option Nat} {n c : Nat} {xs : List Value} (h : w.ownsRow 0 e 1 (sl g n c) n xs) : n ≤ c ∧ c ≤ maxLen := by
  rcases h.2 with ⟨e, hz⟩ | ⟨b, cap, cur, e, _, _, h1, h2, _⟩
  · unfold sl at e
    injection e with _ _ e3
    subst hz; subst e3
    exact ⟨Nat.le_refl _, Nat.zero_le _⟩
  · unfold sl at e
    injection e with _ _ e3
    subst e3
    exact ⟨h1, h2⟩

structure RI (w : World) (r : Nat) (L : Le) (ak : Option Nat) (ck : Nat) (ae : Option Nat) (ce : Nat) : Prop where
  blk : w.heap[r]? = some (.cells #[sl ak L.length ck, sl ae L.length ce] 31 (0, 0))
  kr : w.ownsRow 0 9 1 (sl ak L.length ck) L.length (sc (ks L))
  er : w.ownsRow 0 39 1 (sl ae L.length ce) L.length (fc (es L))
/-- The document's heap at r holds the leases L. -/
def RAt (w : World) (G : Nat → Prop) (r : Nat) (L : Le) : Prop := ∃ ak ck ae ce, RI w r L ak ck ae ce ∧ ∀ k, G k ↔ (k = r ∨ ak = some k ∨ ae = some k)

section
variable {w : World} {G : Nat → Prop} {r : Nat} {L : Le} {ak : Option Nat} {ck : Nat} {ae : Option Nat} {ce : Nat}
theorem RI.c0 (h : RI w r L ak ck ae ce) : w.cell? ⟨r, 0, none⟩ = some (sl ak L.length ck) := by rw [cell_of_block h.blk]; rfl
theorem RI.c1 (h : RI w r L ak ck ae ce) : w.cell? ⟨r, 1, none⟩ = some (sl ae L.length ce) := by rw [cell_of_block h.blk]; rfl
theorem RI.fz (h : RI w r L ak ck ae ce) (i : Nat) : w.frozen? ⟨r, i, none⟩ = false := unfrozen_of_block h.blk i
theorem sl_own (g : Option Nat) (n c k : Nat) : (sl g n c).ownBlock = some k ↔ g = some k := by unfold sl; cases g <;> simp [Value.ownBlock]
theorem RI.keep {S : Nat → Prop} {w' : World} (h : RI w r L ak ck ae ce) (hk : Keep S w w') (h0 : ¬ S r) (h1 : ∀ k, ak = some k → ¬ S k) (h2 : ∀ k, ae = some k → ¬ S k) : RI w' r L ak ck ae ce :=
  ⟨(hk.block r (Array.getElem?_eq_some_iff.1 h.blk).1 h0).trans h.blk, own_keep h.kr hk (fun k e => h1 k ((sl_own _ _ _ k).1 e)), own_keep h.er hk (fun k e => h2 k ((sl_own _ _ _ k).1 e))⟩
theorem RAt.keep {S : Nat → Prop} {w' : World} (h : RAt w G r L) (hk : Keep S w w') (hS : ∀ k, G k → ¬ S k) : RAt w' G r L := by
  obtain ⟨ak, ck, ae, ce, h, hg⟩ := h
  exact ⟨ak, ck, ae, ce, h.keep hk (hS r ((hg r).2 (.inl rfl))) (fun k e => hS k ((hg k).2 (.inr (.inl e)))) (fun k e => hS k ((hg k).2 (.inr (.inr e)))), hg⟩
theorem RAt.below {w' : World} (h : RAt w G r L) (hk : Below w.heap.size w w') : RAt w' G r L := h.keep (S := fun _ => False) (Keep.ofBelow hk) (fun _ _ h => h)
theorem own_blk {e : TypeId} {g : Option Nat} {n c : Nat} {xs : List Value} (h : w.ownsRow 0 e 1 (sl g n c) n xs) {k : Nat} (hk : g = some k) : ∃ cur, w.heap[k]? = some (.cells cur e (0, 0)) := by
  subst hk
  rcases h.2 with ⟨e, hz⟩ | ⟨b, cap, cur, e, _, hh, _⟩
  · cases e
  · unfold sl at e
    injection e with e1 _ _
    injection e1 with e1
    injection e1 with e1 _ _
    subst e1
    exact ⟨cur, hh⟩
theorem RAt.lt (h : RAt w G r L) {k : Nat} (hk : G k) : k < w.heap.size := by
  obtain ⟨ak, ck, ae, ce, h, hg⟩ := h
  rcases (hg k).1 hk with rfl | e | e
  · exact (Array.getElem?_eq_some_iff.1 h.blk).1
  · obtain ⟨cur, hc⟩ := own_blk h.kr e
    exact (Array.getElem?_eq_some_iff.1 hc).1
  · obtain ⟨cur, hc⟩ := own_blk h.er e
    exact (Array.getElem?_eq_some_iff.1 hc).1
theorem RI.key (h : RI w r L ak ck ae ce) {i : Nat} (hi : i < L.length) : ∃ b, ak = some b ∧ w.cell? ⟨b, i, none⟩ = some (.string L[i].1) := by
  obtain ⟨b, e, hc⟩ := own_flat h.kr (by omega)
  refine ⟨b, e, ?_⟩
  rw [hc i hi]
  simp [sc, ks, hi]
theorem RI.end' (h : RI w r L ak ck ae ce) {i : Nat} (hi : i < L.length) : ∃ b, ae = some b ∧ w.cell? ⟨b, i, none⟩ = some (.float .f64 L[i].2) := by
  obtain ⟨b, e, hc⟩ := own_flat h.er (by omega)
  refine ⟨b, e, ?_⟩
  rw [hc i hi]
  simp [fc, es, hi]
end

/-- Where a key stands. -/
def Stands (L : Le) (k : ByteArray) (z : Int) : Prop := (z = -1 ∧ ∀ p ∈ L, p.1 ≠ k) ∨ ∃ i : Nat, ∃ h : i < L.length, z = i ∧ L[i].1 = k

set_option maxHeartbeats 1000000 in
theorem at_any {w : World} {r : Nat} {L : Le} {ak : Option Nat} {ck : Nat} {ae : Option Nat} {ce : Nat} (h : RI w r L ak ck ae ce) (k : ByteArray) (hl : L.length ≤ 1000000) :
    Calls Try.prog 40 #[.pointer (some ⟨r, 0, none⟩), .string k] w fun e w' => (∃ z, e = .returned (.int .i64 z) ∧ Stands L k z) ∧ w' = w := by
  have c0 := h.c0
  have hcap := own_cap h.kr
  have hcm : ck ≤ 9223372036854775807 := by have := hcap.2; unfold maxLen at this; omega
  have hcl : L.length ≤ ck := hcap.1
  have H : Hid (RI w r L ak ck ae ce) := h
  clear h hcap
  unfold sl at c0
  go_enter Try.func40, Try.ntmps40
  go_wp2
  go_loopg [5] L.length (fun kx s5 wr => ∃ j : Nat, s5 = .int .i64 j ∧ j + kx = L.length ∧ wr = w ∧ Hid (∀ i, ∀ h : i < L.length, i < j → L[i].1 ≠ k))
  case atStart => exact ⟨0, rfl, by omega, rfl, fun i _ hi => (by omega)⟩
  case round =>
    obtain ⟨j, rfl, hjk, rfl, HN⟩ := hrel
    by_cases h1 : j < L.length
    · have h1z : (j : Int) < (L.length : Int) := by omega
      obtain ⟨b, rfl, hc⟩ := H.out.key h1
      have c0' : wr.cell? ⟨r, 0, none⟩ = some (.slice (some ⟨b, 0, none⟩) L.length ck) := c0
      have hsb := str_beqL L[j].1 k
      by_cases hk : L[j].1 = k
      · rw [decide_eq_true hk] at hsb
        have HK : Hid (L[j].1 = k) := hk
        clear hk c0
        generalize L[j].1 = s at hc hsb
        go_wp2
        go_ret
        exact ⟨⟨j, rfl, .inr ⟨j, h1, rfl, HK.out⟩⟩, rfl⟩
      · rw [decide_eq_false hk] at hsb
        have HN2 : Hid (∀ i, ∀ h : i < L.length, i < j + 1 → L[i].1 ≠ k) := fun i hi hij => by
          by_cases e : i = j
          · subst e; exact hk
          · exact HN.out i hi (by omega)
        clear hk c0
        generalize L[j].1 = s at hc hsb
        go_wp2
        go_roundg (gk - 1)
        case measure => omega
        case rel => exact ⟨j + 1, by go_num, by omega, rfl, HN2⟩
    · have h1z : ¬ ((j : Int) < (L.length : Int)) := by omega
      go_wp2
      go_ret
      refine ⟨⟨-1, rfl, .inl ⟨rfl, fun p hp => ?_⟩⟩, rfl⟩
      obtain ⟨i, hi, e⟩ := List.getElem_of_mem hp
      rw [← e]
      exact HN.out i hi (by omega)

end Go.Proofs.Ytfakcjelibdnbaa
