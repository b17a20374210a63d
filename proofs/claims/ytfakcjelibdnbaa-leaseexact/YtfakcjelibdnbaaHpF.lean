/- lease: a Heap in the memory; New, Len, End, Next. -/
import Derived.Test.YtfakcjelibdnbaaHpE
import Derived.Test.YtfakcjelibdnbaaHpM
import Derived.Test.YtfakcjelibdnbaaHpP
import Derived.Test.YtfakcjelibdnbaaShelf
import Derived.Test.YtfakcjelibdnbaaLate
namespace Go.Proofs.Ytfakcjelibdnbaa
open Go.RowKit Go.Joins Go.Shelf

structure HI (w : World) (F : Nat → Prop) (q tn : Nat) (E : List El) (mb : Nat) (g : Option Nat) (n c N : Nat) (d : Nat → El) : Prop where
  gp : GP q mb tn g n c d w
  lv : Lv d n tn E
  mp : PMap w mb N (mOf E)
  nt : N ≤ tn
  fp : ∀ k, F k ↔ (k = q ∨ k = mb ∨ OF g n d k)
/-- The heap at q holds the leases L, as they were set; F: what it lies in. -/
def HAt (w : World) (F : Nat → Prop) (q tn : Nat) (L : Le) : Prop := ∃ E mb g n c N d, HI w F q tn E mb g n c N d ∧ L = abs E

theorem HI.lt {w : World} {F : Nat → Prop} {q tn : Nat} {E : List El} {mb : Nat} {g : Option Nat} {n c N : Nat} {d : Nat → El} (h : HI w F q tn E mb g n c N d) {k : Nat} (hk : F k) : k < w.heap.size := by
  rcases (h.fp k).1 hk with rfl | rfl | e | ⟨i, hi, e⟩
  · exact h.gp.hb.lt
  · exact h.mp.lt
  · obtain ⟨cur, h1, _⟩ := h.gp.od.row k e
    exact (Array.getElem?_eq_some_iff.1 h1).1
  · rw [← e]; exact (h.gp.od.ls i hi).lt
theorem HAt.lt {w : World} {F : Nat → Prop} {q tn : Nat} {L : Le} (h : HAt w F q tn L) {k : Nat} (hk : F k) : k < w.heap.size := by
  obtain ⟨E, mb, g, n, c, N, d, h, _⟩ := h; exact h.lt hk
theorem HI.keep {w w' : World} {S F : Nat → Prop} {q tn : Nat} {E : List El} {mb : Nat} {g : Option Nat} {n c N : Nat} {d : Nat → El} (h : HI w F q tn E mb g n c N d) (hk : Keep S w w') (hS : ∀ k, F k → ¬ S k) : HI w' F q tn E mb g n c N d :=
  ⟨h.gp.keep hk (fun k hk2 => hS k ((h.fp k).2 (hk2.elim .inl (fun h => .inr (.inr h))))), h.lv, h.mp.keep hk (hS mb ((h.fp mb).2 (.inr (.inl rfl)))), h.nt, h.fp⟩
theorem HAt.keep {w w' : World} {S F : Nat → Prop} {q tn : Nat} {L : Le} (h : HAt w F q tn L) (hk : Keep S w w') (hS : ∀ k, F k → ¬ S k) : HAt w' F q tn L := by
  obtain ⟨E, mb, g, n, c, N, d, h, e⟩ := h; exact ⟨E, mb, g, n, c, N, d, h.keep hk hS, e⟩
theorem HAt.below {w w' : World} {F : Nat → Prop} {q tn : Nat} {L : Le} (h : HAt w F q tn L) (hk : Below w.heap.size w w') : HAt w' F q tn L := h.keep (S := fun _ => False) (Keep.ofBelow hk) (fun _ _ h => h)
theorem HAt.nk {w : World} {F : Nat → Prop} {q tn : Nat} {L : Le} (h : HAt w F q tn L) : Nk L := by
  obtain ⟨E, mb, g, n, c, N, d, h, rfl⟩ := h; exact h.lv.nk
theorem HAt.ltn {w : World} {F : Nat → Prop} {q tn : Nat} {L : Le} (h : HAt w F q tn L) : L.length ≤ tn := by
  obtain ⟨E, mb, g, n, c, N, d, h, rfl⟩ := h; rw [abs_len, h.lv.len]; exact h.lv.ntn
theorem HAt.fq {w : World} {F : Nat → Prop} {q tn : Nat} {L : Le} (h : HAt w F q tn L) : F q := by
  obtain ⟨E, mb, g, n, c, N, d, h, _⟩ := h; exact (h.fp q).2 (.inl rfl)
theorem HAt.num {w : World} {F : Nat → Prop} {q tn : Nat} {L : Le} (h : HAt w F q tn L) : ∀ p ∈ L, Fl.nan p.2 = false := by
  obtain ⟨E, mb, g, n, c, N, d, h, rfl⟩ := h
  intro p hp
  obtain ⟨a, ha, rfl⟩ := List.mem_map.1 hp
  obtain ⟨i, hi, rfl⟩ := (h.lv.mem a).1 ha
  exact (h.gp.od.ok i hi).1

theorem clone_any (s : ByteArray) (w : World) (hs : s.size ≤ 281474976710656) : Calls Try.prog 35 #[.string s] w fun e w' => e = .returned (.string s) ∧ Below w.heap.size w w' := by
  have c : Calls Try.prog 43 #[.string s] w fun e w' => e = .returned (.string s) ∧ Below w.heap.size w w' := Any.stringslite_Clone Try.laysM316 s w hs
  go_enter Try.func35, Try.ntmps35
  go_wp2_with (go_at_call 43; refine c.mono ?_; rintro e w1 ⟨rfl, hb⟩)
  go_ret
  exact ⟨rfl, hb⟩

/-- What a call that makes nothing else of it leaves. -/
structure Nw (w w' : World) (F' : Nat → Prop) (q : Nat) (tn : Nat) (L : Le) : Prop where
  at' : HAt w' F' q tn L
  nw : ∀ k, F' k → w.heap.size ≤ k
  kp : Below w.heap.size w w'

theorem mm_run (w : World) : (Instr.makeMap 62 none).run Try.prog w = .ok (.map (some w.heap.size)) (w.alloc (.map #[] 0)) := rfl
set_option maxHeartbeats 400000 in
theorem new_any (w : World) : Calls Try.prog 8 #[] w fun e w' => ∃ q F', e = .returned (.pointer (some ⟨q, 0, none⟩)) ∧ Nw w w' F' q 0 [] := by
  have hm := mm_run w
  go_enter Try.func8, Try.ntmps8
  go_wp2
  go_ret
  refine ⟨w.heap.size + 1, fun k => k = w.heap.size + 1 ∨ k = w.heap.size, rfl, ⟨[], w.heap.size, none, 0, 0, 0, fun _ => ⟨0, ByteArray.empty, 0, 0⟩, ⟨⟨?_, ⟨fun b e => (by cases e), fun _ => ⟨rfl, rfl⟩, Nat.le_refl _, Nat.zero_le _, Nat.zero_le _, fun i hi => (by omega), fun i j hi => (by omega), fun i hi => (by omega)⟩, fun k h0 hk => (by omega)⟩, ⟨fun a => ⟨fun h => (by cases h), fun ⟨i, hi, _⟩ => (by omega)⟩, rfl, List.Pairwise.nil, fun a h => (by cases h), List.nodup_nil, fun a h => (by cases h), Nat.le_refl _⟩, ?_, Nat.le_refl _, fun k => ?_⟩, rfl⟩, fun k hk => by omega, ?_⟩
  · have e : (w.alloc (.map #[] 0)).heap.size = w.heap.size + 1 := by simp
    have h := alloc_at (w.alloc (.map #[] 0)) (Obj.cells #[.map (some w.heap.size), .slice none 0 0, .int .i64 0] 66)
    rw [e] at h
    exact h
  · exact (PMap.made w).keep (S := fun _ => False) ((Keep.refl _ _).alloc _) (fun h => h)
  · unfold OF
    constructor
    · rintro (h | h)
      · exact .inl h
      · exact .inr (.inl h)
    · rintro (h | h | h | ⟨i, hi, _⟩)
      · exact .inl h
      · exact .inr h
      · cases h
      · omega
  · exact ((Below.refl _ _).alloc (Nat.le_refl _) _).alloc (by simp) _

section
variable {w : World} {F : Nat → Prop} {q tn : Nat} {L : Le}

theorem lenH_any (h : HAt w F q tn L) : Calls Try.prog 15 #[.pointer (some ⟨q, 0, none⟩)] w fun e w' => e = .returned (.int .i64 L.length) ∧ w' = w := by
  obtain ⟨E, mb, g, n, c, N, d, h, rfl⟩ := h
  have c0 := h.gp.hb.c0
  have hl := fun ty => h.mp.len (E.map (·.k)) h.lv.kys (fun s => mOf_isSome) ty
  have e : ((E.map (·.k)).length : Int) = ((abs E).length : Int) := by simp [abs]
  rw [e] at hl
  clear h e
  go_enter Try.func15, Try.ntmps15
  go_wp2
  go_ret
  exact ⟨rfl, rfl⟩

set_option maxHeartbeats 400000 in
theorem end_any (h : HAt w F q tn L) (k : ByteArray) (hk : k.size ≤ 1000000) : Calls Try.prog 19 #[.pointer (some ⟨q, 0, none⟩), .string k] w fun e w' => e = .returned (.tuple #[.float .f64 ((lk L k).getD 0), .bool (lk L k).isSome]) ∧ w' = w := by
  obtain ⟨E, mb, g, n, c, N, d, h, rfl⟩ := h
  have c0 := h.gp.hb.c0
  have hl := h.mp.look k (by unfold maxLen; omega)
  cases hm : mOf E k with
  | none =>
    rw [hm] at hl
    have e : lk (abs E) k = none := lk_none fun p hp e => by
      obtain ⟨a, ha, rfl⟩ := List.mem_map.1 hp
      have := mOf_some h.lv.kys ha
      rw [show a.k = k from e, hm] at this
      cases this
    rw [e]
    clear h e hm
    unfold ptrO at hl
    go_enter Try.func19, Try.ntmps19
    go_wp2
    go_ret2
    exact ⟨rfl, rfl⟩
  | some b =>
    obtain ⟨a, ha, e1, e2⟩ := mOf_inv hm
    have e : lk (abs E) k = some a.e := by rw [← e1]; exact lk_abs h.lv.kys ha
    obtain ⟨i, hi, e3⟩ := (h.lv.mem a).1 ha
    have ce := (h.gp.od.ls i hi).c1
    rw [e3] at ce
    rw [hm, ← e2] at hl
    rw [e]
    clear h e hm e1 e2 e3 ha hi
    unfold ptrO at hl
    go_enter Try.func19, Try.ntmps19
    go_wp2
    go_ret2
    exact ⟨rfl, rfl⟩

set_option maxHeartbeats 400000 in
theorem next_any (h : HAt w F q tn L) : Calls Try.prog 29 #[.pointer (some ⟨q, 0, none⟩)] w fun e w' => e = .returned (.tuple #[.float .f64 (((fstL L).map (·.2)).getD 0), .bool (fstL L).isSome]) ∧ w' = w := by
  obtain ⟨E, mb, g, n, c, N, d, h, rfl⟩ := h
  have c1 := h.gp.hb.c1
  by_cases hn : n = 0
  · subst hn
    have e : abs E = [] := by rw [← List.length_eq_zero_iff, abs_len, h.lv.len]
    rw [e]
    clear h e
    unfold sl at c1
    go_enter Try.func29, Try.ntmps29
    go_wp2
    go_ret2
    exact ⟨rfl, rfl⟩
  · rw [h.lv.top h.gp.hp (by omega)]
    obtain ⟨b, rfl⟩ := h.gp.od.has (by omega)
    have r0 := (h.gp.od.row b rfl).cell (i := 0) (by omega)
    have ce := (h.gp.od.ls 0 (by omega)).c1
    have c1' : w.cell? ⟨q, 1, none⟩ = some (.slice (some ⟨b, 0, none⟩) n c) := c1
    have hn0 : ¬ ((n : Int) = 0) := by omega
    have hn1 : (0 : Int) < (n : Int) := by omega
    clear h c1 hn
    go_enter Try.func29, Try.ntmps29
    go_wp2
    go_ret2
    exact ⟨rfl, rfl⟩
end

end Go.Proofs.Ytfakcjelibdnbaa
