/- seglog's settle and lay: at the log's own chain of segments, or at another one. -/
import Derived.Test.YtikkieaokfailaaGreatDoorLgR
import Derived.Test.YtikkieaokfailaaGreatDoorDkR
namespace Go.Proofs.YtikkieaokfailaaGreatDoor
open Go.RowKit Go.Joins

def chs (c : Ch) : Array Value := #[.int .u64 (c.g : Int), .int .i64 (c.cnt : Int), .int .i64 (c.size : Int), .bool c.loose]
/-- A log, and a chain of segments at cell 'off' of block b: the log's own (c0 is not looked at then), or another one. -/
structure LC (w : World) (F : Nat → Prop) (lb d most : Nat) (v : Value) (dn : Bool) (k : Dk) (b off : Nat) (c0 c : Ch) : Prop where
  L : LD w F lb d most v (if b = lb then c else c0) dn k
  o : b = lb → off = 3
  n : b ≠ lb → off = 0 ∧ ¬ F b ∧ w.heap[b]? = some (.cells (chs c) 117 (0, 0))
section
variable {w w' : World} {F : Nat → Prop} {lb d most : Nat} {v : Value} {dn : Bool} {k : Dk} {b off : Nat} {c0 c : Ch}
theorem LC.nfb (h : LC w F lb d most v dn k b off c0 c) : ¬ F b := by
  by_cases e : b = lb
  · rw [e]; exact h.L.nf
  · exact (h.n e).2.1
theorem LC.ltb (h : LC w F lb d most v dn k b off c0 c) : b < w.heap.size := by
  by_cases e : b = lb
  · rw [e]; exact h.L.lt
  · exact (Array.getElem?_eq_some_iff.1 (h.n e).2.2).1
theorem LC.below (h : LC w F lb d most v dn k b off c0 c) (hb : Below w.heap.size w w') : LC w' F lb d most v dn k b off c0 c :=
  ⟨h.L.below hb, h.o, fun e => ⟨(h.n e).1, (h.n e).2.1, box_below (h.n e).2.2 hb⟩⟩
theorem LC.keep {S : Nat → Prop} (h : LC w F lb d most v dn k b off c0 c) (hk : Keep S w w') (hF : ∀ i, F i → ¬ S i) (hl : ¬ S lb) (hb : ¬ S b) : LC w' F lb d most v dn k b off c0 c :=
  ⟨h.L.keep hk hF hl, h.o, fun e => ⟨(h.n e).1, (h.n e).2.1, box_keep (h.n e).2.2 hk hb⟩⟩
theorem LC.cell (h : LC w F lb d most v dn k b off c0 c) (j : Nat) (hj : j < 4) : w.cell? ⟨b, off + j, none⟩ = (chs c)[j]? := by
  by_cases e : b = lb
  · subst e
    have hL := h.L
    rw [if_pos rfl] at hL
    rw [h.o rfl]
    match j, hj with
    | 0, _ => exact hL.c3
    | 1, _ => exact hL.c4
    | 2, _ => exact hL.c5
    | 3, _ => exact hL.c6
  · rw [(h.n e).1, cell_of_block (h.n e).2.2, Nat.zero_add]
theorem LC.fz (h : LC w F lb d most v dn k b off c0 c) (j : Nat) : w.frozen? ⟨b, j, none⟩ = false := by
  by_cases e : b = lb
  · rw [e]; exact h.L.fz j
  · exact unfrozen_of_block (h.n e).2.2 j
theorem LC.set (h : LC w F lb d most v dn k b off c0 c) (j : Nat) (u : Value) {c' : Ch} (e1 : (chs c).setIfInBounds j u = chs c') (e2 : (lcs d most v c dn).setIfInBounds (3 + j) u = lcs d most v c' dn) : LC (w.setCell ⟨b, off + j, none⟩ u) F lb d most v dn k b off c0 c' := by
  by_cases e : b = lb
  · subst e
    have hL := h.L
    rw [if_pos rfl] at hL
    refine ⟨?_, h.o, fun e => absurd rfl e⟩
    rw [if_pos rfl, h.o rfl]
    exact hL.set (3 + j) u e2
  · have hL := h.L
    rw [if_neg e] at hL
    have hk : Keep (fun i => i = b) w (w.setCell ⟨b, off + j, none⟩ u) := (Keep.refl (fun i => i = b) w).setCell (p := ⟨b, off + j, none⟩) rfl u
    refine ⟨?_, h.o, fun _ => ⟨(h.n e).1, (h.n e).2.1, ?_⟩⟩
    · rw [if_neg e]
      exact hL.keep hk (fun i hi e2 => h.nfb (by rw [← e2]; exact hi)) (fun e2 => e e2.symm)
    · rw [(h.n e).1, Nat.zero_add, ← e1]
      exact block_setCell (h.n e).2.2 u
theorem LC.setK (_ : LC w F lb d most v dn k b off c0 c) (j : Nat) (u : Value) : Keep (fun i => F i ∨ i = lb ∨ i = b) w (w.setCell ⟨b, j, none⟩ u) := (Keep.refl _ w).setCell (p := ⟨b, j, none⟩) (Or.inr (Or.inr rfl)) u
end
def Lcp (w : World) (F : Nat → Prop) (lb d most : Nat) (v : Value) (dn : Bool) (k : Dk) (b off : Nat) (c0 c : Ch) (w' : World) : Prop := ∃ F', LC w' F' lb d most v dn k b off c0 c ∧ Keep (fun i => F i ∨ i = lb ∨ i = b) w w' ∧ (∀ i, F' i → F i ∨ w.heap.size ≤ i)
theorem Lcp.refl {w : World} {F : Nat → Prop} {lb d most : Nat} {v : Value} {dn : Bool} {k : Dk} {b off : Nat} {c0 c : Ch} (h : LC w F lb d most v dn k b off c0 c) : Lcp w F lb d most v dn k b off c0 c w := ⟨F, h, Keep.refl _ _, fun _ h => Or.inl h⟩
theorem Lcp.next {w w1 w2 : World} {F F1 : Nat → Prop} {lb d most : Nat} {v : Value} {dn : Bool} {k : Dk} {b off : Nat} {c0 c : Ch} (kp : Keep (fun i => F i ∨ i = lb ∨ i = b) w w1) (e1 : ∀ i, F1 i → F i ∨ w.heap.size ≤ i) (h : Lcp w1 F1 lb d most v dn k b off c0 c w2) : Lcp w F lb d most v dn k b off c0 c w2 := by
  obtain ⟨F', h1, h2, h3⟩ := h
  refine ⟨F', h1, kp.andThen h2 (fun i hi hs => ?_), fun i hi => ?_⟩
  · rcases hs with hs | hs
    · rcases e1 i hs with h | h
      · exact Or.inl h
      · omega
    · exact Or.inr hs
  · rcases h3 i hi with h | h
    · exact e1 i h
    · exact Or.inr (Nat.le_trans kp.size h)
theorem Lcp.from {w0 w w' : World} {F : Nat → Prop} {lb d most : Nat} {v : Value} {dn : Bool} {k : Dk} {b off : Nat} {c0 c : Ch} (hb : Below w0.heap.size w0 w) (h : Lcp w F lb d most v dn k b off c0 c w') : Lcp w0 F lb d most v dn k b off c0 c w' := by
  obtain ⟨F', h1, h2, h3⟩ := h
  exact ⟨F', h1, (Keep.ofBelow hb).trans h2, fun i hi => (h3 i hi).imp id (fun h => Nat.le_trans hb.size h)⟩
/-- A step of the disk. -/
theorem LC.step {w w1 : World} {F : Nat → Prop} {lb d most : Nat} {v : Value} {dn dn' : Bool} {k k' : Dk} {b off : Nat} {c0 c : Ch} (h : LC w F lb d most v dn k b off c0 c) (hp : Lp w F lb d most v (if b = lb then c else c0) dn' k' w1) : Lcp w F lb d most v dn' k' b off c0 c w1 := by
  obtain ⟨F1, h1, h2, h3⟩ := hp
  have hlt := h.ltb
  refine ⟨F1, ⟨h1, h.o, fun e => ⟨(h.n e).1, fun hf => ?_, box_keep (h.n e).2.2 h2 (fun hs => ?_)⟩⟩, h2.mono (fun i hi => hi.elim Or.inl (fun h => Or.inr (Or.inl h))), h3⟩
  · rcases h3 b hf with h4 | h4
    · exact h.nfb h4
    · omega
  · rcases hs with hs | hs
    · exact h.nfb hs
    · exact e hs

/-- The last segment is made to last, if that is not known of it. -/
def settleL (c : Ch) (dn : Bool) (k : Dk) : Nat × Ch × Bool × Dk :=
  if c.loose then ((stp dn k (syncK k (segN c.g c.cnt))).1, (if (stp dn k (syncK k (segN c.g c.cnt))).1 = 0 then { c with loose := false } else c), (stp dn k (syncK k (segN c.g c.cnt))).2)
  else (0, c, dn, k)

set_option maxHeartbeats 1000000 in
theorem settle_any (w : World) (F : Nat → Prop) (lb d most : Nat) (v : Value) (dn : Bool) (k : Dk) (b off : Nat) (c0 c : Ch) (h : LC w F lb d most v dn k b off c0 c) (hP : Pf w F lb) (hg : c.g < 18446744073709551616) (hi : c.cnt ≤ 9223372036854775807) (hst : k.steps < 1000000) (hfl : k.fs.length < 1000000) :
    Calls Tryz.prog 68 #[.pointer (some ⟨lb, 0, none⟩), .pointer (some ⟨b, off, none⟩)] w fun e w' => Gs (settleL c dn k).1 e ∧ Lcp w F lb d most v (settleL c dn k).2.2.1 (settleL c dn k).2.2.2 b off c0 (settleL c dn k).2.1 w' := by
  have q0 : w.cell? ⟨b, off, none⟩ = some (.int .u64 (c.g : Int)) := h.cell 0 (by omega)
  have q1 : w.cell? ⟨b, off + 1, none⟩ = some (.int .i64 (c.cnt : Int)) := h.cell 1 (by omega)
  have q3 : w.cell? ⟨b, off + 3, none⟩ = some (.bool c.loose) := h.cell 3 (by omega)
  by_cases hl : c.loose = true
  · rw [hl] at q3
    have hsg := segment_any b off c.g c.cnt hg hi w hP.pw q0
    obtain ⟨s, Hs⟩ : ∃ s, Hid (segN c.g c.cnt = s) := ⟨_, rfl⟩
    have hE : settleL c dn k = ((stp dn k (syncK k s)).1, (if (stp dn k (syncK k s)).1 = 0 then { c with loose := false } else c), (stp dn k (syncK k s)).2) := by unfold settleL; rw [if_pos hl, Hs.out]
    rw [hE]
    rw [Hs.out] at hsg
    have hsy := fun w' (hb : Below w.heap.size w w') => ssync_any lb d most F v _ dn k s hst hfl w' (h.L.below hb)
    obtain ⟨P, HP⟩ : ∃ P, Hid (stp dn k (syncK k s) = P) := ⟨_, rfl⟩
    rw [HP.out]
    simp only [HP.out] at hsy
    obtain ⟨en, dn', k'⟩ := P
    dsimp only at hsy ⊢
    have hfin : ∀ w1 w2, Below w.heap.size w w1 → Lp w1 F lb d most v (if b = lb then c else c0) dn' k' w2 → Lcp w F lb d most v dn' k' b off c0 c w2 := fun w1 w2 hb hp => ((h.below hb).step hp).from hb
    clear hE
    by_cases h0 : en = 0
    · subst h0
      rw [if_pos rfl]
      go_enter Tryz.func68, Tryz.ntmps68
      go_wp2_with (first
        | (go_at_call 103; refine hsg.mono ?_; rintro e w1 ⟨rfl, hb1⟩)
        | (go_at_call 104; refine ((hsy w1 hb1).mono (fun e w' h => And.intro (h.1.elim (fun k => k.2) (fun k => absurd rfl k.1)) h.2 : ∀ e w', _ → (e = .returned (.tuple #[]) ∧ _))).mono ?_; rintro e w2 ⟨rfl, hp⟩; obtain ⟨F2, hL2, hk2, hF2⟩ := hfin w1 w2 hb1 hp; have p3 : w2.cell? ⟨b, off + 3, none⟩ = some (.bool c.loose) := hL2.cell 3 (by omega); have z3 := hL2.fz (off + 3)))
      go_end0
      exact ⟨Or.inl ⟨rfl, rfl⟩, F2, hL2.set 3 _ rfl rfl, hk2.trans ((Keep.refl _ w2).setCell (p := ⟨b, off + 3, none⟩) (Or.inr (Or.inr rfl)) _), hF2⟩
    · rw [if_neg h0]
      go_enter Tryz.func68, Tryz.ntmps68
      go_wp2_with (first
        | (go_at_call 103; refine hsg.mono ?_; rintro e w1 ⟨rfl, hb1⟩)
        | (go_at_call 104; refine ((hsy w1 hb1).mono (fun e w' h => And.intro (h.1.elim (fun k => absurd k.1 h0) (fun k => k.2)) h.2 : ∀ e w', _ → (e = .panicked (gaveS en) ∧ _))).mono ?_; rintro e w2 ⟨rfl, hp⟩))
      exact ⟨rfl, gs_no h0 rfl, hfin w1 w2 hb1 hp⟩
  · have hl' : c.loose = false := by simpa using hl
    rw [hl'] at q3
    have hE : settleL c dn k = (0, c, dn, k) := by unfold settleL; rw [if_neg hl]
    rw [hE]
    clear hE
    go_enter Tryz.func68, Tryz.ntmps68
    go_wp2
    go_end0
    exact ⟨Or.inl ⟨rfl, rfl⟩, Lcp.refl h⟩

end Go.Proofs.YtikkieaokfailaaGreatDoor
