/- A range over a method value whose method writes its receiver: the law. -/
import Derived.Test.YtmpoddgmkneffaaFrBase
import Derived.RangeFuncBox
import Derived.RangeFuncLeaves
import Derived.RangeFuncBound
import Derived.Shelf.Abstract
import Derived.OwnWalkIn
namespace Go.Proofs.Ytmpoddgmkneffaa
open Go.RowKit Go.Shelf

/-- The body of a round: off its end, with what the iterator wants kept, the loop's two blocks as they were, and the caller's word. -/
def rangeBody (n₀ N : Nat) (I' : World → Prop) (W : World) : Exit → Act → World → Prop
  | .normal, _, W' => Below n₀ W W' ∧ W'.heap[N]? = W.heap[N]? ∧ W'.heap[N + 1]? = W.heap[N + 1]? ∧ I' W'
  | _, _, _ => False

theorem keep_put {S : Nat → Prop} {a w : World} (h : Keep S a w) {l : Nat} (hl : S l) (o : Obj) : Keep S a (w.putObj l o) :=
  h.trans ⟨rfl, rfl, rfl, by simp, fun k _ hs => World.putObj_heap_other (fun e => hs (by rw [e]; exact hl))⟩
theorem below_put {B : Nat} {a w : World} (h : Below B a w) {l : Nat} (hl : B ≤ l) (o : Obj) : Below B a (w.putObj l o) :=
  h.trans ⟨rfl, rfl, rfl, by simp, fun k hk => World.putObj_heap_other (by omega)⟩

theorem wp_range {P : Program} {g : Operand} {ps : Array Tmp} {assign body : Code} {Q : Exit → Act → World → Prop} {a : Act} {w : World} {gf p n₀ : Nat}
    (hg : a.eval g = .func (.func gf) #[.pointer (some ⟨p, 0, none⟩)] #[]) (eg : ∀ args w, (callFunc gf args).run P w = .ok (.enter gf args) w) (hps : ps.size = 1)
    (hp : p < n₀) (hn : n₀ ≤ w.heap.size) (I : List (List Int) → World → Prop) (S : List (List Int) → World → Prop)
    (hI : ∀ s W W', I s W → Keep (fun k => k = p ∨ k = w.heap.size ∨ k = w.heap.size + 1) W W' → I s W') (h0 : I [] w)
    (hit : ∀ (J : List (List Int) → World → Prop), (∀ s W W', J s W → W.grownBy W' (some p) → J s W') →
      (∀ s (x : List Int) W0 W g k cap, x.length = k → s.length < 10000000 → J s W0 → W0.grownBy W (some p) → W.ownsRow W0.heap.size 5 1 (.slice (some ⟨g, 0, none⟩) k cap) k (bc x) → Bd x →
        YieldAt Fence.wide 0 P (w.heap.size + 1) #[.slice (some ⟨g, 0, none⟩) k cap] W fun e W' => e = .returned (.bool true) ∧ J (s ++ [x]) W' ∧ Below n₀ W W') →
      ∀ W, Below w.heap.size w W → J [] W → CallsIn Fence.wide 0 P gf #[.pointer (some ⟨p, 0, none⟩), .func (.yield (w.heap.size + 1)) #[] #[]] W fun e W' => (∃ v, e = .returned v) ∧ ∃ s, S s W' ∧ J s W')
    (a₁ : Value → Act)
    (hassign : ∀ (l : Nat) (v : Value) (W : World) (K : Act → World → Prop), K (a₁ v) W →
      assign.wpIn (Fence.wide.inRound l) 0 P (Exit.then K (fun _ _ _ => False)) { tmps := (ps.zip #[v]).foldl (fun t (p, v) => t.setIfInBounds p v) a.tmps, defers := [] } W)
    (hbody : ∀ (l : Nat) s (x : List Int) W0 W g k cap, x.length = k → s.length < 10000000 → I s W0 → Keep (fun k => k = p ∨ k = w.heap.size ∨ k = w.heap.size + 1) W0 W → W.ownsRow W0.heap.size 5 1 (.slice (some ⟨g, 0, none⟩) k cap) k (bc x) → Bd x → w.heap.size + 1 < W0.heap.size →
      (∃ o, W.heap[w.heap.size]? = some o ∧ o.isCells = false) → (∃ o, W.heap[w.heap.size + 1]? = some o ∧ o.isCells = false) →
      body.wpIn (Fence.wide.inRound l) 0 P (rangeBody n₀ w.heap.size (I (s ++ [x])) W) (a₁ (.slice (some ⟨g, 0, none⟩) k cap)) W)
    (hdone : ∀ s W W', S s W → I s W' → Keep (fun k => k = w.heap.size + 1) W W' → W'.heap[w.heap.size]? = some (.deferred (some [])) → Q .normal { a with defers := { target := .collected w.heap.size, args := #[] } :: a.defers } W') :
    (Code.rangeFunc g ps assign body).wp P Q a w := by
  refine (wpIn_wide (n := 1)).1 (wpIn_rangeFunc ?_)
  intro fn hfn
  rw [show Fence.wide.round = none from rfl]
  obtain ⟨rec, hrec⟩ : ∃ rec : LoopState → Option Code → Loop, rec = fun st pe => { state := st, pending := pe, fn, tmps := a.tmps, params := ps, assign, body, defers := w.heap.size } := ⟨_, rfl⟩
  obtain ⟨W1, hW1⟩ : ∃ W1, (w.alloc (.deferred (some []))).alloc (.loop (rec .ready none)) = W1 := ⟨_, rfl⟩
  have hL1 : W1.heap[w.heap.size + 1]? = some (.loop (rec .ready none)) := by
    rw [← hW1]; have := World.alloc_heap_new (w.alloc (.deferred (some []))) (.loop (rec .ready none)); rwa [World.size_alloc] at this
  have hK1 : W1.heap[w.heap.size]? = some (.deferred (some [])) := by
    rw [← hW1]; exact (Below.heap_alloc _ _ _ (by simp)).trans (World.alloc_heap_new w _)
  have hb1 : Below w.heap.size w W1 := by
    rw [← hW1]; exact ((Below.refl _ w).alloc (Nat.le_refl _) _).alloc (by simp) _
  have hI1 : I [] W1 := hI [] w W1 h0 (Keep.ofBelow hb1)
  refine ⟨w.heap.size + 1, [{ target := .collected w.heap.size, args := #[] }], W1, { target := .fn (.func gf) #[], args := #[.pointer (some ⟨p, 0, none⟩), .func (.yield (w.heap.size + 1)) #[] #[]] }, W1, gf,
    #[.pointer (some ⟨p, 0, none⟩), .func (.yield (w.heap.size + 1)) #[] #[]], W1, ?_, ?_, ?_, ?_, fun _ => Nat.le_refl _, ?_⟩
  · rw [← hW1, hrec]; exact run_enterLoop_outer _ _ _ _ _
  · simp only [resolve, hg]
    simp [go_sem, Deferred.ofValue]
  · intro f' _; exact trivial
  · simp [invoke, go_sem, eg]
  · have other : ∀ {W W' : World} {k : Nat} {o : Obj}, W.grownBy W' (some p) → W.heap[k]? = some o → k ≠ p → W'.heap[k]? = some o := fun hgr hk hne =>
      (hgr.block _ (Array.getElem?_eq_some_iff.1 hk).1 (fun e => hne (by simpa using e))).trans hk
    refine (hit (fun s W => I s W ∧ W.heap[w.heap.size + 1]? = some (.loop (rec .ready none)) ∧ W.heap[w.heap.size]? = some (.deferred (some [])))
      (fun s W W' hs hgr => ⟨hI s W W' hs.1 ((Keep.ofGrown hgr).mono (fun i e => .inl (by simpa using e.symm))), other hgr hs.2.1 (by omega), other hgr hs.2.2 (by omega)⟩) ?_ W1 hb1 ⟨hI1, hL1, hK1⟩).mono ?_
    · rintro s x W0 W g k cap hxk hsl ⟨hi, hl0, hk0⟩ hgr hown hbd
      obtain ⟨v, hv⟩ : ∃ v, Value.slice (some ⟨g, 0, none⟩) k cap = v := ⟨_, rfl⟩
      rw [hv] at hown ⊢
      have hl := other hgr hl0 (by omega)
      have hk := other hgr hk0 (by omega)
      have hlt : w.heap.size + 1 < W.heap.size := (Array.getElem?_eq_some_iff.1 hl).1
      have hy := run_yield (P := P) (args := #[v]) hl (by rw [hrec]; exact hps.symm)
      rw [hrec] at hy
      refine ⟨fn, _, assign, body, hy, roundIn_of_wpIn hfn (hassign _ v W _ ⟨_, run_beginRound hl (by rw [hrec]), ?_⟩)⟩
      obtain ⟨W2, hW2⟩ : ∃ W2, W.putObj (w.heap.size + 1) (.loop { rec .ready none with state := .busy }) = W2 := ⟨_, rfl⟩
      rw [hW2]
      have hl2 : W2.heap[w.heap.size + 1]? = some (.loop { rec .ready none with state := .busy }) := by rw [← hW2]; exact World.putObj_heap_same hlt
      have hk2 : W2.heap[w.heap.size]? = some (.deferred (some [])) := by rw [← hW2]; exact (World.putObj_heap_other (by omega)).trans hk
      have hkp : Keep (fun k => k = p ∨ k = w.heap.size ∨ k = w.heap.size + 1) W0 W2 := by
        rw [← hW2]; exact keep_put ((Keep.ofGrown hgr).mono (fun i e => .inl (by simpa using e.symm))) (.inr (.inr rfl)) _
      have hown2 : W2.ownsRow W0.heap.size 5 1 v k (bc x) := by rw [← hW2]; exact ownsRow_putObj hown _ hl rfl
      rw [← hv] at hown2 ⊢
      refine wpIn_mono (hbody _ s x W0 W2 g k cap hxk hsl hi hkp hown2 hbd (Array.getElem?_eq_some_iff.1 hl0).1 ⟨_, hk2, rfl⟩ ⟨_, hl2, rfl⟩) ?_
      rintro e a3 W3 hq
      cases e with
      | normal =>
        obtain ⟨hb3, hk3, hl3, hi3⟩ := hq
        rw [hl2] at hl3
        rw [hk2] at hk3
        have hend := run_endRound (P := P) none hl3
        refine ⟨_, _, hend, rfl, ⟨?_, ?_, ?_⟩, ?_⟩
        · exact hI _ _ _ hi3 (keep_put (Keep.refl _ _) (.inr (.inr rfl)) _)
        · rw [World.putObj_heap_same (Array.getElem?_eq_some_iff.1 hl3).1, hrec]; rfl
        · rw [World.putObj_heap_other (by omega)]; exact hk3
        · have hb2 : Below n₀ W W2 := by rw [← hW2]; exact below_put (Below.refl _ _) (by omega) _
          exact below_put (hb2.trans hb3) (by omega) _
      | _ => exact hq.elim
    · rintro e W2 ⟨⟨v, rfl⟩, s, hS, hi, hl, hk⟩
      have hend := run_endLoop (P := P) hl (by rw [hrec]; simp)
      refine ⟨_, _, hend, ?_⟩
      have hpend : (rec .ready none).pending = none := by rw [hrec]
      rw [hpend]
      exact hdone s W2 _ hS (hI _ _ _ hi (keep_put (Keep.refl _ _) (.inr (.inr rfl)) _)) (keep_put (S := fun k => k = w.heap.size + 1) (Keep.refl _ _) rfl _) ((World.putObj_heap_other (by omega)).trans hk)

end Go.Proofs.Ytmpoddgmkneffaa
