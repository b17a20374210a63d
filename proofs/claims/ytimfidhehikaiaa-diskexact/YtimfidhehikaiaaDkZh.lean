/- A disk of the program's and one of the document's, side by side. -/
import Derived.Test.YtimfidhehikaiaaDkZe
import Derived.Test.YtimfidhehikaiaaDkZc
import Derived.Test.YtimfidhehikaiaaDkVn
import Derived.Test.YtimfidhehikaiaaDkVw
import Derived.Test.YtimfidhehikaiaaDkB
namespace Go.Proofs.Ytimfidhehikaiaa
open Go.RowKit Go.Joins

/-- No call makes more than one step, or more than one file. -/
def Gr (k k' : Dk) : Prop := k'.steps ≤ k.steps + 1 ∧ k'.fs.length ≤ k.fs.length + 1
theorem Gr.refl (k : Dk) : Gr k k := ⟨by omega, by omega⟩
theorem gr_step (k : Dk) (s : Nm) (err : Fle → Nat) (go : Dk → Fle → Dk) (h : ∀ k f, (go k f).steps = k.steps ∧ (go k f).fs.length ≤ k.fs.length + 1) : Gr k (stepK k s err go).2 := by
  unfold stepK
  split
  · exact Gr.refl k
  · split
    · exact Gr.refl k
    · split
      · exact Gr.refl k
      · split
        · exact Gr.refl k
        · split
          · exact ⟨pass_steps k, by rw [pass_fs]; omega⟩
          · rename_i f _ _ _
            obtain ⟨h1, h2⟩ := h (passK k).2 f
            have h3 := pass_steps k
            rw [pass_fs] at h2
            exact ⟨by dsimp only; omega, by dsimp only; omega⟩
theorem gr_app (k : Dk) (s : Nm) (ys : List Int) : Gr k (appK k s ys).2 := by
  unfold appK
  split
  · exact Gr.refl k
  · split
    · exact Gr.refl k
    · split
      · exact Gr.refl k
      · rw [pass_with]
        have h3 := pass_steps k
        exact ⟨h3, len_put _ _ _⟩
theorem gr_sync (k : Dk) (s : Nm) : Gr k (syncK k s).2 := gr_step k s _ _ (fun _ _ => ⟨rfl, len_put _ _ _⟩)
theorem gr_remove (k : Dk) (s : Nm) : Gr k (removeK k s).2 := gr_step k s _ _ (fun _ _ => ⟨rfl, Nat.le_succ_of_le (len_drop _ _)⟩)
theorem gr_cut (k : Dk) (s : Nm) (z : Int) : Gr k (cutK k s z).2 := gr_step k s _ _ (fun _ _ => ⟨rfl, len_put _ _ _⟩)
theorem gr_rename (k : Dk) (s t : Nm) : Gr k (renameK k s t).2 := by
  unfold renameK
  split
  · exact Gr.refl k
  · split
    · exact Gr.refl k
    · exact gr_step k s _ _ (fun _ _ => ⟨rfl, Nat.le_trans (len_put _ _ _) (Nat.succ_le_succ (len_drop _ _))⟩)
theorem gr_fuse (k : Dk) (n : Int) : Gr k (fuseK k n).2 := by
  unfold fuseK
  split
  · exact Gr.refl k
  · split
    · exact Gr.refl k
    · exact ⟨Nat.le_succ _, Nat.le_succ _⟩
theorem gr_rest (k : Dk) (keep : List Int) : Gr k (restK k keep) := ⟨Nat.le_succ _, by show (restL k.fs keep).length ≤ _; rw [restL_len]; omega⟩

structure Both (w : World) (F G : Nat → Prop) (d rd : Nat) (k : Dk) : Prop where
  D : DiskAt w F d k
  R : RefAt w G rd k
  fg : ∀ i, F i → ¬ G i
theorem Both.keep {S : Nat → Prop} {w w' : World} {F G : Nat → Prop} {d rd : Nat} {k : Dk} (h : Both w F G d rd k) (hk : Keep S w w') (hF : ∀ i, F i → ¬ S i) (hG : ∀ i, G i → ¬ S i) : Both w' F G d rd k := ⟨h.D.keep hk hF, h.R.keep hk hG, h.fg⟩
theorem Both.below {w w' : World} {F G : Nat → Prop} {d rd : Nat} {k : Dk} (h : Both w F G d rd k) (hb : Below w.heap.size w w') : Both w' F G d rd k := ⟨h.D.below hb, h.R.below hb, h.fg⟩
/-- What a call on both leaves. -/
def Bp (w : World) (F G : Nat → Prop) (d rd : Nat) (k' : Dk) (w' : World) : Prop := ∃ F' G', Both w' F' G' d rd k' ∧ Keep (fun i => F i ∨ G i) w w' ∧ (∀ i, F' i → F i ∨ w.heap.size ≤ i) ∧ (∀ i, G' i → G i ∨ w.heap.size ≤ i)

/-- Behind the program's call: the program's disk has moved on. -/
structure Mid (w w' : World) (F F' G : Nat → Prop) (d rd : Nat) (k k' : Dk) : Prop where
  D : DiskAt w' F' d k'
  R : RefAt w' G rd k
  fg : ∀ i, F' i → ¬ G i
  kp : Keep (fun i => F i ∨ G i) w w'
  ff : ∀ i, F' i → F i ∨ w.heap.size ≤ i
theorem Both.prog {w0 w w' : World} {F F' G : Nat → Prop} {d rd : Nat} {k k' : Dk} (h : Both w F G d rd k) (h0 : Below w0.heap.size w0 w) (hD : DiskAt w' F' d k') (hk : Keep F w w') (hF : ∀ i, F' i → F i ∨ w.heap.size ≤ i) : Mid w0 w' F F' G d rd k k' := by
  have hs := h0.size
  refine ⟨hD, h.R.keep hk (fun i hi hf => h.fg i hf hi), fun i hi hg => ?_, (Keep.ofBelow h0).trans (hk.mono (fun _ h => Or.inl h)), fun i hi => (hF i hi).imp id (fun h => Nat.le_trans hs h)⟩
  rcases hF i hi with h1 | h1
  · exact h.fg i h1 hg
  · have := h.R.lt i hg; omega
theorem Mid.below {w w' w2 : World} {F F' G : Nat → Prop} {d rd : Nat} {k k' : Dk} (h : Mid w w' F F' G d rd k k') (hb : Below w'.heap.size w' w2) : Mid w w2 F F' G d rd k k' := ⟨h.D.below hb, h.R.below hb, h.fg, h.kp.trans (Keep.ofBelow hb), h.ff⟩
theorem Mid.doc {w w' w2 : World} {F F' G G' : Nat → Prop} {d rd : Nat} {k k' : Dk} (h : Mid w w' F F' G d rd k k') (hR : RefAt w2 G' rd k') (hk : Keep G w' w2) (hG : ∀ i, G' i → G i ∨ w'.heap.size ≤ i) : Bp w F G d rd k' w2 := by
  refine ⟨F', G', ⟨h.D.keep hk (fun i hi hg => h.fg i hi hg), hR, fun i hi hg => ?_⟩, h.kp.trans (hk.mono (fun _ h => Or.inr h)), h.ff, fun i hi => (hG i hi).imp id (fun h9 => Nat.le_trans h.kp.size h9)⟩
  rcases hG i hg with h1 | h1
  · exact h.fg i hi h1
  · have := h.D.lt i hi; omega
theorem Both.idle {w0 w : World} {F G : Nat → Prop} {d rd : Nat} {k : Dk} (h : Both w F G d rd k) (h0 : Below w0.heap.size w0 w) : Bp w0 F G d rd k w := ⟨F, G, h, Keep.ofBelow h0, fun _ h => Or.inl h, fun _ h => Or.inl h⟩
theorem Bp.below {w w' w2 : World} {F G : Nat → Prop} {d rd : Nat} {k : Dk} (h : Bp w F G d rd k w') (hb : Below w'.heap.size w' w2) : Bp w F G d rd k w2 := by
  obtain ⟨F', G', h1, h2, h3, h4⟩ := h
  exact ⟨F', G', h1.below hb, h2.trans (Keep.ofBelow hb), h3, h4⟩

/-- The call's own variable, boxed, beside what was handed in. -/
structure PS (W : World) (bf : Nat) (box : Array Value) (w : World) : Prop where
  B : Below W.heap.size W w
  X : w.heap[bf]? = some (.cells box 34 (0, 0))
theorem PS.below {W w w' : World} {bf : Nat} {box : Array Value} (h : PS W bf box w) (hb : Below w.heap.size w w') : PS W bf box w' := ⟨h.B.trans (hb.mono h.B.size), box_below h.X hb⟩
theorem PS.keep {S : Nat → Prop} {W w w' : World} {bf : Nat} {box : Array Value} (h : PS W bf box w) (hk : Keep S w w') (hS : ∀ i, S i → W.heap.size ≤ i) (hb : ¬ S bf) : PS W bf box w' := ⟨h.B.trans (hk.low h.B.size hS), box_keep h.X hk hb⟩
theorem PS.drew {W w : World} {bf : Nat} {box : Array Value} (h : PS W bf box w) : PS W bf box w.drew := ⟨h.B.drew, h.X⟩

theorem both_done {w : World} {F G : Nat → Prop} {d rd : Nat} {k : Dk} (h : Both w F G d rd k) : w.cell? ⟨rd, 2, none⟩ = some (.int .i64 (k.steps : Int)) := by
  obtain ⟨v, hblk, _⟩ := h.R.turn
  rw [cell_of_block hblk]
  rfl

end Go.Proofs.Ytimfidhehikaiaa
