/- A loan and a book side by side, step by step: for every law of one's own memory. -/
import Derived.Test.YtmmjeikmifhekaaOwnC
namespace Go.Proofs.Ytmmjeikmifhekaa
open Go.RowKit

/-- A loan and a book, apart, from B on; at most m lists lent. -/
def LB (B pn pk m : Nat) (W : World) : Prop :=
  ∃ (lv mv : Value) (ls ms : List Value) (xs : List (List Int)) (fv wv : Value) (fs ws : List Value) (ys : List (List Int)) (N : Nat),
    LoanAt W pn lv mv ls ms xs ∧ BookAt W pk fv wv fs ws ys N ∧ (∀ j, LF pn lv mv ls ms j → ¬ BF pk fv wv fs ws j) ∧ (∀ j, LF pn lv mv ls ms j → B ≤ j) ∧ (∀ j, BF pk fv wv fs ws j → B ≤ j) ∧ ls.length ≤ m ∧ (∀ x ∈ xs, x.length ≤ 3000)

theorem LB.ext {B pn pk m : Nat} {W W' : World} (h : LB B pn pk m W) (hx : Below W.heap.size W W') : LB B pn pk m W' := by
  obtain ⟨lv, mv, ls, ms, xs, fv, wv, fs, ws, ys, N, h1, h2, h3, h4, h5, h6, h7⟩ := h
  have k := Keep.ofBelow (S := fun _ => False) hx
  exact ⟨lv, mv, ls, ms, xs, fv, wv, fs, ws, ys, N, h1.keep k (fun _ _ h => h), h2.keep k (fun _ _ h => h), h3, h4, h5, h6, h7⟩

theorem lendR {B pn pk m : Nat} {W : World} (h : LB B pn pk m W) (hB : B ≤ W.heap.size) (hm : m ≤ 1000) (a : Option Addr) (n c : Nat) (ys : List Int) (hR : Rd W a n c ys) (hn : n ≤ 2000) :
    Calls Try.prog 14 #[.pointer (some ⟨pn, 0, none⟩), .slice a n c] W fun e W' => ∃ g cap, e = .returned (.slice (some ⟨g, 0, none⟩) n cap) ∧ Rd W' (some ⟨g, 0, none⟩) n cap ys ∧ LB B pn pk (m + 1) W' ∧ Below B W W' := by
  obtain ⟨lv, mv, ls, ms, xs, fv, wv, fs, ws, zs, N, h1, h2, h3, h4, h5, h6, h7⟩ := h
  have hml : ms.length = ls.length := h1.two.g.ows.len.trans h1.two.f.ows.len.symm
  have hyl := hR.len
  refine (loanBytes_any pn lv mv ls ms xs a n c ys W h1 hR (by omega) (by omega) (by omega)).mono ?_
  rintro e W' ⟨g, cap, lv', mv', ml, rfl, L', hr', hg, hf, hk⟩
  refine ⟨g, cap, rfl, hr', ⟨_, _, _, _, _, _, _, _, _, _, _, L', h2.keep hk (fun j e s => h3 j s e), fun j e s => ?_, fun j e => ?_, h5, by rw [List.length_append]; simp; omega, fun x hx => ?_⟩, hk.below hB h4⟩
  · rcases hf j e with e | e
    · exact h3 j e s
    · have := h2.lt j s; omega
  · rcases hf j e with e | e
    · exact h4 j e
    · omega
  · rcases List.mem_append.1 hx with hx | hx
    · exact h7 x hx
    · simp at hx
      rw [hx, List.length_append]
      have : marks5.length = 5 := rfl
      omega

/-- A list in new memory since W0, taken in. -/
theorem takeR {B pn pk m : Nat} {W0 W : World} (h : LB B pn pk m W0) (hB : B ≤ W0.heap.size) (hx : Below W0.heap.size W0 W) (u : Value) (x : List Int) (hu : Ow W u x) (hn : ∀ k, u.ownBlock = some k → W0.heap.size ≤ k) (hl : x.length ≤ 100000) :
    Calls Try.prog 15 #[.pointer (some ⟨pk, 0, none⟩), u] W fun e W' => ∃ r, e = .returned r ∧ LB B pn pk m W' ∧ Below B W W' := by
  obtain ⟨lv, mv, ls, ms, xs, fv, wv, fs, ws, zs, N, h1, h2, h3, h4, h5, h6, h7⟩ := h
  have k := Keep.ofBelow (S := fun _ => False) hx
  have hs := hx.size
  refine (bookBytes_any pk N fv wv fs ws zs u x W (h2.keep k (fun _ _ h => h)) hu (fun j e s => by have h1 := hn j e; have h2 := h2.lt j s; omega) (by omega)).mono ?_
  rintro e W' ⟨r, fv', wv', fs', ws', ys', N', rfl, hb', hf', hk'⟩
  refine ⟨r, rfl, ⟨_, _, _, _, _, _, _, _, _, _, _, (h1.keep k (fun _ _ h => h)).keep hk' h3, hb', fun j e s => ?_, h4, fun j e => ?_, h6, h7⟩, hk'.below (by omega) h5⟩
  · rcases hf' j s with s | s | s
    · exact h3 j e s
    · have h1' := hn j s; have h2' := h1.lt j e; omega
    · have h2' := h1.lt j e; omega
  · rcases hf' j e with e | e | e
    · exact h5 j e
    · have := hn j e; omega
    · omega

theorem backR {B pn pk m : Nat} {W : World} (h : LB B pn pk m W) (hB : B ≤ W.heap.size) (hm : m ≤ 1000) :
    Calls Try.prog 16 #[.pointer (some ⟨pn, 0, none⟩)] W fun e W' => e = .returned (.bool true) ∧ Below B W W' ∧ ∃ fv wv fs ws ys N, BookAt W' pk fv wv fs ws ys N ∧ ∀ j, BF pk fv wv fs ws j → B ≤ j := by
  obtain ⟨lv, mv, ls, ms, xs, fv, wv, fs, ws, zs, N, h1, h2, h3, h4, h5, h6, h7⟩ := h
  refine (loanBack_any pn lv mv ls ms xs W h1 (by omega) (fun x hx => by have := h7 x hx; omega)).mono ?_
  rintro e W' ⟨rfl, hk⟩
  exact ⟨rfl, hk.below hB h4, _, _, _, _, _, _, h2.keep hk (fun j e s => h3 j s e), h5⟩

theorem LB.start (w : World) : LB w.heap.size w.heap.size (w.heap.size + 1) 0 ((w.alloc (.cells #[.slice none 0 0, .slice none 0 0] 39)).alloc (.cells #[.slice none 0 0, .slice none 0 0, .slice none 0 0, .slice none 0 0, .int .i64 0] 42)) := by
  have hL := (LoanAt.new w).keep (S := fun _ => False) ((Keep.refl _ _).alloc (.cells #[.slice none 0 0, .slice none 0 0, .slice none 0 0, .slice none 0 0, .int .i64 0] 42)) (fun _ _ h => h)
  have hK := BookAt.new (w.alloc (.cells #[.slice none 0 0, .slice none 0 0] 39))
  have e1 : (w.alloc (.cells #[.slice none 0 0, .slice none 0 0] 39)).heap.size = w.heap.size + 1 := by simp
  rw [e1] at hK
  refine ⟨_, _, _, _, _, _, _, _, _, _, _, hL, hK, ?_, ?_, ?_, by simp, fun x hx => by cases hx⟩
  · rintro j (rfl | (e | e) | (e | e)) f
    · rcases f with f | (f | f) | (f | f) <;> first | (cases f; done) | omega
    all_goals cases e
  · rintro j (rfl | (e | e) | (e | e)) <;> first | (cases e; done) | omega
  · rintro j (rfl | (e | e) | (e | e)) <;> first | (cases e; done) | omega
end Go.Proofs.Ytmmjeikmifhekaa
