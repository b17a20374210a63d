/- A loan and a book side by side, their blocks bounded by a predicate: what lies outside it stands. -/
import Derived.Test.YtimfidhehikaiaaOwnC
namespace Go.Proofs.Ytimfidhehikaiaa
open Go.RowKit

/-- A loan and a book, apart, all of whose blocks meet Fp; at most m lists lent. -/
def LBq (Fp : Nat → Prop) (pn pk m : Nat) (W : World) : Prop :=
  ∃ (lv mv : Value) (ls ms : List Value) (xs : List (List Int)) (fv wv : Value) (fs ws : List Value) (ys : List (List Int)) (N : Nat),
    LoanAt W pn lv mv ls ms xs ∧ BookAt W pk fv wv fs ws ys N ∧ (∀ j, LF pn lv mv ls ms j → ¬ BF pk fv wv fs ws j) ∧ (∀ j, LF pn lv mv ls ms j → Fp j) ∧ (∀ j, BF pk fv wv fs ws j → Fp j) ∧ ls.length ≤ m ∧ (∀ x ∈ xs, x.length ≤ 3000)

theorem LBq.keep {Fp S : Nat → Prop} {pn pk m : Nat} {W W' : World} (h : LBq Fp pn pk m W) (k : Keep S W W') (hS : ∀ j, Fp j → ¬ S j) : LBq Fp pn pk m W' := by
  obtain ⟨lv, mv, ls, ms, xs, fv, wv, fs, ws, ys, N, h1, h2, h3, h4, h5, h6, h7⟩ := h
  exact ⟨lv, mv, ls, ms, xs, fv, wv, fs, ws, ys, N, h1.keep k (fun j q => hS j (h4 j q)), h2.keep k (fun j q => hS j (h5 j q)), h3, h4, h5, h6, h7⟩
theorem LBq.ext {Fp : Nat → Prop} {pn pk m : Nat} {W W' : World} (h : LBq Fp pn pk m W) (hx : Below W.heap.size W W') : LBq Fp pn pk m W' :=
  h.keep (Keep.ofBelow (S := fun _ => False) hx) (fun _ _ q => q)
theorem LBq.mono {Fp Fq : Nat → Prop} {pn pk m : Nat} {W : World} (h : LBq Fp pn pk m W) (hm : ∀ j, j < W.heap.size → Fp j → Fq j) : LBq Fq pn pk m W := by
  obtain ⟨lv, mv, ls, ms, xs, fv, wv, fs, ws, ys, N, h1, h2, h3, h4, h5, h6, h7⟩ := h
  exact ⟨lv, mv, ls, ms, xs, fv, wv, fs, ws, ys, N, h1, h2, h3, fun j q => hm j (h1.lt j q) (h4 j q), fun j q => hm j (h2.lt j q) (h5 j q), h6, h7⟩

theorem lendQ {Fp : Nat → Prop} {pn pk m : Nat} {W : World} (h : LBq Fp pn pk m W) (hm : m ≤ 1000) (a : Option Addr) (n c : Nat) (ys : List Int) (hR : Rd W a n c ys) (hn : n ≤ 2000) :
    Calls Try.prog 19 #[.pointer (some ⟨pn, 0, none⟩), .slice a n c] W fun e W' => ∃ g cap, e = .returned (.slice (some ⟨g, 0, none⟩) n cap) ∧ Rd W' (some ⟨g, 0, none⟩) n cap ys ∧ LBq (fun j => Fp j ∨ (W.heap.size ≤ j ∧ j < W'.heap.size)) pn pk (m + 1) W' ∧ Keep Fp W W' := by
  obtain ⟨lv, mv, ls, ms, xs, fv, wv, fs, ws, zs, N, h1, h2, h3, h4, h5, h6, h7⟩ := h
  have hml : ms.length = ls.length := h1.two.g.ows.len.trans h1.two.f.ows.len.symm
  have hyl := hR.len
  refine (loanBytes_any pn lv mv ls ms xs a n c ys W h1 hR (by omega) (by omega) (by omega)).mono ?_
  rintro e W' ⟨g, cap, lv', mv', ml, rfl, L', hr', hg, hf, hk⟩
  refine ⟨g, cap, rfl, hr', ⟨_, _, _, _, _, _, _, _, _, _, _, L', h2.keep hk (fun j e s => h3 j s e), fun j e s => ?_, fun j e => ?_, fun j e => .inl (h5 j e), by rw [List.length_append]; simp; omega, fun x hx => ?_⟩, hk.mono h4⟩
  · rcases hf j e with e | e
    · exact h3 j e s
    · have := h2.lt j s; omega
  · rcases hf j e with e' | e'
    · exact .inl (h4 j e')
    · exact .inr ⟨e', L'.lt j e⟩
  · rcases List.mem_append.1 hx with hx | hx
    · exact h7 x hx
    · simp at hx
      rw [hx, List.length_append]
      have : marks5.length = 5 := rfl
      omega

/-- A list of its own, whose block is outside, taken in. -/
theorem takeQ {Fp : Nat → Prop} {pn pk m : Nat} {W : World} (h : LBq Fp pn pk m W) (u : Value) (x : List Int) (hu : Ow W u x) (hn : ∀ k, u.ownBlock = some k → ¬ Fp k) (hl : x.length ≤ 100000) :
    Calls Try.prog 21 #[.pointer (some ⟨pk, 0, none⟩), u] W fun e W' => ∃ r, e = .returned r ∧ LBq (fun j => Fp j ∨ u.ownBlock = some j ∨ (W.heap.size ≤ j ∧ j < W'.heap.size)) pn pk m W' ∧ Keep Fp W W' := by
  obtain ⟨lv, mv, ls, ms, xs, fv, wv, fs, ws, zs, N, h1, h2, h3, h4, h5, h6, h7⟩ := h
  refine (bookBytes_any pk N fv wv fs ws zs u x W h2 hu (fun j e s => hn j e (h5 j s)) (by omega)).mono ?_
  rintro e W' ⟨r, fv', wv', fs', ws', ys', N', rfl, hb', hf', hk'⟩
  refine ⟨r, rfl, ⟨_, _, _, _, _, _, _, _, _, _, _, h1.keep hk' (fun j q s => h3 j q s), hb', fun j e s => ?_, fun j e => .inl (h4 j e), fun j e => ?_, h6, h7⟩, hk'.mono h5⟩
  · rcases hf' j s with s | s | s
    · exact h3 j e s
    · exact hn j s (h4 j e)
    · have := h1.lt j e; omega
  · rcases hf' j e with e' | e' | e'
    · exact .inl (h5 j e')
    · exact .inr (.inl e')
    · exact .inr (.inr ⟨e', hb'.lt j e⟩)

theorem backQ {Fp : Nat → Prop} {pn pk m : Nat} {W : World} (h : LBq Fp pn pk m W) (hm : m ≤ 1000) :
    Calls Try.prog 22 #[.pointer (some ⟨pn, 0, none⟩)] W fun e W' => e = .returned (.bool true) ∧ Keep Fp W W' ∧ ∃ fv wv fs ws ys N, BookAt W' pk fv wv fs ws ys N ∧ ∀ j, BF pk fv wv fs ws j → Fp j := by
  obtain ⟨lv, mv, ls, ms, xs, fv, wv, fs, ws, zs, N, h1, h2, h3, h4, h5, h6, h7⟩ := h
  refine (loanBack_any pn lv mv ls ms xs W h1 (by omega) (fun x hx => by have := h7 x hx; omega)).mono ?_
  rintro e W' ⟨rfl, hk⟩
  exact ⟨rfl, hk.mono h4, _, _, _, _, _, _, h2.keep hk (fun j e s => h3 j s e), h5⟩

theorem LBq.start (w : World) : LBq (fun j => j = w.heap.size ∨ j = w.heap.size + 1) w.heap.size (w.heap.size + 1) 0 ((w.alloc (.cells #[.slice none 0 0, .slice none 0 0] 54)).alloc (.cells #[.slice none 0 0, .slice none 0 0, .slice none 0 0, .slice none 0 0, .int .i64 0] 57)) := by
  have hL := (LoanAt.new w).keep (S := fun _ => False) ((Keep.refl _ _).alloc (.cells #[.slice none 0 0, .slice none 0 0, .slice none 0 0, .slice none 0 0, .int .i64 0] 57)) (fun _ _ h => h)
  have hK := BookAt.new (w.alloc (.cells #[.slice none 0 0, .slice none 0 0] 54))
  have e1 : (w.alloc (.cells #[.slice none 0 0, .slice none 0 0] 54)).heap.size = w.heap.size + 1 := by simp
  rw [e1] at hK
  refine ⟨_, _, _, _, _, _, _, _, _, _, _, hL, hK, ?_, ?_, ?_, by simp, fun x hx => by cases hx⟩
  · rintro j (rfl | (e | e) | (e | e)) f
    · rcases f with f | (f | f) | (f | f) <;> first | (cases f; done) | omega
    all_goals cases e
  · rintro j (rfl | (e | e) | (e | e)) <;> first | (cases e; done) | omega
  · rintro j (rfl | (e | e) | (e | e)) <;> first | (cases e; done) | omega
end Go.Proofs.Ytimfidhehikaiaa
