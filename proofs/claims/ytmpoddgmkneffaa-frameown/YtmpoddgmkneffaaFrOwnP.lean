/- What FrameOwn leans on: a reader and the document's, a book and a loan, apart; payloads taken in one by one. -/
import Derived.Test.YtmpoddgmkneffaaOwnC
import Derived.Test.YtmpoddgmkneffaaFrCutP
namespace Go.Proofs.Ytmpoddgmkneffaa
open Go.RowKit Go.Shelf

theorem Pays.ows {W : World} : ∀ {vs : List Value} {xs : List (List Int)} {lo : Nat}, Pays W lo vs xs → Ows W vs xs ∧ (blks vs).Nodup ∧ ∀ b ∈ blks vs, lo ≤ b
  | [], [], _, _ => ⟨trivial, List.nodup_nil, fun b h => by cases h⟩
  | [], _ :: _, _, h => h.elim
  | _ :: _, [], _, h => h.elim
  | _ :: vs, x :: xs, lo, ⟨g, cap, rfl, ho, hb, hr⟩ => by
    obtain ⟨h1, h2, h3⟩ := hr.ows
    have hlo := (row_block ho).1
    have e : blks (.slice (some ⟨g, 0, none⟩) x.length cap :: vs) = g :: blks vs := rfl
    refine ⟨⟨⟨own_weak ho (Nat.zero_le _), hb⟩, h1⟩, ?_, fun b h => ?_⟩
    · rw [e]
      exact List.nodup_cons.2 ⟨fun h => by have := h3 g h; omega, h2⟩
    · rw [e] at h
      rcases List.mem_cons.1 h with rfl | h
      · exact hlo
      · have := h3 b h; omega

/-- A reader with the document's, and a book, apart, in new memory. -/
structure DB (B : Nat) (W : World) (p : Nat) (v : Value) (q : Nat) (u : Value) (h : List Int) (b : Bool) (h' : List Int) (b' : Bool) (pk : Nat) (fv wv : Value) (fs ws : List Value) (ys : List (List Int)) (N : Nat) : Prop where
  duo : Duo W p v q u 100 h b h' b'
  book : BookAt W pk fv wv fs ws ys N
  ap : ∀ k, BF pk fv wv fs ws k → ¬ FP p v q u k
  nd : ∀ k, FP p v q u k → B ≤ k
  nb : ∀ k, BF pk fv wv fs ws k → B ≤ k
def DF (p : Nat) (v : Value) (q : Nat) (u : Value) (pk : Nat) (fv wv : Value) (fs ws : List Value) (k : Nat) : Prop := FP p v q u k ∨ BF pk fv wv fs ws k

section
variable {B : Nat} {W W' : World} {p : Nat} {v : Value} {q : Nat} {u : Value} {h h' : List Int} {b b' : Bool} {pk : Nat} {fv wv : Value} {fs ws : List Value} {ys : List (List Int)} {N : Nat}
theorem DB.keep {S : Nat → Prop} (D : DB B W p v q u h b h' b' pk fv wv fs ws ys N) (hk : Keep S W W') (hs : ∀ k, DF p v q u pk fv wv fs ws k → ¬ S k) : DB B W' p v q u h b h' b' pk fv wv fs ws ys N :=
  ⟨D.duo.keep hk (fun k e => hs k (.inl e)), D.book.keep hk (fun k e => hs k (.inr e)), D.ap, D.nd, D.nb⟩
theorem DB.below (D : DB B W p v q u h b h' b' pk fv wv fs ws ys N) (hb : Below W.heap.size W W') : DB B W' p v q u h b h' b' pk fv wv fs ws ys N := D.keep (S := fun _ => False) (Keep.ofBelow hb) (fun _ _ h => h)
theorem DB.lt (D : DB B W p v q u h b h' b' pk fv wv fs ws ys N) : ∀ k, DF p v q u pk fv wv fs ws k → k < W.heap.size := fun k e => e.elim (D.duo.lt k) (D.book.lt k)
theorem DB.fed (D : DB B W p v q u h b h' b' pk fv wv fs ws ys N) (hB : B ≤ W.heap.size) {r : List (List Int) × List Int × Bool} {v' : Value}
    (hC : RC W' p 100 v' r.2.2) (ho : W'.ownsRow 0 5 1 v' r.2.1.length (bc r.2.1)) (hw : ∀ k, v'.ownBlock = some k → v.ownBlock = some k ∨ W.heap.size ≤ k) (hk : Keep (fun k => k = p ∨ v.ownBlock = some k) W W') (hbd : Bd r.2.1) (hnil : r.2.2 = true → r.2.1 = []) :
    DB B W' p v' q u r.2.1 r.2.2 h' b' pk fv wv fs ws ys N := by
  have new : ∀ k, FP p v' q u k → FP p v q u k ∨ W.heap.size ≤ k := by
    rintro k (e | e | e | e)
    · exact .inl (.inl e)
    · exact .inl (.inr (.inl e))
    · exact (hw k e).imp (fun e => .inr (.inr (.inl e))) id
    · exact .inl (.inr (.inr (.inr e)))
  refine ⟨D.duo.fed hC ho hw hk hbd hnil, D.book.keep hk (fun k e s => D.ap k e (s.elim .inl (fun s => .inr (.inr (.inl s))))), fun k e e2 => ?_, fun k e => ?_, D.nb⟩
  · rcases new k e2 with e2 | e2
    · exact D.ap k e e2
    · have := D.book.lt k e; omega
  · rcases new k e with e | e
    · exact D.nd k e
    · omega
theorem DB.fedD (D : DB B W p v q u h b h' b' pk fv wv fs ws ys N) (hB : B ≤ W.heap.size) {r : List (List Int) × List Int × Bool} {a' : Option Addr} {n' c' : Nat}
    (hC : RF W' q 100 (.slice a' n' c') r.2.2) (hr' : Rd W' a' n' c' r.2.1) (hlt : ∀ ad, a' = some ad → ad.block < W'.heap.size) (hw : ∀ k, (Value.slice a' n' c').ownBlock = some k → u.ownBlock = some k ∨ W.heap.size ≤ k) (hk : Keep (fun k => k = q) W W') (hnil : r.2.2 = true → r.2.1 = []) :
    DB B W' p v q (.slice a' n' c') h b r.2.1 r.2.2 pk fv wv fs ws ys N := by
  have new : ∀ k, FP p v q (.slice a' n' c') k → FP p v q u k ∨ W.heap.size ≤ k := by
    rintro k (e | e | e | e)
    · exact .inl (.inl e)
    · exact .inl (.inr (.inl e))
    · exact .inl (.inr (.inr (.inl e)))
    · exact (hw k e).imp (fun e => .inr (.inr (.inr e))) id
  refine ⟨D.duo.fedD hC hr' hlt hw hk hnil, D.book.keep hk (fun k e s => D.ap k e (.inr (.inl s))), fun k e e2 => ?_, fun k e => ?_, D.nb⟩
  · rcases new k e2 with e2 | e2
    · exact D.ap k e e2
    · have := D.book.lt k e; omega
  · rcases new k e with e | e
    · exact D.nd k e
    · omega
/-- The book has taken a list in. -/
theorem DB.took (D : DB B W p v q u h b h' b' pk fv wv fs ws ys N) (hB : B ≤ W.heap.size) {l : Value} (hl : ∀ k, l.ownBlock = some k → B ≤ k ∧ ¬ FP p v q u k) {fv' wv' : Value} {fs' ws' : List Value} {ys' : List (List Int)} {N' : Nat} (hb : BookAt W' pk fv' wv' fs' ws' ys' N')
    (hw : ∀ k, BF pk fv' wv' fs' ws' k → BF pk fv wv fs ws k ∨ l.ownBlock = some k ∨ W.heap.size ≤ k) (hk : Keep (BF pk fv wv fs ws) W W') : DB B W' p v q u h b h' b' pk fv' wv' fs' ws' ys' N' := by
  refine ⟨D.duo.keep hk (fun k e s => D.ap k s e), hb, fun k e e2 => ?_, D.nd, fun k e => ?_⟩
  · rcases hw k e with e | e | e
    · exact D.ap k e e2
    · exact (hl k e).2 e2
    · have := D.duo.lt k e2; omega
  · rcases hw k e with e | e | e
    · exact D.nb k e
    · exact (hl k e).1
    · omega
end
end Go.Proofs.Ytmpoddgmkneffaa
