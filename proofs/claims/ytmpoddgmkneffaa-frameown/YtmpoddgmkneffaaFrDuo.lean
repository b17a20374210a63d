/- A reader and the document's, side by side; two such pairs apart. -/
import Derived.Test.YtmpoddgmkneffaaFrArg
namespace Go.Proofs.Ytmpoddgmkneffaa
open Go.RowKit Go.Shelf

/-- One piece more. -/
def stepS (M : Nat) (held : List Int) (big : Bool) (bs : List Int) : List (List Int) × List Int × Bool := if big = true then ([], [], true) else cut M (held ++ bs)

theorem stepS_nil {M : Nat} {held : List Int} {big : Bool} {bs : List Int} : (stepS M held big bs).2.2 = true → (stepS M held big bs).2.1 = [] := by
  unfold stepS
  cases big with
  | true => intro _; rfl
  | false => exact cut_held M _
theorem stepS_bd {M : Nat} {held : List Int} {big : Bool} {bs : List Int} (h : Bd held) (h2 : Bd bs) : Bd (stepS M held big bs).2.1 := by
  unfold stepS
  cases big with
  | true => exact Bd.nil
  | false => exact (cut_bd (h.append h2)).1
theorem stepS_len {M : Nat} {held : List Int} {big : Bool} {bs : List Int} : (stepS M held big bs).2.1.length ≤ held.length + bs.length ∧ (stepS M held big bs).1.length ≤ held.length + bs.length := by
  unfold stepS
  cases big with
  | true => simp
  | false => have := cut_len M (held ++ bs); simpa using this

theorem feedS (p M : Nat) (v : Value) (held : List Int) (big : Bool) (ab : Option Addr) (nb cb : Nat) (bs : List Int) (w : World) (hC : RC w p M v big) (hown : w.ownsRow 0 5 1 v held.length (bc held)) (hbd : Bd held) (hnil : big = true → held = [])
    (hR : Rd w ab nb cb bs) (hlen : held.length + nb ≤ 1000000) : Calls Try.prog 11 #[.pointer (some ⟨p, 0, none⟩), .slice ab nb cb] w (Fed w p M 0 v (stepS M held big bs)) := by
  cases big with
  | false => exact feed_any p M 0 v held ab nb cb bs w hC hown (Nat.zero_le _) hbd hR hlen
  | true =>
    obtain rfl := hnil rfl
    refine (feed_big p M v ab nb cb w hC).mono ?_
    rintro e w' ⟨rfl, rfl⟩
    exact ⟨none, 0, [], v, rfl, hC, hown, (fun k e => .inl e), World.ownsRow_nil _ _ _ _, trivial, (fun k _ u hu => by cases hu), Keep.refl _ _⟩

/-- What the document's Feed answers and leaves, a reader of no use too. -/
def FedD (w : World) (p M : Nat) (u : Value) (r : List (List Int) × List Int × Bool) (e : Ending) (w' : World) : Prop :=
  ∃ a c vs a' n' c', e = .returned (.tuple #[.slice a r.1.length c, .int .i64 (if r.2.2 = true then 5 else 0)]) ∧
    RF w' p M (.slice a' n' c') r.2.2 ∧ Rd w' a' n' c' r.2.1 ∧ (∀ ad, a' = some ad → ad.block < w'.heap.size) ∧ (∀ k, (Value.slice a' n' c').ownBlock = some k → u.ownBlock = some k ∨ w.heap.size ≤ k) ∧
    w'.ownsRow w.heap.size 31 1 (.slice a r.1.length c) r.1.length vs ∧ Pays w' w.heap.size vs r.1 ∧ Keep (fun k => k = p) w w'

theorem refFeedS (p M : Nat) (a0 : Option Addr) (n0 c0 : Nat) (held : List Int) (big : Bool) (ab : Option Addr) (nb cb : Nat) (bs : List Int) (w : World) (hC : RF w p M (.slice a0 n0 c0) big) (hM : M < 9223372036854775808) (hH : Rd w a0 n0 c0 held) (hnil : big = true → held = [])
    (hR : Rd w ab nb cb bs) (hlen : n0 + nb ≤ 1000000) (hlt : ∀ ad, a0 = some ad → ad.block < w.heap.size) : Calls Try.prog 13 #[.pointer (some ⟨p, 0, none⟩), .slice ab nb cb] w (FedD w p M (.slice a0 n0 c0) (stepS M held big bs)) := by
  cases big with
  | false =>
    refine (refFeed_any p M a0 n0 c0 held ab nb cb bs w hC hM hH hR hlen).mono ?_
    rintro e w' ⟨a, c, vs, a', n', c', h1, h2, h3, h4, h5, h6, h7⟩
    refine ⟨a, c, vs, a', n', c', h1, h2, h3, fun ad e => (h4 ad e).2, fun k e => ?_, h5, h6, h7⟩
    cases ha : a' with
    | none => rw [ha] at e; cases e
    | some ad => rw [ha] at e; cases e; exact .inr (h4 ad ha).1
  | true =>
    obtain rfl := hnil rfl
    refine (refFeed_big p M _ ab nb cb w hC).mono ?_
    rintro e w' ⟨rfl, rfl⟩
    exact ⟨none, 0, [], a0, n0, c0, rfl, hC, hH, hlt, (fun k e => .inl e), World.ownsRow_nil _ _ _ _, trivial, Keep.refl _ _⟩

/-- The blocks of a pair. -/
def FP (p : Nat) (v : Value) (q : Nat) (u : Value) (k : Nat) : Prop := k = p ∨ k = q ∨ v.ownBlock = some k ∨ u.ownBlock = some k

structure Duo (W : World) (p : Nat) (v : Value) (q : Nat) (u : Value) (M : Nat) (h : List Int) (b : Bool) (h' : List Int) (b' : Bool) : Prop where
  rc : RC W p M v b
  own : W.ownsRow 0 5 1 v h.length (bc h)
  bd : Bd h
  nil : b = true → h = []
  rf : RF W q M u b'
  rd : ∃ a c, u = .slice a h'.length c ∧ Rd W a h'.length c h'
  nil' : b' = true → h' = []
  vq : v.ownBlock ≠ some q
  up : u.ownBlock ≠ some p
  uq : u.ownBlock ≠ some q
  vu : ∀ k, v.ownBlock = some k → u.ownBlock ≠ some k
  lt : ∀ k, FP p v q u k → k < W.heap.size

theorem Duo.vp {W : World} {p : Nat} {v : Value} {q : Nat} {u : Value} {M : Nat} {h h' : List Int} {b b' : Bool} (D : Duo W p v q u M h b h' b') : v.ownBlock ≠ some p := D.rc.not_row D.own
theorem Duo.pq {W : World} {p : Nat} {v : Value} {q : Nat} {u : Value} {M : Nat} {h h' : List Int} {b b' : Bool} (D : Duo W p v q u M h b h' b') : p ≠ q := fun e => by
  have h1 : W.heap[p]? = _ := D.rc
  have h2 : W.heap[q]? = _ := D.rf
  rw [e, h2] at h1
  simp at h1

theorem Duo.keep {S : Nat → Prop} {W W' : World} {p : Nat} {v : Value} {q : Nat} {u : Value} {M : Nat} {h h' : List Int} {b b' : Bool} (D : Duo W p v q u M h b h' b') (hk : Keep S W W') (hs : ∀ k, FP p v q u k → ¬ S k) : Duo W' p v q u M h b h' b' := by
  obtain ⟨a, c, rfl, hr⟩ := D.rd
  exact ⟨D.rc.keep hk (hs p (.inl rfl)), own_keep D.own hk (fun k e => hs k (.inr (.inr (.inl e)))), D.bd, D.nil, D.rf.keep hk (hs q (.inr (.inl rfl))), ⟨a, c, rfl, hr.keep hk (fun ad e => hs ad.block (.inr (.inr (.inr (by rw [e]; rfl)))))⟩, D.nil', D.vq, D.up, D.uq, D.vu, fun k hf => Nat.lt_of_lt_of_le (D.lt k hf) hk.size⟩
theorem Duo.below {W W' : World} {p : Nat} {v : Value} {q : Nat} {u : Value} {M : Nat} {h h' : List Int} {b b' : Bool} (D : Duo W p v q u M h b h' b') (hb : Below W.heap.size W W') : Duo W' p v q u M h b h' b' := D.keep (S := fun _ => False) (Keep.ofBelow hb) (fun _ _ h => h)

/-- Behind Feed: the reader has gone on, the document's has not yet. -/
theorem Duo.fed {W W' : World} {p : Nat} {v : Value} {q : Nat} {u : Value} {M : Nat} {h h' : List Int} {b b' : Bool} (D : Duo W p v q u M h b h' b') {r : List (List Int) × List Int × Bool} {v' : Value}
    (hC : RC W' p M v' r.2.2) (ho : W'.ownsRow 0 5 1 v' r.2.1.length (bc r.2.1)) (hw : ∀ k, v'.ownBlock = some k → v.ownBlock = some k ∨ W.heap.size ≤ k) (hk : Keep (fun k => k = p ∨ v.ownBlock = some k) W W') (hbd : Bd r.2.1) (hnil : r.2.2 = true → r.2.1 = []) : Duo W' p v' q u M r.2.1 r.2.2 h' b' := by
  obtain ⟨a, c, rfl, hr⟩ := D.rd
  have hq := D.lt q (.inr (.inl rfl))
  refine ⟨hC, ho, hbd, hnil, D.rf.keep hk (fun e => e.elim (fun e => D.pq e.symm) (fun e => D.vq e)), ⟨a, c, rfl, hr.keep hk (fun ad e h => ?_)⟩, D.nil', fun e => ?_, D.up, D.uq, fun k e e2 => ?_, fun k hf => ?_⟩
  · subst e
    rcases h with h | h
    · exact D.up (by rw [← h]; rfl)
    · exact D.vu _ h rfl
  · rcases hw q e with h | h
    · exact D.vq h
    · omega
  · have hlt := D.lt k (.inr (.inr (.inr e2)))
    rcases hw k e with h | h
    · exact D.vu k h e2
    · omega
  · rcases hf with rfl | rfl | hf | hf
    · exact hC.lt
    · exact Nat.lt_of_lt_of_le hq hk.size
    · exact (ho.lt k hf).2
    · exact Nat.lt_of_lt_of_le (D.lt k (.inr (.inr (.inr hf)))) hk.size

/-- Behind the document's Feed. -/
theorem Duo.fedD {W W' : World} {p : Nat} {v : Value} {q : Nat} {u : Value} {M : Nat} {h h' : List Int} {b b' : Bool} (D : Duo W p v q u M h b h' b') {r : List (List Int) × List Int × Bool} {a' : Option Addr} {n' c' : Nat}
    (hC : RF W' q M (.slice a' n' c') r.2.2) (hr' : Rd W' a' n' c' r.2.1) (hlt : ∀ ad, a' = some ad → ad.block < W'.heap.size) (hw : ∀ k, (Value.slice a' n' c').ownBlock = some k → u.ownBlock = some k ∨ W.heap.size ≤ k) (hk : Keep (fun k => k = q) W W') (hnil : r.2.2 = true → r.2.1 = []) :
    Duo W' p v q (.slice a' n' c') M h b r.2.1 r.2.2 := by
  have hp := D.lt p (.inl rfl)
  have hq := D.lt q (.inr (.inl rfl))
  have hn : n' = r.2.1.length := hr'.len.symm
  subst hn
  refine ⟨D.rc.keep hk (fun e => D.pq e), own_keep D.own hk (fun k e h => D.vq (by rw [← h]; exact e)), D.bd, D.nil, hC, ⟨a', c', rfl, hr'⟩, hnil, D.vq, fun e => ?_, fun e => ?_, fun k e e2 => ?_, fun k hf => ?_⟩
  · rcases hw p e with h | h
    · exact D.up h
    · omega
  · rcases hw q e with h | h
    · exact D.uq h
    · omega
  · have := D.lt k (.inr (.inr (.inl e)))
    rcases hw k e2 with h | h
    · exact D.vu k e h
    · omega
  · rcases hf with rfl | rfl | hf | hf
    · exact Nat.lt_of_lt_of_le hp hk.size
    · exact hC.lt
    · exact Nat.lt_of_lt_of_le (D.lt k (.inr (.inr (.inl hf)))) hk.size
    · cases ha : a' with
      | none => rw [ha] at hf; cases hf
      | some ad => rw [ha] at hf; cases hf; exact hlt ad ha

end Go.Proofs.Ytmpoddgmkneffaa
