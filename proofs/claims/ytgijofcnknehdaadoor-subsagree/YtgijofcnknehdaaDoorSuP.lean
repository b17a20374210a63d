/- SubsAgree: two ends and the letters between them (pure). -/
import Derived.Test.YtgijofcnknehdaaDoorSuI
import Derived.Test.YtgijofcnknehdaaDoorSuM
namespace Go.Proofs.YtgijofcnknehdaaDoor

abbrev Lt := Int × Int
/-- What a letter does to the side that is asked. -/
def stB (p : Int × Int) (a : Lt) : Int × Int := if a.1 = 1 then (1, a.2) else if a.1 = 2 ∧ p.1 ≠ 0 ∧ p.2 = a.2 then (0, 0) else p
/-- What a letter does to the side that asks. -/
def stA (p : Int × Int) (a : Lt) : Int × Int := if a.1 = 3 ∧ p.1 = 1 ∧ p.2 = a.2 then (2, p.2) else if a.1 = 4 ∧ p.1 ≠ 0 ∧ p.2 = a.2 then (0, 0) else p
def finB (p : Int × Int) (Q : List Lt) : Int × Int := Q.foldl stB p

theorem fin_cons (p : Int × Int) (a : Lt) (Q : List Lt) : finB p (a :: Q) = finB (stB p a) Q := rfl
theorem fin_app (p : Int × Int) (a : Lt) (Q : List Lt) : finB p (Q ++ [a]) = stB (finB p Q) a := by unfold finB; rw [List.foldl_append]; rfl
/-- Without a request among the letters. -/
theorem fin_none : ∀ (Q : List Lt) (p : Int × Int), (∀ y, (1, y) ∉ Q) → finB p Q = p ∨ finB p Q = (0, 0)
  | [], _, _ => Or.inl rfl
  | a :: Q, p, h => by
    have h1 : ¬ a.1 = 1 := fun e => h a.2 (by rw [← e]; exact List.mem_cons_self ..)
    have h2 : ∀ y, (1, y) ∉ Q := fun y hy => h y (List.mem_cons_of_mem _ hy)
    rw [fin_cons]
    unfold stB
    rw [if_neg h1]
    split
    · rcases fin_none Q (0, 0) h2 with e | e <;> exact Or.inr e
    · exact fin_none Q p h2
theorem fin_none0 (Q : List Lt) (h : ∀ y, (1, y) ∉ Q) : finB (0, 0) Q = (0, 0) := by rcases fin_none Q (0, 0) h with e | e <;> exact e
/-- With a request among them, what was there before doesn't matter. -/
theorem fin_some : ∀ (Q : List Lt), (∃ y, (1, y) ∈ Q) → ∃ r, (∀ p, finB p Q = r) ∧ (r = (0, 0) ∨ ∃ y, (1, y) ∈ Q ∧ r = (1, y))
  | [], ⟨_, h⟩ => absurd h (by simp)
  | a :: Q, ⟨y, hy⟩ => by
    by_cases hq : ∃ y, (1, y) ∈ Q
    · obtain ⟨r, h1, h2⟩ := fin_some Q hq
      refine ⟨r, fun p => by rw [fin_cons]; exact h1 _, h2.imp id (fun ⟨y, k, e⟩ => ⟨y, List.mem_cons_of_mem _ k, e⟩)⟩
    · have hq' : ∀ y, (1, y) ∉ Q := fun y k => hq ⟨y, k⟩
      have ha : a = (1, y) := by
        rcases List.mem_cons.1 hy with e | e
        · exact e.symm
        · exact absurd e (hq' y)
      subst ha
      refine ⟨finB (1, y) Q, fun p => rfl, ?_⟩
      rcases fin_none Q (1, y) hq' with e | e
      · exact Or.inr ⟨y, List.mem_cons_self .., e⟩
      · exact Or.inl e

/-- One end asks, the other one is asked: what both know, and what is on its way. -/
structure Dir (o n i m : Int) (Q1 Q0 : List Lt) (c : Int) : Prop where
  j1 : o = 0 → (finB (i, m) Q1).1 = 0
  j2 : o ≠ 0 → ((finB (i, m) Q1).2 = n ∧ (4, n) ∉ Q0 ∧ (((finB (i, m) Q1).1 = 1 ∧ o = 1 ∧ (3, n) ∉ Q0) ∨ ((finB (i, m) Q1).1 = 2 ∧ ((o = 1 ∧ (3, n) ∈ Q0) ∨ o = 2)))) ∨ ((finB (i, m) Q1).1 = 0 ∧ (4, n) ∈ Q0)
  j3 : Q1.Pairwise (fun a b => a.1 = 1 → b.1 = 1 → a.2 < b.2)
  j4 : ∀ y, (1, y) ∈ Q1 → m < y ∧ y ≤ c
  j5 : ∀ a ∈ Q0, (a.1 = 3 ∨ a.1 = 4) → a.2 ≤ c ∧ ∀ y, (1, y) ∈ Q1 → a.2 < y
  j6 : 0 ≤ m ∧ m ≤ c
  j7 : 0 ≤ o ∧ o ≤ 2
section
variable {o n i m c : Int} {Q1 Q0 : List Lt}
theorem Dir.more (D : Dir o n i m Q1 Q0 c) {c' : Int} (h : c ≤ c') : Dir o n i m Q1 Q0 c' :=
  ⟨D.j1, D.j2, D.j3, fun y hy => ⟨(D.j4 y hy).1, by have := (D.j4 y hy).2; omega⟩, fun a ha hk => ⟨by have := (D.j5 a ha hk).1; omega, (D.j5 a ha hk).2⟩, ⟨D.j6.1, by have := D.j6.2; omega⟩, D.j7⟩
theorem mem_app1 {Q : List Lt} {a b : Lt} : b ∈ Q ++ [a] ↔ b ∈ Q ∨ b = a := by simp
/-- A letter of the other matter, to the one that is asked. -/
theorem Dir.push1 (D : Dir o n i m Q1 Q0 c) {a : Lt} (h1 : a.1 ≠ 1) (h2 : a.1 ≠ 2) : Dir o n i m (Q1 ++ [a]) Q0 c := by
  have hf : finB (i, m) (Q1 ++ [a]) = finB (i, m) Q1 := by
    rw [fin_app]; unfold stB; rw [if_neg h1, if_neg (fun k => h2 k.1)]
  have hm : ∀ y, (1, y) ∈ Q1 ++ [a] → (1, y) ∈ Q1 := fun y hy => by
    rcases mem_app1.1 hy with k | k
    · exact k
    · exact absurd (by rw [← k]) h1
  refine ⟨by rw [hf]; exact D.j1, by rw [hf]; exact D.j2, ?_, fun y hy => D.j4 y (hm y hy), fun b hb hk => ⟨(D.j5 b hb hk).1, fun y hy => (D.j5 b hb hk).2 y (hm y hy)⟩, D.j6, D.j7⟩
  rw [List.pairwise_append]
  exact ⟨D.j3, List.pairwise_singleton _ _, fun x _ y hy _ e => by rw [List.mem_singleton.1 hy] at e; exact absurd e h1⟩
/-- A letter of the other matter, to the one that asks. -/
theorem Dir.push0 (D : Dir o n i m Q1 Q0 c) {a : Lt} (h3 : a.1 ≠ 3) (h4 : a.1 ≠ 4) : Dir o n i m Q1 (Q0 ++ [a]) c := by
  have m3 : (3, n) ∈ Q0 ++ [a] ↔ (3, n) ∈ Q0 := by rw [mem_app1]; exact ⟨fun h => h.resolve_right (fun e => h3 (by rw [← e])), Or.inl⟩
  have m4 : (4, n) ∈ Q0 ++ [a] ↔ (4, n) ∈ Q0 := by rw [mem_app1]; exact ⟨fun h => h.resolve_right (fun e => h4 (by rw [← e])), Or.inl⟩
  refine ⟨D.j1, by rw [m3, m4]; exact D.j2, D.j3, D.j4, fun b hb hk => ?_, D.j6, D.j7⟩
  rcases mem_app1.1 hb with k | k
  · exact D.j5 b k hk
  · subst k; exact absurd hk (by omega)
theorem Dir.ask (D : Dir o n i m Q1 Q0 c) {x : Int} (hx : c < x) : Dir 1 x i m (Q1 ++ [(1, x)]) Q0 x := by
  have hf : finB (i, m) (Q1 ++ [(1, x)]) = (1, x) := by rw [fin_app]; unfold stB; rw [if_pos rfl]
  have hn : ∀ k, k = 3 ∨ k = 4 → (k, x) ∉ Q0 := fun k hk hm => by have := (D.j5 _ hm hk).1; simp only at this; omega
  refine ⟨fun e => by omega, fun _ => Or.inl ⟨by rw [hf], hn 4 (Or.inr rfl), Or.inl ⟨by rw [hf], rfl, hn 3 (Or.inl rfl)⟩⟩, ?_, fun y hy => ?_, fun b hb hk => ⟨by have := (D.j5 b hb hk).1; omega, fun y hy => ?_⟩, ⟨D.j6.1, by have := D.j6.2; omega⟩, by omega⟩
  · rw [List.pairwise_append]
    refine ⟨D.j3, List.pairwise_singleton _ _, fun a ha b hb e _ => ?_⟩
    rw [List.mem_singleton.1 hb]
    have ha' : (1, a.2) ∈ Q1 := by rw [← e]; exact ha
    have := (D.j4 _ ha').2
    show a.2 < x
    omega
  · rcases mem_app1.1 hy with k | k
    · have := D.j4 y k; omega
    · have : y = x := (Prod.mk.inj k).2
      have := D.j6.2; omega
  · rcases mem_app1.1 hy with k | k
    · exact (D.j5 b hb hk).2 y k
    · have : y = x := (Prod.mk.inj k).2
      have := (D.j5 b hb hk).1; omega
theorem Dir.leave (D : Dir o n i m Q1 Q0 c) (h0 : o ≠ 0) : Dir 0 0 i m (Q1 ++ [(2, n)]) Q0 c := by
  have hm : ∀ y, (1, y) ∈ Q1 ++ [(2, n)] → (1, y) ∈ Q1 := fun y hy => by
    rcases mem_app1.1 hy with k | k
    · exact k
    · have := (Prod.mk.inj k).1; omega
  refine ⟨fun _ => ?_, fun h => absurd rfl h, ?_, fun y hy => D.j4 y (hm y hy), fun b hb hk => ⟨(D.j5 b hb hk).1, fun y hy => (D.j5 b hb hk).2 y (hm y hy)⟩, D.j6, by omega⟩
  · rw [fin_app]
    unfold stB
    rw [if_neg (show ¬ (2 : Int) = 1 by decide)]
    split
    · rfl
    · rename_i hh
      rcases D.j2 h0 with ⟨a1, _, a3⟩ | ⟨a1, _⟩
      · exfalso
        refine hh ⟨rfl, ?_, a1⟩
        rcases a3 with ⟨e, _⟩ | ⟨e, _⟩ <;> rw [e] <;> decide
      · exact a1
  · rw [List.pairwise_append]
    exact ⟨D.j3, List.pairwise_singleton _ _, fun x _ y hy _ e => by rw [List.mem_singleton.1 hy] at e; exact absurd e (show ¬ (2 : Int) = 1 by decide)⟩
theorem Dir.deny (D : Dir o n i m Q1 Q0 c) : Dir o n 0 0 Q1 (Q0 ++ [(4, m)]) c := by
  have m3 : (3, n) ∈ Q0 ++ [((4 : Int), m)] ↔ (3, n) ∈ Q0 := by rw [mem_app1]; exact ⟨fun h => h.resolve_right (fun e => by have := (Prod.mk.inj e).1; omega), Or.inl⟩
  have hj5 : ∀ b ∈ Q0 ++ [((4 : Int), m)], (b.1 = 3 ∨ b.1 = 4) → b.2 ≤ c ∧ ∀ y, (1, y) ∈ Q1 → b.2 < y := fun b hb hk => by
    rcases mem_app1.1 hb with k | k
    · exact D.j5 b k hk
    · subst k; exact ⟨D.j6.2, fun y hy => (D.j4 y hy).1⟩
  have hj4 : ∀ y, (1, y) ∈ Q1 → 0 < y ∧ y ≤ c := fun y hy => by have := D.j4 y hy; have := D.j6.1; omega
  by_cases hq : ∃ y, (1, y) ∈ Q1
  · obtain ⟨r, h1, h2⟩ := fin_some Q1 hq
    have j1 := D.j1
    have j2 := D.j2
    rw [h1] at j1 j2
    refine ⟨by rw [h1]; exact j1, fun h0 => ?_, D.j3, hj4, hj5, ⟨Int.le_refl _, by have := D.j6; omega⟩, D.j7⟩
    rw [h1, m3]
    rcases j2 h0 with ⟨a1, a2, a3⟩ | ⟨a1, a2⟩
    · refine Or.inl ⟨a1, fun k => ?_, a3⟩
      rcases mem_app1.1 k with k | k
      · exact a2 k
      · have e : n = m := (Prod.mk.inj k).2
        rcases h2 with e2 | ⟨y, hy, e2⟩
        · rcases a3 with ⟨b, _⟩ | ⟨b, _⟩ <;> rw [e2] at b <;> exact absurd b (by decide)
        · have := (D.j4 y hy).1
          rw [e2] at a1
          simp only at a1
          omega
    · exact Or.inr ⟨a1, mem_app1.2 (Or.inl a2)⟩
  · have hq' : ∀ y, (1, y) ∉ Q1 := fun y k => hq ⟨y, k⟩
    have hf := fin_none0 Q1 hq'
    refine ⟨fun _ => by rw [hf], fun h0 => ?_, D.j3, hj4, hj5, ⟨Int.le_refl _, by have := D.j6; omega⟩, D.j7⟩
    rw [hf]
    refine Or.inr ⟨rfl, mem_app1.2 ?_⟩
    rcases D.j2 h0 with ⟨a1, _, a3⟩ | ⟨_, a2⟩
    · refine Or.inr ?_
      rcases fin_none Q1 (i, m) hq' with e | e
      · rw [e] at a1; simp only at a1; rw [a1]
      · rw [e] at a3; rcases a3 with ⟨b, _⟩ | ⟨b, _⟩ <;> exact absurd b (by decide)
    · exact Or.inl a2
theorem Dir.grant (D : Dir o n i m Q1 Q0 c) (hi : i = 1) : Dir o n 2 m Q1 (Q0 ++ [(3, m)]) c := by
  subst hi
  have m4 : (4, n) ∈ Q0 ++ [((3 : Int), m)] ↔ (4, n) ∈ Q0 := by rw [mem_app1]; exact ⟨fun h => h.resolve_right (fun e => by have := (Prod.mk.inj e).1; omega), Or.inl⟩
  have hj5 : ∀ b ∈ Q0 ++ [((3 : Int), m)], (b.1 = 3 ∨ b.1 = 4) → b.2 ≤ c ∧ ∀ y, (1, y) ∈ Q1 → b.2 < y := fun b hb hk => by
    rcases mem_app1.1 hb with k | k
    · exact D.j5 b k hk
    · subst k; exact ⟨D.j6.2, fun y hy => (D.j4 y hy).1⟩
  by_cases hq : ∃ y, (1, y) ∈ Q1
  · obtain ⟨r, h1, h2⟩ := fin_some Q1 hq
    have j1 := D.j1
    have j2 := D.j2
    rw [h1] at j1 j2
    refine ⟨by rw [h1]; exact j1, fun h0 => ?_, D.j3, D.j4, hj5, D.j6, D.j7⟩
    rw [h1, m4]
    rcases j2 h0 with ⟨a1, a2, a3⟩ | ⟨a1, a2⟩
    · rcases h2 with e2 | ⟨y, hy, e2⟩
      · exfalso
        rcases a3 with ⟨b, _⟩ | ⟨b, _⟩ <;> rw [e2] at b <;> exact absurd b (by decide)
      · have hlt := (D.j4 y hy).1
        rw [e2] at a1 a3
        simp only at a1 a3
        rcases a3 with ⟨_, b2, b3⟩ | ⟨b, _⟩
        · refine Or.inl ⟨by rw [e2]; exact a1, a2, Or.inl ⟨by rw [e2], b2, fun k => ?_⟩⟩
          rcases mem_app1.1 k with k | k
          · exact b3 k
          · have : n = m := (Prod.mk.inj k).2
            omega
        · omega
    · exact Or.inr ⟨a1, a2⟩
  · have hq' : ∀ y, (1, y) ∉ Q1 := fun y k => hq ⟨y, k⟩
    have key : (finB (1, m) Q1 = (1, m) ∧ finB (2, m) Q1 = (2, m)) ∨ (finB (1, m) Q1 = (0, 0) ∧ finB (2, m) Q1 = (0, 0)) := by
      clear hj5 m4 D hq
      induction Q1 with
      | nil => exact Or.inl ⟨rfl, rfl⟩
      | cons a Q ih =>
        have h1 : ¬ a.1 = 1 := fun e => hq' a.2 (by rw [← e]; exact List.mem_cons_self ..)
        have h2 : ∀ y, (1, y) ∉ Q := fun y hy => hq' y (List.mem_cons_of_mem _ hy)
        rw [fin_cons, fin_cons]
        unfold stB
        rw [if_neg h1, if_neg h1]
        by_cases hc : a.1 = 2 ∧ m = a.2
        · rw [if_pos ⟨hc.1, one0, hc.2⟩, if_pos ⟨hc.1, two0, hc.2⟩, fin_none0 Q h2]
          exact Or.inr ⟨rfl, rfl⟩
        · rw [if_neg (fun k => hc ⟨k.1, k.2.2⟩), if_neg (fun k => hc ⟨k.1, k.2.2⟩)]
          exact ih h2
    rcases key with ⟨e1, e2⟩ | ⟨e1, e2⟩
    · have j1 := D.j1
      have j2 := D.j2
      rw [e1] at j1 j2
      refine ⟨fun h0 => absurd (j1 h0) one0, fun h0 => ?_, D.j3, D.j4, hj5, D.j6, D.j7⟩
      rw [e2, m4]
      rcases j2 h0 with ⟨a1, a2, a3⟩ | ⟨a1, _⟩
      · simp only at a1 a3
        rcases a3 with ⟨_, b2, _⟩ | ⟨b, _⟩
        · exact Or.inl ⟨a1, a2, Or.inr ⟨rfl, Or.inl ⟨b2, mem_app1.2 (Or.inr (by rw [a1]))⟩⟩⟩
        · omega
      · simp only at a1; omega
    · have j1 := D.j1
      have j2 := D.j2
      rw [e1] at j1 j2
      refine ⟨fun _ => by rw [e2], fun h0 => ?_, D.j3, D.j4, hj5, D.j6, D.j7⟩
      rw [e2, m4]
      rcases j2 h0 with ⟨_, _, a3⟩ | ⟨a1, a2⟩
      · simp only at a3; omega
      · exact Or.inr ⟨rfl, a2⟩
/-- The one that is asked hears. -/
theorem Dir.hearB {a : Lt} (D : Dir o n i m (a :: Q1) Q0 c) : Dir o n (stB (i, m) a).1 (stB (i, m) a).2 Q1 Q0 c := by
  have hj := List.pairwise_cons.1 D.j3
  refine ⟨D.j1, D.j2, hj.2, fun y hy => ⟨?_, (D.j4 y (List.mem_cons_of_mem _ hy)).2⟩, fun b hb hk => ⟨(D.j5 b hb hk).1, fun y hy => (D.j5 b hb hk).2 y (List.mem_cons_of_mem _ hy)⟩, ?_, D.j7⟩
  · have h4 := (D.j4 y (List.mem_cons_of_mem _ hy)).1
    have h6 := D.j6
    unfold stB
    split
    · rename_i e
      exact hj.1 _ hy e rfl
    · split
      · show (0 : Int) < y
        omega
      · exact h4
  · have h6 := D.j6
    unfold stB
    split
    · rename_i e
      have h : (1, a.2) ∈ a :: Q1 := by rw [← e]; exact List.mem_cons_self ..
      have := D.j4 _ h
      show 0 ≤ a.2 ∧ a.2 ≤ c
      omega
    · split
      · show (0 : Int) ≤ 0 ∧ 0 ≤ c
        omega
      · exact h6
/-- The one that asks hears. -/
theorem Dir.hearA {a : Lt} (D : Dir o n i m Q1 (a :: Q0) c) : Dir (stA (o, n) a).1 (stA (o, n) a).2 i m Q1 Q0 c := by
  have hj5 : ∀ b ∈ Q0, (b.1 = 3 ∨ b.1 = 4) → b.2 ≤ c ∧ ∀ y, (1, y) ∈ Q1 → b.2 < y := fun b hb hk => D.j5 b (List.mem_cons_of_mem _ hb) hk
  have tl : ∀ k, (k, n) ∉ a :: Q0 → (k, n) ∉ Q0 := fun k h h' => h (List.mem_cons_of_mem _ h')
  have j7 := D.j7
  unfold stA
  split
  · rename_i e
    obtain ⟨e1, e2, e3⟩ := e
    simp only at e2 e3
    have ha : a = (3, n) := by rw [e3, ← e1]
    refine ⟨fun h => by omega, fun _ => ?_, D.j3, D.j4, hj5, D.j6, by omega⟩
    rcases D.j2 (by omega) with ⟨a1, a2, a3⟩ | ⟨a1, a2⟩
    · refine Or.inl ⟨a1, tl 4 a2, ?_⟩
      rcases a3 with ⟨_, _, b3⟩ | ⟨b1, _⟩
      · exact absurd (by rw [ha]; exact List.mem_cons_self ..) b3
      · exact Or.inr ⟨b1, Or.inr rfl⟩
    · refine Or.inr ⟨a1, ?_⟩
      rcases List.mem_cons.1 a2 with k | k
      · rw [ha] at k; have := (Prod.mk.inj k).1; omega
      · exact k
  · split
    · rename_i e
      obtain ⟨e1, e2, e3⟩ := e
      simp only at e2 e3
      have ha : a = (4, n) := by rw [e3, ← e1]
      refine ⟨fun _ => ?_, fun h => absurd rfl h, D.j3, D.j4, hj5, D.j6, by omega⟩
      rcases D.j2 e2 with ⟨_, a2, _⟩ | ⟨a1, _⟩
      · exact absurd (by rw [ha]; exact List.mem_cons_self ..) a2
      · exact a1
    · rename_i n3 n4
      refine ⟨D.j1, fun h0 => ?_, D.j3, D.j4, hj5, D.j6, j7⟩
      have h0' : o ≠ 0 := h0
      rcases D.j2 h0' with ⟨a1, a2, a3⟩ | ⟨a1, a2⟩
      · refine Or.inl ⟨a1, tl 4 a2, ?_⟩
        rcases a3 with ⟨b1, b2, b3⟩ | ⟨b1, b2⟩
        · exact Or.inl ⟨b1, b2, tl 3 b3⟩
        · refine Or.inr ⟨b1, ?_⟩
          rcases b2 with ⟨d1, d2⟩ | d
          · refine Or.inl ⟨d1, ?_⟩
            rcases List.mem_cons.1 d2 with k | k
            · exact absurd ⟨by rw [← k], d1, by rw [← k]⟩ n3
            · exact k
          · exact Or.inr d
      · refine Or.inr ⟨a1, ?_⟩
        rcases List.mem_cons.1 a2 with k | k
        · exact absurd ⟨by rw [← k], h0', by rw [← k]⟩ n4
        · exact k
theorem Dir.done (D : Dir o n i m [] [] c) : o = i ∧ (o ≠ 0 → n = m) := by
  by_cases h0 : o = 0
  · have := D.j1 h0
    exact ⟨h0.trans this.symm, fun h => absurd h0 h⟩
  · rcases D.j2 h0 with ⟨a1, _, a3⟩ | ⟨_, a2⟩
    · refine ⟨?_, fun _ => a1.symm⟩
      rcases a3 with ⟨b1, b2, _⟩ | ⟨b1, ⟨_, b2⟩ | b2⟩
      · exact b2.trans b1.symm
      · simp at b2
      · exact b2.trans b1.symm
    · simp at a2
end

theorem stA_id {p : Int × Int} {a : Lt} (h3 : ¬ (a.1 = 3 ∧ p.1 = 1 ∧ p.2 = a.2)) (h4 : ¬ (a.1 = 4 ∧ p.1 ≠ 0 ∧ p.2 = a.2)) : p = stA p a := by unfold stA; rw [if_neg h3, if_neg h4]
theorem stB_id {p : Int × Int} {a : Lt} (h1 : ¬ a.1 = 1) (h2 : ¬ (a.1 = 2 ∧ p.1 ≠ 0 ∧ p.2 = a.2)) : p = stB p a := by unfold stB; rw [if_neg h1, if_neg h2]
/-- What a letter does to a half. -/
theorem hear_st {h : Hf} {a : Lt} {r : Hf × Int} (hr : hearH h a.1 a.2 = some r) : (r.1.o, r.1.n) = stA (h.o, h.n) a ∧ (r.1.i, r.1.m) = stB (h.i, h.m) a := by
  unfold hearH at hr
  split at hr
  · rename_i e
    cases hr
    exact ⟨stA_id (fun k => by omega) (fun k => by omega), by unfold stB; rw [if_pos e]; rfl⟩
  · rename_i e1
    split at hr
    · rename_i e
      cases hr
      unfold hLeaveH
      split
      · rename_i q
        exact ⟨stA_id (fun k => by omega) (fun k => by omega), stB_id e1 (fun k => k.2.1 q)⟩
      · rename_i q
        split
        · rename_i q2
          exact ⟨stA_id (fun k => by omega) (fun k => by omega), by unfold stB; rw [if_neg e1, if_pos ⟨e, q, q2⟩]⟩
        · rename_i q2
          exact ⟨stA_id (fun k => by omega) (fun k => by omega), stB_id e1 (fun k => q2 k.2.2)⟩
    · rename_i e2
      split at hr
      · rename_i e
        cases hr
        unfold hGrantH
        split
        · rename_i q
          split
          · rename_i q2
            exact ⟨by unfold stA; rw [if_pos ⟨e, q, q2⟩], stB_id e1 (fun k => e2 k.1)⟩
          · rename_i q2
            exact ⟨stA_id (fun k => q2 k.2.2) (fun k => by omega), stB_id e1 (fun k => e2 k.1)⟩
        · rename_i q
          exact ⟨stA_id (fun k => q k.2.1) (fun k => by omega), stB_id e1 (fun k => e2 k.1)⟩
      · rename_i e3
        split at hr
        · rename_i e
          cases hr
          unfold hDenyH
          split
          · rename_i q
            exact ⟨stA_id (fun k => e3 k.1) (fun k => k.2.1 q), stB_id e1 (fun k => e2 k.1)⟩
          · rename_i q
            split
            · rename_i q2
              exact ⟨by unfold stA; rw [if_neg (fun k => e3 k.1), if_pos ⟨e, q, q2⟩], stB_id e1 (fun k => e2 k.1)⟩
            · rename_i q2
              exact ⟨stA_id (fun k => e3 k.1) (fun k => q2 k.2.2), stB_id e1 (fun k => e2 k.1)⟩
        · cases hr

/-- Letters that can be heard. -/
def LtOk (a : Lt) : Prop := (1 ≤ a.1 ∧ a.1 ≤ 4) ∧ a.2 ≠ 0
/-- Two ends, and what is on its way to each. -/
structure Pz (h0 h1 : Hf) (q0 q1 : List Lt) (n0 n1 : Int) : Prop where
  k0 : okH h0 = true
  k1 : okH h1 = true
  d0 : Dir h0.o h0.n h1.i h1.m q1 q0 n0
  d1 : Dir h1.o h1.n h0.i h0.m q0 q1 n1
  l0 : ∀ a ∈ q0, LtOk a
  l1 : ∀ a ∈ q1, LtOk a
  p0 : 0 ≤ n0
  p1 : 0 ≤ n1
theorem Pz.swap {h0 h1 : Hf} {q0 q1 : List Lt} {n0 n1 : Int} (P : Pz h0 h1 q0 q1 n0 n1) : Pz h1 h0 q1 q0 n1 n0 := ⟨P.k1, P.k0, P.d1, P.d0, P.l1, P.l0, P.p1, P.p0⟩
theorem Pz.new : Pz ⟨0, 0, 0, 0⟩ ⟨0, 0, 0, 0⟩ [] [] 0 0 :=
  ⟨rfl, rfl, ⟨fun _ => rfl, fun h => absurd rfl h, List.Pairwise.nil, fun _ h => absurd h (by simp), fun _ h => absurd h (by simp), by decide, by decide⟩, ⟨fun _ => rfl, fun h => absurd rfl h, List.Pairwise.nil, fun _ h => absurd h (by simp), fun _ h => absurd h (by simp), by decide, by decide⟩, fun _ h => absurd h (by simp), fun _ h => absurd h (by simp), by decide, by decide⟩
theorem Pz.hear {h0 h1 : Hf} {a : Lt} {q0 q1 : List Lt} {n0 n1 : Int} (P : Pz h0 h1 (a :: q0) q1 n0 n1) : (hearA h0 a.1 a.2).2 = 0 ∧ Pz (hearA h0 a.1 a.2).1.1 h1 q0 q1 n0 n1 := by
  obtain ⟨⟨a1, a2⟩, a3⟩ := P.l0 a (List.mem_cons_self ..)
  obtain ⟨r, hr⟩ : ∃ r, hearH h0 a.1 a.2 = some r := by
    have : a.1 = 1 ∨ a.1 = 2 ∨ a.1 = 3 ∨ a.1 = 4 := by omega
    unfold hearH
    rcases this with e | e | e | e <;> rw [e] <;> exact ⟨_, rfl⟩
  rw [hearA_at P.k0 a3 hr]
  obtain ⟨s1, s2⟩ := hear_st hr
  have d0 := P.d0.hearA
  have d1 := P.d1.hearB
  rw [← s1] at d0
  rw [← s2] at d1
  exact ⟨rfl, ok_hear P.k0 a3 hr, P.k1, d0, d1, fun b hb => P.l0 b (List.mem_cons_of_mem _ hb), P.l1, P.p0, P.p1⟩
/-- The queue behind an act. -/
def pushQ (q : List Lt) (mail n : Int) : List Lt := if mail = 0 then q else q ++ [(mail, n)]
theorem mem_push1 {q : List Lt} {x : Lt} (h : ∀ a ∈ q, LtOk a) (hx : LtOk x) : ∀ a ∈ q ++ [x], LtOk a := fun a ha => by
  rcases mem_app1.1 ha with k | k
  · exact h a k
  · rw [k]; exact hx
theorem Pz.act {h0 h1 : Hf} {q0 q1 : List Lt} {n0 n1 : Int} (P : Pz h0 h1 q0 q1 n0 n1) (dd : Nat) (hd : dd < 4) :
    (actA h0 (kiT dd) (n0 + 1)).2 = 0 ∧ Pz (actA h0 (kiT dd) (n0 + 1)).1.1 h1 q0 (pushQ q1 (actA h0 (kiT dd) (n0 + 1)).1.2.1 (actA h0 (kiT dd) (n0 + 1)).1.2.2) (n0 + 1) n1 := by
  have hx : n0 + 1 ≠ 0 := by have := P.p0; omega
  have m0 := P.d0.more (c' := n0 + 1) (by omega)
  have p0 : 0 ≤ n0 + 1 := by have := P.p0; omega
  have same : Pz h0 h1 q0 q1 (n0 + 1) n1 := ⟨P.k0, P.k1, m0, P.d1, P.l0, P.l1, p0, P.p1⟩
  rcases dd with _ | _ | _ | _ | dd
  · rw [show kiT 0 = 11 from rfl, actA_ask P.k0 hx]
    refine ⟨rfl, ?_⟩
    unfold askH
    split
    · rename_i e
      have d0 := P.d0.ask (x := n0 + 1) (by omega)
      exact ⟨okH_mk (okR_1 hx) (okH_2 (h := h0) P.k0), P.k1, d0, P.d1.push0 (a := (1, n0 + 1)) (show (1 : Int) ≠ 3 by decide) (show (1 : Int) ≠ 4 by decide), P.l0, mem_push1 P.l1 ⟨show (1 : Int) ≤ 1 ∧ (1 : Int) ≤ 4 by decide, hx⟩, p0, P.p1⟩
    · exact same
  · rw [show kiT 1 = 13 from rfl, actA_leave P.k0]
    refine ⟨rfl, ?_⟩
    have hk := ok_leave P.k0
    unfold leaveH at hk ⊢
    split
    · exact same
    · rename_i e
      rw [if_neg e] at hk
      have hn : h0.n ≠ 0 := by rcases okR_cases (okH_1 P.k0) with ⟨a, _⟩ | ⟨_, b⟩ | ⟨_, b⟩ <;> first | exact b | omega
      exact ⟨hk, P.k1, m0.leave e, P.d1.push0 (a := (2, h0.n)) (show (2 : Int) ≠ 3 by decide) (show (2 : Int) ≠ 4 by decide), P.l0, mem_push1 P.l1 ⟨show (1 : Int) ≤ 2 ∧ (2 : Int) ≤ 4 by decide, hn⟩, p0, P.p1⟩
  · rw [show kiT 2 = 12 from rfl, actA_grant P.k0]
    refine ⟨rfl, ?_⟩
    have hk := ok_grant P.k0
    unfold grantH at hk ⊢
    split
    · rename_i e
      rw [if_pos e] at hk
      have hm : h0.m ≠ 0 := by rcases okR_cases (okH_2 P.k0) with ⟨a, _⟩ | ⟨_, b⟩ | ⟨_, b⟩ <;> first | exact b | omega
      exact ⟨hk, P.k1, m0.push1 (a := (3, h0.m)) (show (3 : Int) ≠ 1 by decide) (show (3 : Int) ≠ 2 by decide), P.d1.grant e, P.l0, mem_push1 P.l1 ⟨show (1 : Int) ≤ 3 ∧ (3 : Int) ≤ 4 by decide, hm⟩, p0, P.p1⟩
    · exact same
  · rw [show kiT 3 = 14 from rfl, actA_deny P.k0]
    refine ⟨rfl, ?_⟩
    have hk := ok_deny P.k0
    unfold denyH at hk ⊢
    split
    · exact same
    · rename_i e
      rw [if_neg e] at hk
      have hm : h0.m ≠ 0 := by rcases okR_cases (okH_2 P.k0) with ⟨a, _⟩ | ⟨_, b⟩ | ⟨_, b⟩ <;> first | exact b | omega
      exact ⟨hk, P.k1, m0.push1 (a := (4, h0.m)) (show (4 : Int) ≠ 1 by decide) (show (4 : Int) ≠ 2 by decide), P.d1.deny, P.l0, mem_push1 P.l1 ⟨show (1 : Int) ≤ 4 ∧ (4 : Int) ≤ 4 by decide, hm⟩, p0, P.p1⟩
  · omega
theorem zero_num {o n : Int} (h : okR o n = true) (h0 : o = 0) : n = 0 := by
  rcases okR_cases h with ⟨_, b⟩ | ⟨a, _⟩ | ⟨a, _⟩
  · exact b
  · omega
  · omega
theorem Pz.done {h0 h1 : Hf} {n0 n1 : Int} (P : Pz h0 h1 [] [] n0 n1) : (h0.o = h1.i ∧ h0.n = h1.m) ∧ (h1.o = h0.i ∧ h1.n = h0.m) := by
  obtain ⟨a1, a2⟩ := P.d0.done
  obtain ⟨b1, b2⟩ := P.d1.done
  refine ⟨⟨a1, ?_⟩, b1, ?_⟩
  · by_cases e : h0.o = 0
    · rw [zero_num (okH_1 P.k0) e, zero_num (okH_2 P.k1) (a1.symm.trans e)]
    · exact a2 e
  · by_cases e : h1.o = 0
    · rw [zero_num (okH_1 P.k1) e, zero_num (okH_2 P.k0) (b1.symm.trans e)]
    · exact b2 e
end Go.Proofs.YtgijofcnknehdaaDoor
