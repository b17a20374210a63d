/- Texts of one seat, one behind the other: SuI, SuK, SuM, SuP, SuJ, SuQ, SuV, RoP, RoW, RoQ. -/
import Derived.Test.YtppdopcghnfapaaDoorM5
import Derived.WalkKit
import Derived.ProofKit
import Derived.OpenShut
import Derived.ChangeOld
import Derived.Deep.DeepHandedRow
import Derived.Deep.Slices
import Derived.Deep.MidRow
import Derived.ArgAppend
import Derived.Deep.CutBlock
namespace Go.Proofs.YtppdopcghnfapaaDoor
open Go.RowKit Go.Joins
theorem okR_cases {s n : Int} (h : okR s n = true) : (s = 0 ∧ n = 0) ∨ (s = 1 ∧ n ≠ 0) ∨ (s = 2 ∧ n ≠ 0) := by
 obtain ⟨h0, h3⟩ := Bool.and_eq_true_iff.1 h
 obtain ⟨o, ho, rfl⟩ := in3_nat h0
 have h4 : ((o : Int) == 0) = (n == 0) := by simpa using h3
 have this : (o : Int) = 0 ↔ n = 0 := by
  rw [← beq_iff_eq, h4, beq_iff_eq]
 rcases o with _ | _ | _ | o
 ·exact Or.inl ⟨rfl, by simpa using this⟩
 ·exact Or.inr (Or.inl ⟨rfl, by intro e; have := this.2 e; omega⟩)
 ·exact Or.inr (Or.inr ⟨rfl, by intro e; have := this.2 e; omega⟩)
 ·omega
theorem okR_0 : okR 0 0 = true := rfl
theorem okR_1 {n : Int} (h : n ≠ 0) : okR 1 n = true := by
 have : (n == 0) = false := by simpa using h
 unfold okR; rw [this]; rfl
theorem okR_2 {n : Int} (h : n ≠ 0) : okR 2 n = true := by
 have : (n == 0) = false := by simpa using h
 unfold okR; rw [this]; rfl
theorem okH_mk {h : Hf} (h1 : okR h.o h.n = true) (h2 : okR h.i h.m = true) : okH h = true := by unfold okH; rw [h1, h2]; rfl
theorem okH_1 {h : Hf} (hk : okH h = true) : okR h.o h.n = true := (Bool.and_eq_true_iff.1 hk).1
theorem okH_2 {h : Hf} (hk : okH h = true) : okR h.i h.m = true := (Bool.and_eq_true_iff.1 hk).2
theorem ok_grant {h : Hf} (hk : okH h = true) : okH (grantH h).1 = true := by
 unfold grantH
 split
 ·rename_i e
  refine okH_mk (okH_1 (h := h) hk) (okR_2 ?_)
  rcases okR_cases (okH_2 (h := h) hk) with ⟨a, _⟩ | ⟨_, b⟩ | ⟨a, _⟩ <;> first | exact b | omega
 ·exact hk
theorem ok_leave {h : Hf} (hk : okH h = true) : okH (leaveH h).1 = true := by
 unfold leaveH
 split
 ·exact hk
 ·exact okH_mk okR_0 (okH_2 (h := h) hk)
theorem ok_deny {h : Hf} (hk : okH h = true) : okH (denyH h).1 = true := by
 unfold denyH
 split
 ·exact hk
 ·exact okH_mk (okH_1 (h := h) hk) okR_0
theorem ok_hear {h : Hf} (hk : okH h = true) {mail x : Int} (hx : x ≠ 0) {r : Hf × Int} (hr : hearH h mail x = some r) : okH r.1 = true := by
 unfold hearH at hr
 split at hr
 ·cases hr; exact okH_mk (okH_1 (h := h) hk) (okR_1 hx)
 ·split at hr
  ·cases hr
   unfold hLeaveH
   split
   ·exact hk
   ·split
    ·exact okH_mk (okH_1 (h := h) hk) okR_0
    ·exact hk
  ·split at hr
   ·cases hr
    unfold hGrantH
    split
    ·split
     ·rename_i e1 e2
      refine okH_mk (okR_2 ?_) (okH_2 (h := h) hk)
      rcases okR_cases (okH_1 (h := h) hk) with ⟨a, _⟩ | ⟨_, b⟩ | ⟨a, _⟩ <;> first | exact b | omega
     ·exact hk
    ·exact hk
   ·split at hr
    ·cases hr
     unfold hDenyH
     split
     ·exact hk
     ·split
      ·exact okH_mk okR_0 (okH_2 (h := h) hk)
      ·exact hk
    ·cases hr
end Go.Proofs.YtppdopcghnfapaaDoor

namespace Go.Proofs.YtppdopcghnfapaaDoor
open Go.RowKit Go.Joins
end Go.Proofs.YtppdopcghnfapaaDoor

namespace Go.Proofs.YtppdopcghnfapaaDoor
open Go.RowKit Go.Joins
theorem actA_ask {h : Hf} (hk : okH h = true) {x : Int} (hx : x ≠ 0) : actA h 11 x = (askH h x, 0) := by unfold actA; rw [if_pos hk]; unfold actH; rw [if_pos rfl, if_neg hx]
theorem actA_grant {h : Hf} (hk : okH h = true) (x : Int) : actA h 12 x = (grantH h, 0) := by unfold actA; rw [if_pos hk]; rfl
theorem actA_leave {h : Hf} (hk : okH h = true) (x : Int) : actA h 13 x = (leaveH h, 0) := by unfold actA; rw [if_pos hk]; rfl
theorem actA_deny {h : Hf} (hk : okH h = true) (x : Int) : actA h 14 x = (denyH h, 0) := by unfold actA; rw [if_pos hk]; rfl
theorem hearA_at {h : Hf} (hk : okH h = true) {x : Int} (hx : x ≠ 0) {mail : Int} {r : Hf × Int} (hr : hearH h mail x = some r) : hearA h mail x = (r, 0) := by unfold hearA; rw [if_pos hk, if_neg hx, hr]
theorem one0 : ¬ (1 : Int) = 0 := by decide
theorem two0 : ¬ (2 : Int) = 0 := by decide
end Go.Proofs.YtppdopcghnfapaaDoor

namespace Go.Proofs.YtppdopcghnfapaaDoor
abbrev Lt := Int × Int
def stB (p : Int × Int) (a : Lt) : Int × Int := if a.1 = 1 then (1, a.2) else if a.1 = 2 ∧ p.1 ≠ 0 ∧ p.2 = a.2 then (0, 0) else p
def stA (p : Int × Int) (a : Lt) : Int × Int := if a.1 = 3 ∧ p.1 = 1 ∧ p.2 = a.2 then (2, p.2) else if a.1 = 4 ∧ p.1 ≠ 0 ∧ p.2 = a.2 then (0, 0) else p
def finB (p : Int × Int) (Q : List Lt) : Int × Int := Q.foldl stB p
theorem fin_cons (p : Int × Int) (a : Lt) (Q : List Lt) : finB p (a :: Q) = finB (stB p a) Q := rfl
theorem fin_app (p : Int × Int) (a : Lt) (Q : List Lt) : finB p (Q ++ [a]) = stB (finB p Q) a := by unfold finB; rw [List.foldl_append]; rfl
theorem fin_none : ∀ (Q : List Lt) (p : Int × Int), (∀ y, (1, y) ∉ Q) → finB p Q = p ∨ finB p Q = (0, 0)
 | [], _, _ => Or.inl rfl
 | a :: Q, p, h => by
  have h1 : ¬ a.1 = 1 := fun e => h a.2 (by rw [← e]; exact List.mem_cons_self ..)
  have h2 : ∀ y, (1, y) ∉ Q := fun y hy => h y (List.mem_cons_of_mem _ hy)
  rw [fin_cons]
  unfold stB
  rw [if_neg h1]
  split
  ·rcases fin_none Q (0, 0) h2 with e | e <;> exact Or.inr e
  ·exact fin_none Q p h2
theorem fin_none0 (Q : List Lt) (h : ∀ y, (1, y) ∉ Q) : finB (0, 0) Q = (0, 0) := by rcases fin_none Q (0, 0) h with e | e <;> exact e
theorem fin_some : ∀ (Q : List Lt), (∃ y, (1, y) ∈ Q) → ∃ r, (∀ p, finB p Q = r) ∧ (r = (0, 0) ∨ ∃ y, (1, y) ∈ Q ∧ r = (1, y))
 | [], ⟨_, h⟩ => absurd h (by simp)
 | a :: Q, ⟨y, hy⟩ => by
  by_cases hq : ∃ y, (1, y) ∈ Q
  ·obtain ⟨r, h1, h2⟩ := fin_some Q hq
   refine ⟨r, fun p => by rw [fin_cons]; exact h1 _, h2.imp id (fun ⟨y, k, e⟩ => ⟨y, List.mem_cons_of_mem _ k, e⟩)⟩
  ·have hq' : ∀ y, (1, y) ∉ Q := fun y k => hq ⟨y, k⟩
   have ha : a = (1, y) := by
    rcases List.mem_cons.1 hy with e | e
    ·exact e.symm
    ·exact absurd e (hq' y)
   subst ha
   refine ⟨finB (1, y) Q, fun p => rfl, ?_⟩
   rcases fin_none Q (1, y) hq' with e | e
   ·exact Or.inr ⟨y, List.mem_cons_self .., e⟩
   ·exact Or.inl e
structure Dir (o n i m : Int) (Q1 Q0 : List Lt) (c : Int) : Prop where
 j1 : o = 0 → (finB (i, m) Q1).1 = 0
 j2 : o ≠ 0 → ((finB (i, m) Q1).2 = n ∧ (4, n) ∉ Q0 ∧ (((finB (i, m) Q1).1 = 1 ∧ o = 1 ∧ (3, n) ∉ Q0) ∨ ((finB (i, m) Q1).1 = 2 ∧ ((o = 1 ∧ (3, n) ∈ Q0) ∨ o = 2)))) ∨ ((finB (i, m) Q1).1 = 0 ∧ (4, n) ∈ Q0)
 j3 : Q1.Pairwise (fun a b => a.1 = 1 → b.1 = 1 → a.2 < b.2)
 j4 : ∀ y, (1, y) ∈ Q1 → m < y ∧ y ≤ c
 j5 : ∀ a ∈ Q0, (a.1 = 3 ∨ a.1 = 4) → a.2 ≤ c ∧ ∀ y, (1, y) ∈ Q1 → a.2 < y
 j6 : 0 ≤ m ∧ m ≤ c
 j7 : 0 ≤ o ∧ o ≤ 2
section
variable {o n i m c : Int} {Q1 Q0 : List Lt}
theorem Dir.more (D : Dir o n i m Q1 Q0 c) {c' : Int} (h : c ≤ c') : Dir o n i m Q1 Q0 c' :=
 ⟨D.j1, D.j2, D.j3, fun y hy => ⟨(D.j4 y hy).1, by have := (D.j4 y hy).2; omega⟩, fun a ha hk => ⟨by have := (D.j5 a ha hk).1; omega, (D.j5 a ha hk).2⟩, ⟨D.j6.1, by have := D.j6.2; omega⟩, D.j7⟩
theorem mem_app1 {Q : List Lt} {a b : Lt} : b ∈ Q ++ [a] ↔ b ∈ Q ∨ b = a := by simp
theorem Dir.push1 (D : Dir o n i m Q1 Q0 c) {a : Lt} (h1 : a.1 ≠ 1) (h2 : a.1 ≠ 2) : Dir o n i m (Q1 ++ [a]) Q0 c := by
 have hf : finB (i, m) (Q1 ++ [a]) = finB (i, m) Q1 := by
  rw [fin_app]; unfold stB; rw [if_neg h1, if_neg (fun k => h2 k.1)]
 have hm : ∀ y, (1, y) ∈ Q1 ++ [a] → (1, y) ∈ Q1 := fun y hy => by
  rcases mem_app1.1 hy with k | k
  ·exact k
  ·exact absurd (by rw [← k]) h1
 refine ⟨by rw [hf]; exact D.j1, by rw [hf]; exact D.j2, ?_, fun y hy => D.j4 y (hm y hy), fun b hb hk => ⟨(D.j5 b hb hk).1, fun y hy => (D.j5 b hb hk).2 y (hm y hy)⟩, D.j6, D.j7⟩
 rw [List.pairwise_append]
 exact ⟨D.j3, List.pairwise_singleton _ _, fun x _ y hy _ e => by rw [List.mem_singleton.1 hy] at e; exact absurd e h1⟩
theorem Dir.push0 (D : Dir o n i m Q1 Q0 c) {a : Lt} (h3 : a.1 ≠ 3) (h4 : a.1 ≠ 4) : Dir o n i m Q1 (Q0 ++ [a]) c := by
 have m3 : (3, n) ∈ Q0 ++ [a] ↔ (3, n) ∈ Q0 := by rw [mem_app1]; exact ⟨fun h => h.resolve_right (fun e => h3 (by rw [← e])), Or.inl⟩
 have m4 : (4, n) ∈ Q0 ++ [a] ↔ (4, n) ∈ Q0 := by rw [mem_app1]; exact ⟨fun h => h.resolve_right (fun e => h4 (by rw [← e])), Or.inl⟩
 refine ⟨D.j1, by rw [m3, m4]; exact D.j2, D.j3, D.j4, fun b hb hk => ?_, D.j6, D.j7⟩
 rcases mem_app1.1 hb with k | k
 ·exact D.j5 b k hk
 ·subst k; exact absurd hk (by omega)
theorem Dir.ask (D : Dir o n i m Q1 Q0 c) {x : Int} (hx : c < x) : Dir 1 x i m (Q1 ++ [(1, x)]) Q0 x := by
 have hf : finB (i, m) (Q1 ++ [(1, x)]) = (1, x) := by rw [fin_app]; unfold stB; rw [if_pos rfl]
 have hn : ∀ k, k = 3 ∨ k = 4 → (k, x) ∉ Q0 := fun k hk hm => by have := (D.j5 _ hm hk).1; simp only at this; omega
 refine ⟨fun e => by omega, fun _ => Or.inl ⟨by rw [hf], hn 4 (Or.inr rfl), Or.inl ⟨by rw [hf], rfl, hn 3 (Or.inl rfl)⟩⟩, ?_, fun y hy => ?_, fun b hb hk => ⟨by have := (D.j5 b hb hk).1; omega, fun y hy => ?_⟩, ⟨D.j6.1, by have := D.j6.2; omega⟩, by omega⟩
 ·rw [List.pairwise_append]
  refine ⟨D.j3, List.pairwise_singleton _ _, fun a ha b hb e _ => ?_⟩
  rw [List.mem_singleton.1 hb]
  have ha' : (1, a.2) ∈ Q1 := by rw [← e]; exact ha
  have := (D.j4 _ ha').2
  show a.2 < x
  omega
 ·rcases mem_app1.1 hy with k | k
  ·have := D.j4 y k; omega
  ·have : y = x := (Prod.mk.inj k).2
   have := D.j6.2; omega
 ·rcases mem_app1.1 hy with k | k
  ·exact (D.j5 b hb hk).2 y k
  ·have : y = x := (Prod.mk.inj k).2
   have := (D.j5 b hb hk).1; omega
theorem Dir.leave (D : Dir o n i m Q1 Q0 c) (h0 : o ≠ 0) : Dir 0 0 i m (Q1 ++ [(2, n)]) Q0 c := by
 have hm : ∀ y, (1, y) ∈ Q1 ++ [(2, n)] → (1, y) ∈ Q1 := fun y hy => by
  rcases mem_app1.1 hy with k | k
  ·exact k
  ·have := (Prod.mk.inj k).1; omega
 refine ⟨fun _ => ?_, fun h => absurd rfl h, ?_, fun y hy => D.j4 y (hm y hy), fun b hb hk => ⟨(D.j5 b hb hk).1, fun y hy => (D.j5 b hb hk).2 y (hm y hy)⟩, D.j6, by omega⟩
 ·rw [fin_app]
  unfold stB
  rw [if_neg (show ¬ (2 : Int) = 1 by decide)]
  split
  ·rfl
  ·rename_i hh
   rcases D.j2 h0 with ⟨a1, _, a3⟩ | ⟨a1, _⟩
   ·exfalso
    refine hh ⟨rfl, ?_, a1⟩
    rcases a3 with ⟨e, _⟩ | ⟨e, _⟩ <;> rw [e] <;> decide
   ·exact a1
 ·rw [List.pairwise_append]
  exact ⟨D.j3, List.pairwise_singleton _ _, fun x _ y hy _ e => by rw [List.mem_singleton.1 hy] at e; exact absurd e (show ¬ (2 : Int) = 1 by decide)⟩
theorem Dir.deny (D : Dir o n i m Q1 Q0 c) : Dir o n 0 0 Q1 (Q0 ++ [(4, m)]) c := by
 have m3 : (3, n) ∈ Q0 ++ [((4 : Int), m)] ↔ (3, n) ∈ Q0 := by rw [mem_app1]; exact ⟨fun h => h.resolve_right (fun e => by have := (Prod.mk.inj e).1; omega), Or.inl⟩
 have hj5 : ∀ b ∈ Q0 ++ [((4 : Int), m)], (b.1 = 3 ∨ b.1 = 4) → b.2 ≤ c ∧ ∀ y, (1, y) ∈ Q1 → b.2 < y := fun b hb hk => by
  rcases mem_app1.1 hb with k | k
  ·exact D.j5 b k hk
  ·subst k; exact ⟨D.j6.2, fun y hy => (D.j4 y hy).1⟩
 have hj4 : ∀ y, (1, y) ∈ Q1 → 0 < y ∧ y ≤ c := fun y hy => by have := D.j4 y hy; have := D.j6.1; omega
 by_cases hq : ∃ y, (1, y) ∈ Q1
 ·obtain ⟨r, h1, h2⟩ := fin_some Q1 hq
  have j1 := D.j1
  have j2 := D.j2
  rw [h1] at j1 j2
  refine ⟨by rw [h1]; exact j1, fun h0 => ?_, D.j3, hj4, hj5, ⟨Int.le_refl _, by have := D.j6; omega⟩, D.j7⟩
  rw [h1, m3]
  rcases j2 h0 with ⟨a1, a2, a3⟩ | ⟨a1, a2⟩
  ·refine Or.inl ⟨a1, fun k => ?_, a3⟩
   rcases mem_app1.1 k with k | k
   ·exact a2 k
   ·have e : n = m := (Prod.mk.inj k).2
    rcases h2 with e2 | ⟨y, hy, e2⟩
    ·rcases a3 with ⟨b, _⟩ | ⟨b, _⟩ <;> rw [e2] at b <;> exact absurd b (by decide)
    ·have := (D.j4 y hy).1
     rw [e2] at a1
     simp only at a1
     omega
  ·exact Or.inr ⟨a1, mem_app1.2 (Or.inl a2)⟩
 ·have hq' : ∀ y, (1, y) ∉ Q1 := fun y k => hq ⟨y, k⟩
  have hf := fin_none0 Q1 hq'
  refine ⟨fun _ => by rw [hf], fun h0 => ?_, D.j3, hj4, hj5, ⟨Int.le_refl _, by have := D.j6; omega⟩, D.j7⟩
  rw [hf]
  refine Or.inr ⟨rfl, mem_app1.2 ?_⟩
  rcases D.j2 h0 with ⟨a1, _, a3⟩ | ⟨_, a2⟩
  ·refine Or.inr ?_
   rcases fin_none Q1 (i, m) hq' with e | e
   ·rw [e] at a1; simp only at a1; rw [a1]
   ·rw [e] at a3; rcases a3 with ⟨b, _⟩ | ⟨b, _⟩ <;> exact absurd b (by decide)
  ·exact Or.inl a2
theorem Dir.grant (D : Dir o n i m Q1 Q0 c) (hi : i = 1) : Dir o n 2 m Q1 (Q0 ++ [(3, m)]) c := by
 subst hi
 have m4 : (4, n) ∈ Q0 ++ [((3 : Int), m)] ↔ (4, n) ∈ Q0 := by rw [mem_app1]; exact ⟨fun h => h.resolve_right (fun e => by have := (Prod.mk.inj e).1; omega), Or.inl⟩
 have hj5 : ∀ b ∈ Q0 ++ [((3 : Int), m)], (b.1 = 3 ∨ b.1 = 4) → b.2 ≤ c ∧ ∀ y, (1, y) ∈ Q1 → b.2 < y := fun b hb hk => by
  rcases mem_app1.1 hb with k | k
  ·exact D.j5 b k hk
  ·subst k; exact ⟨D.j6.2, fun y hy => (D.j4 y hy).1⟩
 by_cases hq : ∃ y, (1, y) ∈ Q1
 ·obtain ⟨r, h1, h2⟩ := fin_some Q1 hq
  have j1 := D.j1
  have j2 := D.j2
  rw [h1] at j1 j2
  refine ⟨by rw [h1]; exact j1, fun h0 => ?_, D.j3, D.j4, hj5, D.j6, D.j7⟩
  rw [h1, m4]
  rcases j2 h0 with ⟨a1, a2, a3⟩ | ⟨a1, a2⟩
  ·rcases h2 with e2 | ⟨y, hy, e2⟩
   ·exfalso
    rcases a3 with ⟨b, _⟩ | ⟨b, _⟩ <;> rw [e2] at b <;> exact absurd b (by decide)
   ·have hlt := (D.j4 y hy).1
    rw [e2] at a1 a3
    simp only at a1 a3
    rcases a3 with ⟨_, b2, b3⟩ | ⟨b, _⟩
    ·refine Or.inl ⟨by rw [e2]; exact a1, a2, Or.inl ⟨by rw [e2], b2, fun k => ?_⟩⟩
     rcases mem_app1.1 k with k | k
     ·exact b3 k
     ·have : n = m := (Prod.mk.inj k).2
      omega
    ·omega
  ·exact Or.inr ⟨a1, a2⟩
 ·have hq' : ∀ y, (1, y) ∉ Q1 := fun y k => hq ⟨y, k⟩
  have key : (finB (1, m) Q1 = (1, m) ∧ finB (2, m) Q1 = (2, m)) ∨ (finB (1, m) Q1 = (0, 0) ∧ finB (2, m) Q1 = (0, 0)) := by
   clear hj5 m4 D hq
   induction Q1 with
   | nil => exact Or.inl ⟨rfl, rfl⟩
   | cons a Q ih =>
    have h1 : ¬ a.1 = 1 := fun e => hq' a.2 (by rw [← e]; exact List.mem_cons_self ..)
    have h2 : ∀ y, (1, y) ∉ Q := fun y hy => hq' y (List.mem_cons_of_mem _ hy)
    rw [fin_cons, fin_cons]
    unfold stB
    rw [if_neg h1, if_neg h1]
    by_cases hc : a.1 = 2 ∧ m = a.2
    ·rw [if_pos ⟨hc.1, one0, hc.2⟩, if_pos ⟨hc.1, two0, hc.2⟩, fin_none0 Q h2]
     exact Or.inr ⟨rfl, rfl⟩
    ·rw [if_neg (fun k => hc ⟨k.1, k.2.2⟩), if_neg (fun k => hc ⟨k.1, k.2.2⟩)]
     exact ih h2
  rcases key with ⟨e1, e2⟩ | ⟨e1, e2⟩
  ·have j1 := D.j1
   have j2 := D.j2
   rw [e1] at j1 j2
   refine ⟨fun h0 => absurd (j1 h0) one0, fun h0 => ?_, D.j3, D.j4, hj5, D.j6, D.j7⟩
   rw [e2, m4]
   rcases j2 h0 with ⟨a1, a2, a3⟩ | ⟨a1, _⟩
   ·simp only at a1 a3
    rcases a3 with ⟨_, b2, _⟩ | ⟨b, _⟩
    ·exact Or.inl ⟨a1, a2, Or.inr ⟨rfl, Or.inl ⟨b2, mem_app1.2 (Or.inr (by rw [a1]))⟩⟩⟩
    ·omega
   ·simp only at a1; omega
  ·have j1 := D.j1
   have j2 := D.j2
   rw [e1] at j1 j2
   refine ⟨fun _ => by rw [e2], fun h0 => ?_, D.j3, D.j4, hj5, D.j6, D.j7⟩
   rw [e2, m4]
   rcases j2 h0 with ⟨_, _, a3⟩ | ⟨a1, a2⟩
   ·simp only at a3; omega
   ·exact Or.inr ⟨rfl, a2⟩
theorem Dir.hearB {a : Lt} (D : Dir o n i m (a :: Q1) Q0 c) : Dir o n (stB (i, m) a).1 (stB (i, m) a).2 Q1 Q0 c := by
 have hj := List.pairwise_cons.1 D.j3
 refine ⟨D.j1, D.j2, hj.2, fun y hy => ⟨?_, (D.j4 y (List.mem_cons_of_mem _ hy)).2⟩, fun b hb hk => ⟨(D.j5 b hb hk).1, fun y hy => (D.j5 b hb hk).2 y (List.mem_cons_of_mem _ hy)⟩, ?_, D.j7⟩
 ·have h4 := (D.j4 y (List.mem_cons_of_mem _ hy)).1
  have h6 := D.j6
  unfold stB
  split
  ·rename_i e
   exact hj.1 _ hy e rfl
  ·split
   ·show (0 : Int) < y
    omega
   ·exact h4
 ·have h6 := D.j6
  unfold stB
  split
  ·rename_i e
   have h : (1, a.2) ∈ a :: Q1 := by rw [← e]; exact List.mem_cons_self ..
   have := D.j4 _ h
   show 0 ≤ a.2 ∧ a.2 ≤ c
   omega
  ·split
   ·show (0 : Int) ≤ 0 ∧ 0 ≤ c
    omega
   ·exact h6
theorem Dir.hearA {a : Lt} (D : Dir o n i m Q1 (a :: Q0) c) : Dir (stA (o, n) a).1 (stA (o, n) a).2 i m Q1 Q0 c := by
 have hj5 : ∀ b ∈ Q0, (b.1 = 3 ∨ b.1 = 4) → b.2 ≤ c ∧ ∀ y, (1, y) ∈ Q1 → b.2 < y := fun b hb hk => D.j5 b (List.mem_cons_of_mem _ hb) hk
 have tl : ∀ k, (k, n) ∉ a :: Q0 → (k, n) ∉ Q0 := fun k h h' => h (List.mem_cons_of_mem _ h')
 have j7 := D.j7
 unfold stA
 split
 ·rename_i e
  obtain ⟨e1, e2, e3⟩ := e
  simp only at e2 e3
  have ha : a = (3, n) := by rw [e3, ← e1]
  refine ⟨fun h => by omega, fun _ => ?_, D.j3, D.j4, hj5, D.j6, by omega⟩
  rcases D.j2 (by omega) with ⟨a1, a2, a3⟩ | ⟨a1, a2⟩
  ·refine Or.inl ⟨a1, tl 4 a2, ?_⟩
   rcases a3 with ⟨_, _, b3⟩ | ⟨b1, _⟩
   ·exact absurd (by rw [ha]; exact List.mem_cons_self ..) b3
   ·exact Or.inr ⟨b1, Or.inr rfl⟩
  ·refine Or.inr ⟨a1, ?_⟩
   rcases List.mem_cons.1 a2 with k | k
   ·rw [ha] at k; have := (Prod.mk.inj k).1; omega
   ·exact k
 ·split
  ·rename_i e
   obtain ⟨e1, e2, e3⟩ := e
   simp only at e2 e3
   have ha : a = (4, n) := by rw [e3, ← e1]
   refine ⟨fun _ => ?_, fun h => absurd rfl h, D.j3, D.j4, hj5, D.j6, by omega⟩
   rcases D.j2 e2 with ⟨_, a2, _⟩ | ⟨a1, _⟩
   ·exact absurd (by rw [ha]; exact List.mem_cons_self ..) a2
   ·exact a1
  ·rename_i n3 n4
   refine ⟨D.j1, fun h0 => ?_, D.j3, D.j4, hj5, D.j6, j7⟩
   have h0' : o ≠ 0 := h0
   rcases D.j2 h0' with ⟨a1, a2, a3⟩ | ⟨a1, a2⟩
   ·refine Or.inl ⟨a1, tl 4 a2, ?_⟩
    rcases a3 with ⟨b1, b2, b3⟩ | ⟨b1, b2⟩
    ·exact Or.inl ⟨b1, b2, tl 3 b3⟩
    ·refine Or.inr ⟨b1, ?_⟩
     rcases b2 with ⟨d1, d2⟩ | d
     ·refine Or.inl ⟨d1, ?_⟩
      rcases List.mem_cons.1 d2 with k | k
      ·exact absurd ⟨by rw [← k], d1, by rw [← k]⟩ n3
      ·exact k
     ·exact Or.inr d
   ·refine Or.inr ⟨a1, ?_⟩
    rcases List.mem_cons.1 a2 with k | k
    ·exact absurd ⟨by rw [← k], h0', by rw [← k]⟩ n4
    ·exact k
theorem Dir.done (D : Dir o n i m [] [] c) : o = i ∧ (o ≠ 0 → n = m) := by
 by_cases h0 : o = 0
 ·have := D.j1 h0
  exact ⟨h0.trans this.symm, fun h => absurd h0 h⟩
 ·rcases D.j2 h0 with ⟨a1, _, a3⟩ | ⟨_, a2⟩
  ·refine ⟨?_, fun _ => a1.symm⟩
   rcases a3 with ⟨b1, b2, _⟩ | ⟨b1, ⟨_, b2⟩ | b2⟩
   ·exact b2.trans b1.symm
   ·simp at b2
   ·exact b2.trans b1.symm
  ·simp at a2
end
theorem stA_id {p : Int × Int} {a : Lt} (h3 : ¬ (a.1 = 3 ∧ p.1 = 1 ∧ p.2 = a.2)) (h4 : ¬ (a.1 = 4 ∧ p.1 ≠ 0 ∧ p.2 = a.2)) : p = stA p a := by unfold stA; rw [if_neg h3, if_neg h4]
theorem stB_id {p : Int × Int} {a : Lt} (h1 : ¬ a.1 = 1) (h2 : ¬ (a.1 = 2 ∧ p.1 ≠ 0 ∧ p.2 = a.2)) : p = stB p a := by unfold stB; rw [if_neg h1, if_neg h2]
theorem hear_st {h : Hf} {a : Lt} {r : Hf × Int} (hr : hearH h a.1 a.2 = some r) : (r.1.o, r.1.n) = stA (h.o, h.n) a ∧ (r.1.i, r.1.m) = stB (h.i, h.m) a := by
 unfold hearH at hr
 split at hr
 ·rename_i e
  cases hr
  exact ⟨stA_id (fun k => by omega) (fun k => by omega), by unfold stB; rw [if_pos e]; rfl⟩
 ·rename_i e1
  split at hr
  ·rename_i e
   cases hr
   unfold hLeaveH
   split
   ·rename_i q
    exact ⟨stA_id (fun k => by omega) (fun k => by omega), stB_id e1 (fun k => k.2.1 q)⟩
   ·rename_i q
    split
    ·rename_i q2
     exact ⟨stA_id (fun k => by omega) (fun k => by omega), by unfold stB; rw [if_neg e1, if_pos ⟨e, q, q2⟩]⟩
    ·rename_i q2
     exact ⟨stA_id (fun k => by omega) (fun k => by omega), stB_id e1 (fun k => q2 k.2.2)⟩
  ·rename_i e2
   split at hr
   ·rename_i e
    cases hr
    unfold hGrantH
    split
    ·rename_i q
     split
     ·rename_i q2
      exact ⟨by unfold stA; rw [if_pos ⟨e, q, q2⟩], stB_id e1 (fun k => e2 k.1)⟩
     ·rename_i q2
      exact ⟨stA_id (fun k => q2 k.2.2) (fun k => by omega), stB_id e1 (fun k => e2 k.1)⟩
    ·rename_i q
     exact ⟨stA_id (fun k => q k.2.1) (fun k => by omega), stB_id e1 (fun k => e2 k.1)⟩
   ·rename_i e3
    split at hr
    ·rename_i e
     cases hr
     unfold hDenyH
     split
     ·rename_i q
      exact ⟨stA_id (fun k => e3 k.1) (fun k => k.2.1 q), stB_id e1 (fun k => e2 k.1)⟩
     ·rename_i q
      split
      ·rename_i q2
       exact ⟨by unfold stA; rw [if_neg (fun k => e3 k.1), if_pos ⟨e, q, q2⟩], stB_id e1 (fun k => e2 k.1)⟩
      ·rename_i q2
       exact ⟨stA_id (fun k => e3 k.1) (fun k => q2 k.2.2), stB_id e1 (fun k => e2 k.1)⟩
    ·cases hr
def LtOk (a : Lt) : Prop := (1 ≤ a.1 ∧ a.1 ≤ 4) ∧ a.2 ≠ 0
structure Pz (h0 h1 : Hf) (q0 q1 : List Lt) (n0 n1 : Int) : Prop where
 k0 : okH h0 = true
 k1 : okH h1 = true
 d0 : Dir h0.o h0.n h1.i h1.m q1 q0 n0
 d1 : Dir h1.o h1.n h0.i h0.m q0 q1 n1
 l0 : ∀ a ∈ q0, LtOk a
 l1 : ∀ a ∈ q1, LtOk a
 p0 : 0 ≤ n0
 p1 : 0 ≤ n1
theorem Pz.swap {h0 h1 : Hf} {q0 q1 : List Lt} {n0 n1 : Int} (P : Pz h0 h1 q0 q1 n0 n1) : Pz h1 h0 q1 q0 n1 n0 := ⟨P.k1, P.k0, P.d1, P.d0, P.l1, P.l0, P.p1, P.p0⟩
theorem Pz.new : Pz ⟨0, 0, 0, 0⟩ ⟨0, 0, 0, 0⟩ [] [] 0 0 :=
 ⟨rfl, rfl, ⟨fun _ => rfl, fun h => absurd rfl h, List.Pairwise.nil, fun _ h => absurd h (by simp), fun _ h => absurd h (by simp), by decide, by decide⟩, ⟨fun _ => rfl, fun h => absurd rfl h, List.Pairwise.nil, fun _ h => absurd h (by simp), fun _ h => absurd h (by simp), by decide, by decide⟩, fun _ h => absurd h (by simp), fun _ h => absurd h (by simp), by decide, by decide⟩
theorem Pz.hear {h0 h1 : Hf} {a : Lt} {q0 q1 : List Lt} {n0 n1 : Int} (P : Pz h0 h1 (a :: q0) q1 n0 n1) : (hearA h0 a.1 a.2).2 = 0 ∧ Pz (hearA h0 a.1 a.2).1.1 h1 q0 q1 n0 n1 := by
 obtain ⟨⟨a1, a2⟩, a3⟩ := P.l0 a (List.mem_cons_self ..)
 obtain ⟨r, hr⟩ : ∃ r, hearH h0 a.1 a.2 = some r := by
  have : a.1 = 1 ∨ a.1 = 2 ∨ a.1 = 3 ∨ a.1 = 4 := by omega
  unfold hearH
  rcases this with e | e | e | e <;> rw [e] <;> exact ⟨_, rfl⟩
 rw [hearA_at P.k0 a3 hr]
 obtain ⟨s1, s2⟩ := hear_st hr
 have d0 := P.d0.hearA
 have d1 := P.d1.hearB
 rw [← s1] at d0
 rw [← s2] at d1
 exact ⟨rfl, ok_hear P.k0 a3 hr, P.k1, d0, d1, fun b hb => P.l0 b (List.mem_cons_of_mem _ hb), P.l1, P.p0, P.p1⟩
theorem mem_push1 {q : List Lt} {x : Lt} (h : ∀ a ∈ q, LtOk a) (hx : LtOk x) : ∀ a ∈ q ++ [x], LtOk a := fun a ha => by
 rcases mem_app1.1 ha with k | k
 ·exact h a k
 ·rw [k]; exact hx
theorem zero_num {o n : Int} (h : okR o n = true) (h0 : o = 0) : n = 0 := by
 rcases okR_cases h with ⟨_, b⟩ | ⟨a, _⟩ | ⟨a, _⟩
 ·exact b
 ·omega
 ·omega
theorem Pz.done {h0 h1 : Hf} {n0 n1 : Int} (P : Pz h0 h1 [] [] n0 n1) : (h0.o = h1.i ∧ h0.n = h1.m) ∧ (h1.o = h0.i ∧ h1.n = h0.m) := by
 obtain ⟨a1, a2⟩ := P.d0.done
 obtain ⟨b1, b2⟩ := P.d1.done
 refine ⟨⟨a1, ?_⟩, b1, ?_⟩
 ·by_cases e : h0.o = 0
  ·rw [zero_num (okH_1 P.k0) e, zero_num (okH_2 P.k1) (a1.symm.trans e)]
  ·exact a2 e
 ·by_cases e : h1.o = 0
  ·rw [zero_num (okH_1 P.k1) e, zero_num (okH_2 P.k0) (b1.symm.trans e)]
  ·exact b2 e
end Go.Proofs.YtppdopcghnfapaaDoor

set_option maxRecDepth 100000
namespace Go.Proofs.YtppdopcghnfapaaDoor
open Go.RowKit
structure StAt (w : World) (b o : Nat) (e d : Int) : Prop where
 c0 : w.cell? ⟨b, o, none⟩ = some (.int .i64 e)
 c1 : w.cell? ⟨b, o + 1, none⟩ = some (.int .i64 d)
structure SRd (w : World) (a : Option Addr) (n c : Nat) (f : Nat → Int × Int) : Prop where
 cap : n ≤ c
 most : c ≤ maxLen
 flat : 0 < n → ∃ b off, a = some ⟨b, off, none⟩ ∧ ∀ j, j < n → StAt w b (off + j * 2) (f j).1 (f j).2
theorem below_cell {w w' : World} (hb : Below w.heap.size w w') {p : Addr} {v : Value} (h : w.cell? p = some v) : w'.cell? p = some v := (hb.cell (World.block_lt_of_cell? w _ h)).trans h
theorem StAt.below {w w' : World} {b o : Nat} {k m : Int} (h : StAt w b o k m) (hb : Below w.heap.size w w') : StAt w' b o k m := ⟨below_cell hb h.c0, below_cell hb h.c1⟩
theorem pick {α : Type} [Inhabited α] {n : Nat} {p : Nat → α → Prop} (h : ∀ j, j < n → ∃ x, p j x) : ∃ f : Nat → α, ∀ j, j < n → p j (f j) :=
 ⟨fun j => if hj : j < n then Classical.choose (h j hj) else default, fun j hj => by
  show p j (if hj : j < n then Classical.choose (h j hj) else default)
  rw [dif_pos hj]
  exact Classical.choose_spec (h j hj)⟩
section
open Go.ChangeShapes Go.WideShapes Go.ChangeAt
theorem cellsInt : Tryd.prog.cellsOf 3 = 1 := by kernel_rfl
theorem cellsStep : Tryd.prog.cellsOf 33 = 2 := by kernel_rfl
theorem open_steps {H : Type} {enc : TypeId × Value → H} {W : World} {b0 : Nat} {v : Value} {d : DataW H} {p : List MemPlace}
  (hv : Value.okWide Tryd.prog W .any b0 22 v) (h : DataW.Trod enc Tryd.prog W 0 (fun _ => true) true 22 v d p) : ∃ a n c f, v = .slice a n c ∧ SRd W a n c f := by
 obtain ⟨a, n, c, rfl⟩ := okWide_slice Tryd.underlying22 hv
 obtain ⟨fuel, hf⟩ := h
 rcases Go.Deep.open_slice Tryd.underlying22 hf with ⟨hcs, _⟩ | ⟨x, l, cc, m, k, D, Pl, hcs, hb, hl, hm, hmm, _, hx⟩
 ·simp [Value.cells] at hcs
  obtain ⟨rfl, rfl, rfl⟩ := hcs
  exact ⟨none, 0, 0, fun _ => (0, 0), rfl, Nat.le_refl _, by unfold maxLen; omega, fun h => by omega⟩
 ·simp [Value.cells] at hcs
  obtain ⟨rfl, rfl, rfl⟩ := hcs
  simp only [if_true] at hmm
  subst hmm
  have each : ∀ j, j < n → ∃ y : Int × Int, W.cell? (x.add (j * 2)) = some (.int .i64 y.1) ∧ W.cell? (x.add (j * 2 + 1)) = some (.int .i64 y.2) := by
   intro j hj
   obtain ⟨cs', h1, h2⟩ := hx j (by omega)
   rw [cellsStep] at h1
   obtain ⟨_, hlen, hcell⟩ := World.cells?_some h1
   obtain ⟨ws, q, hq, hxy, _, hxl, hfs⟩ := DataW.trod_struct Tryd.underlying33 h2
   match ws, hxl, cs', hlen with
   | [y0, y1], _, [v0, v1], _ =>
    have f0 : DataW.trod enc Tryd.prog W 0 (fun _ => true) true q 3 [v0] = some y0 := by simpa [Value.cells, cellsInt] using hfs 0 _ rfl
    have f1 : DataW.trod enc Tryd.prog W 0 (fun _ => true) true q 3 [v1] = some y1 := by simpa [Value.cells, cellsInt] using hfs 1 _ rfl
    obtain ⟨K0, e0, _, w0⟩ := DataW.trod_int Tryd.underlying3 f0
    obtain ⟨K1, e1, _, w1⟩ := DataW.trod_int Tryd.underlying3 f1
    simp only [List.cons.injEq, and_true] at e0 e1
    subst e0 e1
    have c0 := hcell 0 (by omega)
    have c1 := hcell 1 (by omega)
    rw [Go.Deep.add_add] at c0 c1
    exact ⟨(K0, K1), by simpa using c0, by simpa using c1⟩
  obtain ⟨y, hy⟩ := pick each
  refine ⟨some x, n, _, y, rfl, hl, hm, fun h0 => ?_⟩
  obtain ⟨b, off, spot⟩ := x
  have hspot : spot = none := by simpa [Addr.add] using World.cell?_spot (hy 0 h0).1
  subst hspot
  refine ⟨b, off, rfl, fun j hj => ?_⟩
  obtain ⟨g0, g1⟩ := hy j hj
  rw [add_flat] at g0 g1
  simp only [← Nat.add_assoc] at g1
  exact ⟨g0, g1⟩
end
end Go.Proofs.YtppdopcghnfapaaDoor

namespace Go.Proofs.YtppdopcghnfapaaDoor
open Go.RowKit Go.Joins
def qv (q : List Lt) : List Value := q.flatMap fun x => [.int .i64 x.1, .int .u64 x.2]
theorem qv_len (q : List Lt) : (qv q).length = q.length * 2 := by
 induction q with
 | nil => rfl
 | cons a q ih => show (qv q).length + 2 = _; rw [ih, List.length_cons]; omega
theorem qv_app (q : List Lt) (x : Lt) : qv (q ++ [x]) = qv q ++ [.int .i64 x.1, .int .u64 x.2] := by unfold qv; rw [List.flatMap_append]; rfl
structure Qu (w : World) (T : Nat) (v : Value) (q : List Lt) : Prop where
 ex : ∃ a cap, v = .slice a q.length cap ∧ q.length ≤ cap ∧ cap ≤ maxLen ∧ (a = none → cap = 0) ∧ (0 < cap → ∃ g off cur, a = some ⟨g, off, none⟩ ∧ w.heap[g]? = some (.cells cur 38 (0, 0)) ∧ off + cap * 2 ≤ cur.size ∧ ∀ j u, (qv q)[j]? = some u → cur[off + j]? = some u)
 own : ∀ g, v.ownBlock = some g → T ≤ g ∧ g < w.heap.size
theorem Qu.nil (w : World) (T : Nat) : Qu w T (.slice none 0 0) [] := ⟨⟨none, 0, rfl, Nat.le_refl _, by unfold maxLen; omega, fun _ => rfl, fun h => by omega⟩, fun g h => by cases h⟩
theorem Qu.keep {w w' : World} {T : Nat} {v : Value} {q : List Lt} {S : Nat → Prop} (Q : Qu w T v q) (hk : Keep S w w') (hs : ∀ g, v.ownBlock = some g → ¬ S g) : Qu w' T v q := by
 obtain ⟨a, cap, rfl, h1, h2, h2', h3⟩ := Q.ex
 refine ⟨⟨a, cap, rfl, h1, h2, h2', fun hc => ?_⟩, fun g hg => ⟨(Q.own g hg).1, Nat.lt_of_lt_of_le (Q.own g hg).2 hk.size⟩⟩
 obtain ⟨g, off, cur, rfl, h4, h5, h6⟩ := h3 hc
 exact ⟨g, off, cur, rfl, box_keep h4 hk (hs g rfl), h5, h6⟩
theorem Qu.below {w w' : World} {T : Nat} {v : Value} {q : List Lt} (Q : Qu w T v q) (hb : Below w.heap.size w w') : Qu w' T v q := Q.keep (S := fun _ => False) (Keep.ofBelow hb) (fun _ _ h => h)
theorem Qu.head {w : World} {T : Nat} {v : Value} {x : Lt} {q : List Lt} (Q : Qu w T v (x :: q)) : ∃ g off cap, v = .slice (some ⟨g, off, none⟩) (q.length + 1) cap ∧ q.length + 1 ≤ cap ∧ cap ≤ maxLen ∧
  w.cell? ⟨g, off, none⟩ = some (.int .i64 x.1) ∧ w.cell? ⟨g, off + 1, none⟩ = some (.int .u64 x.2) ∧ ∀ w', Keep (fun k => k ≠ g) w w' → Qu w' T (.slice (if cap = 1 then some ⟨g, off, none⟩ else some ⟨g, off + 2, none⟩) q.length (cap - 1)) q := by
 obtain ⟨a, cap, rfl, h1, h2, h2', h3⟩ := Q.ex
 have h1 : q.length + 1 ≤ cap := by simpa using h1
 obtain ⟨g, off, cur, rfl, h4, h5, h6⟩ := h3 (by omega)
 have c0 : cur[off]? = some (.int .i64 x.1) := h6 0 _ rfl
 have c1 : cur[off + 1]? = some (.int .u64 x.2) := h6 1 _ rfl
 refine ⟨g, off, cap, rfl, h1, h2, by rw [cell_of_block h4]; exact c0, by rw [cell_of_block h4]; exact c1, fun w' hk => ⟨⟨_, cap - 1, rfl, by omega, by omega, fun e => ?_, fun hc => ?_⟩, fun g' hg' => ?_⟩⟩
 ·split at e <;> cases e
 ·rw [if_neg (by omega)]
  refine ⟨g, off + 2, cur, rfl, box_keep h4 hk (fun k => k rfl), by omega, fun j u hj => ?_⟩
  have := h6 (j + 2) u (by exact hj)
  rw [show off + 2 + j = off + (j + 2) by omega]
  exact this
 ·have e : g' = g := by
   split at hg' <;> exact (Option.some.inj hg').symm
  subst e
  have := Q.own g' rfl
  exact ⟨this.1, Nat.lt_of_lt_of_le this.2 hk.size⟩
theorem infoLetter : (Tryd.prog.info? 38).map (fun i => (i.zero, i.size, i.bytes)) = some (some (.agg #[.int .i64 0, .int .u64 0]), 2, 16) := by kernel_rfl
theorem run_appQ {w : World} {T : Nat} {v : Value} {q : List Lt} (Q : Qu w T v q) (ty : TypeId) (x : Lt) (hT : T ≤ w.heap.size) (hq : q.length ≤ 100000) :
  ∃ v' w', (Builtin.append_ #[26, 26] ty #[v, .slice (some ⟨w.heap.size, 0, none⟩) 1 1]).run Tryd.prog (w.alloc (.cells #[.int .i64 x.1, .int .u64 x.2] 38)) = .ok v' w' ∧ Qu w' T v' (q ++ [x]) ∧ Keep (fun k => v.ownBlock = some k) w w' ∧ (v'.ownBlock = v.ownBlock ∨ ∃ g, v'.ownBlock = some g ∧ w.heap.size ≤ g) := by
 obtain ⟨i0, hi, hz0, hz1, hz2⟩ : ∃ i, Tryd.prog.info? 38 = some i ∧ i.zero = some (.agg #[.int .i64 0, .int .u64 0]) ∧ i.size = 2 ∧ i.bytes = 16 := by
  have h := infoLetter
  cases hq : Tryd.prog.info? 38 with
  | none => simp [hq] at h
  | some i => simp [hq] at h; exact ⟨i, rfl, h.1, h.2.1, h.2.2⟩
 have hk0 : Keep (fun k => v.ownBlock = some k) w (w.alloc (.cells #[.int .i64 x.1, .int .u64 x.2] 38)) := (Keep.refl _ _).alloc _
 have Q1 := Q.below (below1 w (.cells #[.int .i64 x.1, .int .u64 x.2] 38))
 have hsz : (w.alloc (.cells #[.int .i64 x.1, .int .u64 x.2] 38)).heap.size = w.heap.size + 1 := by simp
 have hnw : ∀ j u, [Value.int .i64 x.1, .int .u64 x.2][j]? = some u → (w.alloc (.cells #[.int .i64 x.1, .int .u64 x.2] 38)).cell? ((⟨w.heap.size, 0, none⟩ : Addr).add j) = some u := fun j u hu => by
  rw [add_flat, Nat.zero_add, cell_of_block (alloc_at w _)]
  simpa using hu
 have one : ∀ u ∈ [Value.int .i64 x.1, .int .u64 x.2], u.oneCell' = true := by simp [Value.oneCell']
 generalize w.alloc (.cells #[.int .i64 x.1, .int .u64 x.2] 38) = W at *
 obtain ⟨a, cap, rfl, h1, h2, h2', h3⟩ := Q1.ex
 have grown : ∀ v' w', w'.ownsRow W.heap.size 38 2 v' (q.length + 1) (qv q ++ [.int .i64 x.1, .int .u64 x.2]) → W.grownBy w' none → Qu w' T v' (q ++ [x]) ∧ Keep (fun k => (Value.slice a q.length cap).ownBlock = some k) w w' ∧ (v'.ownBlock = (Value.slice a q.length cap).ownBlock ∨ ∃ g, v'.ownBlock = some g ∧ w.heap.size ≤ g) := by
  intro v' w' ho hgb
  have hkk : Keep (fun k => (Value.slice a q.length cap).ownBlock = some k) w w' := hk0.trans ((Keep.ofGrown hgb).mono (fun i e => by cases e))
  obtain ⟨_, ⟨_, e0⟩ | ⟨g, cap', cur, rfl, hg, hbk, hn, hc, hcs, htk⟩⟩ := ho
  ·omega
  ·refine ⟨⟨⟨_, cap', by rw [List.length_append]; rfl, by rw [List.length_append]; exact hn, hc, (fun e => by cases e), fun _ => ⟨g, 0, cur, rfl, hbk, by omega, fun j u hj => ?_⟩⟩, fun g' hg' => ?_⟩, hkk, Or.inr ⟨g, rfl, by omega⟩⟩
   ·rw [qv_app, ← htk] at hj
    rw [Nat.zero_add, ← Array.getElem?_toList]
    rw [List.getElem?_take] at hj
    split at hj
    ·exact hj
    ·cases hj
   ·have e : g' = g := (Option.some.inj hg').symm
    subst e
    exact ⟨by omega, (Array.getElem?_eq_some_iff.1 hbk).1⟩
 by_cases hroom : q.length + 1 ≤ cap
 ·obtain ⟨g, off, cur, rfl, h4, h5, h6⟩ := h3 (by omega)
  have hgo := Q.own g rfl
  have hsome : ∀ j, j < 2 → (W.cell? ⟨g, off + q.length * i0.size + j, none⟩).isSome = true := fun j hj => by
   rw [cell_of_block h4, hz1, Array.getElem?_eq_getElem (by omega)]; rfl
  have hrun := run_append_room_cells (P := Tryd.prog) W 26 ty 38 i0 Tryd.underlying26 hi g off q.length cap ⟨w.heap.size, 0, none⟩ 1 1 [.int .i64 x.1, .int .u64 x.2] (by rw [hz1]; rfl) hnw one hroom hsome (fun j hj => unfrozen_of_block h4 _)
  rw [hz1] at hrun
  refine ⟨_, _, hrun, ?_, ?_, Or.inl rfl⟩
  ·have hb1 := block_setCell (i := off + q.length * 2) h4 (.int .i64 x.1)
   have hb2 := block_setCell (i := off + q.length * 2 + 1) hb1 (.int .u64 x.2)
   refine ⟨⟨_, cap, by rw [List.length_append]; rfl, by rw [List.length_append]; exact hroom, h2, (fun e => by cases e), fun _ => ⟨g, off, _, rfl, hb2, by simp; omega, fun j u hj => ?_⟩⟩, fun g' hg' => ?_⟩
   ·rw [qv_app] at hj
    by_cases hl : j < (qv q).length
    ·rw [List.getElem?_append_left hl] at hj
     rw [qv_len] at hl
     rw [Array.getElem?_setIfInBounds_ne (by omega), Array.getElem?_setIfInBounds_ne (by omega)]
     exact h6 j u hj
    ·rw [List.getElem?_append_right (by omega), qv_len] at hj
     rw [qv_len] at hl
     obtain ⟨j', hj'⟩ : ∃ j', j = q.length * 2 + j' := ⟨j - q.length * 2, by omega⟩
     subst hj'
     rw [Nat.add_sub_cancel_left] at hj
     rcases j' with _ | _ | j'
     ·have : u = .int .i64 x.1 := by simpa using hj.symm
      subst this
      rw [Array.getElem?_setIfInBounds_ne (by omega), Nat.add_zero]
      exact Array.getElem?_setIfInBounds_self_of_lt (by omega)
     ·have : u = .int .u64 x.2 := by simpa using hj.symm
      subst this
      exact Array.getElem?_setIfInBounds_self_of_lt (by simp; omega)
     ·simp at hj
   ·have e : g' = g := (Option.some.inj hg').symm
    subst e
    exact ⟨hgo.1, (Array.getElem?_eq_some_iff.1 hb2).1⟩
  ·refine hk0.trans ?_
   show Keep _ W ((W.setCell ⟨g, off + q.length * 2, none⟩ (.int .i64 x.1)).setCell ⟨g, off + q.length * 2 + 1, none⟩ (.int .u64 x.2))
   exact ((Keep.refl (fun k => (Value.slice (some ⟨g, off, none⟩) q.length cap).ownBlock = some k) W).setCell (p := ⟨g, off + q.length * 2, none⟩) rfl _).setCell (p := ⟨g, off + q.length * 2 + 1, none⟩) rfl _
 ·have hcap : cap = q.length := by omega
  cases a with
  | none =>
   have h0 := h2' rfl
   obtain ⟨v', w', hrun, ho, hgb, _⟩ := run_append_own (P := Tryd.prog) W W.heap.size 26 ty 38 i0 (.agg #[.int .i64 0, .int .u64 0]) 2 16 Tryd.underlying26 hi hz0 hz1 hz2 rfl (by decide) (.slice none 0 0) 0 [] ⟨rfl, Or.inl ⟨rfl, rfl⟩⟩ ⟨w.heap.size, 0, none⟩ 1 1 [.int .i64 x.1, .int .u64 x.2] rfl hnw one (by unfold maxLen; omega) (by decide) (Nat.le_refl _)
   have hq0 : q = [] := List.length_eq_zero_iff.1 (by omega)
   subst hq0
   subst h0
   obtain ⟨a1, a2, a3⟩ := grown v' w' ho hgb
   exact ⟨v', w', hrun, a1, a2, a3⟩
  | some ad =>
   have holds : ∀ j u, (qv q)[j]? = some u → W.cell? (ad.add j) = some u := fun j u hj => by
    have hjl : j < (qv q).length := (List.getElem?_eq_some_iff.1 hj).1
    rw [qv_len] at hjl
    obtain ⟨g, off, cur, e, h4, h5, h6⟩ := h3 (by omega)
    have e := Option.some.inj e
    subst e
    rw [add_flat, cell_of_block h4]
    exact h6 j u hj
   obtain ⟨v', w', hrun, ho, hgb⟩ := run_append_arg_grows (P := Tryd.prog) W 26 ty 38 i0 (.agg #[.int .i64 0, .int .u64 0]) 2 16 Tryd.underlying26 hi hz0 hz1 hz2 rfl (by decide) ad q.length cap (qv q) (qv_len q) holds ⟨w.heap.size, 0, none⟩ 1 1 [.int .i64 x.1, .int .u64 x.2] rfl hnw (by omega) (by unfold maxLen; omega) (by omega)
   obtain ⟨a1, a2, a3⟩ := grown v' w' ho hgb
   exact ⟨v', w', hrun, a1, a2, a3⟩
end Go.Proofs.YtppdopcghnfapaaDoor

namespace Go.Proofs.YtppdopcghnfapaaDoor
open Go.RowKit Go.Joins
section
variable {w wr wx : World} {h0 h1 : Hf} {n0 n1 : Int} {v0 v1 : Value} {q0 q1 : List Lt}
end
theorem wp_appQ {w : World} {ops : Array Oper} {rest : List Oper} {o : Oper} {a : Act} {Q : Exit → Act → World → Prop} (hgd : o.guard = none) (s x : Operand)
  (ho : o.op = .call { callee := .builtin .append, args := #[s, x], argTypes := #[26, 26] })
  {T : Nat} {v : Value} {q : List Lt} (hs : a.eval s = v) (hq : Qu w T v q) (y : Lt) (hx : a.eval x = .slice (some ⟨w.heap.size, 0, none⟩) 1 1) (hT : T ≤ w.heap.size) (hl : q.length ≤ 100000)
  (h : ∀ v' w', Qu w' T v' (q ++ [y]) → Keep (fun k => v.ownBlock = some k) w w' → (v'.ownBlock = v.ownBlock ∨ ∃ g, v'.ownBlock = some g ∧ w.heap.size ≤ g) → wpList Tryd.prog ops Q rest (a.put o.dst v') w') : wpList Tryd.prog ops Q (o :: rest) a (w.alloc (.cells #[.int .i64 y.1, .int .u64 y.2] 38)) := by
 refine wpList_plain hgd fun K hK => ?_
 obtain ⟨v', w', hrun, h2, h3, h4⟩ := run_appQ hq o.type y hT hl
 unfold Oper.wp
 simp only [execOp, ho, resolve, invoke, builtin, Sem.run_bind, Sem.run_pure, Result.andThen_ok, List.map_toArray, List.map_cons, List.map_nil, hs, hx, hrun]
 exact hK _ _ (h v' w' h2 h3 h4)
theorem and_one (x : Int) : bits .and .i64 x 1 = 0 ∨ bits .and .i64 x 1 = 1 := by
 have h1 : (BitVec.ofInt 64 1).toNat = 1 := by decide
 have h2 : bits .and .i64 x 1 = IntKind.i64.wrap (((BitVec.ofInt 64 x &&& BitVec.ofInt 64 1).toNat : Nat) : Int) := rfl
 rw [h2, BitVec.toNat_and, h1, Nat.and_one_is_mod]
 rcases Nat.mod_two_eq_zero_or_one (BitVec.ofInt 64 x).toNat with h | h
 ·rw [h]; left; decide
 ·rw [h]; right; decide
theorem and_nat (i : Nat) (hi : i < 1000000) : bits .and .i64 (i : Int) 1 = ((i % 2 : Nat) : Int) := by
 have h1 : (BitVec.ofInt 64 1).toNat = 1 := by decide
 have h2 : bits .and .i64 (i : Int) 1 = IntKind.i64.wrap (((BitVec.ofInt 64 (i : Int) &&& BitVec.ofInt 64 1).toNat : Nat) : Int) := rfl
 have h3 : (BitVec.ofInt 64 (i : Int)).toNat = i := by simp; omega
 rw [h2, BitVec.toNat_and, h1, Nat.and_one_is_mod, h3]
 rcases Nat.mod_two_eq_zero_or_one i with h | h
 ·rw [h]; decide
 ·rw [h]; decide
end Go.Proofs.YtppdopcghnfapaaDoor

set_option maxRecDepth 100000
namespace Go.Proofs.YtppdopcghnfapaaDoor
open Go.RowKit
structure On (R : Ro) (c : ByteArray) (it ak : Int) (k : Bool) (h : Hf) (x v : Int) : Prop where
 it : R.it = it
 ak : R.ak = ak
 nx : R.nx = x
 me : ofE R c = ⟨c, k, ⟨#[]⟩, (none, 0, 0), h⟩
 oth : ∀ s, s ≠ c → R.m s = none
 ks : R.ks.length = if (k || h.i != 0) = true then 1 else 0
 ksc : ∀ s ∈ R.ks, s = c
 kept : R.kept = if k = true then 1 else 0
 ver : 0 ≤ R.ver ∧ R.ver ≤ v
 was : wasK R c = k
 out : k = false → h.o = 0
section
variable {R : Ro} {c : ByteArray} {it ak : Int} {k : Bool} {h : Hf} {x v : Int}
theorem On.rg (I : On R c it ak k h x v) (hx : 0 ≤ x ∧ x < 1000000) (hv : v < 1000000) : RG R := by
 refine ⟨⟨by rw [I.nx]; exact hx.1, by rw [I.nx]; omega⟩, ?_, ?_, ⟨I.ver.1, by have := I.ver.2; omega⟩, fun s y hs => ?_⟩
 ·rw [I.ks]; split <;> decide
 ·rw [I.kept]; split <;> decide
 ·by_cases e : s = c
  ·subst e
   have := I.me
   unfold ofE at this
   rw [hs] at this
   have e2 : y = _ := this
   rw [e2]
  ·rw [I.oth s e] at hs; cases hs
theorem On.plain (I : On R c it ak k h x v) (s : ByteArray) : (ofE R s).g = (none, 0, 0) ∧ (ofE R s).nm.size ≤ 1000000 := by
 by_cases e : s = c
 ·subst e; rw [I.me]; exact ⟨rfl, show (0 : Nat) ≤ 1000000 by decide⟩
 ·unfold ofE; rw [I.oth s e]; exact ⟨rfl, show (0 : Nat) ≤ 1000000 by decide⟩
theorem subK_nil {ks : List ByteArray} (h : ∀ s ∈ ks, s = c) : subK ks c = [] := by
 unfold subK
 rw [List.filter_eq_nil_iff]
 intro a ha
 rw [h a ha]
 simp
theorem ok_zero {h : Hf} (hk : okH h = true) (ho : h.o = 0) (hi : h.i = 0) : h = ⟨0, 0, 0, 0⟩ := by
 obtain ⟨o, n, i, m⟩ := h
 have h1 := zero_num (okH_1 hk) ho
 have h2 := zero_num (okH_2 hk) hi
 dsimp only at *
 subst ho hi h1 h2
 rfl
theorem On.lay (I : On R c it ak k h x v) (k' : Bool) (h' : Hf) (hok : okH h' = true) (ho : k' = false → h'.o = 0) (x' : Int) (y : Int) (hy : 0 ≤ y ∧ y ≤ v + 1) :
  On { layR { R with nx := x' } ⟨c, k', ⟨#[]⟩, (none, 0, 0), h'⟩ with ver := y } c it ak k' h' x' (v + 1) := by
 have hkB : keptB { R with nx := x' } c = 0 := by
  unfold keptB
  have hw : wasK { R with nx := x' } c = k := I.was
  rw [hw]
  show (if k = true then R.kept - 1 else R.kept) = 0
  rw [I.kept]
  cases k <;> rfl
 have hs := subK_nil I.ksc
 unfold layR
 cases ht : thr ⟨c, k', ⟨#[]⟩, (none, 0, 0), h'⟩ with
 | true =>
  rw [if_pos rfl]
  have ht' : (k' || h'.i != 0) = true := ht
  refine ⟨I.it, I.ak, rfl, ?_, ?_, ?_, ?_, ?_, hy, ?_, ho⟩
  ·show (mputE R.m c (some ⟨c, k', ⟨#[]⟩, (none, 0, 0), h'⟩) c).getD (en0 c) = _; rw [mputE_same]; rfl
  ·intro s e; show mputE R.m c _ s = none; rw [mputE_other _ _ e]; exact I.oth s e
  ·rw [if_pos ht']; show (addK R.ks c).length = 1; unfold addK; rw [hs]; rfl
  ·intro s hm
   rcases addK_mem.1 hm with e | e
   ·exact e
   ·exact I.ksc s e
  ·show (if k' = true then keptB _ c + 1 else keptB _ c) = _
   rw [hkB]
   cases k' <;> rfl
  ·show ((mputE R.m c (some ⟨c, k', ⟨#[]⟩, (none, 0, 0), h'⟩) c).getD (en0 ⟨#[]⟩)).k = _; rw [mputE_same]; rfl
 | false =>
  rw [if_neg (by decide)]
  have ht' : (k' || h'.i != 0) = false := ht
  rw [Bool.or_eq_false_iff] at ht'
  obtain ⟨e1, e2⟩ := ht'
  have e2' : h'.i = 0 := by simpa using e2
  subst e1
  have e3 := ok_zero hok (ho rfl) e2'
  subst e3
  refine ⟨I.it, I.ak, rfl, ?_, ?_, ?_, ?_, ?_, hy, ?_, fun _ => rfl⟩
  ·show (mputE R.m c none c).getD (en0 c) = _; rw [mputE_same]; rfl
  ·intro s e; show mputE R.m c _ s = none; rw [mputE_other _ _ e]; exact I.oth s e
  ·show (subK R.ks c).length = _; rw [hs]; rfl
  ·intro s hm; exact I.ksc s (subK_mem.1 hm).1
  ·show keptB _ c = _; rw [hkB]; rfl
  ·show ((mputE R.m c none c).getD (en0 ⟨#[]⟩)).k = _; rw [mputE_same]; rfl
theorem On.turn (I : On R c it ak k h x v) (k' : Bool) (h' : Hf) (hok : okH h' = true) (ho : k' = false → h'.o = 0) (x' : Int) (_ : 0 ≤ v) :
  On (turnR { R with nx := x' } ⟨c, k', ⟨#[]⟩, (none, 0, 0), h⟩ h') c it ak k' h' x' (v + 1) := by
 have hv2 := I.ver
 unfold turnR
 split
 ·have := I.lay k' h' hok ho x' (R.ver + 1) (by omega)
  exact this
 ·have := I.lay k' h' hok ho x' R.ver (by omega)
  have e : ({ layR { R with nx := x' } ⟨c, k', ⟨#[]⟩, (none, 0, 0), h'⟩ with ver := R.ver } : Ro) = layR { R with nx := x' } ⟨c, k', ⟨#[]⟩, (none, 0, 0), h'⟩ := by
   have := layR_ver { R with nx := x' } ⟨c, k', ⟨#[]⟩, (none, 0, 0), h'⟩
   generalize layR { R with nx := x' } ⟨c, k', ⟨#[]⟩, (none, 0, 0), h'⟩ = L at this ⊢
   obtain ⟨a1, a2, a3, a4, a5, a6, a7⟩ := L
   dsimp only at this ⊢
   rw [this]
  rw [e] at this
  exact this
theorem On.more (I : On R c it ak k h x v) : On R c it ak k h x (v + 1) := ⟨I.it, I.ak, I.nx, I.me, I.oth, I.ks, I.ksc, I.kept, ⟨I.ver.1, by have := I.ver.2; omega⟩, I.was, I.out⟩
theorem On.new (c : ByteArray) (it ak : Int) : On (newR it ak) c it ak false ⟨0, 0, 0, 0⟩ 0 0 := ⟨rfl, rfl, rfl, rfl, fun _ _ => rfl, rfl, fun s hs => (by cases hs), rfl, ⟨Int.le_refl _, Int.le_refl _⟩, rfl, fun _ => rfl⟩
end
section
variable {h0 h1 : Hf} {q0 q1 : List Lt} {n0 n1 : Int}
theorem Pz.doAsk (P : Pz h0 h1 q0 q1 n0 n1) (_ : h0.o = 0) : Pz { h0 with o := 1, n := n0 + 1 } h1 q0 (q1 ++ [(1, n0 + 1)]) (n0 + 1) n1 := by
 have hx : n0 + 1 ≠ 0 := by have := P.p0; omega
 have d0 := P.d0.ask (x := n0 + 1) (by omega)
 exact ⟨okH_mk (okR_1 hx) (okH_2 (h := h0) P.k0), P.k1, d0, P.d1.push0 (a := (1, n0 + 1)) (show (1 : Int) ≠ 3 by decide) (show (1 : Int) ≠ 4 by decide), P.l0, mem_push1 P.l1 ⟨show (1 : Int) ≤ 1 ∧ (1 : Int) ≤ 4 by decide, hx⟩, by have := P.p0; omega, P.p1⟩
theorem Pz.doLeave (P : Pz h0 h1 q0 q1 n0 n1) (e : ¬ h0.o = 0) : Pz { h0 with o := 0, n := 0 } h1 q0 (q1 ++ [(2, h0.n)]) n0 n1 := by
 have hk := ok_leave P.k0
 unfold leaveH at hk
 rw [if_neg e] at hk
 have hn : h0.n ≠ 0 := by rcases okR_cases (okH_1 P.k0) with ⟨a, _⟩ | ⟨_, b⟩ | ⟨_, b⟩ <;> first | exact b | omega
 exact ⟨hk, P.k1, P.d0.leave e, P.d1.push0 (a := (2, h0.n)) (show (2 : Int) ≠ 3 by decide) (show (2 : Int) ≠ 4 by decide), P.l0, mem_push1 P.l1 ⟨show (1 : Int) ≤ 2 ∧ (2 : Int) ≤ 4 by decide, hn⟩, P.p0, P.p1⟩
theorem Pz.doGrant (P : Pz h0 h1 q0 q1 n0 n1) (e : h0.i = 1) : Pz { h0 with i := 2 } h1 q0 (q1 ++ [(3, h0.m)]) n0 n1 := by
 have hk := ok_grant P.k0
 unfold grantH at hk
 rw [if_pos e] at hk
 have hm : h0.m ≠ 0 := by rcases okR_cases (okH_2 P.k0) with ⟨a, _⟩ | ⟨_, b⟩ | ⟨_, b⟩ <;> first | exact b | omega
 exact ⟨hk, P.k1, P.d0.push1 (a := (3, h0.m)) (show (3 : Int) ≠ 1 by decide) (show (3 : Int) ≠ 2 by decide), P.d1.grant e, P.l0, mem_push1 P.l1 ⟨show (1 : Int) ≤ 3 ∧ (3 : Int) ≤ 4 by decide, hm⟩, P.p0, P.p1⟩
theorem Pz.doDeny (P : Pz h0 h1 q0 q1 n0 n1) (e : ¬ h0.i = 0) : Pz { h0 with i := 0, m := 0 } h1 q0 (q1 ++ [(4, h0.m)]) n0 n1 := by
 have hk := ok_deny P.k0
 unfold denyH at hk
 rw [if_neg e] at hk
 have hm : h0.m ≠ 0 := by rcases okR_cases (okH_2 P.k0) with ⟨a, _⟩ | ⟨_, b⟩ | ⟨_, b⟩ <;> first | exact b | omega
 exact ⟨hk, P.k1, P.d0.push1 (a := (4, h0.m)) (show (4 : Int) ≠ 1 by decide) (show (4 : Int) ≠ 2 by decide), P.d1.deny, P.l0, mem_push1 P.l1 ⟨show (1 : Int) ≤ 4 ∧ (4 : Int) ≤ 4 by decide, hm⟩, P.p0, P.p1⟩
end
theorem pair_act {R : Ro} {c : ByteArray} {it ak : Int} {k : Bool} {h h1 : Hf} {x v n1 : Int} {q0 q1 : List Lt} (I : On R c it ak k h x v) (P : Pz h h1 q0 q1 x n1) (hv : 0 ≤ v) (kind : Int) :
  ∃ k' h' x', On (actP R c kind).2.2 c it ak k' h' x' (v + 1) ∧ (x ≤ x' ∧ x' ≤ x + 1) ∧ Pz h' h1 q0 (if (actP R c kind).2.1 = 0 ∧ (actP R c kind).1.1 ≠ 0 then q1 ++ [((actP R c kind).1.1, (actP R c kind).1.2.1)] else q1) x' n1 := by
 have hx1 : x + 1 ≠ 0 := by have := P.p0; omega
 unfold actP
 rw [I.me, I.nx]
 dsimp only
 by_cases k1 : kind = 11
 ·subst k1
  rw [actA_ask P.k0 hx1]
  rw [if_neg (fun hh => hh rfl)]
  unfold askH
  by_cases e : h.o = 0
  ·rw [if_pos e]
   dsimp only
   rw [if_neg (show ¬ (1 : Int) = 0 by decide), if_pos rfl]
   cases hr : roomB R ⟨c, k, ⟨#[]⟩, (none, 0, 0), h⟩ with
   | true =>
    rw [if_pos rfl]
    have P2 := P.doAsk e
    refine ⟨true, { h with o := 1, n := x + 1 }, x + 1, I.turn true { h with o := 1, n := x + 1 } P2.k0 (fun hh => by cases hh) (x + 1) hv, by omega, ?_⟩
    rw [if_pos ⟨rfl, show (1 : Int) ≠ 0 by decide⟩]
    exact P2
   | false =>
    rw [if_neg (by decide)]
    refine ⟨k, h, x, I.more, by omega, ?_⟩
    rw [if_neg (fun hh => by have := hh.1; cases this)]
    exact P
  ·rw [if_neg e]
   dsimp only
   rw [if_pos rfl]
   refine ⟨k, h, x, I.more, by omega, ?_⟩
   rw [if_neg (fun hh => hh.2 rfl)]
   exact P
 ·by_cases k2 : kind = 12
  ·subst k2
   rw [actA_grant P.k0]
   rw [if_neg (fun hh => hh rfl)]
   unfold grantH
   by_cases e : h.i = 1
   ·rw [if_pos e]
    dsimp only
    have P2 := P.doGrant e
    rw [if_neg (show ¬ (3 : Int) = 0 by decide), if_neg (show ¬ (12 : Int) = 11 by decide), if_pos rfl]
    cases hr : roomB R ⟨c, k, ⟨#[]⟩, (none, 0, 0), h⟩ with
    | true =>
     rw [if_pos rfl]
     have I2 := I.turn true { h with i := 2 } P2.k0 (fun hh => by cases hh) x hv
     refine ⟨true, { h with i := 2 }, x, ?_, by omega, ?_⟩
     ·have e : ({ R with nx := x } : Ro) = R := by rw [← I.nx]
      rw [e] at I2
      exact I2
     ·rw [if_pos ⟨rfl, show (3 : Int) ≠ 0 by decide⟩]
      exact P2
    | false =>
     rw [if_neg (by decide)]
     refine ⟨k, h, x, I.more, by omega, ?_⟩
     rw [if_neg (fun hh => by have := hh.1; cases this)]
     exact P
   ·rw [if_neg e]
    dsimp only
    rw [if_pos rfl]
    refine ⟨k, h, x, I.more, by omega, ?_⟩
    rw [if_neg (fun hh => hh.2 rfl)]
    exact P
  ·by_cases k3 : kind = 13
   ·subst k3
    rw [actA_leave P.k0]
    rw [if_neg (fun hh => hh rfl)]
    unfold leaveH
    by_cases e : h.o = 0
    ·rw [if_pos e]
     dsimp only
     rw [if_pos rfl]
     refine ⟨k, h, x, I.more, by omega, ?_⟩
     rw [if_neg (fun hh => hh.2 rfl)]
     exact P
    ·rw [if_neg e]
     dsimp only
     have P2 := P.doLeave e
     rw [if_neg (show ¬ (2 : Int) = 0 by decide), if_neg k1, if_neg k2]
     have I2 := I.turn k { h with o := 0, n := 0 } P2.k0 (fun _ => rfl) x hv
     have e4 : ({ R with nx := x } : Ro) = R := by rw [← I.nx]
     rw [e4] at I2
     refine ⟨k, { h with o := 0, n := 0 }, x, I2, by omega, ?_⟩
     rw [if_pos ⟨rfl, show (2 : Int) ≠ 0 by decide⟩]
     exact P2
   ·by_cases k4 : kind = 14
    ·subst k4
     rw [actA_deny P.k0]
     rw [if_neg (fun hh => hh rfl)]
     unfold denyH
     by_cases e : h.i = 0
     ·rw [if_pos e]
      dsimp only
      rw [if_pos rfl]
      refine ⟨k, h, x, I.more, by omega, ?_⟩
      rw [if_neg (fun hh => hh.2 rfl)]
      exact P
     ·rw [if_neg e]
      dsimp only
      have P2 := P.doDeny e
      rw [if_neg (show ¬ (4 : Int) = 0 by decide), if_neg k1, if_neg k2]
      have I2 := I.turn k { h with i := 0, m := 0 } P2.k0 I.out x hv
      have e4 : ({ R with nx := x } : Ro) = R := by rw [← I.nx]
      rw [e4] at I2
      refine ⟨k, { h with i := 0, m := 0 }, x, I2, by omega, ?_⟩
      rw [if_pos ⟨rfl, show (4 : Int) ≠ 0 by decide⟩]
      exact P2
    ·have ea : actA h kind (x + 1) = ((⟨0, 0, 0, 0⟩, 0, 0), 1) := by
      unfold actA
      rw [if_pos P.k0]
      unfold actH
      rw [if_neg k1, if_neg k2, if_neg k3, if_neg k4]
     rw [ea]
     dsimp only
     rw [if_pos (show (1 : Nat) ≠ 0 by decide)]
     refine ⟨k, h, x, I.more, by omega, ?_⟩
     rw [if_neg (fun hh => by have := hh.1; cases this)]
     exact P
theorem pair_hear {R : Ro} {c : ByteArray} {it ak : Int} {k : Bool} {h h1 : Hf} {x v n1 : Int} {a : Lt} {q0 q1 : List Lt} (I : On R c it ak k h x v) (P : Pz h h1 (a :: q0) q1 x n1) (hv : 0 ≤ v) :
  (hearP R c a.1 a.2).2.1 = 0 ∧ ∃ k' h', On (hearP R c a.1 a.2).2.2 c it ak k' h' x (v + 1) ∧ Pz h' h1 q0 (if (hearP R c a.1 a.2).1.2.1 = true then q1 ++ [(4, a.2)] else q1) x n1 ∧ ((hearP R c a.1 a.2).1.2.1 = true → a.1 = 1) := by
 obtain ⟨he, P2⟩ := P.hear
 have hst : (hearA h a.1 a.2).1.1.o = 0 ∨ h.o ≠ 0 := by
  by_cases e : h.o = 0
  ·left
   obtain ⟨⟨a1, a2⟩, a3⟩ := P.l0 a (List.mem_cons_self ..)
   obtain ⟨r, hr⟩ : ∃ r, hearH h a.1 a.2 = some r := by
    have : a.1 = 1 ∨ a.1 = 2 ∨ a.1 = 3 ∨ a.1 = 4 := by omega
    unfold hearH
    rcases this with e | e | e | e <;> rw [e] <;> exact ⟨_, rfl⟩
   rw [hearA_at P.k0 a3 hr]
   have s1 := (hear_st hr).1
   have s2 : stA (h.o, h.n) a = (h.o, h.n) := by
    unfold stA
    rw [if_neg (fun hh => by have := hh.2.1; simp only at this; omega), if_neg (fun hh => hh.2.1 e)]
   rw [s2] at s1
   exact ((Prod.mk.inj s1).1).trans e
  ·exact Or.inr e
 unfold hearP
 rw [I.me]
 dsimp only
 have hd : a.1 = 1 → (hearA h a.1 a.2) = (({ h with i := 1, m := a.2 }, 42), 0) := fun e => by
  have a3 := (P.l0 a (List.mem_cons_self ..)).2
  rw [e]
  exact hearA_at P.k0 a3 rfl
 generalize hearA h a.1 a.2 = r at *
 obtain ⟨⟨t, tl⟩, en⟩ := r
 dsimp only at he P2 hst ⊢
 subst he
 rw [if_neg (fun hh => hh rfl)]
 by_cases hc : a.1 = 1 ∧ thr ⟨c, k, ⟨#[]⟩, (none, 0, 0), h⟩ = false ∧ decide ((R.ks.length : Int) - R.kept ≥ R.ak) = true
 ·rw [if_pos hc]
  refine ⟨rfl, k, h, I.more, ?_, fun _ => hc.1⟩
  dsimp only
  rw [if_pos rfl]
  have ht : (k || h.i != 0) = false := hc.2.1
  rw [Bool.or_eq_false_iff] at ht
  have hi : h.i = 0 := by simpa using ht.2
  have hm := zero_num (okH_2 P.k0) hi
  have e1 := hd hc.1
  have et : t = { h with i := 1, m := a.2 } := congrArg (fun z => z.1.1) e1
  subst et
  have P3 := P2.doDeny (show ¬ (1 : Int) = 0 by decide)
  have eh : ({ { h with i := 1, m := a.2 } with i := 0, m := 0 } : Hf) = h := by
   obtain ⟨o, n, i, m⟩ := h
   dsimp only at hi hm ⊢
   rw [hi, hm]
  rw [eh] at P3
  exact P3
 ·rw [if_neg hc]
  have I2 := I.turn k t P2.k0 (fun e => hst.resolve_right (fun h2 => h2 (I.out e))) x hv
  have e4 : ({ R with nx := x } : Ro) = R := by rw [← I.nx]
  rw [e4] at I2
  refine ⟨rfl, k, t, I2, ?_, fun h => by cases h⟩
  dsimp only
  rw [if_neg (by decide)]
  exact P2
theorem On.got {R : Ro} {c : ByteArray} {it ak : Int} {k : Bool} {h : Hf} {x v : Int} (I : On R c it ak k h x v) (hp : prepB c = c) (he : prepE c = 0) (hk : okH h = true) : (getS R c).1.h = h := by
 unfold getS getP
 rw [he, hp, if_pos rfl, I.me]
 cases ht : thr ⟨c, k, ⟨#[]⟩, (none, 0, 0), h⟩ with
 | true => rw [if_pos rfl]
 | false =>
  rw [if_neg (by decide)]
  have ht' : (k || h.i != 0) = false := ht
  rw [Bool.or_eq_false_iff] at ht'
  exact (ok_zero hk (I.out ht'.1) (by simpa using ht'.2)).symm
def wt : List Lt → Nat
 | [] => 0
 | a :: q => (if a.1 = 1 then 2 else 1) + wt q
theorem wt_app (q : List Lt) (a : Lt) : wt (q ++ [a]) = wt q + (if a.1 = 1 then 2 else 1) := by
 induction q with
 | nil => simp [wt]
 | cons b q ih => simp only [List.cons_append, wt, ih]; omega
theorem wt_pos {q : List Lt} (h : 0 < q.length) : 0 < wt q := by
 cases q with
 | nil => simp at h
 | cons a q => simp only [wt]; split <;> omega
def mu2 (N i a b : Nat) : Nat := (N - i) * 7 + 2 * (a + b) + (if i % 2 = 0 then (if a = 0 then 1 else 0) else (if b = 0 then 1 else 0))
theorem mu2_early {N i a b a' b' : Nat} (hi : i < N) (h : a' + b' ≤ a + b + 2) : mu2 N (i + 1) a' b' < mu2 N i a b := by
 unfold mu2
 have : (N - i) * 7 = (N - (i + 1)) * 7 + 7 := by omega
 split <;> split <;> split <;> split <;> omega
theorem mu2_fall {N i a b a' b' : Nat} (h : a' + b' + 1 ≤ a + b) : mu2 N (i + 1) a' b' < mu2 N i a b := by
 unfold mu2
 have : (N - (i + 1)) * 7 ≤ (N - i) * 7 := by omega
 split <;> split <;> split <;> split <;> omega
theorem mu2_skip0 {N i b : Nat} (hp : i % 2 = 0) (hb : 0 < b) : mu2 N (i + 1) 0 b < mu2 N i 0 b := by
 unfold mu2
 have : (N - (i + 1)) * 7 ≤ (N - i) * 7 := by omega
 rw [if_pos hp, if_pos rfl, if_neg (by omega : ¬ ((i + 1) % 2 = 0)), if_neg (by omega : ¬ b = 0)]
 omega
theorem mu2_skip1 {N i a : Nat} (hp : i % 2 = 1) (ha : 0 < a) : mu2 N (i + 1) a 0 < mu2 N i a 0 := by
 unfold mu2
 have : (N - (i + 1)) * 7 ≤ (N - i) * 7 := by omega
 rw [if_neg (by omega : ¬ (i % 2 = 0)), if_pos rfl, if_pos (by omega : (i + 1) % 2 = 0), if_neg (by omega : ¬ a = 0)]
 omega
end Go.Proofs.YtppdopcghnfapaaDoor

set_option maxRecDepth 100000
namespace Go.Proofs.YtppdopcghnfapaaDoor
open Go.RowKit Go.Joins
def bBob : ByteArray := ⟨#[66, 111, 98]⟩
def bbob : ByteArray := ⟨#[98, 111, 98]⟩
def bann : ByteArray := ⟨#[97, 110, 110]⟩
theorem lBob : Nm.localN bBob.data.toList = ([98, 111, 98], 0) := by decide +kernel
theorem lbob : Nm.localN bbob.data.toList = ([98, 111, 98], 0) := by decide +kernel
theorem lann : Nm.localN bann.data.toList = ([97, 110, 110], 0) := by decide +kernel
theorem pBob : prepB bBob = bbob ∧ prepE bBob = 0 := by unfold prepB prepE; rw [lBob]; exact ⟨rfl, rfl⟩
theorem pbob : prepB bbob = bbob ∧ prepE bbob = 0 := by unfold prepB prepE; rw [lbob]; exact ⟨rfl, rfl⟩
theorem pann : prepB bann = bann ∧ prepE bann = 0 := by unfold prepB prepE; rw [lann]; exact ⟨rfl, rfl⟩
def rW : Ro := turnR { newR 2 1 with nx := 1 } ⟨bbob, true, ⟨#[]⟩, (none, 0, 0), ⟨0, 0, 0, 0⟩⟩ ⟨1, 1, 0, 0⟩
theorem rW_on : On rW bbob 2 1 true ⟨1, 1, 0, 0⟩ 1 1 := (On.new bbob 2 1).turn true ⟨1, 1, 0, 0⟩ rfl (fun h => by cases h) 1 (Int.le_refl _)
theorem rW_act : actS (newR 2 1) bBob 11 = ((1, 1, true), 0, rW) := by
 unfold actS
 rw [pBob.1, pBob.2, if_pos rfl]
 rfl
theorem rW_get : getS rW bbob = (⟨bbob, true, ⟨#[]⟩, (none, 0, 0), ⟨1, 1, 0, 0⟩⟩, 0, rW) := by
 unfold getS getP
 rw [pbob.1, pbob.2, if_pos rfl, rW_on.me]
 rfl
theorem rW_ver : rW.ver = 1 := rfl
set_option maxHeartbeats 1600000 in
theorem rwakes_any (w : World) (hT : Lib.Utf8Tabs 0 1 w) : Calls Tryd.prog 5 #[] w fun e w' => e = .returned (.bool true) ∧ Below w.heap.size w w' := by
 have cN := New_ok 2 1 rfl rfl w
 have HT : Hid (Lib.Utf8Tabs 0 1 w) := hT
 clear hT
 go_enter Tryd.func5, Tryd.ntmps5
 go_upto_region 4 with (first
  | (go_at_call 4; refine cN.mono ?_; clear cN; rintro e w1 ⟨q, mb, rfl, hr, hq, hm, hb⟩))
 have cA := Act_R w1 q mb (newR 2 1) hr (newR_G 2 1) bBob (by decide) 11 (tabs_keep HT.out (Keep.ofBelow (S := fun _ => False) hb) (fun h => h) (fun h => h)) (by rw [pBob.1]; decide)
 rw [rW_act] at cA
 dsimp only at cA
 have HB : Hid (Below w.heap.size w w1 ∧ w.heap.size ≤ q ∧ w.heap.size ≤ mb) := ⟨hb, hq, hm⟩
 clear hr hq hm hb
 unfold bBob at cA
 go_upto_region 5 with (first
  | (go_at_call 6; refine cA.mono ?_; clear cA; rintro e w2 ⟨rfl, hr2, k2⟩))
 have hb2 : Below w.heap.size w w2 := HB.out.1.trans (k2.below HB.out.1.size (fun i hi => by have := HB.out; omega))
 have cG := Get_R w2 q mb rW hr2 (rW_on.rg (by decide) (by decide)) bbob (by decide) rW_on.plain (tabs_keep HT.out (Keep.ofBelow (S := fun _ => False) hb2) (fun h => h) (fun h => h)) (by rw [pbob.1]; decide)
 rw [rW_get] at cG
 dsimp only at cG
 unfold bbob env enc gsv at cG
 dsimp only at cG
 rw [gad_nil] at cG
 clear hr2
 go_upto_region 6 with (first
  | (go_at_call 8; refine cG.mono ?_; clear cG; rintro e w3 ⟨rfl, hr3, k3⟩))
 have cV : ∀ W, RA W q mb rW → Calls Tryd.prog 12 #[.pointer (some ⟨q, 0, none⟩)] W fun e w' => e = .returned (.int .u64 1) ∧ w' = W := fun W h => by have := ver_any W q mb rW h; rw [rW_ver] at this; exact this
 have hr4 := hr3.below (below1 w3 (.cells #[.string ⟨#[98, 111, 98]⟩, .bool true, .string ⟨#[]⟩, .slice none 0 0, .int .i64 1, .int .u64 1, .int .i64 0, .int .u64 0] 47))
 have cV2 := cV _ hr4
 have hb3 : Below w.heap.size w (w3.alloc (.cells #[.string ⟨#[98, 111, 98]⟩, .bool true, .string ⟨#[]⟩, .slice none 0 0, .int .i64 1, .int .u64 1, .int .i64 0, .int .u64 0] 47)) := (hb2.trans (k3.below hb2.size (fun i hi => by have := HB.out; omega))).alloc (by have := k3.size; have := hb2.size; omega) _
 have HZ : Hid (Below w.heap.size w _) := hb3
 clear cV hr3 k3 k2 hb2 hr4 hb3
 go_wp2_with (first
  | (go_at_call 12; refine cV2.mono ?_; clear cV2; rintro e w5 ⟨rfl, hw5⟩; replace hw5 := hw5.symm; subst hw5))
 go_ret
 exact ⟨rfl, HZ.out⟩
end Go.Proofs.YtppdopcghnfapaaDoor

set_option maxRecDepth 100000
namespace Go.Proofs.YtppdopcghnfapaaDoor
open Go.RowKit Go.Joins
structure Pg (w : World) (q0 m0 q1 m1 T : Nat) (R0 R1 : Ro) (v0 v1 : Value) (l0 l1 : List Lt) (wr : World) : Prop where
 aR : wr.heap[w.heap.size]? = some (.cells #[.pointer (some ⟨q0, 0, none⟩), .pointer (some ⟨q1, 0, none⟩)] 24 (0, 0))
 aN : wr.heap[w.heap.size + 1]? = some (.cells #[.string ⟨#[97, 110, 110]⟩, .string ⟨#[98, 111, 98]⟩] 25 (0, 0))
 aW : wr.heap[w.heap.size + 2]? = some (.cells #[v0, v1] 27 (0, 0))
 r0 : RA wr q0 m0 R0
 r1 : RA wr q1 m1 R1
 u0 : Qu wr T v0 l0
 u1 : Qu wr T v1 l1
 dj : ∀ g, v0.ownBlock = some g → v1.ownBlock ≠ some g
 lo : w.heap.size + 3 ≤ q0 ∧ w.heap.size + 3 ≤ m0 ∧ w.heap.size + 3 ≤ q1 ∧ w.heap.size + 3 ≤ m1
 sep : q0 < q1 ∧ q0 < m1 ∧ m0 < q1 ∧ m0 < m1
 hi : q0 < T ∧ m0 < T ∧ q1 < T ∧ m1 < T
 bl : Below w.heap.size w wr
 tz : T ≤ wr.heap.size
section
variable {w wr wx : World} {q0 m0 q1 m1 T : Nat} {R0 R1 : Ro} {v0 v1 : Value} {l0 l1 : List Lt}
theorem Pg.b3 (A : Pg w q0 m0 q1 m1 T R0 R1 v0 v1 l0 l1 wr) : w.heap.size + 3 < T := by have := A.lo; have := A.hi; omega
theorem Pg.keep {S : Nat → Prop} (A : Pg w q0 m0 q1 m1 T R0 R1 v0 v1 l0 l1 wr) (hk : Keep S wr wx) (hs : ∀ j, S j → T ≤ j) (s0 : ∀ g, v0.ownBlock = some g → ¬ S g) (s1 : ∀ g, v1.ownBlock = some g → ¬ S g) : Pg w q0 m0 q1 m1 T R0 R1 v0 v1 l0 l1 wx := by
 have h1 := A.b3; have h2 := A.hi; have h3 := A.tz
 exact ⟨box_keep A.aR hk (fun e => by have := hs _ e; omega), box_keep A.aN hk (fun e => by have := hs _ e; omega), box_keep A.aW hk (fun e => by have := hs _ e; omega), A.r0.keep hk (fun e => by have := hs _ e; omega) (fun e => by have := hs _ e; omega), A.r1.keep hk (fun e => by have := hs _ e; omega) (fun e => by have := hs _ e; omega), A.u0.keep hk s0, A.u1.keep hk s1, A.dj, A.lo, A.sep, A.hi, A.bl.trans (hk.below (by omega) (fun j e => by have := hs _ e; omega)), Nat.le_trans h3 hk.size⟩
theorem Pg.below (A : Pg w q0 m0 q1 m1 T R0 R1 v0 v1 l0 l1 wr) (hb : Below wr.heap.size wr wx) : Pg w q0 m0 q1 m1 T R0 R1 v0 v1 l0 l1 wx := A.keep (S := fun _ => False) (Keep.ofBelow hb) (fun _ h => h.elim) (fun _ _ h => h) (fun _ _ h => h)
theorem Pg.own0 (A : Pg w q0 m0 q1 m1 T R0 R1 v0 v1 l0 l1 wr) {g : Nat} (e : v0.ownBlock = some g) : T ≤ g ∧ g < wr.heap.size := A.u0.own g e
theorem Pg.own1 (A : Pg w q0 m0 q1 m1 T R0 R1 v0 v1 l0 l1 wr) {g : Nat} (e : v1.ownBlock = some g) : T ≤ g ∧ g < wr.heap.size := A.u1.own g e
theorem Pg.row (A : Pg w q0 m0 q1 m1 T R0 R1 v0 v1 l0 l1 wr) {g : Nat} (v : Array Value) (hg : T ≤ g) (g0 : v0.ownBlock ≠ some g) (g1 : v1.ownBlock ≠ some g) : Pg w q0 m0 q1 m1 T R0 R1 v0 v1 l0 l1 (wr.setRow g v) :=
 A.keep (rowK wr g v) (fun j e => by omega) (fun g' e k => g0 (by rw [e, k])) (fun g' e k => g1 (by rw [e, k]))
theorem Pg.out0 (A : Pg w q0 m0 q1 m1 T R0 R1 v0 v1 l0 l1 wr) {g : Nat} (hg : wr.heap.size ≤ g) : v0.ownBlock ≠ some g := fun e => by have := (A.own0 e).2; omega
theorem Pg.out1 (A : Pg w q0 m0 q1 m1 T R0 R1 v0 v1 l0 l1 wr) {g : Nat} (hg : wr.heap.size ≤ g) : v1.ownBlock ≠ some g := fun e => by have := (A.own1 e).2; omega
theorem Pg.RF (A : Pg w q0 m0 q1 m1 T R0 R1 v0 v1 l0 l1 wr) : wr.cell? ⟨w.heap.size, 0, none⟩ = some (.pointer (some ⟨q0, 0, none⟩)) := by rw [cell_of_block A.aR]; rfl
theorem Pg.RS (A : Pg w q0 m0 q1 m1 T R0 R1 v0 v1 l0 l1 wr) : wr.cell? ⟨w.heap.size, 1, none⟩ = some (.pointer (some ⟨q1, 0, none⟩)) := by rw [cell_of_block A.aR]; rfl
theorem Pg.NF (A : Pg w q0 m0 q1 m1 T R0 R1 v0 v1 l0 l1 wr) : wr.cell? ⟨w.heap.size + 1, 0, none⟩ = some (.string ⟨#[97, 110, 110]⟩) := by rw [cell_of_block A.aN]; rfl
theorem Pg.NS (A : Pg w q0 m0 q1 m1 T R0 R1 v0 v1 l0 l1 wr) : wr.cell? ⟨w.heap.size + 1, 1, none⟩ = some (.string ⟨#[98, 111, 98]⟩) := by rw [cell_of_block A.aN]; rfl
theorem Pg.V0 (A : Pg w q0 m0 q1 m1 T R0 R1 v0 v1 l0 l1 wr) : wr.cell? ⟨w.heap.size + 2, 0, none⟩ = some v0 := by rw [cell_of_block A.aW]; rfl
theorem Pg.V1 (A : Pg w q0 m0 q1 m1 T R0 R1 v0 v1 l0 l1 wr) : wr.cell? ⟨w.heap.size + 2, 1, none⟩ = some v1 := by rw [cell_of_block A.aW]; rfl
theorem Pg.VF (A : Pg w q0 m0 q1 m1 T R0 R1 v0 v1 l0 l1 wr) (i : Nat) : wr.frozen? ⟨w.heap.size + 2, i, none⟩ = false := unfrozen_of_block A.aW i
theorem Pg.step0 (A : Pg w q0 m0 q1 m1 T R0 R1 v0 v1 l0 l1 wr) {R' : Ro} (h : RA wx q0 m0 R') (hk : Keep (fun j => j = q0 ∨ j = m0) wr wx) : Pg w q0 m0 q1 m1 T R' R1 v0 v1 l0 l1 wx := by
 have h1 := A.b3; have h2 := A.hi; have h3 := A.tz; have h4 := A.lo; have h5 := A.sep
 exact ⟨box_keep A.aR hk (by omega), box_keep A.aN hk (by omega), box_keep A.aW hk (by omega), h, A.r1.keep hk (by omega) (by omega), A.u0.keep hk (fun g e => by have := A.own0 e; omega), A.u1.keep hk (fun g e => by have := A.own1 e; omega), A.dj, A.lo, A.sep, A.hi, A.bl.trans (hk.below (by omega) (fun j e => by omega)), Nat.le_trans h3 hk.size⟩
theorem Pg.push0 (A : Pg w q0 m0 q1 m1 T R0 R1 v0 v1 l0 l1 wr) {v' : Value} {x : Lt} (Q : Qu wx T v' (l0 ++ [x])) (hk : Keep (fun j => v0.ownBlock = some j) wr wx) (ho : v'.ownBlock = v0.ownBlock ∨ ∃ g, v'.ownBlock = some g ∧ wr.heap.size ≤ g) :
  wx.heap[w.heap.size + 2]? = some (.cells #[v0, v1] 27 (0, 0)) ∧ Pg w q0 m0 q1 m1 T R0 R1 v' v1 (l0 ++ [x]) l1 (wx.setCell ⟨w.heap.size + 2, 0, none⟩ v') := by
 have h1 := A.b3; have h2 := A.hi; have h3 := A.tz; have h4 := A.lo; have h5 := A.sep
 have ns : ∀ i, i < T → ¬ v0.ownBlock = some i := fun i hi e => by have := (A.own0 e).1; omega
 have hW := box_keep A.aW hk (ns _ (by omega))
 have hk2 := setK wx (w.heap.size + 2) 0 v'
 have Q' := Q.keep hk2 (fun g e k => by have := (Q.own g e).1; omega)
 have U : Qu (wx.setCell ⟨w.heap.size + 2, 0, none⟩ v') T v1 l1 := (A.u1.keep hk (fun g e k => A.dj g k e)).keep hk2 (fun g e k => by have := (A.own1 e).1; omega)
 have dj' : ∀ g, v'.ownBlock = some g → v1.ownBlock ≠ some g := fun g e k => by
  rcases ho with e2 | ⟨g2, e2, hg⟩
  ·exact A.dj g (by rw [← e2]; exact e) k
  ·have : g = g2 := Option.some.inj (e.symm.trans e2)
   have := (A.own1 k).2
   omega
 have b1 := A.bl.trans (hk.below (by omega) (fun j e => by have := (A.own0 e).1; omega))
 have hz := hk.size
 refine ⟨hW, box_keep (box_keep A.aR hk (ns _ (by omega))) hk2 (by omega), box_keep (box_keep A.aN hk (ns _ (by omega))) hk2 (by omega), block_setCell hW _, (A.r0.keep hk (ns _ (by omega)) (ns _ (by omega))).keep hk2 (by omega) (by omega), (A.r1.keep hk (ns _ (by omega)) (ns _ (by omega))).keep hk2 (by omega) (by omega), Q', U, dj', A.lo, A.sep, A.hi, b1.trans (hk2.below (by omega) (fun j e => by omega)), Nat.le_trans (Nat.le_trans A.tz hk.size) hk2.size⟩
theorem Pg.pop0 {x : Lt} {l : List Lt} (A : Pg w q0 m0 q1 m1 T R0 R1 v0 v1 (x :: l) l1 wr) {v' : Value} (ho : v'.ownBlock = v0.ownBlock) (Q : ∀ wx, Keep (fun j => v0.ownBlock ≠ some j) wr wx → Qu wx T v' l) : Pg w q0 m0 q1 m1 T R0 R1 v' v1 l l1 (wr.setCell ⟨w.heap.size + 2, 0, none⟩ v') := by
 have h1 := A.b3; have h2 := A.hi; have h3 := A.tz; have h4 := A.lo; have h5 := A.sep
 have hk2 := setK wr (w.heap.size + 2) 0 v'
 have Q' := Q _ (hk2.mono (fun i e k => by have := (A.own0 k).1; omega))
 have U := A.u1.keep hk2 (fun g e k => by have := (A.own1 e).1; omega)
 exact ⟨box_keep A.aR hk2 (by omega), box_keep A.aN hk2 (by omega), block_setCell A.aW _, A.r0.keep hk2 (by omega) (by omega), A.r1.keep hk2 (by omega) (by omega), Q', U, fun g e => A.dj g (by rw [← ho]; exact e), A.lo, A.sep, A.hi, A.bl.trans (hk2.below (by omega) (fun j e => by omega)), Nat.le_trans A.tz hk2.size⟩
theorem Pg.step1 (A : Pg w q0 m0 q1 m1 T R0 R1 v0 v1 l0 l1 wr) {R' : Ro} (h : RA wx q1 m1 R') (hk : Keep (fun j => j = q1 ∨ j = m1) wr wx) : Pg w q0 m0 q1 m1 T R0 R' v0 v1 l0 l1 wx := by
 have h1 := A.b3; have h2 := A.hi; have h3 := A.tz; have h4 := A.lo; have h5 := A.sep
 exact ⟨box_keep A.aR hk (by omega), box_keep A.aN hk (by omega), box_keep A.aW hk (by omega), A.r0.keep hk (by omega) (by omega), h, A.u0.keep hk (fun g e => by have := A.own0 e; omega), A.u1.keep hk (fun g e => by have := A.own1 e; omega), A.dj, A.lo, A.sep, A.hi, A.bl.trans (hk.below (by omega) (fun j e => by omega)), Nat.le_trans h3 hk.size⟩
theorem Pg.push1 (A : Pg w q0 m0 q1 m1 T R0 R1 v0 v1 l0 l1 wr) {v' : Value} {x : Lt} (Q : Qu wx T v' (l1 ++ [x])) (hk : Keep (fun j => v1.ownBlock = some j) wr wx) (ho : v'.ownBlock = v1.ownBlock ∨ ∃ g, v'.ownBlock = some g ∧ wr.heap.size ≤ g) :
  wx.heap[w.heap.size + 2]? = some (.cells #[v0, v1] 27 (0, 0)) ∧ Pg w q0 m0 q1 m1 T R0 R1 v0 v' l0 (l1 ++ [x]) (wx.setCell ⟨w.heap.size + 2, 1, none⟩ v') := by
 have h1 := A.b3; have h2 := A.hi; have h3 := A.tz; have h4 := A.lo; have h5 := A.sep
 have ns : ∀ i, i < T → ¬ v1.ownBlock = some i := fun i hi e => by have := (A.own1 e).1; omega
 have hW := box_keep A.aW hk (ns _ (by omega))
 have hk2 := setK wx (w.heap.size + 2) 1 v'
 have Q' := Q.keep hk2 (fun g e k => by have := (Q.own g e).1; omega)
 have U : Qu (wx.setCell ⟨w.heap.size + 2, 1, none⟩ v') T v0 l0 := (A.u0.keep hk (fun g e k => A.dj g e k)).keep hk2 (fun g e k => by have := (A.own0 e).1; omega)
 have dj' : ∀ g, v'.ownBlock = some g → v0.ownBlock ≠ some g := fun g e k => by
  rcases ho with e2 | ⟨g2, e2, hg⟩
  ·exact A.dj g k (by rw [← e2]; exact e)
  ·have : g = g2 := Option.some.inj (e.symm.trans e2)
   have := (A.own0 k).2
   omega
 have b1 := A.bl.trans (hk.below (by omega) (fun j e => by have := (A.own1 e).1; omega))
 have hz := hk.size
 refine ⟨hW, box_keep (box_keep A.aR hk (ns _ (by omega))) hk2 (by omega), box_keep (box_keep A.aN hk (ns _ (by omega))) hk2 (by omega), block_setCell hW _, (A.r0.keep hk (ns _ (by omega)) (ns _ (by omega))).keep hk2 (by omega) (by omega), (A.r1.keep hk (ns _ (by omega)) (ns _ (by omega))).keep hk2 (by omega) (by omega), U, Q', fun g e k => dj' g k e, A.lo, A.sep, A.hi, b1.trans (hk2.below (by omega) (fun j e => by omega)), Nat.le_trans (Nat.le_trans A.tz hk.size) hk2.size⟩
theorem Pg.pop1 {x : Lt} {l : List Lt} (A : Pg w q0 m0 q1 m1 T R0 R1 v0 v1 l0 (x :: l) wr) {v' : Value} (ho : v'.ownBlock = v1.ownBlock) (Q : ∀ wx, Keep (fun j => v1.ownBlock ≠ some j) wr wx → Qu wx T v' l) : Pg w q0 m0 q1 m1 T R0 R1 v0 v' l0 l (wr.setCell ⟨w.heap.size + 2, 1, none⟩ v') := by
 have h1 := A.b3; have h2 := A.hi; have h3 := A.tz; have h4 := A.lo; have h5 := A.sep
 have hk2 := setK wr (w.heap.size + 2) 1 v'
 have Q' := Q _ (hk2.mono (fun i e k => by have := (A.own1 k).1; omega))
 have U := A.u0.keep hk2 (fun g e k => by have := (A.own0 e).1; omega)
 exact ⟨box_keep A.aR hk2 (by omega), box_keep A.aN hk2 (by omega), block_setCell A.aW _, A.r0.keep hk2 (by omega) (by omega), A.r1.keep hk2 (by omega) (by omega), U, Q', fun g e k => A.dj g e (by rw [← ho]; exact k), A.lo, A.sep, A.hi, A.bl.trans (hk2.below (by omega) (fun j e => by omega)), Nat.le_trans A.tz hk2.size⟩
end
theorem own_tailP (g0 off n cap : Nat) : (Value.slice (if cap = 1 then some ⟨g0, off, none⟩ else some ⟨g0, off + 2, none⟩) n (cap - 1)).ownBlock = some g0 := by split <;> rfl
theorem Pg.tail0 {w wr : World} {q0 m0 q1 m1 T : Nat} {R0 R1 : Ro} {v : Value} {l l' : List Lt} {x : Lt} {g0 off cap : Nat} (A : Pg w q0 m0 q1 m1 T R0 R1 (.slice (some ⟨g0, off, none⟩) (l.length + 1) cap) v (x :: l) l' wr) : Pg w q0 m0 q1 m1 T R0 R1 (.slice (if cap = 1 then some ⟨g0, off, none⟩ else some ⟨g0, off + 2, none⟩) l.length (cap - 1)) v l l' (wr.setCell ⟨w.heap.size + 2, 0, none⟩ (.slice (if cap = 1 then some ⟨g0, off, none⟩ else some ⟨g0, off + 2, none⟩) l.length (cap - 1))) := by
 obtain ⟨g', off', cap', e', _, _, _, _, hn⟩ := A.u0.head
 injection e' with e1 _ e3
 injection e1 with e1
 injection e1 with e1 e2 _
 subst e1 e2 e3
 exact A.pop0 (own_tailP _ _ _ _) (fun wx hk => hn wx (hk.mono (fun i h e => h (by rw [e]; rfl))))
theorem Pg.tail1 {w wr : World} {q0 m0 q1 m1 T : Nat} {R0 R1 : Ro} {v : Value} {l l' : List Lt} {x : Lt} {g0 off cap : Nat} (A : Pg w q0 m0 q1 m1 T R0 R1 v (.slice (some ⟨g0, off, none⟩) (l.length + 1) cap) l' (x :: l) wr) : Pg w q0 m0 q1 m1 T R0 R1 v (.slice (if cap = 1 then some ⟨g0, off, none⟩ else some ⟨g0, off + 2, none⟩) l.length (cap - 1)) l' l (wr.setCell ⟨w.heap.size + 2, 1, none⟩ (.slice (if cap = 1 then some ⟨g0, off, none⟩ else some ⟨g0, off + 2, none⟩) l.length (cap - 1))) := by
 obtain ⟨g', off', cap', e', _, _, _, _, hn⟩ := A.u1.head
 injection e' with e1 _ e3
 injection e1 with e1
 injection e1 with e1 e2 _
 subst e1 e2 e3
 exact A.pop1 (own_tailP _ _ _ _) (fun wx hk => hn wx (hk.mono (fun i h e => h (by rw [e]; rfl))))
structure StepAt (w : World) (g : Nat) (e d : Int) : Prop where
 bk : w.heap[g]? = some (.cells #[.int .i64 e, .int .i64 d] 33 (0, 0))
theorem StepAt.c0 {w : World} {g : Nat} {e d : Int} (D : StepAt w g e d) : w.cell? ⟨g, 0, none⟩ = some (.int .i64 e) := by rw [cell_of_block D.bk]; rfl
theorem StepAt.c1 {w : World} {g : Nat} {e d : Int} (D : StepAt w g e d) : w.cell? ⟨g, 1, none⟩ = some (.int .i64 d) := by rw [cell_of_block D.bk]; rfl
theorem StepAt.lt {w : World} {g : Nat} {e d : Int} (D : StepAt w g e d) : g < w.heap.size := (Array.getElem?_eq_some_iff.1 D.bk).1
theorem StepAt.keep {S : Nat → Prop} {w w' : World} {g : Nat} {e d : Int} (D : StepAt w g e d) (hk : Keep S w w') (hs : ¬ S g) : StepAt w' g e d := ⟨box_keep D.bk hk hs⟩
theorem StepAt.below {w w' : World} {g : Nat} {e d : Int} (D : StepAt w g e d) (hb : Below w.heap.size w w') : StepAt w' g e d := ⟨box_below D.bk hb⟩
structure LetAt (w : World) (g : Nat) (x : Lt) : Prop where
 bk : w.heap[g]? = some (.cells #[.int .i64 x.1, .int .u64 x.2] 38 (0, 0))
theorem LetAt.c0 {w : World} {g : Nat} {x : Lt} (D : LetAt w g x) : w.cell? ⟨g, 0, none⟩ = some (.int .i64 x.1) := by rw [cell_of_block D.bk]; rfl
theorem LetAt.c1 {w : World} {g : Nat} {x : Lt} (D : LetAt w g x) : w.cell? ⟨g, 1, none⟩ = some (.int .u64 x.2) := by rw [cell_of_block D.bk]; rfl
theorem LetAt.keep {S : Nat → Prop} {w w' : World} {g : Nat} {x : Lt} (D : LetAt w g x) (hk : Keep S w w') (hs : ¬ S g) : LetAt w' g x := ⟨box_keep D.bk hk hs⟩
theorem LetAt.below {w w' : World} {g : Nat} {x : Lt} (D : LetAt w g x) (hb : Below w.heap.size w w') : LetAt w' g x := ⟨box_below D.bk hb⟩
theorem LetAt.lt {w : World} {g : Nat} {x : Lt} (D : LetAt w g x) : g < w.heap.size := (Array.getElem?_eq_some_iff.1 D.bk).1
theorem exec_appQ {w : World} {o : Oper} {ρ : Operand → Value} (s x : Operand) (ho : o.op = .call { callee := .builtin .append, args := #[s, x], argTypes := #[26, 26] }) {v u v' : Value} {w' : World} (hs : ρ s = v) (hx : ρ x = u)
  (hrun : (Builtin.append_ #[26, 26] o.type #[v, u]).run Tryd.prog w = .ok v' w') : (execOp ρ o).run Tryd.prog w = .ok (.value v') w' := by
 simp only [execOp, ho, resolve, invoke, builtin, Sem.run_bind, Sem.run_pure, Result.andThen_ok, List.map_toArray, List.map_cons, List.map_nil, hs, hx, hrun]
end Go.Proofs.YtppdopcghnfapaaDoor
