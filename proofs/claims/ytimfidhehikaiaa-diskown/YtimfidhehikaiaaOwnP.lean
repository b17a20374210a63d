/- Rows of bytes of one's own, no two in one block: what a loan or a book holds. -/
import Derived.Test.YtimfidhehikaiaaOwnA
namespace Go.Proofs.Ytimfidhehikaiaa
open Go.RowKit

/-- A slice of bytes that owns its block, or is nil. -/
structure Ow (w : World) (v : Value) (x : List Int) : Prop where
  own : w.ownsRow 0 5 1 v x.length (bc x)
  bd : Bd x

def Ows (w : World) : List Value → List (List Int) → Prop
  | [], [] => True
  | v :: vs, x :: xs => Ow w v x ∧ Ows w vs xs
  | [], _ :: _ => False
  | _ :: _, [] => False

def blks (vs : List Value) : List Nat := vs.filterMap Value.ownBlock

theorem blks_nil : blks [] = [] := rfl
theorem blks_append (vs us : List Value) : blks (vs ++ us) = blks vs ++ blks us := List.filterMap_append ..
theorem mem_blks {vs : List Value} {k : Nat} : k ∈ blks vs ↔ ∃ v ∈ vs, v.ownBlock = some k := by unfold blks; rw [List.mem_filterMap]

theorem Ow.keep {S : Nat → Prop} {w w' : World} {v : Value} {x : List Int} (h : Ow w v x) (hk : Keep S w w') (hs : ∀ k, v.ownBlock = some k → ¬ S k) : Ow w' v x :=
  ⟨own_keep h.own hk hs, h.bd⟩

theorem Ows.len {w : World} : ∀ {vs : List Value} {xs : List (List Int)}, Ows w vs xs → vs.length = xs.length
  | [], [], _ => rfl
  | _ :: _, _ :: _, h => by simp [Ows.len h.2]
  | [], _ :: _, h => h.elim
  | _ :: _, [], h => h.elim

theorem Ows.keep {S : Nat → Prop} {w w' : World} (hk : Keep S w w') : ∀ {vs : List Value} {xs : List (List Int)}, Ows w vs xs → (∀ k ∈ blks vs, ¬ S k) → Ows w' vs xs
  | [], [], _, _ => trivial
  | [], _ :: _, h, _ => h.elim
  | _ :: _, [], h, _ => h.elim
  | v :: vs, x :: xs, h, hs =>
    ⟨h.1.keep hk (fun k e => hs k (mem_blks.2 ⟨v, List.mem_cons_self .., e⟩)), Ows.keep hk h.2 (fun k e => hs k (by obtain ⟨u, hu, hb⟩ := mem_blks.1 e; exact mem_blks.2 ⟨u, List.mem_cons_of_mem _ hu, hb⟩))⟩

theorem Ows.append {w : World} : ∀ {vs : List Value} {xs : List (List Int)} {us : List Value} {ys : List (List Int)}, Ows w vs xs → Ows w us ys → Ows w (vs ++ us) (xs ++ ys)
  | [], [], _, _, _, h2 => h2
  | [], _ :: _, _, _, h, _ => h.elim
  | _ :: _, [], _, _, h, _ => h.elim
  | _ :: _, _ :: _, _, _, h, h2 => ⟨h.1, Ows.append h.2 h2⟩

theorem Ows.lt {w : World} : ∀ {vs : List Value} {xs : List (List Int)}, Ows w vs xs → ∀ k ∈ blks vs, k < w.heap.size
  | [], [], _, _, hk => by cases hk
  | [], _ :: _, h, _, _ => h.elim
  | _ :: _, [], h, _, _ => h.elim
  | v :: vs, x :: xs, h, k, hk => by
    obtain ⟨u, hu, hb⟩ := mem_blks.1 hk
    rcases List.mem_cons.1 hu with rfl | hu
    · exact (h.1.own.lt k hb).2
    · exact Ows.lt h.2 k (mem_blks.2 ⟨u, hu, hb⟩)

theorem Ows.get {w : World} : ∀ {vs : List Value} {xs : List (List Int)}, Ows w vs xs → ∀ {i : Nat} {v : Value}, vs[i]? = some v → Ow w v (xs.getD i [])
  | [], [], _, _, _, hv => by simp at hv
  | [], _ :: _, h, _, _, _ => h.elim
  | _ :: _, [], h, _, _, _ => h.elim
  | _ :: _, _ :: _, h, 0, _, hv => by cases hv; exact h.1
  | _ :: vs, _ :: xs, h, i + 1, v, hv => by
    have := Ows.get h.2 (i := i) (v := v) (by simpa using hv)
    simpa using this

/-- A write into row i's block alone: the others stand. -/
theorem Ows.set {S : Nat → Prop} {w w' : World} (hk : Keep S w w') : ∀ {vs : List Value} {xs : List (List Int)}, Ows w vs xs → (blks vs).Nodup → ∀ {i : Nat} {v : Value} {x : List Int}, vs[i]? = some v → (∀ k ∈ blks vs, S k → v.ownBlock = some k) → Ow w' v x → Ows w' vs (xs.set i x)
  | [], [], _, _, _, _, _, hv, _, _ => by simp at hv
  | [], _ :: _, h, _, _, _, _, _, _, _ => h.elim
  | _ :: _, [], h, _, _, _, _, _, _, _ => h.elim
  | u :: vs, y :: xs, h, hn, 0, v, x, hv, hs, hw => by
    cases hv
    refine ⟨hw, Ows.keep hk h.2 (fun k e hS => ?_)⟩
    have e1 := hs k (by obtain ⟨u', hu', hb⟩ := mem_blks.1 e; exact mem_blks.2 ⟨u', List.mem_cons_of_mem _ hu', hb⟩) hS
    unfold blks at hn
    rw [List.filterMap_cons_some e1] at hn
    exact (List.nodup_cons.1 hn).1 e
  | u :: vs, y :: xs, h, hn, i + 1, v, x, hv, hs, hw => by
    have hv' : vs[i]? = some v := by simpa using hv
    have hmem : v ∈ vs := List.mem_of_getElem? hv'
    refine ⟨h.1.keep hk (fun k e hS => ?_), ?_⟩
    · have e1 := hs k (mem_blks.2 ⟨u, List.mem_cons_self .., e⟩) hS
      unfold blks at hn
      rw [List.filterMap_cons_some e] at hn
      exact (List.nodup_cons.1 hn).1 (mem_blks.2 ⟨v, hmem, e1⟩)
    · refine Ows.set hk h.2 ?_ hv' (fun k e hS => hs k (by obtain ⟨u', hu', hb⟩ := mem_blks.1 e; exact mem_blks.2 ⟨u', List.mem_cons_of_mem _ hu', hb⟩) hS) hw
      unfold blks at hn ⊢
      cases e : u.ownBlock with
      | none => rw [List.filterMap_cons_none e] at hn; exact hn
      | some k => rw [List.filterMap_cons_some e] at hn; exact (List.nodup_cons.1 hn).2

end Go.Proofs.Ytimfidhehikaiaa
