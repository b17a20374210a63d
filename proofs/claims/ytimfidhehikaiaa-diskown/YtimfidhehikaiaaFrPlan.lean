/- A region that draws its order, walked step by step: a reader first, one operation alone, or two that may come up either way; each step's word on what is ready is a closed fact of its own. -/
import Derived.Test.YtimfidhehikaiaaExt
namespace Go.Proofs.Ytimfidhehikaiaa
open Go.RowKit

section
variable {P : Program} {ops : Array Oper} {Q : Exit → Act → World → Prop} {S : World → Prop}

/-- What is left of a region, so many operations listed. -/
structure PX (P : Program) (ops : Array Oper) (Q : Exit → Act → World → Prop) (S : World → Prop) (fuel : Nat) (listed : Array Bool) (a : Act) (w : World) : Prop where
  out : wpAnyH P .any ops Q S fuel listed a w

/-- What one operation owes. -/
def stepP (P : Program) (ops : Array Oper) (Q : Exit → Act → World → Prop) (S : World → Prop) (i : Nat) (K : Act → World → Prop) (a : Act) (w : World) : Prop :=
  wpOp P ops Q i (fun a' w' => S w' ∧ K a' w') a w

theorem wp_region_px {id : Nat} {a : Act} {w : World} (S : World → Prop) (n : Nat) (hm : P.follows .mixedOrders = true) (hn : ops.size = n) (h : PX P ops Q S n (Array.replicate n false) a w.drew) : (Code.region id ops true).wp P Q a w := by
  subst hn
  exact wp_region_held hm (S := S) h.out

theorem px_nil {fuel : Nat} {listed : Array Bool} {a : Act} {w : World} (hr : (Region.ready .any ops listed).isEmpty = true) (h : Q .normal a w) : PX P ops Q S fuel listed a w :=
  ⟨wpAnyH_done (by simpa using hr) h fuel⟩

theorem px_rd {fuel : Nat} {listed : Array Bool} {tm : Array Value} {df : List Deferred} {w : World} {o : Oper} {d : Tmp} (i : Nat) (v : Value) (hs : Region.noSelect ops = true) (hQ : ∀ c (a : Act) d v w, Q (.panic c) (a.put d v) w → Q (.panic c) a w) (hr : ((Region.ready .any ops listed).contains i && Region.free .any ops listed i) = true)
    (hS : S w) (ho : ops[i]? = some o) (hd : o.dst = some d) (hw : Region.wanted o (yielded ops tm) = true)
    (hv : ∀ w', S w' → (execOp (Act.eval { tmps := tm, defers := df }) o).run P w' = .ok (.value v) w') (h : PX P ops Q S fuel (listed.setIfInBounds i true) { tmps := tm.setIfInBounds d v, defers := df } w) : PX P ops Q S (fuel + 1) listed { tmps := tm, defers := df } w := by
  rw [Bool.and_eq_true] at hr
  refine ⟨wpAnyH_take ho hs hr.2 hr.1 (fun c a w => hQ c a o.dst v w) (Or.inl ⟨hw, hv⟩) hS ?_⟩
  have := h.out
  rw [hd, put_some]; exact this

theorem px_one {fuel : Nat} {listed : Array Bool} {a : Act} {w : World} (i : Nat) (hr : (Region.ready .any ops listed == [i]) = true) (h : stepP P ops Q S i (PX P ops Q S fuel (listed.setIfInBounds i true)) a w) : PX P ops Q S (fuel + 1) listed a w := by
  refine ⟨wpAnyH_all (rs := [i]) (by simpa using hr) (by simp) fun j hj => ?_⟩
  have hj' : j = i := by simpa using hj
  subst hj'
  exact wpOp_mono (fun a' w' k => ⟨k.1, k.2.out⟩) h

theorem px_two {fuel : Nat} {listed : Array Bool} {a : Act} {w : World} (i j : Nat) (hr : (Region.ready .any ops listed == [i, j]) = true) (h1 : stepP P ops Q S i (PX P ops Q S fuel (listed.setIfInBounds i true)) a w) (h2 : stepP P ops Q S j (PX P ops Q S fuel (listed.setIfInBounds j true)) a w) : PX P ops Q S (fuel + 1) listed a w := by
  refine ⟨wpAnyH_all (rs := [i, j]) (by simpa using hr) (by simp) fun k hk => ?_⟩
  by_cases hki : k = i
  · subst hki
    exact wpOp_mono (fun a' w' k => ⟨k.1, k.2.out⟩) h1
  · have hkj : k = j := by simpa [hki] using hk
    subst hkj
    exact wpOp_mono (fun a' w' k => ⟨k.1, k.2.out⟩) h2

theorem stepP_call {i : Nat} {K : Act → World → Prop} {tm : Array Value} {df : List Deferred} {w : World} {o : Oper} {d : Tmp} (f : FuncId) (args : Array Value) (ho : ops[i]? = some o) (hd : o.dst = some d) (hw : Region.wanted o (yielded ops tm) = true)
    (hrun : (execOp (Act.eval { tmps := tm, defers := df }) o).run P w = .ok (.enter f args) w) (h : Calls P f args w fun e w' => ∃ v, e = .returned v ∧ S w' ∧ K { tmps := tm.setIfInBounds d v, defers := df } w') : stepP P ops Q S i K { tmps := tm, defers := df } w := by
  unfold stepP wpOp
  rw [ho]
  simp only
  rw [if_pos hw]
  refine .inl ?_
  unfold Oper.wp
  rw [hrun, Oper.upon_enter]
  refine h.mono ?_
  rintro e w' ⟨v, rfl, h1, h2⟩
  show S w' ∧ K (Act.put { tmps := tm, defers := df } o.dst v) w'
  rw [hd, put_some]
  exact ⟨h1, h2⟩

theorem stepP_val {i : Nat} {K : Act → World → Prop} {tm : Array Value} {df : List Deferred} {w w' : World} {o : Oper} {d : Tmp} (v : Value) (ho : ops[i]? = some o) (hd : o.dst = some d) (hw : Region.wanted o (yielded ops tm) = true)
    (hrun : (execOp (Act.eval { tmps := tm, defers := df }) o).run P w = .ok (.value v) w') (hS : S w') (h : K { tmps := tm.setIfInBounds d v, defers := df } w') : stepP P ops Q S i K { tmps := tm, defers := df } w := by
  unfold stepP wpOp
  rw [ho]
  simp only
  rw [if_pos hw]
  refine .inl ?_
  unfold Oper.wp
  rw [hrun]
  show S w' ∧ K (Act.put { tmps := tm, defers := df } o.dst v) w'
  rw [hd, put_some]
  exact ⟨hS, h⟩

end
end Go.Proofs.Ytimfidhehikaiaa
