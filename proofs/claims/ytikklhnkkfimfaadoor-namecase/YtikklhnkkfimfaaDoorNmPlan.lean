/- A region that draws its order, walked by a plan: readers first, one operation alone, or two that may come up either way. -/
import Derived.Test.YtikklhnkkfimfaaDoorExt
namespace Go.Proofs.YtikklhnkkfimfaaDoor
open Go.RowKit

/-- A plan: how deep it is, and whether it fits what is ready. -/
structure Plan where
  depth : Nat
  ok : Region.Mode → Array Oper → Array Bool → Bool
def Plan.nil : Plan := ⟨0, fun md ops listed => (Region.ready md ops listed).isEmpty⟩
def Plan.rd (i : Nat) (p : Plan) : Plan := ⟨p.depth + 1, fun md ops listed => (Region.ready md ops listed).contains i && Region.free md ops listed i && p.ok md ops (listed.setIfInBounds i true)⟩
def Plan.one (i : Nat) (p : Plan) : Plan := ⟨p.depth + 1, fun md ops listed => Region.ready md ops listed == [i] && p.ok md ops (listed.setIfInBounds i true)⟩
def Plan.two (i : Nat) (p : Plan) (j : Nat) (q : Plan) : Plan := ⟨max p.depth q.depth + 1, fun md ops listed => Region.ready md ops listed == [i, j] && p.ok md ops (listed.setIfInBounds i true) && q.ok md ops (listed.setIfInBounds j true)⟩
def planOk (md : Region.Mode) (ops : Array Oper) (listed : Array Bool) (p : Plan) : Bool := p.ok md ops listed

section
variable {P : Program} {ops : Array Oper} {Q : Exit → Act → World → Prop} {md : Region.Mode} {S : World → Prop}

/-- What one operation owes. -/
def stepX (P : Program) (ops : Array Oper) (Q : Exit → Act → World → Prop) (S : World → Prop) (i : Nat) (K : Act → World → Prop) (a : Act) (w : World) : Prop :=
  wpOp P ops Q i (fun a' w' => S w' ∧ K a' w') a w

structure PlanX (P : Program) (md : Region.Mode) (ops : Array Oper) (Q : Exit → Act → World → Prop) (S : World → Prop) (p : Plan) (a : Act) (w : World) : Prop where
  out : ∀ fuel listed, p.depth ≤ fuel → planOk md ops listed p = true → wpAnyH P md ops Q S fuel listed a w

theorem planX_nil {a : Act} {w : World} (h : Q .normal a w) : PlanX P md ops Q S .nil a w :=
  ⟨fun fuel listed _ hok => wpAnyH_done (by simpa [planOk, Plan.nil] using hok) h fuel⟩

theorem planX_rd {i : Nat} {p : Plan} {tm : Array Value} {df : List Deferred} {w : World} {o : Oper} {d : Tmp} (v : Value) (hs : Region.noSelect ops = true) (hQ : ∀ c (a : Act) d v w, Q (.panic c) (a.put d v) w → Q (.panic c) a w) (hS : S w) (ho : ops[i]? = some o) (hd : o.dst = some d) (hw : Region.wanted o (yielded ops tm) = true)
    (hv : ∀ w', S w' → (execOp (Act.eval { tmps := tm, defers := df }) o).run P w' = .ok (.value v) w') (h : PlanX P md ops Q S p { tmps := tm.setIfInBounds d v, defers := df } w) : PlanX P md ops Q S (.rd i p) { tmps := tm, defers := df } w := by
  refine ⟨fun fuel listed hf hok => ?_⟩
  simp only [planOk, Plan.rd, Bool.and_eq_true] at hok
  cases fuel with
  | zero => simp [Plan.rd] at hf
  | succ fuel =>
    refine wpAnyH_take ho hs hok.1.2 hok.1.1 (fun c a w => hQ c a o.dst v w) (Or.inl ⟨hw, hv⟩) hS ?_
    have := h.out fuel (listed.setIfInBounds i true) (by simp [Plan.rd] at hf; exact hf) hok.2
    rw [hd, put_some]; exact this

theorem planX_one {i : Nat} {p : Plan} {a : Act} {w : World} (h : stepX P ops Q S i (PlanX P md ops Q S p) a w) : PlanX P md ops Q S (.one i p) a w := by
  refine ⟨fun fuel listed hf hok => ?_⟩
  simp only [planOk, Plan.one, Bool.and_eq_true] at hok
  cases fuel with
  | zero => simp [Plan.one] at hf
  | succ fuel =>
    refine wpAnyH_all (rs := [i]) (by simpa using hok.1) (by simp) fun j hj => ?_
    have hj' : j = i := by simpa using hj
    subst hj'
    exact wpOp_mono (fun a' w' k => ⟨k.1, k.2.out fuel _ (by simp [Plan.one] at hf; exact hf) hok.2⟩) h

theorem planX_two {i j : Nat} {p q : Plan} {a : Act} {w : World} (h1 : stepX P ops Q S i (PlanX P md ops Q S p) a w) (h2 : stepX P ops Q S j (PlanX P md ops Q S q) a w) : PlanX P md ops Q S (.two i p j q) a w := by
  refine ⟨fun fuel listed hf hok => ?_⟩
  simp only [planOk, Plan.two, Bool.and_eq_true] at hok
  cases fuel with
  | zero => simp [Plan.two] at hf
  | succ fuel =>
    simp only [Plan.two] at hf
    refine wpAnyH_all (rs := [i, j]) (by simpa using hok.1.1) (by simp) fun k hk => ?_
    by_cases hki : k = i
    · subst hki
      exact wpOp_mono (fun a' w' k => ⟨k.1, k.2.out fuel _ (by omega) hok.1.2⟩) h1
    · have hkj : k = j := by simpa [hki] using hk
      subst hkj
      exact wpOp_mono (fun a' w' k => ⟨k.1, k.2.out fuel _ (by omega) hok.2⟩) h2

/-- THE LAW. -/
theorem wp_region_plan {id : Nat} {a : Act} {w : World} (p : Plan) (S : World → Prop) (hm : P.follows .mixedOrders = true) (hl : Nat.ble p.depth ops.size = true)
    (hok : planOk .any ops (Array.replicate ops.size false) p = true) (h : PlanX P .any ops Q S p a w.drew) : (Code.region id ops true).wp P Q a w :=
  wp_region_held hm (S := S) (h.out _ _ (Nat.le_of_ble_eq_true hl) hok)

theorem stepX_call {i : Nat} {K : Act → World → Prop} {tm : Array Value} {df : List Deferred} {w : World} {o : Oper} {d : Tmp} (f : FuncId) (args : Array Value) (ho : ops[i]? = some o) (hd : o.dst = some d) (hw : Region.wanted o (yielded ops tm) = true)
    (hrun : (execOp (Act.eval { tmps := tm, defers := df }) o).run P w = .ok (.enter f args) w) (h : Calls P f args w fun e w' => ∃ v, e = .returned v ∧ S w' ∧ K { tmps := tm.setIfInBounds d v, defers := df } w') : stepX P ops Q S i K { tmps := tm, defers := df } w := by
  unfold stepX wpOp
  rw [ho]
  simp only
  rw [if_pos hw]
  refine .inl ?_
  unfold Oper.wp
  rw [hrun, Oper.upon_enter]
  refine h.mono ?_
  rintro e w' ⟨v, rfl, h1, h2⟩
  show S w' ∧ K (Act.put { tmps := tm, defers := df } o.dst v) w'
  rw [hd, put_some]
  exact ⟨h1, h2⟩

theorem stepX_val {i : Nat} {K : Act → World → Prop} {a : Act} {w w' : World} {o : Oper} (v : Value) (ho : ops[i]? = some o) (hw : Region.wanted o (yielded ops a.tmps) = true)
    (hrun : (execOp a.eval o).run P w = .ok (.value v) w') (hS : S w') (h : K (a.put o.dst v) w') : stepX P ops Q S i K a w := by
  unfold stepX wpOp
  rw [ho]
  simp only
  rw [if_pos hw]
  refine .inl ?_
  unfold Oper.wp
  rw [hrun]
  exact ⟨hS, h⟩

theorem stepX_valD {i : Nat} {K : Act → World → Prop} {tm : Array Value} {df : List Deferred} {w w' : World} {o : Oper} {d : Tmp} (v : Value) (ho : ops[i]? = some o) (hd : o.dst = some d) (hw : Region.wanted o (yielded ops tm) = true)
    (hrun : (execOp (Act.eval { tmps := tm, defers := df }) o).run P w = .ok (.value v) w') (hS : S w') (h : K { tmps := tm.setIfInBounds d v, defers := df } w') : stepX P ops Q S i K { tmps := tm, defers := df } w := by
  refine stepX_val v ho hw hrun hS ?_
  rw [hd, put_some]; exact h

theorem stepX_skip {i : Nat} {K : Act → World → Prop} {a : Act} {w w' : World} {o : Oper} (ho : ops[i]? = some o) (hw : Region.wanted o (yielded ops a.tmps) = true)
    (hrun : (execOp a.eval o).run P w = .ok .skip w') (hS : S w') (h : K (a.put o.dst undef) w') : stepX P ops Q S i K a w := by
  unfold stepX wpOp
  rw [ho]
  simp only
  rw [if_pos hw]
  refine .inl ?_
  unfold Oper.wp
  rw [hrun]
  exact ⟨hS, h⟩

theorem stepX_skipN {i : Nat} {K : Act → World → Prop} {tm : Array Value} {df : List Deferred} {w w' : World} {o : Oper} (ho : ops[i]? = some o) (hd : o.dst = none) (hw : Region.wanted o (yielded ops tm) = true)
    (hrun : (execOp (Act.eval { tmps := tm, defers := df }) o).run P w = .ok .skip w') (hS : S w') (h : K { tmps := tm, defers := df } w') : stepX P ops Q S i K { tmps := tm, defers := df } w := by
  refine stepX_skip ho hw hrun hS ?_
  rw [hd]; exact h
end
end Go.Proofs.YtikklhnkkfimfaaDoor
