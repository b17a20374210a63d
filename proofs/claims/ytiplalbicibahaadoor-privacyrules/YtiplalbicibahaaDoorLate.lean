/- A region that draws its order, walked step by step, with late operations: what is asked of the world holds behind every operation but the late ones (the stores of an assignment, which wait for all that was read). -/
import Derived.Test.YtiplalbicibahaaDoorExt
namespace Go.Proofs.YtiplalbicibahaaDoor
open Go.RowKit

section
variable {P : Program} {ops : Array Oper} {Q : Exit → Act → World → Prop} {S : World → Prop} {T : List Nat} {md : Region.Mode}

/-- Whatever order is picked from here on, and S holds behind every operation that is carried out, but for the late ones. -/
def wpAnyT (P : Program) (md : Region.Mode) (ops : Array Oper) (Q : Exit → Act → World → Prop) (S : World → Prop) (T : List Nat) : Nat → Array Bool → Act → World → Prop
  | 0, listed, a, w => Region.ready md ops listed = [] ∧ Q .normal a w
  | fuel + 1, listed, a, w =>
    (Region.ready md ops listed = [] → Q .normal a w) ∧
    ∀ i ∈ Region.ready md ops listed, wpOp P ops Q i (fun a' w' => (T.contains i = false → S w') ∧ wpAnyT P md ops Q S T fuel (listed.setIfInBounds i true) a' w') a w

theorem wpAny_of_late : ∀ (fuel : Nat) (listed : Array Bool) (a : Act) (w : World), wpAnyT P md ops Q S T fuel listed a w → wpAny P md ops Q fuel listed a w
  | 0, _, _, _, h => h
  | fuel + 1, _, _, _, h => ⟨h.1, fun i hi => wpOp_mono (fun a' w' h' => wpAny_of_late fuel _ a' w' h'.2) (h.2 i hi)⟩

/-- Every late operation that has not come up waits for number i. -/
def lateOk (md : Region.Mode) (ops : Array Oper) (T : List Nat) (listed : Array Bool) (i : Nat) : Bool :=
  T.all fun t => listed.getD t true || match ops[t]? with
    | some o => o.after.any (fun e => Region.binds md e && e.on == i)
    | none => true

theorem lateOk_spec {listed : Array Bool} {i : Nat} (h : lateOk md ops T listed i = true) (t : Nat) (ht : t ∈ T) (hu : listed.getD t true = false) (o : Oper) (ho : ops[t]? = some o) : ∃ e ∈ o.after, Region.binds md e = true ∧ e.on = i := by
  have h1 := List.all_eq_true.1 h t ht
  simp only [hu, ho, Bool.false_or] at h1
  obtain ⟨e, he, hb⟩ := Array.any_eq_true'.1 h1
  simp only [Bool.and_eq_true, beq_iff_eq] at hb
  exact ⟨e, he, hb.1, hb.2⟩

theorem lateOk_set {listed : Array Bool} {i j : Nat} (h : lateOk md ops T listed i = true) : lateOk md ops T (listed.setIfInBounds j true) i = true := by
  refine List.all_eq_true.2 fun t ht => ?_
  have h1 := List.all_eq_true.1 h t ht
  rw [Bool.or_eq_true] at h1 ⊢
  rcases h1 with h1 | h1
  · left
    by_cases hjt : j = t
    · subst hjt
      rcases Nat.lt_or_ge j listed.size with g | g
      · simp [Array.getD, g]
      · simp [Array.getD, Nat.not_lt.2 g]
    · rw [getD_set_ne true hjt]; exact h1
  · exact .inr h1

theorem wpAnyT_first {i : Nat} {oi : Oper} {v : Value} (hi : ops[i]? = some oi) (hsel : ∀ (j : Nat) (o : Oper) cs b, ops[j]? = some o → o.op ≠ .select cs b)
    (hQ : ∀ c a w, Q (.panic c) (a.put oi.dst v) w → Q (.panic c) a w) (hiT : T.contains i = false) :
    ∀ (fuel : Nat) (listed : Array Bool) (a : Act) (w : World),
      (∀ j oj, ops[j]? = some oj → j ≠ i → listed.getD j true = false → (∀ e ∈ oj.after, Region.binds md e = true → e.on ≠ i) → oi.apart ops oj = true) →
      lateOk md ops T listed i = true →
      i ∈ Region.ready md ops listed → YieldsIf P ops S oi v a → S w →
      wpAnyT P md ops Q S T fuel (listed.setIfInBounds i true) (a.put oi.dst v) w → wpAnyT P md ops Q S T (fuel + 1) listed a w := by
  intro fuel
  induction fuel with
  | zero =>
    intro listed a w _ _ hr hy hS H
    refine ⟨fun h => (by rw [h] at hr; cases hr), fun j hj => ?_⟩
    by_cases hji : j = i
    · subst hji; exact hy.wpOp hi hS ⟨fun _ => hS, H⟩
    · have := ready_mono hj hji
      rw [H.1] at this
      cases this
  | succ fuel ih =>
    intro listed a w hfree hlate hr hy hS H
    refine ⟨fun h => (by rw [h] at hr; cases hr), fun j hj => ?_⟩
    by_cases hji : j = i
    · subst hji; exact hy.wpOp hi hS ⟨fun _ => hS, H⟩
    · have h1 := H.2 j (ready_mono hj hji)
      obtain ⟨hjun, oj, hoj, hall⟩ := mem_ready.1 hj
      have hnot : ∀ e ∈ oj.after, Region.binds md e = true → e.on ≠ i := fun e he hb heq => by
        have h1 := hall e he hb
        have h0 := (mem_ready.1 hr).1
        rw [heq] at h1
        rcases Nat.lt_or_ge i listed.size with h' | h'
        · simp [h'] at h0 h1; rw [h0] at h1; cases h1
        · simp [Array.getElem?_eq_none h'] at h1
      have hjT : T.contains j = false := by
        cases hc : T.contains j with
        | false => rfl
        | true =>
          obtain ⟨e, he, hb, hon⟩ := lateOk_spec hlate j (List.contains_iff_mem.1 hc) hjun oj hoj
          exact absurd hon (hnot e he hb)
      have h2 := wpOp_putIf hoj (hfree j oj hoj hji hjun hnot) (fun cs b => hsel i oi cs b hi) (fun cs b => hsel j oj cs b hoj) hQ hy h1
      have hfree' : ∀ k ok, ops[k]? = some ok → k ≠ i → (listed.setIfInBounds j true).getD k true = false →
          (∀ e ∈ ok.after, Region.binds md e = true → e.on ≠ i) → oi.apart ops ok = true := fun k ok hk hki hun hno => by
        refine hfree k ok hk hki ?_ hno
        by_cases hjk : j = k
        · subst hjk; exact hjun
        · rw [getD_set_ne true hjk] at hun; exact hun
      refine wpOp_mono (fun a' w' h3 => ⟨h3.2.1, ih (listed.setIfInBounds j true) a' w' hfree' (lateOk_set hlate) (ready_mono hr (Ne.symm hji)) h3.1 (h3.2.1 hjT) ?_⟩) h2
      rw [Array.setIfInBounds_comm _ _ hji]
      exact h3.2.2

/-- What is left of a region. -/
structure LX (P : Program) (ops : Array Oper) (Q : Exit → Act → World → Prop) (S : World → Prop) (T : List Nat) (fuel : Nat) (listed : Array Bool) (a : Act) (w : World) : Prop where
  out : wpAnyT P .any ops Q S T fuel listed a w

/-- What one operation owes. -/
def stepT (P : Program) (ops : Array Oper) (Q : Exit → Act → World → Prop) (S : World → Prop) (T : List Nat) (i : Nat) (K : Act → World → Prop) (a : Act) (w : World) : Prop :=
  wpOp P ops Q i (fun a' w' => (T.contains i = false → S w') ∧ K a' w') a w

theorem wp_region_lx {id : Nat} {a : Act} {w : World} (S : World → Prop) (T : List Nat) (n : Nat) (hm : P.follows .mixedOrders = true) (hn : ops.size = n) (h : LX P ops Q S T n (Array.replicate n false) a w.drew) : (Code.region id ops true).wp P Q a w := by
  subst hn
  exact wp_region_any hm (wpAny_of_late _ _ _ _ h.out)

theorem lx_nil {fuel : Nat} {listed : Array Bool} {a : Act} {w : World} (hr : (Region.ready .any ops listed).isEmpty = true) (h : Q .normal a w) : LX P ops Q S T fuel listed a w := by
  have hr' : Region.ready .any ops listed = [] := by simpa using hr
  cases fuel with
  | zero => exact ⟨hr', h⟩
  | succ f => exact ⟨fun _ => h, by rw [hr']; simp⟩

theorem lx_rd {fuel : Nat} {listed : Array Bool} {tm : Array Value} {df : List Deferred} {w : World} {o : Oper} {d : Tmp} (i : Nat) (v : Value) (hs : Region.noSelect ops = true) (hQ : ∀ c (a : Act) d v w, Q (.panic c) (a.put d v) w → Q (.panic c) a w) (hr : ((Region.ready .any ops listed).contains i && Region.free .any ops listed i && lateOk .any ops T listed i && !T.contains i) = true)
    (hS : S w) (ho : ops[i]? = some o) (hd : o.dst = some d) (hw : Region.wanted o (yielded ops tm) = true)
    (hv : ∀ w', S w' → (execOp (Act.eval { tmps := tm, defers := df }) o).run P w' = .ok (.value v) w') (h : LX P ops Q S T fuel (listed.setIfInBounds i true) { tmps := tm.setIfInBounds d v, defers := df } w) : LX P ops Q S T (fuel + 1) listed { tmps := tm, defers := df } w := by
  rw [Bool.and_eq_true, Bool.and_eq_true, Bool.and_eq_true] at hr
  refine ⟨wpAnyT_first ho (Region.noSelect_spec hs) (fun c a w => hQ c a o.dst v w) (by simpa using hr.2) fuel listed _ _ (Region.free_spec ho hr.1.1.2) hr.1.2 (by simpa using hr.1.1.1) (Or.inl ⟨hw, hv⟩) hS ?_⟩
  have := h.out
  rw [hd, put_some]; exact this

/-- An operation whose guard is false. -/
theorem lx_skip {fuel : Nat} {listed : Array Bool} {tm : Array Value} {df : List Deferred} {w : World} {o : Oper} {d : Tmp} (i : Nat) (hs : Region.noSelect ops = true) (hQ : ∀ c (a : Act) d v w, Q (.panic c) (a.put d v) w → Q (.panic c) a w) (hr : ((Region.ready .any ops listed).contains i && Region.free .any ops listed i && lateOk .any ops T listed i && !T.contains i) = true)
    (hS : S w) (ho : ops[i]? = some o) (hd : o.dst = some d) (hw : Region.wanted o (yielded ops tm) = false)
    (h : LX P ops Q S T fuel (listed.setIfInBounds i true) { tmps := tm.setIfInBounds d undef, defers := df } w) : LX P ops Q S T (fuel + 1) listed { tmps := tm, defers := df } w := by
  rw [Bool.and_eq_true, Bool.and_eq_true, Bool.and_eq_true] at hr
  refine ⟨wpAnyT_first ho (Region.noSelect_spec hs) (fun c a w => hQ c a o.dst undef w) (by simpa using hr.2) fuel listed _ _ (Region.free_spec ho hr.1.1.2) hr.1.2 (by simpa using hr.1.1.1) (Or.inr ⟨hw, rfl⟩) hS ?_⟩
  have := h.out
  rw [hd, put_some]; exact this

/-- lx_rd and lx_skip, the closed facts left to the kernel. -/
theorem lx_r {fuel : Nat} {listed : Array Bool} {tm : Array Value} {df : List Deferred} {w : World} {o : Oper} {d : Tmp} (i : Nat) (v : Value) (hS : S w)
    (h : LX P ops Q S T fuel (listed.setIfInBounds i true) { tmps := tm.setIfInBounds d v, defers := df } w) (hs : Region.noSelect ops = true := by kernel_rfl) (hQ : ∀ c (a : Act) d v w, Q (.panic c) (a.put d v) w → Q (.panic c) a w := by intro _ _ d _ _ h; cases d <;> exact h) (hr : ((Region.ready .any ops listed).contains i && Region.free .any ops listed i && lateOk .any ops T listed i && !T.contains i) = true := by kernel_rfl)
    (ho : ops[i]? = some o := by rfl) (hd : o.dst = some d := by rfl) (hw : Region.wanted o (yielded ops tm) = true := by rfl)
    (hv : ∀ w', S w' → (execOp (Act.eval { tmps := tm, defers := df }) o).run P w' = .ok (.value v) w' := by intro w' hS; first | (go_simp; rfl) | go_simp) : LX P ops Q S T (fuel + 1) listed { tmps := tm, defers := df } w := lx_rd i v hs hQ hr hS ho hd hw hv h
theorem lx_s {fuel : Nat} {listed : Array Bool} {tm : Array Value} {df : List Deferred} {w : World} {o : Oper} {d : Tmp} (i : Nat) (hS : S w)
    (h : LX P ops Q S T fuel (listed.setIfInBounds i true) { tmps := tm.setIfInBounds d undef, defers := df } w) (hs : Region.noSelect ops = true := by kernel_rfl) (hQ : ∀ c (a : Act) d v w, Q (.panic c) (a.put d v) w → Q (.panic c) a w := by intro _ _ d _ _ h; cases d <;> exact h) (hr : ((Region.ready .any ops listed).contains i && Region.free .any ops listed i && lateOk .any ops T listed i && !T.contains i) = true := by kernel_rfl)
    (ho : ops[i]? = some o := by rfl) (hd : o.dst = some d := by rfl) (hw : Region.wanted o (yielded ops tm) = false := by rfl) : LX P ops Q S T (fuel + 1) listed { tmps := tm, defers := df } w := lx_skip i hs hQ hr hS ho hd hw h
theorem lxa {α : Type _} (l : List α) (i : Nat) (a : α) : l.toArray.setIfInBounds i a = (l.set i a).toArray := List.setIfInBounds_toArray ..
theorem lxb {α : Type _} (x : α) (l : List α) (a : α) : (x :: l).set 0 a = a :: l := rfl
theorem lxc {α : Type _} (x : α) (l : List α) (n : Nat) (a : α) : (x :: l).set (n + 1) a = x :: l.set n a := rfl

theorem lx_one {fuel : Nat} {listed : Array Bool} {a : Act} {w : World} (i : Nat) (hr : (Region.ready .any ops listed == [i]) = true) (h : stepT P ops Q S T i (LX P ops Q S T fuel (listed.setIfInBounds i true)) a w) : LX P ops Q S T (fuel + 1) listed a w := by
  have hr' : Region.ready .any ops listed = [i] := by simpa using hr
  refine ⟨⟨fun h0 => absurd (hr' ▸ h0) (by simp), fun j hj => ?_⟩⟩
  have hj' : j = i := by rw [hr'] at hj; simpa using hj
  subst hj'
  exact wpOp_mono (fun a' w' k => ⟨k.1, k.2.out⟩) h

theorem lx_two {fuel : Nat} {listed : Array Bool} {a : Act} {w : World} (i j : Nat) (hr : (Region.ready .any ops listed == [i, j]) = true) (h1 : stepT P ops Q S T i (LX P ops Q S T fuel (listed.setIfInBounds i true)) a w) (h2 : stepT P ops Q S T j (LX P ops Q S T fuel (listed.setIfInBounds j true)) a w) : LX P ops Q S T (fuel + 1) listed a w := by
  have hr' : Region.ready .any ops listed = [i, j] := by simpa using hr
  refine ⟨⟨fun h0 => absurd (hr' ▸ h0) (by simp), fun k hk => ?_⟩⟩
  rw [hr'] at hk
  by_cases hki : k = i
  · subst hki
    exact wpOp_mono (fun a' w' k => ⟨k.1, k.2.out⟩) h1
  · have hkj : k = j := by simpa [hki] using hk
    subst hkj
    exact wpOp_mono (fun a' w' k => ⟨k.1, k.2.out⟩) h2

theorem stepT_call {i : Nat} {K : Act → World → Prop} {tm : Array Value} {df : List Deferred} {w : World} {o : Oper} {d : Tmp} (f : FuncId) (args : Array Value) (ho : ops[i]? = some o) (hd : o.dst = some d) (hw : Region.wanted o (yielded ops tm) = true)
    (hrun : (execOp (Act.eval { tmps := tm, defers := df }) o).run P w = .ok (.enter f args) w) (h : Calls P f args w fun e w' => ∃ v, e = .returned v ∧ (T.contains i = false → S w') ∧ K { tmps := tm.setIfInBounds d v, defers := df } w') : stepT P ops Q S T i K { tmps := tm, defers := df } w := by
  unfold stepT wpOp
  rw [ho]
  simp only
  rw [if_pos hw]
  refine .inl ?_
  unfold Oper.wp
  rw [hrun, Oper.upon_enter]
  refine h.mono ?_
  rintro e w' ⟨v, rfl, h1, h2⟩
  show (T.contains i = false → S w') ∧ K (Act.put { tmps := tm, defers := df } o.dst v) w'
  rw [hd, put_some]
  exact ⟨h1, h2⟩

/-- A call that may panic. -/
theorem stepT_callP {i : Nat} {K : Act → World → Prop} {tm : Array Value} {df : List Deferred} {w : World} {o : Oper} {d : Tmp} (f : FuncId) (args : Array Value) (ho : ops[i]? = some o) (hd : o.dst = some d) (hw : Region.wanted o (yielded ops tm) = true)
    (hrun : (execOp (Act.eval { tmps := tm, defers := df }) o).run P w = .ok (.enter f args) w) (h : Calls P f args w fun e w' => (∃ v, e = .returned v ∧ (T.contains i = false → S w') ∧ K { tmps := tm.setIfInBounds d v, defers := df } w') ∨ ∃ c, e = .panicked c ∧ Q (.panic c) { tmps := tm, defers := df } w') : stepT P ops Q S T i K { tmps := tm, defers := df } w := by
  unfold stepT wpOp
  rw [ho]
  simp only
  rw [if_pos hw]
  refine .inl ?_
  unfold Oper.wp
  rw [hrun, Oper.upon_enter]
  refine h.mono ?_
  rintro e w' (⟨v, rfl, h1, h2⟩ | ⟨c, rfl, h1⟩)
  · show (T.contains i = false → S w') ∧ K (Act.put { tmps := tm, defers := df } o.dst v) w'
    rw [hd, put_some]
    exact ⟨h1, h2⟩
  · exact h1

theorem stepT_val {i : Nat} {K : Act → World → Prop} {tm : Array Value} {df : List Deferred} {w w' : World} {o : Oper} {d : Tmp} (v : Value) (ho : ops[i]? = some o) (hd : o.dst = some d) (hw : Region.wanted o (yielded ops tm) = true)
    (hrun : (execOp (Act.eval { tmps := tm, defers := df }) o).run P w = .ok (.value v) w') (hS : T.contains i = false → S w') (h : K { tmps := tm.setIfInBounds d v, defers := df } w') : stepT P ops Q S T i K { tmps := tm, defers := df } w := by
  unfold stepT wpOp
  rw [ho]
  simp only
  rw [if_pos hw]
  refine .inl ?_
  unfold Oper.wp
  rw [hrun]
  show (T.contains i = false → S w') ∧ K (Act.put { tmps := tm, defers := df } o.dst v) w'
  rw [hd, put_some]
  exact ⟨hS, h⟩

/-- A call whose answer nobody takes. -/
theorem stepT_valN {i : Nat} {K : Act → World → Prop} {tm : Array Value} {df : List Deferred} {w w' : World} {o : Oper} (v : Value) (ho : ops[i]? = some o) (hd : o.dst = none) (hw : Region.wanted o (yielded ops tm) = true)
    (hrun : (execOp (Act.eval { tmps := tm, defers := df }) o).run P w = .ok (.value v) w') (hS : T.contains i = false → S w') (h : K { tmps := tm, defers := df } w') : stepT P ops Q S T i K { tmps := tm, defers := df } w := by
  unfold stepT wpOp
  rw [ho]
  simp only
  rw [if_pos hw]
  refine .inl ?_
  unfold Oper.wp
  rw [hrun]
  show (T.contains i = false → S w') ∧ K (Act.put { tmps := tm, defers := df } o.dst v) w'
  rw [hd]
  exact ⟨hS, h⟩
/-- A store. -/
theorem stepT_store {i : Nat} {K : Act → World → Prop} {tm : Array Value} {df : List Deferred} {w w' : World} {o : Oper} (ho : ops[i]? = some o) (hd : o.dst = none) (hw : Region.wanted o (yielded ops tm) = true)
    (hrun : (execOp (Act.eval { tmps := tm, defers := df }) o).run P w = .ok .skip w') (hS : T.contains i = false → S w') (h : K { tmps := tm, defers := df } w') : stepT P ops Q S T i K { tmps := tm, defers := df } w := by
  unfold stepT wpOp
  rw [ho]
  simp only
  rw [if_pos hw]
  refine .inl ?_
  unfold Oper.wp
  rw [hrun]
  show (T.contains i = false → S w') ∧ K (Act.put { tmps := tm, defers := df } o.dst undef) w'
  rw [hd]
  exact ⟨hS, h⟩

end
end Go.Proofs.YtiplalbicibahaaDoor
