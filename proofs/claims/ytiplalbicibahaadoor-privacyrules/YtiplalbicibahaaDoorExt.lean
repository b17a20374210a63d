/- A region that draws its order, walked in one order: what only reads, and would read the same in every later world, may be taken first; what makes memory comes up alone. -/
import Derived.OrdersHeld
import Derived.Below
namespace Go.Proofs.YtiplalbicibahaaDoor
open Go.RowKit

/-- All blocks of w are in w' as they were. -/
def Ext (w w' : World) : Prop := Below w.heap.size w w'
theorem Ext.refl (w : World) : Ext w w := Below.refl _ _
theorem Ext.trans {a b c : World} (h : Ext a b) (k : Ext b c) : Ext a c := Below.trans h (Below.mono k h.size)
theorem Ext.drew {w w' : World} (h : Ext w w') : Ext w w'.drew := Below.drew h

section
variable {P : Program} {ops : Array Oper} {Q : Exit → Act → World → Prop} {md : Region.Mode}

theorem wpAnyH_weak {S S' : World → Prop} (h : ∀ w, S' w → S w) : ∀ (fuel : Nat) (listed : Array Bool) (a : Act) (w : World), wpAnyH P md ops Q S' fuel listed a w → wpAnyH P md ops Q S fuel listed a w
  | 0, _, _, _, k => k
  | fuel + 1, _, _, _, k => ⟨k.1, fun i hi => wpOp_mono (fun a' w' h' => ⟨h w' h'.1, wpAnyH_weak h fuel _ a' w' h'.2⟩) (k.2 i hi)⟩

/-- The operations in one order; the Bool: it only reads. -/
def seqX (P : Program) (ops : Array Oper) (Q : Exit → Act → World → Prop) : List (Nat × Bool) → Act → World → Prop
  | [], a, w => Q .normal a w
  | (i, rd) :: rest, a, w =>
    match ops[i]? with
    | none => False
    | some o =>
      if Region.wanted o (yielded ops a.tmps) = true then
        if rd = true then ∃ v, (∀ w', Ext w w' → (execOp a.eval o).run P w' = .ok (.value v) w') ∧ seqX P ops Q rest (a.put o.dst v) w
        else Oper.wp P o a w (fun a' w' => Ext w w' ∧ seqX P ops Q rest a' w') Q
      else seqX P ops Q rest (a.put o.dst undef) w

def seqOk (md : Region.Mode) (ops : Array Oper) : Array Bool → List (Nat × Bool) → Bool
  | listed, [] => (Region.ready md ops listed).isEmpty
  | listed, (i, rd) :: rest => (if rd then (Region.ready md ops listed).contains i && Region.free md ops listed i else Region.ready md ops listed == [i]) && seqOk md ops (listed.setIfInBounds i true) rest

theorem upon_mono {o : Oper} {a : Act} {K K' : Act → World → Prop} {r : Result Next} (h : ∀ a w, K a w → K' a w) (k : o.upon P a K Q r) : o.upon P a K' Q r := by
  cases r with
  | ok n w' =>
    cases n <;> simp only [Oper.upon] at k ⊢
    case value u => exact h _ _ k
    case skip => exact h _ _ k
    case defer d => exact h _ _ k
    case enter f args =>
      refine Calls.mono k fun e w'' he => ?_
      cases e with
      | returned u => exact h _ _ he
      | panicked c => exact he
      | outgrown => exact he
    case row row args => exact Rows.mono k fun u w'' he => h _ _ he
  | halt x w' =>
    cases x <;> simp only [Oper.upon] at k ⊢
    case panic u => exact k

theorem seqX_any (hs : Region.noSelect ops = true) (hQ : ∀ c (a : Act) d v w, Q (.panic c) (a.put d v) w → Q (.panic c) a w) :
    ∀ (l : List (Nat × Bool)) (listed : Array Bool) (a : Act) (w : World), seqOk md ops listed l = true → seqX P ops Q l a w → wpAnyH P md ops Q (Ext w) l.length listed a w := by
  intro l
  induction l with
  | nil => intro listed a w hok h; exact wpAnyH_done (by simpa [seqOk] using hok) h _
  | cons p rest ih =>
    obtain ⟨i, rd⟩ := p
    intro listed a w hok h
    unfold seqX at h
    cases ho : ops[i]? with
    | none => rw [ho] at h; exact h.elim
    | some o =>
      rw [ho] at h
      simp only at h
      rw [seqOk, Bool.and_eq_true] at hok
      by_cases hw : Region.wanted o (yielded ops a.tmps) = true
      · rw [if_pos hw] at h
        cases rd with
        | true =>
          rw [if_pos rfl] at h
          obtain ⟨v, hv, hrest⟩ := h
          have h1 := hok.1
          rw [if_pos rfl, Bool.and_eq_true] at h1
          exact wpAnyH_take ho hs h1.2 h1.1 (fun c a w => hQ c a o.dst v w) (Or.inl ⟨hw, hv⟩) (Ext.refl w) (ih _ _ _ hok.2 hrest)
        | false =>
          rw [if_neg (by decide)] at h
          have h1 := hok.1
          rw [if_neg (by decide)] at h1
          refine wpAnyH_all (rs := [i]) (by simpa using h1) (by simp) fun j hj => ?_
          have hj' : j = i := by simpa using hj
          subst hj'
          unfold wpOp
          rw [ho]
          simp only
          rw [if_pos hw]
          exact .inl (upon_mono (fun a' w' k => ⟨k.1, wpAnyH_weak (fun w'' e => Ext.trans k.1 e) _ _ _ _ (ih _ _ _ hok.2 k.2)⟩) h)
      · have hw' : Region.wanted o (yielded ops a.tmps) = false := by simpa using hw
        rw [if_neg hw] at h
        cases rd with
        | true =>
          have h1 := hok.1
          rw [if_pos rfl, Bool.and_eq_true] at h1
          exact wpAnyH_take ho hs h1.2 h1.1 (fun c a w => hQ c a o.dst undef w) (Or.inr ⟨hw', rfl⟩) (Ext.refl w) (ih _ _ _ hok.2 h)
        | false =>
          have h1 := hok.1
          rw [if_neg (by decide)] at h1
          refine wpAnyH_all (rs := [i]) (by simpa using h1) (by simp) fun j hj => ?_
          have hj' : j = i := by simpa using hj
          subst hj'
          unfold wpOp
          rw [ho]
          simp only
          rw [if_neg hw]
          exact ⟨Ext.refl w, ih _ _ _ hok.2 h⟩

/-- THE LAW: a region that draws, in one order. -/
theorem wp_region_seq {id : Nat} {a : Act} {w : World} (l : List (Nat × Bool)) (hm : P.follows .mixedOrders = true) (hs : Region.noSelect ops = true) (hl : l.length = ops.size)
    (hok : seqOk .any ops (Array.replicate ops.size false) l = true) (hQ : ∀ c (a : Act) d v w, Q (.panic c) (a.put d v) w → Q (.panic c) a w)
    (h : seqX P ops Q l a w.drew) : (Code.region id ops true).wp P Q a w :=
  wp_region_held hm (S := Ext w.drew) (by have k := seqX_any hs hQ l _ a w.drew hok h; rw [hl] at k; exact k)

theorem put_some (a : Act) (d : Tmp) (v : Value) : a.put (some d) v = { tmps := a.tmps.setIfInBounds d v, defers := a.defers } := rfl

theorem seqX_read {i : Nat} {rest : List (Nat × Bool)} {tm : Array Value} {df : List Deferred} {w : World} {o : Oper} {d : Tmp} (v : Value) (ho : ops[i]? = some o) (hd : o.dst = some d) (hw : Region.wanted o (yielded ops tm) = true)
    (hv : ∀ w', Ext w w' → (execOp (Act.eval { tmps := tm, defers := df }) o).run P w' = .ok (.value v) w') (h : seqX P ops Q rest { tmps := tm.setIfInBounds d v, defers := df } w) : seqX P ops Q ((i, true) :: rest) { tmps := tm, defers := df } w := by
  unfold seqX; rw [ho]; simp only; rw [if_pos hw, if_pos trivial]; exact ⟨v, hv, by rw [hd, put_some]; exact h⟩

theorem seqX_skip {i : Nat} {rd : Bool} {rest : List (Nat × Bool)} {tm : Array Value} {df : List Deferred} {w : World} {o : Oper} {d : Tmp} (ho : ops[i]? = some o) (hd : o.dst = some d) (hw : Region.wanted o (yielded ops tm) = false)
    (h : seqX P ops Q rest { tmps := tm.setIfInBounds d undef, defers := df } w) : seqX P ops Q ((i, rd) :: rest) { tmps := tm, defers := df } w := by
  unfold seqX; rw [ho]; simp only; rw [if_neg (by simp [hw]), hd, put_some]; exact h

theorem seqX_call {i : Nat} {rest : List (Nat × Bool)} {tm : Array Value} {df : List Deferred} {w : World} {o : Oper} {d : Tmp} (f : FuncId) (args : Array Value) (ho : ops[i]? = some o) (hd : o.dst = some d) (hw : Region.wanted o (yielded ops tm) = true)
    (hrun : (execOp (Act.eval { tmps := tm, defers := df }) o).run P w = .ok (.enter f args) w) (h : Calls P f args w fun e w' => ∃ v, e = .returned v ∧ Ext w w' ∧ seqX P ops Q rest { tmps := tm.setIfInBounds d v, defers := df } w') : seqX P ops Q ((i, false) :: rest) { tmps := tm, defers := df } w := by
  unfold seqX; rw [ho]; simp only; rw [if_pos hw, if_neg (by simp)]
  unfold Oper.wp
  rw [hrun, Oper.upon_enter]
  refine h.mono ?_
  rintro e w' ⟨v, rfl, h1, h2⟩
  show Ext w w' ∧ seqX P ops Q rest (Act.put { tmps := tm, defers := df } o.dst v) w'
  rw [hd, put_some]
  exact ⟨h1, h2⟩

theorem seqX_done {a : Act} {w : World} (h : Q .normal a w) : seqX P ops Q [] a w := h

end
end Go.Proofs.YtiplalbicibahaaDoor
