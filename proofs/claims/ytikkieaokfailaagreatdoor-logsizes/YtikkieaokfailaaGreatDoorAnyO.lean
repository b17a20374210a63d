/- A region that draws its order, in whatever order: each operation's answer is told by a fact that lasts, so that no order counts. -/
import Derived.Test.YtikkieaokfailaaGreatDoorLate
namespace Go.Proofs.YtikkieaokfailaaGreatDoor
open Go.RowKit

section
variable {P : Program} {ops : Array Oper} {Q : Exit → Act → World → Prop}

/-- The slots that operations of U write. -/
def uDst (ops : Array Oper) (U : List Nat) : List Nat := U.filterMap fun i => (ops[i]?).bind (·.dst)
/-- What the law asks of the region's text: U's operations wait for elder ones of U alone and write slots of their own; every other one waits for all of U. -/
def aoOk (ops : Array Oper) (U : List Nat) : Bool :=
  U.all (fun u => match ops[u]? with
    | some o => o.dst.isSome && o.after.all (fun e => !Region.binds .any e || (decide (e.on < u) && U.contains e.on))
    | none => false) &&
  (List.range ops.size).all (fun t => U.contains t || (match ops[t]? with
    | some o => U.all (fun u => o.after.any (fun e => Region.binds .any e && e.on == u))
    | none => true)) &&
  decide (uDst ops U).Nodup && decide U.Nodup

/-- A fact that lasts while memory only grows. -/
def Lasts (g : Value → World → Prop) : Prop := ∀ v w w', Below w.heap.size w w' → g v w → g v w'

/-- So far: U's listed operations have answered as their facts say; all other slots are as they were. -/
structure AO (ops : Array Oper) (U : List Nat) (G : Nat → Value → World → Prop) (W : World) (tm0 : Array Value) (df : List Deferred) (listed : Array Bool) (a : Act) (w : World) : Prop where
  s : Below W.heap.size W w
  df : a.defers = df
  sz : a.tmps.size = tm0.size
  same : ∀ d, d ∉ uDst ops U → a.tmps.getD d undef = tm0.getD d undef
  got : ∀ i o d, listed.getD i false = true → i ∈ U → ops[i]? = some o → o.dst = some d → G i (a.tmps.getD d undef) w

/-- What operation i owes: in any frame and world with its facts ahead. -/
def Ob (P : Program) (ops : Array Oper) (Q : Exit → Act → World → Prop) (U : List Nat) (G : Nat → Value → World → Prop) (W : World) (tm0 : Array Value) (df : List Deferred) (i : Nat) : Prop :=
  ∀ (tm : Array Value) (w : World), Below W.heap.size W w → tm.size = tm0.size → (∀ d, d ∉ uDst ops U → tm.getD d undef = tm0.getD d undef) →
    (∀ j o d, j ∈ U → ops[j]? = some o → o.dst = some d → (∃ oi, ops[i]? = some oi ∧ oi.after.any (fun e => Region.binds .any e && e.on == j) = true) → G j (tm.getD d undef) w) →
    ∃ o d, ops[i]? = some o ∧ o.dst = some d ∧ wpOp P ops Q i (fun a' w' => ∃ v, a' = { tmps := tm.setIfInBounds d v, defers := df } ∧ d < tm.size ∧ G i v w' ∧ Below w.heap.size w w') { tmps := tm, defers := df } w

def AllIn (U : List Nat) (p : Nat → Prop) : Prop := ∀ i ∈ U, p i
theorem allIn_nil {p : Nat → Prop} : AllIn [] p := fun _ h => by cases h
theorem allIn_cons {p : Nat → Prop} {i : Nat} {U : List Nat} (h : p i) (t : AllIn U p) : AllIn (i :: U) p := fun j hj => by
  rcases List.mem_cons.1 hj with e | e
  · subst e; exact h
  · exact t j e

theorem getD_set_self {l : Array Bool} {i : Nat} (h : i < l.size) : (l.setIfInBounds i true).getD i false = true := by simp [Array.getD, h]

theorem val_set_ne {tm : Array Value} {d d' : Nat} {v u : Value} (h : d ≠ d') : (tm.setIfInBounds d v).getD d' u = tm.getD d' u := by
  rw [Array.getD_eq_getD_getElem?, Array.getD_eq_getD_getElem?, Array.getElem?_setIfInBounds_ne h]
def unl (listed : Array Bool) (u : Nat) : Bool := !listed.getD u false
theorem unl_set {listed : Array Bool} {i : Nat} (hi : i < listed.size) (u : Nat) : unl (listed.setIfInBounds i true) u = (unl listed u && decide (u ≠ i)) := by
  unfold unl
  by_cases e : u = i
  · subst e; rw [getD_set_self hi]; simp
  · rw [getD_set_ne false (fun h => e h.symm)]; simp [e]
theorem cnt_gone (p : Nat → Bool) (i : Nat) : ∀ U : List Nat, i ∉ U → U.countP (fun u => p u && decide (u ≠ i)) = U.countP p
  | [], _ => rfl
  | u :: U, h => by
    have h1 : u ≠ i := fun e => h (by simp [e])
    have h2 : i ∉ U := fun e => h (by simp [e])
    rw [List.countP_cons, List.countP_cons, cnt_gone p i U h2]
    simp [h1]
theorem cnt_less (p : Nat → Bool) (i : Nat) (hp : p i = true) : ∀ U : List Nat, U.Nodup → i ∈ U → U.countP (fun u => p u && decide (u ≠ i)) + 1 = U.countP p
  | [], _, h => by cases h
  | u :: U, hd, h => by
    rw [List.nodup_cons] at hd
    rw [List.countP_cons, List.countP_cons]
    by_cases e : u = i
    · subst e
      rw [cnt_gone p u U hd.1]
      simp [hp]
    · have h2 : i ∈ U := (List.mem_cons.1 h).resolve_left (fun q => e q.symm)
      have ih := cnt_less p i hp U hd.2 h2
      have hb : (p u && decide (u ≠ i)) = p u := by simp [e]
      simp only [hb]
      omega

theorem ao_parts {U : List Nat} (h : aoOk ops U = true) : (∀ u ∈ U, ∃ o d, ops[u]? = some o ∧ o.dst = some d ∧ ∀ e ∈ o.after, Region.binds .any e = true → e.on < u ∧ e.on ∈ U) ∧
    (∀ t o, ops[t]? = some o → t ∉ U → ∀ u ∈ U, ∃ e ∈ o.after, Region.binds .any e = true ∧ e.on = u) ∧ (uDst ops U).Nodup ∧ U.Nodup := by
  unfold aoOk at h
  rw [Bool.and_eq_true, Bool.and_eq_true, Bool.and_eq_true] at h
  obtain ⟨⟨⟨h1, h2⟩, h3⟩, h4⟩ := h
  refine ⟨fun u hu => ?_, fun t o ho ht u hu => ?_, of_decide_eq_true h3, of_decide_eq_true h4⟩
  · have := List.all_eq_true.1 h1 u hu
    cases ho : ops[u]? with
    | none => simp [ho] at this
    | some o =>
      simp only [ho, Bool.and_eq_true] at this
      obtain ⟨d, hd⟩ := Option.isSome_iff_exists.1 this.1
      refine ⟨o, d, rfl, hd, fun e he hb => ?_⟩
      have h5 := Array.all_eq_true'.1 this.2 e he
      simp only [hb, Bool.not_true, Bool.false_or, Bool.and_eq_true, decide_eq_true_eq] at h5
      exact ⟨h5.1, List.contains_iff_mem.1 h5.2⟩
  · have hlt : t < ops.size := (Array.getElem?_eq_some_iff.1 ho).1
    have := List.all_eq_true.1 h2 t (List.mem_range.2 hlt)
    rw [Bool.or_eq_true] at this
    rcases this with q | q
    · exact absurd (List.contains_iff_mem.1 q) ht
    · rw [ho] at q
      have h5 := List.all_eq_true.1 q u hu
      obtain ⟨e, he, hb⟩ := Array.any_eq_true'.1 h5
      simp only [Bool.and_eq_true, beq_iff_eq] at hb
      exact ⟨e, he, hb.1, hb.2⟩

theorem mem_uDst {U : List Nat} {i : Nat} {o : Oper} {d : Nat} (hi : i ∈ U) (ho : ops[i]? = some o) (hd : o.dst = some d) : d ∈ uDst ops U :=
  List.mem_filterMap.2 ⟨i, hi, by rw [ho]; exact hd⟩
/-- Two operations of U do not write one slot. -/
theorem dst_ne : ∀ {U : List Nat}, (uDst ops U).Nodup → ∀ {i j : Nat} {oi oj : Oper} {d : Nat}, i ∈ U → j ∈ U → ops[i]? = some oi → ops[j]? = some oj → oi.dst = some d → oj.dst = some d → i = j
  | [], _, _, _, _, _, _, h, _, _, _, _, _ => by cases h
  | u :: U, hn, i, j, oi, oj, d, hi, hj, hoi, hoj, hdi, hdj => by
    have hn' : (uDst ops U).Nodup ∧ ∀ d', (ops[u]?).bind (·.dst) = some d' → d' ∉ uDst ops U := by
      unfold uDst at hn ⊢
      rw [List.filterMap_cons] at hn
      cases hq : (ops[u]?).bind (·.dst) with
      | none => rw [hq] at hn; exact ⟨hn, fun _ h => by cases h⟩
      | some d' =>
        rw [hq] at hn
        rw [List.nodup_cons] at hn
        exact ⟨hn.2, fun d'' h => by cases h; exact hn.1⟩
    rcases List.mem_cons.1 hi with e | e
    · rcases List.mem_cons.1 hj with e' | e'
      · rw [e, e']
      · subst e
        exact absurd (mem_uDst e' hoj hdj) (hn'.2 d (by rw [hoi]; exact hdi))
    · rcases List.mem_cons.1 hj with e' | e'
      · subst e'
        exact absurd (mem_uDst e hoi hdi) (hn'.2 d (by rw [hoj]; exact hdj))
      · exact dst_ne hn'.1 e e' hoi hoj hdi hdj

/-- All of U listed, and nothing else. -/
def listU (n : Nat) (U : List Nat) : Array Bool := ((List.range n).map U.contains).toArray

theorem wpAny_facts {U : List Nat} {G : Nat → Value → World → Prop} {W : World} {tm0 : Array Value} {df : List Deferred} {f' : Nat} (hok : aoOk ops U = true) (hG : ∀ i, Lasts (G i)) (hob : AllIn U (Ob P ops Q U G W tm0 df))
    (hfin : ∀ a w, AO ops U G W tm0 df (listU ops.size U) a w → wpAnyT P .any ops Q (fun _ => True) [] f' (listU ops.size U) a w) :
    ∀ (m : Nat) (listed : Array Bool) (a : Act) (w : World), listed.size = ops.size → (∀ i, listed.getD i false = true → i ∈ U) → U.countP (unl listed) = m → AO ops U G W tm0 df listed a w →
      wpAnyT P .any ops Q (fun _ => True) [] (m + f') listed a w := by
  obtain ⟨hdep, hlate, hnd, hUn⟩ := ao_parts hok
  intro m
  induction m with
  | zero =>
    intro listed a w hsz hsub hcnt hA
    have hall : ∀ u ∈ U, listed.getD u false = true := fun u hu => by
      have := List.countP_eq_zero.1 hcnt u hu
      simpa [unl] using this
    have e : listed = listU ops.size U := by
      refine Array.ext (by rw [hsz]; simp [listU]) fun i h1 h2 => ?_
      have hg : listed.getD i false = listed[i] := by simp [Array.getD, h1]
      simp only [listU, List.getElem_toArray, List.getElem_map, List.getElem_range]
      by_cases hu : i ∈ U
      · rw [← hg, hall i hu]; exact (List.contains_iff_mem.2 hu).symm
      · have : listed[i] = false := by
          cases hq : listed[i] with
          | false => rfl
          | true => exact absurd (hsub i (by rw [hg]; exact hq)) hu
        rw [this]
        cases hq : U.contains i with
        | false => rfl
        | true => exact absurd (List.contains_iff_mem.1 hq) hu
    rw [Nat.zero_add]
    subst e
    exact hfin a w hA
  | succ m ih =>
    intro listed a w hsz hsub hcnt hA
    have hone : ∃ u ∈ U, listed.getD u false = false := by
      have : 0 < U.countP (unl listed) := by omega
      obtain ⟨u, hu, hp⟩ := List.countP_pos_iff.1 this
      exact ⟨u, hu, by simpa [unl] using hp⟩
    have hltU : ∀ u ∈ U, u < listed.size := fun u hu => by
      obtain ⟨o, d, ho, _⟩ := hdep u hu
      rw [hsz]; exact (Array.getElem?_eq_some_iff.1 ho).1
    have htf : ∀ u, u < listed.size → listed.getD u true = listed.getD u false := fun u hu => by simp [Array.getD, hu]
    have hready : ∀ k u, u ≤ k → u ∈ U → listed.getD u false = false → Region.ready .any ops listed ≠ [] := by
      intro k
      induction k with
      | zero =>
        intro u hk hu hf hr
        obtain ⟨o, d, ho, hd, hde⟩ := hdep u hu
        have : u ∈ Region.ready .any ops listed := mem_ready.2 ⟨by rw [htf u (hltU u hu)]; exact hf, o, ho, fun e he hb => by have := (hde e he hb).1; omega⟩
        rw [hr] at this; cases this
      | succ k ihk =>
        intro u hk hu hf hr
        obtain ⟨o, d, ho, hd, hde⟩ := hdep u hu
        have : u ∈ Region.ready .any ops listed := mem_ready.2 ⟨by rw [htf u (hltU u hu)]; exact hf, o, ho, fun e he hb => by
          cases hq : listed.getD e.on false with
          | true => rfl
          | false => exact absurd hr (ihk e.on (by have := (hde e he hb).1; omega) (hde e he hb).2 hq)⟩
        rw [hr] at this; cases this
    rw [show m + 1 + f' = (m + f') + 1 from by omega]
    refine ⟨fun hr => ?_, fun i hi => ?_⟩
    · obtain ⟨u, hu, hf⟩ := hone
      exact absurd hr (hready u u (Nat.le_refl _) hu hf)
    · obtain ⟨hiun, oi, hoi, hiall⟩ := mem_ready.1 hi
      have hiU : i ∈ U := by
        refine Classical.byContradiction fun hn => ?_
        obtain ⟨u, hu, hf⟩ := hone
        obtain ⟨e, he, hb, hon⟩ := hlate i oi hoi hn u hu
        have := hiall e he hb
        rw [hon, hf] at this; cases this
      have hif : listed.getD i false = false := by rw [← htf i (hltU i hiU)]; exact hiun
      obtain ⟨atm, adf⟩ := a
      have hadf : adf = df := hA.df
      subst hadf
      obtain ⟨o, d, ho, hd, hwp⟩ := hob i hiU atm w hA.s hA.sz hA.same (fun j o d hj ho hd hdj => by
        obtain ⟨oi', hoi', hany⟩ := hdj
        rw [hoi] at hoi'
        cases hoi'
        obtain ⟨e, he, hb⟩ := Array.any_eq_true'.1 hany
        simp only [Bool.and_eq_true, beq_iff_eq] at hb
        exact hA.got j o d (by rw [← hb.2]; exact hiall e he hb.1) hj ho hd)
      refine wpOp_mono (fun a' w' hk => ?_) hwp
      obtain ⟨v, rfl, hdl, hgv, hbw⟩ := hk
      refine ⟨fun _ => trivial, ih _ _ _ (by rw [Array.size_setIfInBounds]; exact hsz) (fun j hj => ?_) ?_ ⟨?_, rfl, ?_, fun d' hd' => ?_, fun j oj d' hj hjU hoj hdj => ?_⟩⟩
      · by_cases e : i = j
        · subst e; exact hiU
        · rw [getD_set_ne false e] at hj; exact hsub j hj
      · have h1 : (unl (listed.setIfInBounds i true)) = fun u => unl listed u && decide (u ≠ i) := funext fun u => unl_set (hltU i hiU) u
        rw [h1]
        have := cnt_less (unl listed) i (by simp [unl, hif]) U hUn hiU
        omega
      · exact hA.s.trans (hbw.mono hA.s.size)
      · rw [Array.size_setIfInBounds]; exact hA.sz
      · have hne : d ≠ d' := fun e => hd' (by rw [← e]; exact mem_uDst hiU ho hd)
        exact (val_set_ne hne).trans (hA.same d' hd')
      · by_cases e : i = j
        · subst e
          rw [ho] at hoj
          cases hoj
          rw [hd] at hdj
          cases hdj
          have : (atm.setIfInBounds d v).getD d undef = v := by simp [Array.getD, hdl]
          rw [this]; exact hgv
        · rw [getD_set_ne false e] at hj
          have hne : d ≠ d' := fun e' => e (dst_ne hnd hiU hjU ho hoj hd (by rw [e']; exact hdj))
          have hg := hG j _ _ _ hbw (hA.got j oj d' hj hjU hoj hdj)
          have hs : (atm.setIfInBounds d v).getD d' undef = atm.getD d' undef := val_set_ne hne
          rw [hs]; exact hg

/-- The law: U's operations in any order, then the rest. -/
theorem wp_region_facts {id : Nat} {w : World} {tm0 : Array Value} {df : List Deferred} (U : List Nat) (G : Nat → Value → World → Prop) (n f' : Nat) (hm : P.follows .mixedOrders = true) (hn : ops.size = n) (hlen : U.length + f' = n) (hok : aoOk ops U = true) (hG : ∀ i, Lasts (G i))
    (hob : AllIn U (Ob P ops Q U G w.drew tm0 df))
    (hfin : ∀ a w', AO ops U G w.drew tm0 df (listU n U) a w' → LX P ops Q (fun _ => True) [] f' (listU n U) a w') : (Code.region id ops true).wp P Q { tmps := tm0, defers := df } w := by
  subst hn
  refine wp_region_any hm (wpAny_of_late (S := fun _ => True) (T := []) _ _ _ _ ?_)
  suffices key : wpAnyT P .any ops Q (fun _ => True) [] (U.length + f') (Array.replicate ops.size false) { tmps := tm0, defers := df } w.drew by rw [hlen] at key; exact key
  refine wpAny_facts hok hG hob (fun a w' h => (hfin a w' h).out) U.length (Array.replicate ops.size false) { tmps := tm0, defers := df } w.drew (by simp) (fun i hi => ?_) ?_ ⟨Below.refl _ _, rfl, rfl, fun d _ => rfl, fun i o d hi => ?_⟩
  · exfalso
    simp only [Array.getD, Array.size_replicate, Array.getInternal_eq_getElem] at hi
    split at hi
    · simp at hi
    · cases hi
  · rw [List.countP_eq_length]
    intro u _
    simp only [unl, Array.getD, Array.size_replicate]
    split <;> simp
  · exfalso
    simp only [Array.getD, Array.size_replicate, Array.getInternal_eq_getElem] at hi
    split at hi
    · simp at hi
    · cases hi

/-! ### What an operation owes, by its kind -/
variable {U : List Nat} {G : Nat → Value → World → Prop} {W : World} {tm0 : Array Value} {df : List Deferred}

/-- The facts ahead of operation i. -/
structure Ahd (ops : Array Oper) (U : List Nat) (G : Nat → Value → World → Prop) (W : World) (tm0 : Array Value) (i : Nat) (tm : Array Value) (w : World) : Prop where
  s : Below W.heap.size W w
  sz : tm.size = tm0.size
  same : ∀ d, d ∉ uDst ops U → tm.getD d undef = tm0.getD d undef
  dep : ∀ j o d, j ∈ U → ops[j]? = some o → o.dst = some d → (∃ oi, ops[i]? = some oi ∧ oi.after.any (fun e => Region.binds .any e && e.on == j) = true) → G j (tm.getD d undef) w

theorem ob_val (i : Nat) {o : Oper} {d : Tmp} (ho : ops[i]? = some o) (hd : o.dst = some d) (hdl : d < tm0.size)
    (h : ∀ tm w, Ahd ops U G W tm0 i tm w → Region.wanted o (yielded ops tm) = true ∧ ∃ v w', (execOp (Act.eval { tmps := tm, defers := df }) o).run P w = .ok (.value v) w' ∧ G i v w' ∧ Below w.heap.size w w') : Ob P ops Q U G W tm0 df i := by
  intro tm w hS hsz hsame hdep
  obtain ⟨hw, v, w', hrun, hg, hb⟩ := h tm w ⟨hS, hsz, hsame, hdep⟩
  refine ⟨o, d, ho, hd, ?_⟩
  unfold wpOp
  rw [ho]
  simp only
  rw [if_pos hw]
  refine .inl ?_
  unfold Oper.wp
  rw [hrun]
  refine ⟨v, ?_, by rw [hsz]; exact hdl, hg, hb⟩
  show Act.put { tmps := tm, defers := df } o.dst v = _
  rw [hd, put_some]

theorem ob_call (i : Nat) {o : Oper} {d : Tmp} (ho : ops[i]? = some o) (hd : o.dst = some d) (hdl : d < tm0.size)
    (h : ∀ tm w, Ahd ops U G W tm0 i tm w → Region.wanted o (yielded ops tm) = true ∧ ∃ f args, (execOp (Act.eval { tmps := tm, defers := df }) o).run P w = .ok (.enter f args) w ∧ Calls P f args w fun e w' => ∃ v, e = .returned v ∧ G i v w' ∧ Below w.heap.size w w') : Ob P ops Q U G W tm0 df i := by
  intro tm w hS hsz hsame hdep
  obtain ⟨hw, f, args, hrun, hc⟩ := h tm w ⟨hS, hsz, hsame, hdep⟩
  refine ⟨o, d, ho, hd, ?_⟩
  unfold wpOp
  rw [ho]
  simp only
  rw [if_pos hw]
  refine .inl ?_
  unfold Oper.wp
  rw [hrun, Oper.upon_enter]
  refine hc.mono ?_
  rintro e w' ⟨v, rfl, hg, hb⟩
  refine ⟨v, ?_, by rw [hsz]; exact hdl, hg, hb⟩
  show Act.put { tmps := tm, defers := df } o.dst v = _
  rw [hd, put_some]

/-- A frame, slot by slot. -/
theorem eta_arr (tm : Array Value) (n : Nat) (h : tm.size = n) : tm = ((List.range n).map fun d => tm.getD d undef).toArray := by
  subst h
  refine Array.ext (by simp) fun i h1 h2 => ?_
  simp [Array.getD, h1]
/-- A frame is the elder one with the slots of D as they are. -/
theorem frame_sets (tm : Array Value) : ∀ (D : List Nat) (tm0 : Array Value), tm.size = tm0.size → (∀ d, d ∉ D → tm.getD d undef = tm0.getD d undef) → tm = D.foldl (fun t d => t.setIfInBounds d (tm.getD d undef)) tm0
  | [], tm0, hs, h => by
    rw [List.foldl_nil]
    refine Array.ext hs fun i h1 h2 => ?_
    have := h i (by simp)
    rw [Array.getD_eq_getD_getElem?, Array.getD_eq_getD_getElem?, Array.getElem?_eq_getElem h1, Array.getElem?_eq_getElem h2] at this
    exact this
  | d :: D, tm0, hs, h => by
    rw [List.foldl_cons]
    refine frame_sets tm D (tm0.setIfInBounds d (tm.getD d undef)) (by rw [Array.size_setIfInBounds]; exact hs) fun e he => ?_
    by_cases hde : d = e
    · subst hde
      rcases Nat.lt_or_ge d tm0.size with q | q
      · have e1 : (tm0.setIfInBounds d (tm.getD d undef)).getD d undef = tm.getD d undef := by
          generalize tm.getD d undef = v
          rw [Array.getD_eq_getD_getElem?, Array.getElem?_setIfInBounds_self_of_lt q]; rfl
        exact e1.symm
      · have e1 : (tm0.setIfInBounds d (tm.getD d undef)).getD d undef = undef := by
          generalize tm.getD d undef = v
          rw [Array.getD_eq_getD_getElem?, Array.getElem?_eq_none (by rw [Array.size_setIfInBounds]; exact q)]; rfl
        rw [e1, Array.getD_eq_getD_getElem?, Array.getElem?_eq_none (by omega)]; rfl
    · rw [val_set_ne hde]
      exact h e (by simp [Ne.symm hde, he])
/-- The guard's answer, out of its fact. -/
theorem wanted_of {o oj : Oper} {j dj : Nat} {b : Bool} {tm : Array Value} (hg : o.guard = some (j, b)) (hoj : ops[j]? = some oj) (hdj : oj.dst = some dj) (hl : dj < tm.size) (hv : tm.getD dj undef = .bool b) : Region.wanted o (yielded ops tm) = true := by
  have hq : tm[dj]? = some (.bool b) := by
    rw [Array.getElem?_eq_getElem hl]
    simpa [Array.getD, hl] using hv
  simp [Region.wanted, hg, yielded, hoj, hdj, hq]
theorem wanted_none {o : Oper} {tm : Array Value} (hg : o.guard = none) : Region.wanted o (yielded ops tm) = true := by simp [Region.wanted, hg]

def fEq (v0 : Value) : Value → World → Prop := fun v _ => v = v0
def Gl (l : List (Value → World → Prop)) (i : Nat) : Value → World → Prop := l.getD i (fun _ _ => True)
theorem lasts_eq (v0 : Value) : Lasts (fEq v0) := fun _ _ _ _ h => h
theorem lasts_list {l : List (Value → World → Prop)} (h : ∀ g ∈ l, Lasts g) (i : Nat) : Lasts (Gl l i) := by
  unfold Gl
  rcases Nat.lt_or_ge i l.length with q | q
  · rw [List.getD, List.getElem?_eq_getElem q]; exact h _ (List.getElem_mem q)
  · rw [List.getD, List.getElem?_eq_none q]; exact fun _ _ _ _ _ => trivial

end
end Go.Proofs.YtikkieaokfailaaGreatDoor
