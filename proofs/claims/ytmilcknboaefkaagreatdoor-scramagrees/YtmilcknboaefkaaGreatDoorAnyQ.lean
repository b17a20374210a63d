/- A region that draws its order, in whatever order, where an operation may also mark what the region itself made (the bytes of a literal). -/
import Derived.Test.YtmilcknboaefkaaGreatDoorAnyP
namespace Go.Proofs.YtmilcknboaefkaaGreatDoor.Q
open Go.RowKit

/-- Memory only grows; what stood there reads as it did (a row may be marked). -/
structure Kc (w w' : World) : Prop where
  size : w.heap.size ≤ w'.heap.size
  cells : ∀ k, k < w.heap.size → w'.heap[k]? = w.heap[k]? ∨ ∃ cs t m m', w.heap[k]? = some (.cells cs t m) ∧ w'.heap[k]? = some (.cells cs t m')
theorem Kc.ofBelow {w w' : World} (h : Below w.heap.size w w') : Kc w w' := ⟨h.size, fun k hk => .inl (h.block k hk)⟩
theorem Kc.cell {w w' : World} (h : Kc w w') {p : Addr} {v : Value} (hc : w.cell? p = some v) : w'.cell? p = some v := by
  have hlt := World.block_lt_of_cell? w p hc
  rcases h.cells p.block hlt with e | ⟨cs, t, m, m', e1, e2⟩
  · exact (World.cell?_of_block e).trans hc
  · unfold World.cell? at hc ⊢
    rw [e1] at hc
    rw [e2]
    exact hc
/-- A step: the blocks of W stand as they were, the newer ones read as they did. -/
structure St (W w w' : World) : Prop where
  b : Below W.heap.size w w'
  k : Kc w w'
theorem St.of {W w w' : World} (hS : Below W.heap.size W w) (hb : Below w.heap.size w w') : St W w w' := ⟨hb.mono hS.size, Kc.ofBelow hb⟩

/-- A fact that lasts. -/
def Lasts (g : Value → World → Prop) : Prop := ∀ v w w', Kc w w' → g v w → g v w'

section
variable {P : Program} {ops : Array Oper} {Q : Exit → Act → World → Prop}

/-- Operation t waits for u, directly or by others. -/
def waits (ops : Array Oper) : Nat → Nat → Nat → Bool
  | 0, _, _ => false
  | f + 1, t, u => match ops[t]? with
    | some o => o.after.any (fun e => Region.binds .any e && (e.on == u || waits ops f e.on u))
    | none => false
def aoOk (ops : Array Oper) (U : List Nat) : Bool :=
  U.all (fun u => match ops[u]? with
    | some o => o.dst.isSome && o.after.all (fun e => !Region.binds .any e || (decide (e.on < u) && U.contains e.on))
    | none => false) &&
  (List.range ops.size).all (fun t => U.contains t || U.all (fun u => waits ops ops.size t u)) &&
  decide (uDst ops U).Nodup && decide U.Nodup

theorem ao_parts {U : List Nat} (h : aoOk ops U = true) : (∀ u ∈ U, ∃ o d, ops[u]? = some o ∧ o.dst = some d ∧ ∀ e ∈ o.after, Region.binds .any e = true → e.on < u ∧ e.on ∈ U) ∧
    (∀ t o, ops[t]? = some o → t ∉ U → ∀ u ∈ U, waits ops ops.size t u = true) ∧ (uDst ops U).Nodup ∧ U.Nodup := by
  unfold aoOk at h
  rw [Bool.and_eq_true, Bool.and_eq_true, Bool.and_eq_true] at h
  obtain ⟨⟨⟨h1, h2⟩, h3⟩, h4⟩ := h
  refine ⟨fun u hu => ?_, fun t o ho ht u hu => ?_, of_decide_eq_true h3, of_decide_eq_true h4⟩
  · have := List.all_eq_true.1 h1 u hu
    cases ho : ops[u]? with
    | none => simp [ho] at this
    | some o =>
      simp only [ho, Bool.and_eq_true] at this
      obtain ⟨d, hd⟩ := Option.isSome_iff_exists.1 this.1
      refine ⟨o, d, rfl, hd, fun e he hb => ?_⟩
      have h5 := Array.all_eq_true'.1 this.2 e he
      simp only [hb, Bool.not_true, Bool.false_or, Bool.and_eq_true, decide_eq_true_eq] at h5
      exact ⟨h5.1, List.contains_iff_mem.1 h5.2⟩
  · have hlt : t < ops.size := (Array.getElem?_eq_some_iff.1 ho).1
    have := List.all_eq_true.1 h2 t (List.mem_range.2 hlt)
    rw [Bool.or_eq_true] at this
    rcases this with q | q
    · exact absurd (List.contains_iff_mem.1 q) ht
    · exact List.all_eq_true.1 q u hu

theorem waits_listed {listed : Array Bool} (hcl : ∀ j o, listed.getD j false = true → ops[j]? = some o → ∀ e ∈ o.after, Region.binds .any e = true → listed.getD e.on false = true) :
    ∀ (f t : Nat) (o : Oper) (u : Nat), ops[t]? = some o → (∀ e ∈ o.after, Region.binds .any e = true → listed.getD e.on false = true) → waits ops f t u = true → listed.getD u false = true
  | 0, _, _, _, _, _, h => by simp [waits] at h
  | f + 1, t, o, u, ho, ha, h => by
    rw [waits, ho] at h
    obtain ⟨e, he, hb⟩ := Array.any_eq_true'.1 h
    simp only [Bool.and_eq_true, Bool.or_eq_true, beq_iff_eq] at hb
    have hl := ha e he hb.1
    rcases hb.2 with q | q
    · rw [← q]; exact hl
    · cases ho' : ops[e.on]? with
      | none =>
        cases f with
        | zero => simp [waits] at q
        | succ f => rw [waits, ho'] at q; cases q
      | some o' => exact waits_listed hcl f e.on o' u ho' (hcl e.on o' hl ho') q

/-- So far: U's listed operations have answered as their facts say; all other slots are as they were. -/
structure AO (ops : Array Oper) (U : List Nat) (G : Nat → Value → World → Prop) (W : World) (tm0 : Array Value) (df : List Deferred) (listed : Array Bool) (a : Act) (w : World) : Prop where
  s : Below W.heap.size W w
  df : a.defers = df
  sz : a.tmps.size = tm0.size
  same : ∀ d, d ∉ uDst ops U → a.tmps.getD d undef = tm0.getD d undef
  got : ∀ i o d, listed.getD i false = true → i ∈ U → ops[i]? = some o → o.dst = some d → G i (a.tmps.getD d undef) w

/-- What operation i owes: in any frame and world with its facts ahead. -/
def Ob (P : Program) (ops : Array Oper) (Q : Exit → Act → World → Prop) (U : List Nat) (G : Nat → Value → World → Prop) (W : World) (tm0 : Array Value) (df : List Deferred) (i : Nat) : Prop :=
  ∀ (tm : Array Value) (w : World), Below W.heap.size W w → tm.size = tm0.size → (∀ d, d ∉ uDst ops U → tm.getD d undef = tm0.getD d undef) →
    (∀ j o d, j ∈ U → ops[j]? = some o → o.dst = some d → (∃ oi, ops[i]? = some oi ∧ oi.after.any (fun e => Region.binds .any e && e.on == j) = true) → G j (tm.getD d undef) w) →
    ∃ o d, ops[i]? = some o ∧ o.dst = some d ∧ wpOp P ops Q i (fun a' w' => ∃ v, a' = { tmps := tm.setIfInBounds d v, defers := df } ∧ d < tm.size ∧ G i v w' ∧ St W w w') { tmps := tm, defers := df } w


theorem wpAny_facts {U : List Nat} {G : Nat → Value → World → Prop} {W : World} {tm0 : Array Value} {df : List Deferred} {f' : Nat} (hok : aoOk ops U = true) (hG : ∀ i, Lasts (G i)) (hob : AllIn U (Ob P ops Q U G W tm0 df))
    (hfin : ∀ a w, AO ops U G W tm0 df (listU ops.size U) a w → wpAnyT P .any ops Q (fun _ => True) [] f' (listU ops.size U) a w) :
    ∀ (m : Nat) (listed : Array Bool) (a : Act) (w : World), listed.size = ops.size → (∀ i, listed.getD i false = true → i ∈ U) → (∀ j o, listed.getD j false = true → ops[j]? = some o → ∀ e ∈ o.after, Region.binds .any e = true → listed.getD e.on false = true) → U.countP (unl listed) = m → AO ops U G W tm0 df listed a w →
      wpAnyT P .any ops Q (fun _ => True) [] (m + f') listed a w := by
  obtain ⟨hdep, hlate, hnd, hUn⟩ := ao_parts hok
  intro m
  induction m with
  | zero =>
    intro listed a w hsz hsub hcl hcnt hA
    have hall : ∀ u ∈ U, listed.getD u false = true := fun u hu => by
      have := List.countP_eq_zero.1 hcnt u hu
      simpa [unl] using this
    have e : listed = listU ops.size U := by
      refine Array.ext (by rw [hsz]; simp [listU]) fun i h1 h2 => ?_
      have hg : listed.getD i false = listed[i] := by simp [Array.getD, h1]
      simp only [listU, List.getElem_toArray, List.getElem_map, List.getElem_range]
      by_cases hu : i ∈ U
      · rw [← hg, hall i hu]; exact (List.contains_iff_mem.2 hu).symm
      · have : listed[i] = false := by
          cases hq : listed[i] with
          | false => rfl
          | true => exact absurd (hsub i (by rw [hg]; exact hq)) hu
        rw [this]
        cases hq : U.contains i with
        | false => rfl
        | true => exact absurd (List.contains_iff_mem.1 hq) hu
    rw [Nat.zero_add]
    subst e
    exact hfin a w hA
  | succ m ih =>
    intro listed a w hsz hsub hcl hcnt hA
    have hone : ∃ u ∈ U, listed.getD u false = false := by
      have : 0 < U.countP (unl listed) := by omega
      obtain ⟨u, hu, hp⟩ := List.countP_pos_iff.1 this
      exact ⟨u, hu, by simpa [unl] using hp⟩
    have hltU : ∀ u ∈ U, u < listed.size := fun u hu => by
      obtain ⟨o, d, ho, _⟩ := hdep u hu
      rw [hsz]; exact (Array.getElem?_eq_some_iff.1 ho).1
    have htf : ∀ u, u < listed.size → listed.getD u true = listed.getD u false := fun u hu => by simp [Array.getD, hu]
    have hready : ∀ k u, u ≤ k → u ∈ U → listed.getD u false = false → Region.ready .any ops listed ≠ [] := by
      intro k
      induction k with
      | zero =>
        intro u hk hu hf hr
        obtain ⟨o, d, ho, hd, hde⟩ := hdep u hu
        have : u ∈ Region.ready .any ops listed := mem_ready.2 ⟨by rw [htf u (hltU u hu)]; exact hf, o, ho, fun e he hb => by have := (hde e he hb).1; omega⟩
        rw [hr] at this; cases this
      | succ k ihk =>
        intro u hk hu hf hr
        obtain ⟨o, d, ho, hd, hde⟩ := hdep u hu
        have : u ∈ Region.ready .any ops listed := mem_ready.2 ⟨by rw [htf u (hltU u hu)]; exact hf, o, ho, fun e he hb => by
          cases hq : listed.getD e.on false with
          | true => rfl
          | false => exact absurd hr (ihk e.on (by have := (hde e he hb).1; omega) (hde e he hb).2 hq)⟩
        rw [hr] at this; cases this
    rw [show m + 1 + f' = (m + f') + 1 from by omega]
    refine ⟨fun hr => ?_, fun i hi => ?_⟩
    · obtain ⟨u, hu, hf⟩ := hone
      exact absurd hr (hready u u (Nat.le_refl _) hu hf)
    · obtain ⟨hiun, oi, hoi, hiall⟩ := mem_ready.1 hi
      have hiU : i ∈ U := by
        refine Classical.byContradiction fun hn => ?_
        obtain ⟨u, hu, hf⟩ := hone
        have := waits_listed hcl _ i oi u hoi hiall (hlate i oi hoi hn u hu)
        rw [hf] at this; cases this
      have hif : listed.getD i false = false := by rw [← htf i (hltU i hiU)]; exact hiun
      obtain ⟨atm, adf⟩ := a
      have hadf : adf = df := hA.df
      subst hadf
      obtain ⟨o, d, ho, hd, hwp⟩ := hob i hiU atm w hA.s hA.sz hA.same (fun j o d hj ho hd hdj => by
        obtain ⟨oi', hoi', hany⟩ := hdj
        rw [hoi] at hoi'
        cases hoi'
        obtain ⟨e, he, hb⟩ := Array.any_eq_true'.1 hany
        simp only [Bool.and_eq_true, beq_iff_eq] at hb
        exact hA.got j o d (by rw [← hb.2]; exact hiall e he hb.1) hj ho hd)
      refine wpOp_mono (fun a' w' hk => ?_) hwp
      obtain ⟨v, rfl, hdl, hgv, hbw⟩ := hk
      refine ⟨fun _ => trivial, ih _ _ _ (by rw [Array.size_setIfInBounds]; exact hsz) (fun j hj => ?_) (fun j oj hj hoj e he hb => ?_) ?_ ⟨?_, rfl, ?_, fun d' hd' => ?_, fun j oj d' hj hjU hoj hdj => ?_⟩⟩
      · by_cases e : i = j
        · subst e; exact hiU
        · rw [getD_set_ne false e] at hj; exact hsub j hj
      · have hup : ∀ q, listed.getD q false = true → (listed.setIfInBounds i true).getD q false = true := fun q hq => by
          by_cases e : i = q
          · subst e; rw [hif] at hq; cases hq
          · rw [getD_set_ne false e]; exact hq
        by_cases e1 : i = j
        · subst e1
          rw [hoi] at hoj
          cases hoj
          exact hup _ (hiall e he hb)
        · rw [getD_set_ne false e1] at hj
          exact hup _ (hcl j oj hj hoj e he hb)
      · have h1 : (unl (listed.setIfInBounds i true)) = fun u => unl listed u && decide (u ≠ i) := funext fun u => unl_set (hltU i hiU) u
        rw [h1]
        have := cnt_less (unl listed) i (by simp [unl, hif]) U hUn hiU
        omega
      · exact hA.s.trans hbw.b
      · rw [Array.size_setIfInBounds]; exact hA.sz
      · have hne : d ≠ d' := fun e => hd' (by rw [← e]; exact mem_uDst hiU ho hd)
        exact (val_set_ne hne).trans (hA.same d' hd')
      · by_cases e : i = j
        · subst e
          rw [ho] at hoj
          cases hoj
          rw [hd] at hdj
          cases hdj
          have : (atm.setIfInBounds d v).getD d undef = v := by simp [Array.getD, hdl]
          rw [this]; exact hgv
        · rw [getD_set_ne false e] at hj
          have hne : d ≠ d' := fun e' => e (dst_ne hnd hiU hjU ho hoj hd (by rw [e']; exact hdj))
          have hg := hG j _ _ _ hbw.k (hA.got j oj d' hj hjU hoj hdj)
          have hs : (atm.setIfInBounds d v).getD d' undef = atm.getD d' undef := val_set_ne hne
          rw [hs]; exact hg

/-- The law: U's operations in any order, then the rest. -/
theorem wp_region_facts {id : Nat} {w : World} {tm0 : Array Value} {df : List Deferred} (U : List Nat) (G : Nat → Value → World → Prop) (n f' : Nat) (hm : P.follows .mixedOrders = true) (hn : ops.size = n) (hlen : U.length + f' = n) (hok : aoOk ops U = true) (hG : ∀ i, Lasts (G i))
    (hob : AllIn U (Ob P ops Q U G w.drew tm0 df))
    (hfin : ∀ a w', AO ops U G w.drew tm0 df (listU n U) a w' → LX P ops Q (fun _ => True) [] f' (listU n U) a w') : (Code.region id ops true).wp P Q { tmps := tm0, defers := df } w := by
  subst hn
  refine wp_region_any hm (wpAny_of_late (S := fun _ => True) (T := []) _ _ _ _ ?_)
  suffices key : wpAnyT P .any ops Q (fun _ => True) [] (U.length + f') (Array.replicate ops.size false) { tmps := tm0, defers := df } w.drew by rw [hlen] at key; exact key
  refine wpAny_facts hok hG hob (fun a w' h => (hfin a w' h).out) U.length (Array.replicate ops.size false) { tmps := tm0, defers := df } w.drew (by simp) (fun i hi => ?_) (fun i o hi => ?_) ?_ ⟨Below.refl _ _, rfl, rfl, fun d _ => rfl, fun i o d hi => ?_⟩
  · exfalso
    simp only [Array.getD, Array.size_replicate, Array.getInternal_eq_getElem] at hi
    split at hi
    · simp at hi
    · cases hi
  · exfalso
    simp only [Array.getD, Array.size_replicate, Array.getInternal_eq_getElem] at hi
    split at hi
    · simp at hi
    · cases hi
  · rw [List.countP_eq_length]
    intro u _
    simp only [unl, Array.getD, Array.size_replicate]
    split <;> simp
  · exfalso
    simp only [Array.getD, Array.size_replicate, Array.getInternal_eq_getElem] at hi
    split at hi
    · simp at hi
    · cases hi


variable {U : List Nat} {G : Nat → Value → World → Prop} {W : World} {tm0 : Array Value} {df : List Deferred}

/-- The facts ahead of operation i. -/
structure Ahd (ops : Array Oper) (U : List Nat) (G : Nat → Value → World → Prop) (W : World) (tm0 : Array Value) (i : Nat) (tm : Array Value) (w : World) : Prop where
  s : Below W.heap.size W w
  sz : tm.size = tm0.size
  same : ∀ d, d ∉ uDst ops U → tm.getD d undef = tm0.getD d undef
  dep : ∀ j o d, j ∈ U → ops[j]? = some o → o.dst = some d → (∃ oi, ops[i]? = some oi ∧ oi.after.any (fun e => Region.binds .any e && e.on == j) = true) → G j (tm.getD d undef) w

theorem ob_mark (i : Nat) {o : Oper} {d : Tmp} (ho : ops[i]? = some o) (hd : o.dst = some d) (hdl : d < tm0.size)
    (h : ∀ tm w, Ahd ops U G W tm0 i tm w → Region.wanted o (yielded ops tm) = true ∧ ∃ v w', (execOp (Act.eval { tmps := tm, defers := df }) o).run P w = .ok (.value v) w' ∧ G i v w' ∧ St W w w') : Ob P ops Q U G W tm0 df i := by
  intro tm w hS hsz hsame hdep
  obtain ⟨hw, v, w', hrun, hg, hb⟩ := h tm w ⟨hS, hsz, hsame, hdep⟩
  refine ⟨o, d, ho, hd, ?_⟩
  unfold wpOp
  rw [ho]
  simp only
  rw [if_pos hw]
  refine .inl ?_
  unfold Oper.wp
  rw [hrun]
  refine ⟨v, ?_, by rw [hsz]; exact hdl, hg, hb⟩
  show Act.put { tmps := tm, defers := df } o.dst v = _
  rw [hd, put_some]

theorem ob_val (i : Nat) {o : Oper} {d : Tmp} (ho : ops[i]? = some o) (hd : o.dst = some d) (hdl : d < tm0.size)
    (h : ∀ tm w, Ahd ops U G W tm0 i tm w → Region.wanted o (yielded ops tm) = true ∧ ∃ v w', (execOp (Act.eval { tmps := tm, defers := df }) o).run P w = .ok (.value v) w' ∧ G i v w' ∧ Below w.heap.size w w') : Ob P ops Q U G W tm0 df i := by
  intro tm w hS hsz hsame hdep
  obtain ⟨hw, v, w', hrun, hg, hb⟩ := h tm w ⟨hS, hsz, hsame, hdep⟩
  refine ⟨o, d, ho, hd, ?_⟩
  unfold wpOp
  rw [ho]
  simp only
  rw [if_pos hw]
  refine .inl ?_
  unfold Oper.wp
  rw [hrun]
  refine ⟨v, ?_, by rw [hsz]; exact hdl, hg, St.of hS hb⟩
  show Act.put { tmps := tm, defers := df } o.dst v = _
  rw [hd, put_some]

theorem ob_call (i : Nat) {o : Oper} {d : Tmp} (ho : ops[i]? = some o) (hd : o.dst = some d) (hdl : d < tm0.size)
    (h : ∀ tm w, Ahd ops U G W tm0 i tm w → Region.wanted o (yielded ops tm) = true ∧ ∃ f args, (execOp (Act.eval { tmps := tm, defers := df }) o).run P w = .ok (.enter f args) w ∧ Calls P f args w fun e w' => ∃ v, e = .returned v ∧ G i v w' ∧ Below w.heap.size w w') : Ob P ops Q U G W tm0 df i := by
  intro tm w hS hsz hsame hdep
  obtain ⟨hw, f, args, hrun, hc⟩ := h tm w ⟨hS, hsz, hsame, hdep⟩
  refine ⟨o, d, ho, hd, ?_⟩
  unfold wpOp
  rw [ho]
  simp only
  rw [if_pos hw]
  refine .inl ?_
  unfold Oper.wp
  rw [hrun, Oper.upon_enter]
  refine hc.mono ?_
  rintro e w' ⟨v, rfl, hg, hb⟩
  refine ⟨v, ?_, by rw [hsz]; exact hdl, hg, St.of hS hb⟩
  show Act.put { tmps := tm, defers := df } o.dst v = _
  rw [hd, put_some]


theorem lasts_eq (v0 : Value) : Lasts (fEq v0) := fun _ _ _ _ h => h
theorem lasts_list {l : List (Value → World → Prop)} (h : ∀ g ∈ l, Lasts g) (i : Nat) : Lasts (Gl l i) := by
  unfold Gl
  rcases Nat.lt_or_ge i l.length with q | q
  · rw [List.getD, List.getElem?_eq_getElem q]; exact h _ (List.getElem_mem q)
  · rw [List.getD, List.getElem?_eq_none q]; exact fun _ _ _ _ _ => trivial
theorem rd_kc {w w' : World} {a : Option Addr} {n c : Nat} {xs : List Int} (h : Rd w a n c xs) (hk : Kc w w') : Rd w' a n c xs :=
  ⟨h.len, h.cap, h.most, h.nil, h.bytes, fun ad ha j hj => hk.cell (h.cells ad ha j hj)⟩
theorem lasts_rd (X : List Int) (m : Nat) : Lasts (fRd X m) := fun _ _ _ hk ⟨a, n, c, h1, h2, h3⟩ => ⟨a, n, c, h1, h2, rd_kc h3 hk⟩
end
end Go.Proofs.YtmilcknboaefkaaGreatDoor.Q
