/- Texts of one seat, one behind the other: RoBk, RoBl, RoBm, SuH, SuI, SuK, SuM, SuP, SuJ, SuQ, SuV, RoP, RoW, RoBn, RoBo, RoBp. -/
import Derived.Test.YtppdopcghnfapaaGreatDoorM6
import Derived.Test.YtppdopcghnfapaaGreatDoorM1
import Derived.WalkKit
import Derived.ProofKit
import Derived.OpenShut
import Derived.ChangeOld
import Derived.Deep.DeepHandedRow
import Derived.Deep.Slices
import Derived.Deep.MidRow
import Derived.ArgAppend
import Derived.Deep.CutBlock
import Derived.ChangeShapes
import Derived.SliceStrings
/- roster: Act, Hear, Drop, Put hold the bounds (pure). -/
set_option maxRecDepth 100000
namespace Go.Proofs.YtppdopcghnfapaaGreatDoor
open Go.RowKit

theorem RB.nx {R : Ro} (h : RB R) (v : Int) : RB { R with nx := v } := ⟨h.kc, h.it, h.ak, h.nd, h.mem, h.ent⟩
theorem RB.ver {R : Ro} (h : RB R) (v : Int) : RB { R with ver := v } := ⟨h.kc, h.it, h.ak, h.nd, h.mem, h.ent⟩
theorem RB.of {R : Ro} (h : RB R) (c : ByteArray) : (ofE R c).c = c := by
  unfold ofE
  cases hm : R.m c with
  | none => rfl
  | some x => exact (h.ent c x hm).1
theorem RB.gone {R : Ro} (h : RB R) {c : ByteArray} (hc : c ∉ R.ks) : ofE R c = en0 c := by
  unfold ofE
  cases hm : R.m c with
  | none => rfl
  | some x => exact absurd ((h.mem c).1 (by rw [hm]; rfl)) hc
theorem RB.there {R : Ro} (h : RB R) {c : ByteArray} (hc : c ∈ R.ks) : thr (ofE R c) = true := by
  unfold ofE
  have := (h.mem c).2 hc
  cases hm : R.m c with
  | none => rw [hm] at this; cases this
  | some x => exact (h.ent c x hm).2
/-- An item that was one, or for which there is room. -/
theorem rb_item {R : Ro} (h : RB R) (x : En) (hr : roomB R (ofE R x.c) = true) (hx : x.k = true) : RB (layR R x) := by
  refine rb_lay h x (fun _ => ?_) (fun hk => by rw [hx] at hk; cases hk)
  have e0 := h.kept_oth x.c
  have hi := h.it
  unfold roomB at hr
  rw [ofE_kb] at hr
  cases hk : kb R x.c with
  | true => rw [hk, if_pos rfl] at e0; omega
  | false =>
    rw [hk, if_neg (by decide)] at e0
    rw [hk, Bool.false_or] at hr
    have := of_decide_eq_true hr
    omega
/-- An entry that is no item, where one was. -/
theorem rb_ask {R : Ro} (h : RB R) (x : En) (hk : kb R x.c = false) (hx : x.k = false) (hc : thr x = true → x.c ∈ R.ks ∨ (R.ks.length : Int) - R.kept < R.ak) : RB (layR R x) := by
  refine rb_lay h x (fun h1 => by rw [hx] at h1; cases h1) (fun _ ht => ?_)
  have e1 := h.asks_oth x.c
  have ha := h.ak
  rcases hc ht with h1 | h1
  · rw [if_pos ⟨h1, hk⟩] at e1; omega
  · have e2 := List.length_eq_countP_add_countP (kb R) (l := R.ks)
    have e3 : R.ks.countP (fun a => decide ¬kb R a = true) = R.ks.countP (fun s => !kb R s) := List.countP_congr (fun a _ => by cases kb R a <;> simp)
    rw [e3] at e2
    have e4 := h.kc
    split at e1 <;> omega
theorem rb_turn {R : Ro} (h : RB R) (c : ByteArray) (t : Hf) (hc : (ofE R c).k = false → thr { ofE R c with h := t } = true → c ∈ R.ks ∨ (R.ks.length : Int) - R.kept < R.ak) : RB (turnR R (ofE R c) t) := by
  have hcc := h.of c
  have hl : RB (layR R { ofE R c with h := t }) := by
    cases hk : (ofE R c).k with
    | true =>
      refine rb_item h _ ?_ (by show (ofE R c).k = true; exact hk)
      show roomB R (ofE R (ofE R c).c) = true
      rw [hcc]
      unfold roomB
      rw [hk]; rfl
    | false =>
      refine rb_ask h _ ?_ (by show (ofE R c).k = false; exact hk) (fun ht => ?_)
      · show kb R (ofE R c).c = false
        rw [hcc, ← ofE_kb]; exact hk
      · show (ofE R c).c ∈ R.ks ∨ _
        rw [hcc]
        exact hc hk ht
  unfold turnR
  split
  · exact hl.ver _
  · exact hl
theorem rb_turnI {R : Ro} (h : RB R) (c : ByteArray) (t : Hf) (hr : roomB R (ofE R c) = true) : RB (turnR R { ofE R c with k := true } t) := by
  have hl : RB (layR R { ofE R c with k := true, h := t }) := by
    refine rb_item h _ ?_ rfl
    show roomB R (ofE R (ofE R c).c) = true
    rw [h.of c]; exact hr
  unfold turnR
  split
  · exact hl.ver _
  · exact hl
theorem act_zero {kind x : Int} (h1 : kind ≠ 11) (h2 : kind ≠ 12) : (actA ⟨0, 0, 0, 0⟩ kind x).2 = 0 → (actA ⟨0, 0, 0, 0⟩ kind x).1.2.1 = 0 := by
  intro h0
  unfold actA at *
  rw [if_pos (show okH ⟨0, 0, 0, 0⟩ = true by decide)] at *
  unfold actH at *
  rw [if_neg h1, if_neg h2] at *
  by_cases h3 : kind = 13
  · rw [if_pos h3] at *; rfl
  · rw [if_neg h3] at *
    by_cases h4 : kind = 14
    · rw [if_pos h4] at *; rfl
    · rw [if_neg h4] at *
theorem rb_act {R : Ro} (h : RB R) (c : ByteArray) (kind : Int) : RB (actP R c kind).2.2 := by
  unfold actP
  by_cases h0 : (actA (ofE R c).h kind (R.nx + 1)).2 ≠ 0
  · rw [if_pos h0]; exact h
  · rw [if_neg h0]
    have h0 := Decidable.not_not.1 h0
    by_cases h1 : (actA (ofE R c).h kind (R.nx + 1)).1.2.1 = 0
    · rw [if_pos h1]; exact h
    · rw [if_neg h1]
      by_cases h2 : kind = 11
      · rw [if_pos h2]
        by_cases h3 : roomB R (ofE R c) = true
        · rw [if_pos h3]; exact rb_turnI (R := { R with nx := R.nx + 1 }) (h.nx _) c _ h3
        · rw [if_neg h3]; exact h
      · rw [if_neg h2]
        by_cases h4 : kind = 12
        · rw [if_pos h4]
          by_cases h3 : roomB R (ofE R c) = true
          · rw [if_pos h3]; exact rb_turnI h c _ h3
          · rw [if_neg h3]; exact h
        · rw [if_neg h4]
          refine rb_turn h c _ (fun hk ht => Or.inl ?_)
          refine Classical.byContradiction fun hc => ?_
          have hg := h.gone hc
          rw [hg] at h0 h1
          exact h1 (act_zero h2 h4 h0)
theorem rb_actS {R : Ro} (h : RB R) (s : ByteArray) (kind : Int) : RB (actS R s kind).2.2 := by
  unfold actS
  split
  · exact rb_act h _ kind
  · exact h
theorem hear_zero {mail x : Int} (h1 : mail ≠ 1) : (hearA ⟨0, 0, 0, 0⟩ mail x).1.1.i = 0 := by
  unfold hearA
  rw [if_pos (show okH ⟨0, 0, 0, 0⟩ = true by decide)]
  by_cases hx : x = 0
  · rw [if_pos hx]
  · rw [if_neg hx]
    unfold hearH
    rw [if_neg h1]
    by_cases h2 : mail = 2
    · rw [if_pos h2]; rfl
    · rw [if_neg h2]
      by_cases h3 : mail = 3
      · rw [if_pos h3]; rfl
      · rw [if_neg h3]
        by_cases h4 : mail = 4
        · rw [if_pos h4]; rfl
        · rw [if_neg h4]
theorem rb_hear {R : Ro} (h : RB R) (c : ByteArray) (mail n : Int) : RB (hearP R c mail n).2.2 := by
  unfold hearP
  by_cases h0 : (hearA (ofE R c).h mail n).2 ≠ 0
  · rw [if_pos h0]; exact h
  · rw [if_neg h0]
    by_cases h1 : mail = 1 ∧ thr (ofE R c) = false ∧ decide ((R.ks.length : Int) - R.kept ≥ R.ak) = true
    · rw [if_pos h1]; exact h
    · rw [if_neg h1]
      refine rb_turn h c _ (fun hk ht => ?_)
      refine Classical.byContradiction fun hc => ?_
      have hc1 : c ∉ R.ks := fun e => hc (Or.inl e)
      have hc2 : ¬ ((R.ks.length : Int) - R.kept < R.ak) := fun e => hc (Or.inr e)
      have hg := h.gone hc1
      by_cases hm : mail = 1
      · refine h1 ⟨hm, ?_, ?_⟩
        · rw [hg]; rfl
        · rw [decide_eq_true_eq]; omega
      · have hz : (hearA (ofE R c).h mail n).1.1.i = 0 := by rw [hg]; exact hear_zero hm
        unfold thr at ht
        have ht : ((ofE R c).k || ((hearA (ofE R c).h mail n).1.1.i != 0)) = true := ht
        rw [hk, hz] at ht
        cases ht
theorem rb_hearS {R : Ro} (h : RB R) (s : ByteArray) (mail n : Int) : RB (hearS R s mail n).2.2 := by
  unfold hearS
  split
  · exact rb_hear h _ mail n
  · exact h
theorem rb_drop {R : Ro} (h : RB R) (c : ByteArray) : RB (dropP R c).2.2 := by
  unfold dropP
  split
  · exact (rb_lay h (en0 c) (fun hk => by cases hk) (fun _ ht => by cases ht)).ver _
  · exact h
theorem rb_dropS {R : Ro} (h : RB R) (s : ByteArray) : RB (dropS R s).2.2 := by
  unfold dropS
  split
  · exact rb_drop h _
  · exact h
theorem rb_put {R : Ro} (h : RB R) (c nm : ByteArray) (g : Gr) (gs : List ByteArray) (hp : putE R c nm gs = 0) : RB { layR R (putN R c nm g) with ver := R.ver + 1 } := by
  have hr : roomB R (ofE R c) = true := by
    refine Classical.byContradiction fun hr => ?_
    unfold putE at hp
    rw [if_neg hr] at hp
    split at hp
    · contradiction
    · split at hp
      · contradiction
      · cases hp
  refine (rb_item h (putN R c nm g) ?_ rfl).ver _
  show roomB R (ofE R (ofE R c).c) = true
  rw [h.of c]; exact hr
theorem rb_new (it ak : Int) (h1 : 0 ≤ it) (h2 : 0 ≤ ak) : RB (newR it ak) := ⟨rfl, h1, h2, List.nodup_nil, fun s => by simp [newR], fun s x h => by cases h⟩
end Go.Proofs.YtppdopcghnfapaaGreatDoor

/- roster: two lists of items are the same just when the same is kept (pure). -/
set_option maxRecDepth 100000
namespace Go.Proofs.YtppdopcghnfapaaGreatDoor
open Go.RowKit Go.Sort

/-- A list of copies of all that is kept. -/
structure Lst (R : Ro) (G : ByteArray → List ByteArray) (es : List En) : Prop where
  mem : ∀ e ∈ es, kvw R G e.c = some (e.nm, e.h, G e.c) ∧ e.k = true
  all : ∀ s, kvw R G s ≠ none → ∃ e ∈ es, e.c = s
  nd : (es.map keyE).Nodup
theorem lst_of {w w' : World} {R : Ro} {G : ByteArray → List ByteArray} {es : List En} (hR : RB R) (hp : (es.map keyE).Perm ((R.ks.map fun s => s.data.toList).filter (soP R (·.k)))) (hc : ∀ e ∈ es, Copy w' w.heap.size R G e) : Lst R G es := by
  refine ⟨fun e he => ?_, fun s hs => ?_, ?_⟩
  · obtain ⟨x, hx, e1, _⟩ := hc e he
    have hk : soP R (·.k) (keyE e) = true := by
      have := (hp.mem_iff (a := keyE e)).1 (List.mem_map.2 ⟨e, he, rfl⟩)
      exact (List.mem_filter.1 this).2
    have hk2 : x.k = true := by
      unfold soP keyE at hk
      have e3 : (⟨e.c.data.toList.toArray⟩ : ByteArray) = e.c := ba_ext (by simp)
      rw [e3, hx] at hk
      exact hk
    have n1 : e.nm = x.nm := by rw [e1]
    have n2 : e.h = x.h := by rw [e1]
    have n3 : e.k = x.k := by rw [e1]
    refine ⟨?_, by rw [n3]; exact hk2⟩
    unfold kvw
    rw [hx, n1, n2]
    show (if x.k = true then _ else _) = _
    rw [if_pos hk2]
  · unfold kvw at hs
    cases hm : R.m s with
    | none => rw [hm] at hs; exact absurd rfl hs
    | some x =>
      rw [hm] at hs
      have hk : x.k = true := by
        refine Classical.byContradiction fun h => hs ?_
        show (if x.k = true then _ else _) = _
        rw [if_neg h]
      have h1 : s.data.toList ∈ (R.ks.map fun s => s.data.toList).filter (soP R (·.k)) := by
        refine List.mem_filter.2 ⟨List.mem_map.2 ⟨s, (hR.mem s).1 (by rw [hm]; rfl), rfl⟩, ?_⟩
        unfold soP
        have e3 : (⟨s.data.toList.toArray⟩ : ByteArray) = s := ba_ext (by simp)
        rw [e3, hm]
        exact hk
      obtain ⟨e, he, e1⟩ := List.mem_map.1 ((hp.mem_iff).2 h1)
      exact ⟨e, he, ba_ext e1⟩
  · refine hp.nodup_iff.2 (List.Pairwise.filter _ (List.pairwise_map.2 (hR.nd.imp ?_)))
    intro a b hab e
    exact hab (ba_ext e)
theorem sortE_keys (es : List En) : (sortE es).map keyE = (es.map keyE).mergeSort (fun x y => decide (x ≤ y)) := by
  unfold sortE
  refine List.map_mergeSort (fun a _ b _ => ?_)
  unfold ltE keyE
  by_cases h : a.c.data.toList ≤ b.c.data.toList
  · have h' : ¬ b.c.data.toList < a.c.data.toList := List.not_lt.2 h
    simp [h, h']
  · have h' : b.c.data.toList < a.c.data.toList := List.not_le.1 h
    simp [h, h']
theorem Lst.keys_perm {R1 R0 : Ro} {G1 G0 : ByteArray → List ByteArray} {es1 es0 : List En} (h1 : Lst R1 G1 es1) (h0 : Lst R0 G0 es0) (he : kvw R1 G1 = kvw R0 G0) : (es1.map keyE).Perm (es0.map keyE) := by
  refine (List.perm_ext_iff_of_nodup h1.nd h0.nd).2 (fun z => ?_)
  constructor
  · intro hz
    obtain ⟨e, hm, rfl⟩ := List.mem_map.1 hz
    have := (h1.mem e hm).1
    rw [he] at this
    obtain ⟨e2, hm2, e3⟩ := h0.all e.c (by rw [this]; exact fun h => by cases h)
    exact List.mem_map.2 ⟨e2, hm2, by unfold keyE; rw [e3]⟩
  · intro hz
    obtain ⟨e, hm, rfl⟩ := List.mem_map.1 hz
    have := (h0.mem e hm).1
    rw [← he] at this
    obtain ⟨e2, hm2, e3⟩ := h1.all e.c (by rw [this]; exact fun h => by cases h)
    exact List.mem_map.2 ⟨e2, hm2, by unfold keyE; rw [e3]⟩
theorem sameE_yes {x y : En} {gs hs : List ByteArray} (h : sameE x y gs hs = true) : x.c = y.c ∧ x.nm = y.nm ∧ gs = hs ∧ x.h = y.h := by
  obtain ⟨c, k, nm, g, o, n, i, m⟩ := x
  obtain ⟨c', k', nm', g', o', n', i', m'⟩ := y
  unfold sameE at h
  simp at h
  obtain ⟨⟨⟨⟨⟨⟨⟨h1, _⟩, h3⟩, h4⟩, h5⟩, h6⟩, h7⟩, h8⟩ := h
  subst h5 h6 h7 h8
  exact ⟨h1, h3, h4, rfl⟩
theorem sameE_refl {x y : En} {gs hs : List ByteArray} (h1 : x.c = y.c) (h2 : x.nm = y.nm) (h3 : gs = hs) (h4 : x.h = y.h) (h5 : x.k = y.k) : sameE x y gs hs = true := by
  obtain ⟨c, k, nm, g, o, n, i, m⟩ := x
  obtain ⟨c', k', nm', g', o', n', i', m'⟩ := y
  dsimp only at h1 h2 h4 h5
  subst h1 h2 h3 h5
  injection h4 with a b c d
  subst a b c d
  unfold sameE
  simp
/-- All pairs the same. -/
def allSame (G1 G0 : ByteArray → List ByteArray) : List En → List En → Bool
  | [], [] => true
  | a :: r, b :: t => sameE a b (G1 a.c) (G0 b.c) && allSame G1 G0 r t
  | _, _ => false
theorem allSame_yes {G1 G0 : ByteArray → List ByteArray} : ∀ {l t : List En}, allSame G1 G0 l t = true → ∀ e ∈ l, ∃ f ∈ t, sameE e f (G1 e.c) (G0 f.c) = true
  | [], _, _, e, he => by cases he
  | a :: r, [], h, e, he => by cases h
  | a :: r, b :: t, h, e, he => by
    unfold allSame at h
    obtain ⟨h1, h2⟩ := Bool.and_eq_true_iff.1 h
    rcases List.mem_cons.1 he with e1 | e1
    · exact ⟨b, by simp, by rw [e1]; exact h1⟩
    · obtain ⟨f, hf, h3⟩ := allSame_yes h2 e e1
      exact ⟨f, by simp [hf], h3⟩
theorem allSame_yes2 {G1 G0 : ByteArray → List ByteArray} : ∀ {l t : List En}, allSame G1 G0 l t = true → ∀ f ∈ t, ∃ e ∈ l, sameE e f (G1 e.c) (G0 f.c) = true
  | [], [], _, e, he => by cases he
  | [], b :: t, h, e, he => by cases h
  | a :: r, [], h, e, he => by cases he
  | a :: r, b :: t, h, f, hf => by
    unfold allSame at h
    obtain ⟨h1, h2⟩ := Bool.and_eq_true_iff.1 h
    rcases List.mem_cons.1 hf with e1 | e1
    · exact ⟨a, by simp, by rw [e1]; exact h1⟩
    · obtain ⟨e, he, h3⟩ := allSame_yes2 h2 f e1
      exact ⟨e, by simp [he], h3⟩
theorem allSame_refl {G1 G0 : ByteArray → List ByteArray} : ∀ {l t : List En}, l.map keyE = t.map keyE → (∀ e ∈ l, ∀ f ∈ t, e.c = f.c → sameE e f (G1 e.c) (G0 f.c) = true) → allSame G1 G0 l t = true
  | [], [], _, _ => rfl
  | [], b :: t, h, _ => by cases h
  | a :: r, [], h, _ => by cases h
  | a :: r, b :: t, h, hs => by
    rw [List.map_cons, List.map_cons] at h
    injection h with h1 h2
    unfold allSame
    rw [hs a (by simp) b (by simp) (ba_ext h1), Bool.true_and]
    exact allSame_refl h2 (fun e he f hf => hs e (by simp [he]) f (by simp [hf]))
/-- Two lists of items are the same just when the same is kept. -/
theorem lists_same {R1 R0 : Ro} {G1 G0 : ByteArray → List ByteArray} {es1 es0 : List En} (h1 : Lst R1 G1 es1) (h0 : Lst R0 G0 es0) : allSame G1 G0 (sortE es1) (sortE es0) = true ↔ kvw R1 G1 = kvw R0 G0 := by
  constructor
  · intro h
    funext s
    cases hk : kvw R1 G1 s with
    | some v =>
      obtain ⟨e, he, hc⟩ := h1.all s (by rw [hk]; exact fun h => by cases h)
      obtain ⟨f, hf, hs⟩ := allSame_yes h e ((sortE_perm es1).mem_iff.2 he)
      obtain ⟨a1, a2, a3, a4⟩ := sameE_yes hs
      have b1 := (h1.mem e he).1
      have b0 := (h0.mem f ((sortE_perm es0).mem_iff.1 hf)).1
      rw [hc, hk] at b1
      rw [← a1, hc] at b0
      rw [← a1, hc] at a3
      rw [b1, b0, a2, a4, a3]
    | none =>
      cases hk0 : kvw R0 G0 s with
      | none => rfl
      | some v =>
        obtain ⟨f, hf, hc⟩ := h0.all s (by rw [hk0]; exact fun h => by cases h)
        obtain ⟨e, he, hs⟩ := allSame_yes2 h f ((sortE_perm es0).mem_iff.2 hf)
        obtain ⟨a1, _⟩ := sameE_yes hs
        have b1 := (h1.mem e ((sortE_perm es1).mem_iff.1 he)).1
        rw [a1, hc, hk] at b1
        cases b1
  · intro h
    refine allSame_refl ?_ (fun e he f hf hc => ?_)
    · rw [sortE_keys, sortE_keys]
      exact mergeSort_of_perm (h1.keys_perm h0 h)
    · have b1 := h1.mem e ((sortE_perm es1).mem_iff.1 he)
      have b0 := h0.mem f ((sortE_perm es0).mem_iff.1 hf)
      have e1 := b1.1
      rw [h, hc, b0.1] at e1
      injection e1 with e1
      injection e1 with e1 e2
      injection e2 with e2 e3
      exact sameE_refl hc e1.symm (by rw [hc]; exact e3.symm) e2.symm (by rw [b1.2, b0.2])
end Go.Proofs.YtppdopcghnfapaaGreatDoor

/- roster: the groups behind a roster's entries, whatever is called. -/
set_option maxRecDepth 100000
namespace Go.Proofs.YtppdopcghnfapaaGreatDoor
open Go.RowKit Go.Joins

def nrm (R : Ro) (G : ByteArray → List ByteArray) : ByteArray → List ByteArray := fun s => if (R.m s).isSome = true then G s else []
theorem kvw_nrm (R : Ro) (G : ByteArray → List ByteArray) : kvw R (nrm R G) = kvw R G := by
  funext s
  unfold kvw nrm
  cases hm : R.m s with
  | none => rfl
  | some x => rfl
theorem Moved.nrm {R R' : Ro} {G G' : ByteArray → List ByteArray} {p : Bool} (h : Moved R G R' G' p) : Moved R G R' (nrm R' G') p := by
  unfold Moved
  rw [kvw_nrm]
  exact h
/-- What lies behind a roster's entries; nothing behind those that are not there. -/
structure RX (w : World) (R : Ro) (G : ByteArray → List ByteArray) : Prop where
  rw : RW w R G
  no : ∀ s, R.m s = none → G s = []
theorem RX.keep {S : Nat → Prop} {w w' : World} {R : Ro} {G : ByteArray → List ByteArray} (h : RX w R G) (hk : Keep S w w') (hs : ∀ b, Ty w b → ¬ S b) : RX w' R G := ⟨h.rw.keep hk hs, h.no⟩
theorem ra_notTy {w : World} {q mb : Nat} {R : Ro} (h : RA w q mb R) {b : Nat} (hb : Ty w b) : ¬ (b = q ∨ b = mb) := by
  obtain ⟨cur, hb⟩ := hb
  rintro (e | e)
  · subst e
    have := h.blk
    rw [hb] at this
    injection this with this
    injection this with _ this _
    cases this
  · exact h.map.notCells hb e
/-- An entry that may be laid, its groups read. -/
structure EX (w : World) (x : En) (gs : List ByteArray) : Prop where
  gr : GRd w (gad x.g) x.g.2.1 x.g.2.2 gs
  gb : GB w 0 x.g
  c : x.c.size ≤ 1000000
  nm : x.nm.size ≤ 1000000
  n : x.g.2.1 ≤ 100000
  t : ∀ t ∈ gs, t.size ≤ 281474976710656
theorem ex_none (w : World) (c : ByteArray) (hc : c.size ≤ 1000000) : EX w (en0 c) [] :=
  ⟨⟨rfl, Nat.le_refl _, show 0 ≤ maxLen from Nat.zero_le _, fun h => absurd h (Nat.lt_irrefl 0)⟩, (fun b e => by cases e), hc, show 0 ≤ 1000000 from Nat.zero_le _, show 0 ≤ 100000 from Nat.zero_le _, (fun t h => by cases h)⟩
theorem RX.of {w : World} {R : Ro} {G : ByteArray → List ByteArray} (h : RX w R G) (c : ByteArray) (hc : c.size ≤ 1000000) : EX w (ofE R c) (G c) := by
  unfold ofE
  cases hm : R.m c with
  | none =>
    rw [h.no c hm]
    exact ex_none w c hc
  | some x =>
    obtain ⟨h1, h2, h3, h4⟩ := h.rw.le c x hm
    exact ⟨(h.rw.gr c x hm).1, (h.rw.gr c x hm).2, h2, h3, h4, h.rw.tx c x hm⟩
theorem EX.set {w : World} {x : En} {gs : List ByteArray} (h : EX w x gs) (k : Bool) (t : Hf) : EX w { x with k := k, h := t } gs := ⟨h.gr, h.gb, h.c, h.nm, h.n, h.t⟩
theorem RX.lay {w : World} {R : Ro} {G : ByteArray → List ByteArray} (h : RX w R G) (x : En) (gs : List ByteArray) (hx : EX w x gs) : RX w (layR R x) (nrm (layR R x) (updG G x.c gs)) := by
  have hm : ∀ s y, (layR R x).m s = some y → (s = x.c ∧ y = x) ∨ (s ≠ x.c ∧ R.m s = some y) := by
    intro s y hy
    rw [layR_m] at hy
    by_cases hs : s = x.c
    · subst hs
      rw [mputE_same] at hy
      by_cases ht : thr x = true
      · rw [if_pos ht] at hy; injection hy with hy; exact Or.inl ⟨rfl, hy.symm⟩
      · rw [if_neg ht] at hy; cases hy
    · rw [mputE_other _ _ hs] at hy; exact Or.inr ⟨hs, hy⟩
  have hG : ∀ s y, (layR R x).m s = some y → nrm (layR R x) (updG G x.c gs) s = if s = x.c then gs else G s := by
    intro s y hy
    unfold nrm updG
    rw [hy]
    rfl
  refine ⟨⟨fun s y hy => ?_, fun s y hy => ?_, fun s y hy => ?_⟩, fun s hs => ?_⟩
  · rw [hG s y hy]
    rcases hm s y hy with ⟨h1, h2⟩ | ⟨h1, h2⟩
    · subst h2; rw [if_pos h1]; exact ⟨hx.gr, hx.gb⟩
    · rw [if_neg h1]; exact h.rw.gr s y h2
  · rcases hm s y hy with ⟨h1, h2⟩ | ⟨h1, h2⟩
    · subst h2; exact ⟨h1.symm, hx.c, hx.nm, hx.n⟩
    · exact h.rw.le s y h2
  · rw [hG s y hy]
    rcases hm s y hy with ⟨h1, h2⟩ | ⟨h1, h2⟩
    · rw [if_pos h1]; exact hx.t
    · rw [if_neg h1]; exact h.rw.tx s y h2
  · unfold nrm
    rw [hs]
    rfl
theorem RX.ver {w : World} {R : Ro} {G : ByteArray → List ByteArray} (h : RX w R G) (v : Int) : RX w { R with ver := v } G := ⟨⟨h.rw.gr, h.rw.le, h.rw.tx⟩, h.no⟩
theorem RX.nx {w : World} {R : Ro} {G : ByteArray → List ByteArray} (h : RX w R G) (v : Int) : RX w { R with nx := v } G := ⟨⟨h.rw.gr, h.rw.le, h.rw.tx⟩, h.no⟩
theorem RX.nrm {w : World} {R : Ro} {G : ByteArray → List ByteArray} (h : RX w R G) : RX w R (nrm R G) := by
  have e : Go.Proofs.YtppdopcghnfapaaGreatDoor.nrm R G = G := by
    funext s
    unfold Go.Proofs.YtppdopcghnfapaaGreatDoor.nrm
    cases hm : R.m s with
    | none => rw [h.no s hm]; rfl
    | some x => rfl
  rw [e]; exact h
theorem RX.turn {w : World} {R : Ro} {G : ByteArray → List ByteArray} (h : RX w R G) (c : ByteArray) (hc : c.size ≤ 1000000) (hcc : (ofE R c).c = c) (k : Bool) (t : Hf) : RX w (turnR R { ofE R c with k := k } t) (Go.Proofs.YtppdopcghnfapaaGreatDoor.nrm (turnR R { ofE R c with k := k } t) G) := by
  have hl := h.lay { ofE R c with k := k, h := t } (G c) ((h.of c hc).set k t)
  have e1 : updG G ({ ofE R c with k := k, h := t } : En).c (G c) = G := by
    show updG G (ofE R c).c (G c) = G
    rw [hcc, updG_id]
  rw [e1] at hl
  unfold turnR
  split
  · exact hl.ver _
  · exact hl
theorem RX.act {w : World} {R : Ro} {G : ByteArray → List ByteArray} (h : RX w R G) (hb : RB R) (c : ByteArray) (hc : c.size ≤ 1000000) (kind : Int) : RX w (actP R c kind).2.2 (Go.Proofs.YtppdopcghnfapaaGreatDoor.nrm (actP R c kind).2.2 G) := by
  unfold actP
  split
  · exact h.nrm
  · split
    · exact h.nrm
    · split
      · split
        · exact RX.turn (R := { R with nx := R.nx + 1 }) (h.nx _) c hc (hb.of c) true _
        · exact h.nrm
      · split
        · split
          · exact h.turn c hc (hb.of c) true _
          · exact h.nrm
        · exact h.turn c hc (hb.of c) (ofE R c).k _
theorem RX.actS {w : World} {R : Ro} {G : ByteArray → List ByteArray} (h : RX w R G) (hb : RB R) (s : ByteArray) (hs : (prepB s).size ≤ 1000000) (kind : Int) : RX w (actS R s kind).2.2 (Go.Proofs.YtppdopcghnfapaaGreatDoor.nrm (actS R s kind).2.2 G) := by
  unfold Go.Proofs.YtppdopcghnfapaaGreatDoor.actS
  split
  · exact h.act hb _ hs kind
  · exact h.nrm
theorem RX.hear {w : World} {R : Ro} {G : ByteArray → List ByteArray} (h : RX w R G) (hb : RB R) (c : ByteArray) (hc : c.size ≤ 1000000) (mail n : Int) : RX w (hearP R c mail n).2.2 (Go.Proofs.YtppdopcghnfapaaGreatDoor.nrm (hearP R c mail n).2.2 G) := by
  unfold hearP
  split
  · exact h.nrm
  · split
    · exact h.nrm
    · exact h.turn c hc (hb.of c) (ofE R c).k _
theorem RX.hearS {w : World} {R : Ro} {G : ByteArray → List ByteArray} (h : RX w R G) (hb : RB R) (s : ByteArray) (hs : (prepB s).size ≤ 1000000) (mail n : Int) : RX w (hearS R s mail n).2.2 (Go.Proofs.YtppdopcghnfapaaGreatDoor.nrm (hearS R s mail n).2.2 G) := by
  unfold Go.Proofs.YtppdopcghnfapaaGreatDoor.hearS
  split
  · exact h.hear hb _ hs mail n
  · exact h.nrm
theorem RX.drop {w : World} {R : Ro} {G : ByteArray → List ByteArray} (h : RX w R G) (c : ByteArray) (hc : c.size ≤ 1000000) : RX w (dropP R c).2.2 (Go.Proofs.YtppdopcghnfapaaGreatDoor.nrm (dropP R c).2.2 G) := by
  unfold dropP
  split
  · have hl := h.lay (en0 c) [] (ex_none w c hc)
    have e : Go.Proofs.YtppdopcghnfapaaGreatDoor.nrm (layR R (en0 c)) (updG G (en0 c).c []) = Go.Proofs.YtppdopcghnfapaaGreatDoor.nrm (layR R (en0 c)) G := by
      funext s
      unfold Go.Proofs.YtppdopcghnfapaaGreatDoor.nrm updG
      rw [layR_m, if_neg (show ¬ thr (en0 c) = true from fun e => by cases e), show (en0 c).c = c from rfl]
      by_cases hs : s = c
      · rw [hs, mputE_same]; rfl
      · rw [if_neg hs]
    rw [e] at hl
    exact hl.ver _
  · exact h.nrm
theorem RX.dropS {w : World} {R : Ro} {G : ByteArray → List ByteArray} (h : RX w R G) (s : ByteArray) (hs : (prepB s).size ≤ 1000000) : RX w (dropS R s).2.2 (Go.Proofs.YtppdopcghnfapaaGreatDoor.nrm (dropS R s).2.2 G) := by
  unfold Go.Proofs.YtppdopcghnfapaaGreatDoor.dropS
  split
  · exact h.drop _ hs
  · exact h.nrm
end Go.Proofs.YtppdopcghnfapaaGreatDoor

/- subs.State, subs.Sub. -/
set_option maxRecDepth 100000
namespace Go.Proofs.YtppdopcghnfapaaGreatDoor
open Go.RowKit Go.Joins

/-- The names of the nine states, by Out and by In. -/
def stT : List ByteArray := [⟨#[78, 111, 110, 101]⟩, ⟨#[78, 111, 110, 101, 32, 43, 32, 80, 101, 110, 100, 105, 110, 103, 32, 73, 110]⟩, ⟨#[70, 114, 111, 109]⟩, ⟨#[78, 111, 110, 101, 32, 43, 32, 80, 101, 110, 100, 105, 110, 103, 32, 79, 117, 116]⟩, ⟨#[78, 111, 110, 101, 32, 43, 32, 80, 101, 110, 100, 105, 110, 103, 32, 79, 117, 116, 43, 73, 110]⟩, ⟨#[70, 114, 111, 109, 32, 43, 32, 80, 101, 110, 100, 105, 110, 103, 32, 79, 117, 116]⟩, ⟨#[84, 111]⟩, ⟨#[84, 111, 32, 43, 32, 80, 101, 110, 100, 105, 110, 103, 32, 73, 110]⟩, ⟨#[66, 111, 116, 104]⟩]
/-- What a roster says of them. -/
def sbT : List ByteArray := [⟨#[110, 111, 110, 101]⟩, ⟨#[110, 111, 110, 101]⟩, ⟨#[102, 114, 111, 109]⟩, ⟨#[110, 111, 110, 101, 44, 97, 115, 107]⟩, ⟨#[110, 111, 110, 101, 44, 97, 115, 107]⟩, ⟨#[102, 114, 111, 109, 44, 97, 115, 107]⟩, ⟨#[116, 111]⟩, ⟨#[116, 111]⟩, ⟨#[98, 111, 116, 104]⟩]

theorem in3_nat {s : Int} (h : in3 s = true) : ∃ o : Nat, o < 3 ∧ s = o := by
  obtain ⟨h1, h2⟩ := Bool.and_eq_true_iff.1 h
  have h1 := of_decide_eq_true h1
  have h2 := of_decide_eq_true h2
  exact ⟨s.toNat, by omega, by omega⟩
theorem okH_nat {h : Hf} (hk : okH h = true) : ∃ o i : Nat, o < 3 ∧ i < 3 ∧ h = ⟨o, h.n, i, h.m⟩ := by
  obtain ⟨h1, h2⟩ := Bool.and_eq_true_iff.1 hk
  obtain ⟨o, ho, eo⟩ := in3_nat (Bool.and_eq_true_iff.1 h1).1
  obtain ⟨i, hi, ei⟩ := in3_nat (Bool.and_eq_true_iff.1 h2).1
  refine ⟨o, i, ho, hi, ?_⟩
  rw [← eo, ← ei]

/-- The package's table holds the names. -/
def Ts (w : World) : Prop := 0 < w.heap.size ∧ ∀ k, k < 9 → w.cell? ⟨0, k, none⟩ = some (.string (stT.getD k ⟨#[]⟩))
theorem Ts.below {w w' : World} (h : Ts w) (hb : Below w.heap.size w w') : Ts w' := by
  refine ⟨Nat.lt_of_lt_of_le h.1 hb.size, fun k hk => ?_⟩
  have e := hb.block 0 h.1
  have := h.2 k hk
  unfold World.cell? at this ⊢
  rw [e]
  exact this
def names (h : Hf) : ByteArray := if okH h = true then stT.getD (3 * h.o.toNat + h.i.toNat) ⟨#[]⟩ else ⟨#[]⟩

set_option maxHeartbeats 1600000 in
theorem namesC_ok (b o i : Nat) (ho : o < 3) (hi : i < 3) (n m : Int) (w : World) (A : HfAt w b ⟨o, n, i, m⟩) (B : w.heap[b + 1]? = some (.cells #[.string ⟨#[]⟩] 9 (0, 0))) (hT : Ts w) (hk : okH ⟨o, n, i, m⟩ = true) :
    Calls Tryz.prog 128 #[.pointer (some ⟨b, 0, none⟩), .pointer (some ⟨b + 1, 0, none⟩)] w fun e w' => e = .returned (.tuple #[]) ∧ w'.heap[b + 1]? = some (.cells #[.string (stT.getD (3 * o + i) ⟨#[]⟩)] 9 (0, 0)) ∧ Keep (fun j => j = b + 1) w w' := by
  have hw := fun w => checkH_ok ⟨o, n, i, m⟩ w hk
  unfold hfv hfc at hw
  have c0 := A.c0
  have c1 := A.c1
  have c2 := A.c2
  have c3 := A.c3
  simp only at c0 c1 c2 c3
  clear hk
  generalize hv : stT.getD (3 * o + i) ⟨#[]⟩ = v
  have hf : ∀ w1 : World, Below w.heap.size w w1 → w1.cell? ⟨0, 3 * o + i, none⟩ = some (.string v) := fun w1 hb => by have := (hT.below hb).2 (3 * o + i) (by omega); rw [hv] at this; exact this
  clear hv
  have o1 : (o : Int) < 3 := by omega
  have i1 : (i : Int) < 3 := by omega
  have o0 : ¬ (o : Int) < 0 := by omega
  have i0 : ¬ (i : Int) < 0 := by omega
  go_enter Tryz.func128, Tryz.ntmps128
  go_upto_region 1 with (first
    | (go_at_call 122; refine (hw _).mono ?_; rintro e w1 ⟨rfl, hb1⟩)
    | fail)
  refine wp_region_lx (fun w' => HfAt w' b ⟨o, n, i, m⟩ ∧ w'.cell? ⟨0, 3 * o + i, none⟩ = some (.string v)) [7] 8 (by kernel_rfl) (by kernel_rfl) ?_
  have b1 := hb1.drew
  have hf1 := hf _ b1
  have HS : HfAt w1.drew b ⟨o, n, i, m⟩ ∧ w1.drew.cell? ⟨0, 3 * o + i, none⟩ = some (.string v) := ⟨A.below b1 A.lt, hf1⟩
  have B1 : w1.drew.heap[b + 1]? = some (.cells #[.string ⟨#[]⟩] 9 (0, 0)) := box_below B b1
  clear hf1 A B hT hb1 hf c0 c1 c2 c3 hw
  generalize w1.drew = W at HS B1 b1 ⊢
  refine lx_r 0 _ HS ?_; simp only [lxa, lxb, lxc]
  refine lx_r 1 (.int .i64 (o : Int)) HS ?_ (hv := fun w' hS => by have z0 := hS.1.c0; simp only at z0; first | (go_simp; rfl) | go_simp); simp only [lxa, lxb, lxc]
  refine lx_r 2 _ HS ?_; simp only [lxa, lxb, lxc]
  refine lx_r 3 (.int .i64 (i : Int)) HS ?_ (hv := fun w' hS => by have z0 := hS.1.c2; simp only at z0; first | (go_simp; rfl) | go_simp); simp only [lxa, lxb, lxc]
  refine lx_r 4 (.pointer (some ⟨0, 3 * o, none⟩)) HS ?_ (hv := fun w' hS => by have q0 := 0; first | (go_simp; rfl) | go_simp); simp only [lxa, lxb, lxc]
  refine lx_r 5 (.pointer (some ⟨0, 3 * o + i, none⟩)) HS ?_ (hv := fun w' hS => by have q0 := 0; first | (go_simp; rfl) | go_simp); simp only [lxa, lxb, lxc]
  refine lx_r 6 (.string v) HS ?_ (hv := fun w' hS => by have z0 := hS.2; first | (go_simp; rfl) | go_simp); simp only [lxa, lxb, lxc]
  refine lx_one 7 (by kernel_rfl) (stepT_store (w' := W.setCell ⟨b + 1, 0, none⟩ (.string v)) rfl rfl rfl ?d7 (fun h => by cases h) ?_)
  case d7 => (have z0 := cell_one B1; have z1 := thaw_one B1; go_simp)
  refine lx_nil (by kernel_rfl) ?_
  go_wp2
  go_end0
  exact ⟨rfl, heap_setCell_same _ (b + 1) 0 _ _ _ B1, (Keep.ofBelow b1).trans (keepC _ _ _)⟩
theorem namesC_any (b : Nat) (h : Hf) (w : World) (A : HfAt w b h) (B : w.heap[b + 1]? = some (.cells #[.string ⟨#[]⟩] 9 (0, 0))) (hT : Ts w) :
    Calls Tryz.prog 128 #[.pointer (some ⟨b, 0, none⟩), .pointer (some ⟨b + 1, 0, none⟩)] w fun e w' => Gs (if okH h = true then 0 else 1) e ∧ w'.heap[b + 1]? = some (.cells #[.string (names h)] 9 (0, 0)) ∧ Keep (fun j => j = b + 1) w w' := by
  cases hk : okH h with
  | true =>
    unfold names
    obtain ⟨o, i, ho, hi, eh⟩ := okH_nat hk
    generalize h.n = n at eh
    generalize h.m = m at eh
    subst eh
    rw [if_pos hk, if_pos rfl]
    refine (namesC_ok b o i ho hi n m w A B hT hk).mono ?_
    rintro e w' ⟨rfl, h1, h2⟩
    exact ⟨Or.inl ⟨rfl, rfl⟩, h1, h2⟩
  | false =>
    rw [if_neg (by decide)]
    have en : names h = ⟨#[]⟩ := by unfold names; rw [if_neg (by rw [hk]; decide)]
    rw [en]
    have hw := fun w => checkH_no h w hk
    unfold hfv hfc at hw
    have c0 := A.c0
    have c1 := A.c1
    have c2 := A.c2
    have c3 := A.c3
    clear hk en
    go_enter Tryz.func128, Tryz.ntmps128
    go_wp2_with (first
      | (go_at_call 122; refine (hw _).mono ?_; rintro e w1 ⟨rfl, hb1⟩))
    exact ⟨rfl, gs_no (by decide) rfl, box_below B hb1, Keep.ofBelow hb1⟩
theorem attempt_names (b : Nat) (h : Hf) (w : World) (A : HfAt w b h) (B : w.heap[b + 1]? = some (.cells #[.string ⟨#[]⟩] 9 (0, 0))) (hT : Ts w) :
    Calls Tryz.prog 120 #[.func (.func 128) #[] #[.pointer (some ⟨b, 0, none⟩), .pointer (some ⟨b + 1, 0, none⟩)]] w fun e w' =>
      ∃ n : Nat, e = .returned (.int .i64 n) ∧ w'.heap[b + 1]? = some (.cells #[.string (names h)] 9 (0, 0)) ∧ Keep (fun j => j = b + 1) w w' := by
  have hl : b + 1 < w.heap.size := (Array.getElem?_eq_some_iff.1 B).1
  have h1 := below1 w (.cells #[.int .i64 0] 24)
  refine (attemptS 128 _ (if okH h = true then 0 else 1) (fun w' => w'.heap[b + 1]? = some (.cells #[.string (names h)] 9 (0, 0)) ∧ Keep (fun j => j = b + 1) (w.alloc (.cells #[.int .i64 0] 24)) w') w (fun args w => by kernel_rfl) ((namesC_any b h _ (A.below h1 A.lt) (box_below B h1) (hT.below h1)).mono ?_)).mono ?_
  · rintro e w' ⟨hg, B', hk⟩
    exact ⟨hg, ⟨B', hk⟩, box_keep (alloc_at w _) hk (by omega)⟩
  · rintro e w' ⟨rfl, w1, ⟨B', hk⟩, rfl⟩
    refine ⟨_, rfl, box_keep B' (keepC w1 w.heap.size _) (by omega), ?_⟩
    exact (((Keep.refl _ w).alloc _).trans hk).setNew (p := ⟨w.heap.size, 0, none⟩) (Nat.le_refl _) _
set_option maxHeartbeats 800000 in
theorem fState_any (h : Hf) (w : World) (hT : Ts w) : Calls Tryz.prog 108 #[hfv h] w fun e w' => e = .returned (.string (names h)) ∧ Below w.heap.size w w' := by
  have hb := below2 w (.cells (hfc h) 49) (.cells #[.string ⟨#[]⟩] 9)
  have hc := attempt_names w.heap.size h ((w.alloc (.cells (hfc h) 49)).alloc (.cells #[.string ⟨#[]⟩] 9)) (push_old (push_at _ _ rfl)) (push_at _ _ (by simp)) (hT.below hb)
  generalize names h = v at hc ⊢
  unfold hfv
  unfold hfc at hc hb ⊢
  go_enter Tryz.func108, Tryz.ntmps108
  go_wp2_with (first
    | (go_at_call 120; refine hc.mono ?_; rintro e w7 ⟨n, rfl, B7, k7⟩; have b7 : Below w.heap.size w w7 := hb.trans (k7.below hb.size (fun q hq => by omega)); have z0 := cell_one B7; have z1 := thaw_one B7))
  have B8 := heap_setCell_same _ _ 0 _ _ (.string v) B7
  have b8 := b7.trans ((keepC w7 (w.heap.size + 1) (.string v)).below b7.size (fun q hq => by omega))
  have y0 := cell_one B8
  simp [bodyPost, results, Tryz.results108, go_sem, y0]
  exact b8

def nameu (h : Hf) : ByteArray := if okH h = true then sbT.getD (3 * h.o.toNat + h.i.toNat) ⟨#[]⟩ else ⟨#[]⟩

end Go.Proofs.YtppdopcghnfapaaGreatDoor

/- subs: the law's small functions; what stays right. -/
set_option maxRecDepth 100000
namespace Go.Proofs.YtppdopcghnfapaaGreatDoor
open Go.RowKit Go.Joins

theorem okR_cases {s n : Int} (h : okR s n = true) : (s = 0 ∧ n = 0) ∨ (s = 1 ∧ n ≠ 0) ∨ (s = 2 ∧ n ≠ 0) := by
  obtain ⟨h0, h3⟩ := Bool.and_eq_true_iff.1 h
  obtain ⟨o, ho, rfl⟩ := in3_nat h0
  have h4 : ((o : Int) == 0) = (n == 0) := by simpa using h3
  have this : (o : Int) = 0 ↔ n = 0 := by
    rw [← beq_iff_eq, h4, beq_iff_eq]
  rcases o with _ | _ | _ | o
  · exact Or.inl ⟨rfl, by simpa using this⟩
  · exact Or.inr (Or.inl ⟨rfl, by intro e; have := this.2 e; omega⟩)
  · exact Or.inr (Or.inr ⟨rfl, by intro e; have := this.2 e; omega⟩)
  · omega
theorem okR_0 : okR 0 0 = true := rfl
theorem okR_1 {n : Int} (h : n ≠ 0) : okR 1 n = true := by
  have : (n == 0) = false := by simpa using h
  unfold okR; rw [this]; rfl
theorem okR_2 {n : Int} (h : n ≠ 0) : okR 2 n = true := by
  have : (n == 0) = false := by simpa using h
  unfold okR; rw [this]; rfl
theorem okH_mk {h : Hf} (h1 : okR h.o h.n = true) (h2 : okR h.i h.m = true) : okH h = true := by unfold okH; rw [h1, h2]; rfl
theorem okH_1 {h : Hf} (hk : okH h = true) : okR h.o h.n = true := (Bool.and_eq_true_iff.1 hk).1
theorem okH_2 {h : Hf} (hk : okH h = true) : okR h.i h.m = true := (Bool.and_eq_true_iff.1 hk).2
theorem ok_ask {h : Hf} (hk : okH h = true) {x : Int} (hx : x ≠ 0) : okH (askH h x).1 = true := by
  unfold askH
  split
  · exact okH_mk (okR_1 hx) (okH_2 (h := h) hk)
  · exact hk
theorem ok_grant {h : Hf} (hk : okH h = true) : okH (grantH h).1 = true := by
  unfold grantH
  split
  · rename_i e
    refine okH_mk (okH_1 (h := h) hk) (okR_2 ?_)
    rcases okR_cases (okH_2 (h := h) hk) with ⟨a, _⟩ | ⟨_, b⟩ | ⟨a, _⟩ <;> first | exact b | omega
  · exact hk
theorem ok_leave {h : Hf} (hk : okH h = true) : okH (leaveH h).1 = true := by
  unfold leaveH
  split
  · exact hk
  · exact okH_mk okR_0 (okH_2 (h := h) hk)
theorem ok_deny {h : Hf} (hk : okH h = true) : okH (denyH h).1 = true := by
  unfold denyH
  split
  · exact hk
  · exact okH_mk (okH_1 (h := h) hk) okR_0
theorem ok_act {h : Hf} (hk : okH h = true) {kind x : Int} {r : Hf × Int × Int} (hr : actH h kind x = some r) : okH r.1 = true := by
  unfold actH at hr
  split at hr
  · split at hr
    · cases hr
    · rename_i hx
      cases hr
      exact ok_ask hk hx
  · split at hr
    · cases hr; exact ok_grant hk
    · split at hr
      · cases hr; exact ok_leave hk
      · split at hr
        · cases hr; exact ok_deny hk
        · cases hr
theorem ok_hear {h : Hf} (hk : okH h = true) {mail x : Int} (hx : x ≠ 0) {r : Hf × Int} (hr : hearH h mail x = some r) : okH r.1 = true := by
  unfold hearH at hr
  split at hr
  · cases hr; exact okH_mk (okH_1 (h := h) hk) (okR_1 hx)
  · split at hr
    · cases hr
      unfold hLeaveH
      split
      · exact hk
      · split
        · exact okH_mk (okH_1 (h := h) hk) okR_0
        · exact hk
    · split at hr
      · cases hr
        unfold hGrantH
        split
        · split
          · rename_i e1 e2
            refine okH_mk (okR_2 ?_) (okH_2 (h := h) hk)
            rcases okR_cases (okH_1 (h := h) hk) with ⟨a, _⟩ | ⟨_, b⟩ | ⟨a, _⟩ <;> first | exact b | omega
          · exact hk
        · exact hk
      · split at hr
        · cases hr
          unfold hDenyH
          split
          · exact hk
          · split
            · exact okH_mk okR_0 (okH_2 (h := h) hk)
            · exact hk
        · cases hr
/-- A right half, behind an act that is no error, is right. -/
theorem ok_actA {h : Hf} (hk : okH h = true) {kind x : Int} (h0 : (actA h kind x).2 = 0) : okH (actA h kind x).1.1 = true := by
  unfold actA at h0 ⊢
  rw [if_pos hk] at h0 ⊢
  cases hr : actH h kind x with
  | none => rw [hr] at h0; cases h0
  | some r => exact ok_act hk hr
theorem ok_hearA {h : Hf} (hk : okH h = true) {mail x : Int} (h0 : (hearA h mail x).2 = 0) : okH (hearA h mail x).1.1 = true := by
  unfold hearA at h0 ⊢
  rw [if_pos hk] at h0 ⊢
  split at h0
  · cases h0
  · rename_i hx
    rw [if_neg hx]
    cases hr : hearH h mail x with
    | none => rw [hr] at h0; cases h0
    | some r => exact ok_hear hk hx hr
end Go.Proofs.YtppdopcghnfapaaGreatDoor

/- SubsTables: the law's half, table, same. -/
set_option maxRecDepth 100000
namespace Go.Proofs.YtppdopcghnfapaaGreatDoor
open Go.RowKit Go.Joins

/-- The events' names: four that go out, four that come in. -/
def evT : List ByteArray := [⟨#[111, 117, 116, 32, 115, 117, 98, 115, 99, 114, 105, 98, 101]⟩, ⟨#[111, 117, 116, 32, 117, 110, 115, 117, 98, 115, 99, 114, 105, 98, 101]⟩, ⟨#[111, 117, 116, 32, 115, 117, 98, 115, 99, 114, 105, 98, 101, 100]⟩, ⟨#[111, 117, 116, 32, 117, 110, 115, 117, 98, 115, 99, 114, 105, 98, 101, 100]⟩, ⟨#[105, 110, 32, 115, 117, 98, 115, 99, 114, 105, 98, 101]⟩, ⟨#[105, 110, 32, 117, 110, 115, 117, 98, 115, 99, 114, 105, 98, 101]⟩, ⟨#[105, 110, 32, 115, 117, 98, 115, 99, 114, 105, 98, 101, 100]⟩, ⟨#[105, 110, 32, 117, 110, 115, 117, 98, 115, 99, 114, 105, 98, 101, 100]⟩]
/-- RFC 6121's tables, by event. -/
def tbT : List (List Int) := [[1, (-1), 3, (-1), (-1), (-1), 7, (-1), (-1)], [(-1), 0, (-1), 2, 0, 2, (-1), 6, 6], [(-1), (-1), 6, 7, (-1), 8, (-1), (-1), (-1)], [(-1), (-1), 0, 1, (-1), 4, 0, 1, 4], [2, 3, (-1), (-1), 5, (-1), (-1), (-1), (-1)], [(-1), (-1), 0, 1, (-1), 4, 0, 1, 4], [(-1), 4, (-1), 5, (-1), (-1), (-1), 8, (-1)], [(-1), 0, (-1), 2, 0, 2, (-1), 6, 6]]
def ic (k : IntKind) (xs : List Int) : List Value := xs.map (Value.int k)

theorem below_z4 (w : World) (a b c d : Obj) : Below w.heap.size w ((((w.alloc a).alloc b).alloc c).drew.alloc d) := ((((((Below.refl _ _).alloc (Nat.le_refl _) _).alloc (by simp) _).alloc (by simp; omega) _)).drew).alloc (by simp [World.drew]; omega) _
/-- The half of a state, with the numbers of its requests. -/
def hfS (s : Nat) (n m : Int) : Hf := ⟨[0, 1, 0, 1, 2, 2, 0, 1, 2].getD s 0, if [0, 1, 0, 1, 2, 2, 0, 1, 2].getD s (0 : Int) = 0 then 0 else n, [0, 0, 1, 1, 0, 1, 2, 2, 2].getD s 0, if [0, 0, 1, 1, 0, 1, 2, 2, 2].getD s (0 : Int) = 0 then 0 else m⟩

end Go.Proofs.YtppdopcghnfapaaGreatDoor

/- SubsTables: the tables, state by state (pure). -/
set_option maxRecDepth 100000
namespace Go.Proofs.YtppdopcghnfapaaGreatDoor
open Go.RowKit Go.Joins

/-- The names of the nine states, in the law's order. -/
def nmT : List ByteArray := [stT.getD 0 ⟨#[]⟩, stT.getD 3 ⟨#[]⟩, stT.getD 1 ⟨#[]⟩, stT.getD 4 ⟨#[]⟩, stT.getD 6 ⟨#[]⟩, stT.getD 7 ⟨#[]⟩, stT.getD 2 ⟨#[]⟩, stT.getD 5 ⟨#[]⟩, stT.getD 8 ⟨#[]⟩]
def kiT (i : Nat) : Int := [11, 13, 12, 14].getD i 0
def maT (i : Nat) : Int := [1, 2, 3, 4].getD i 0
def wnT (k s : Nat) : Int := (tbT.getD k []).getD s 0
def kOf (i : Nat) (n m : Int) : Int := if i = 0 then m + 1 else if i < 2 then m else n

theorem names_at (o i : Nat) (n m : Int) (h : okH ⟨o, n, i, m⟩ = true) : names ⟨o, n, i, m⟩ = stT.getD (3 * o + i) ⟨#[]⟩ := by unfold names; rw [if_pos h]; rfl
theorem okS {o i : Nat} {n m : Int} (h1 : okR o n = true) (h2 : okR i m = true) : okH ⟨o, n, i, m⟩ = true := okH_mk h1 h2
theorem hfS_ok (s : Nat) (hs : s < 9) (n m : Int) (hn : n ≠ 0) (hm : m ≠ 0) : okH (hfS s n m) = true ∧ names (hfS s n m) = nmT.getD s ⟨#[]⟩ := by
  rcases s with _ | _ | _ | _ | _ | _ | _ | _ | _ | s
  · exact ⟨okS (o := 0) (i := 0) okR_0 okR_0, names_at 0 0 0 0 (okS okR_0 okR_0)⟩
  · exact ⟨okS (o := 1) (i := 0) (okR_1 hn) okR_0, names_at 1 0 n 0 (okS (okR_1 hn) okR_0)⟩
  · exact ⟨okS (o := 0) (i := 1) okR_0 (okR_1 hm), names_at 0 1 0 m (okS okR_0 (okR_1 hm))⟩
  · exact ⟨okS (o := 1) (i := 1) (okR_1 hn) (okR_1 hm), names_at 1 1 n m (okS (okR_1 hn) (okR_1 hm))⟩
  · exact ⟨okS (o := 2) (i := 0) (okR_2 hn) okR_0, names_at 2 0 n 0 (okS (okR_2 hn) okR_0)⟩
  · exact ⟨okS (o := 2) (i := 1) (okR_2 hn) (okR_1 hm), names_at 2 1 n m (okS (okR_2 hn) (okR_1 hm))⟩
  · exact ⟨okS (o := 0) (i := 2) okR_0 (okR_2 hm), names_at 0 2 0 m (okS okR_0 (okR_2 hm))⟩
  · exact ⟨okS (o := 1) (i := 2) (okR_1 hn) (okR_2 hm), names_at 1 2 n m (okS (okR_1 hn) (okR_2 hm))⟩
  · exact ⟨okS (o := 2) (i := 2) (okR_2 hn) (okR_2 hm), names_at 2 2 n m (okS (okR_2 hn) (okR_2 hm))⟩
  · omega

/-- What an act must do. -/
def ActR (h : Hf) (i : Nat) (wt : Int) (r : (Hf × Int × Int) × Nat) : Prop := r.2 = 0 ∧ ((wt < 0 ∧ r.1.2.1 = 0 ∧ r.1.1 = h) ∨ (0 ≤ wt ∧ wt < 9 ∧ r.1.2.1 = maT i ∧ names r.1.1 = nmT.getD wt.toNat ⟨#[]⟩))
def HearR (h : Hf) (i : Nat) (wt : Int) (r : (Hf × Int) × Nat) : Prop := r.2 = 0 ∧ ((i = 0 ∧ wt < 0) ∨ (wt < 0 ∧ r.1.2 = 0 ∧ r.1.1 = h) ∨ (0 ≤ wt ∧ wt < 9 ∧ r.1.2 ≠ 0 ∧ names r.1.1 = nmT.getD wt.toNat ⟨#[]⟩))

theorem actA_ask {h : Hf} (hk : okH h = true) {x : Int} (hx : x ≠ 0) : actA h 11 x = (askH h x, 0) := by unfold actA; rw [if_pos hk]; unfold actH; rw [if_pos rfl, if_neg hx]
theorem actA_grant {h : Hf} (hk : okH h = true) (x : Int) : actA h 12 x = (grantH h, 0) := by unfold actA; rw [if_pos hk]; rfl
theorem actA_leave {h : Hf} (hk : okH h = true) (x : Int) : actA h 13 x = (leaveH h, 0) := by unfold actA; rw [if_pos hk]; rfl
theorem actA_deny {h : Hf} (hk : okH h = true) (x : Int) : actA h 14 x = (denyH h, 0) := by unfold actA; rw [if_pos hk]; rfl
theorem hearA_at {h : Hf} (hk : okH h = true) {x : Int} (hx : x ≠ 0) {mail : Int} {r : Hf × Int} (hr : hearH h mail x = some r) : hearA h mail x = (r, 0) := by unfold hearA; rw [if_pos hk, if_neg hx, hr]
theorem nm_of {h : Hf} (hk : okH h = true) {v : ByteArray} (e : stT.getD (3 * h.o.toNat + h.i.toNat) ⟨#[]⟩ = v) : names h = v := by unfold names; rw [if_pos hk]; exact e

theorem act_tab (s : Nat) (hs : s < 9) (i : Nat) (hi : i < 4) (n m : Int) (hn : n ≠ 0) (hm : m ≠ 0) (hn1 : n + 1 ≠ 0) : ActR (hfS s n m) i (wnT i s) (actA (hfS s n m) (kiT i) (n + 1)) := by
  have hk := (hfS_ok s hs n m hn hm).1
  rcases i with _ | _ | _ | _ | i
  · rw [show kiT 0 = 11 from rfl, actA_ask hk hn1]
    have hk' := ok_ask hk hn1
    rcases s with _ | _ | _ | _ | _ | _ | _ | _ | _ | s <;> first | omega | exact ⟨rfl, Or.inl ⟨by decide, rfl, rfl⟩⟩ | exact ⟨rfl, Or.inr ⟨by decide, by decide, rfl, nm_of hk' rfl⟩⟩
  · rw [show kiT 1 = 13 from rfl, actA_leave hk]
    have hk' := ok_leave hk
    rcases s with _ | _ | _ | _ | _ | _ | _ | _ | _ | s <;> first | omega | exact ⟨rfl, Or.inl ⟨by decide, rfl, rfl⟩⟩ | exact ⟨rfl, Or.inr ⟨by decide, by decide, rfl, nm_of hk' rfl⟩⟩
  · rw [show kiT 2 = 12 from rfl, actA_grant hk]
    have hk' := ok_grant hk
    rcases s with _ | _ | _ | _ | _ | _ | _ | _ | _ | s <;> first | omega | exact ⟨rfl, Or.inl ⟨by decide, rfl, rfl⟩⟩ | exact ⟨rfl, Or.inr ⟨by decide, by decide, rfl, nm_of hk' rfl⟩⟩
  · rw [show kiT 3 = 14 from rfl, actA_deny hk]
    have hk' := ok_deny hk
    rcases s with _ | _ | _ | _ | _ | _ | _ | _ | _ | s <;> first | omega | exact ⟨rfl, Or.inl ⟨by decide, rfl, rfl⟩⟩ | exact ⟨rfl, Or.inr ⟨by decide, by decide, rfl, nm_of hk' rfl⟩⟩
  · omega
theorem hLeave_yes {h : Hf} {x : Int} (h0 : ¬ h.i = 0) (h1 : h.m = x) : hLeaveH h x = ({ h with i := 0, m := 0 }, 44) := by unfold hLeaveH; rw [if_neg h0, if_pos h1]
theorem hGrant_yes {h : Hf} {x : Int} (h0 : h.o = 1) (h1 : h.n = x) : hGrantH h x = ({ h with o := 2 }, 43) := by unfold hGrantH; rw [if_pos h0, if_pos h1]
theorem hDeny_yes {h : Hf} {x : Int} (h0 : ¬ h.o = 0) (h1 : h.n = x) : hDenyH h x = ({ h with o := 0, n := 0 }, 45) := by unfold hDenyH; rw [if_neg h0, if_pos h1]
theorem one0 : ¬ (1 : Int) = 0 := by decide
theorem two0 : ¬ (2 : Int) = 0 := by decide
theorem hear_tab (s : Nat) (hs : s < 9) (i : Nat) (hi : i < 4) (n m : Int) (hn : n ≠ 0) (hm : m ≠ 0) (hm1 : m + 1 ≠ 0) : HearR (hfS s n m) i (wnT (4 + i) s) (hearA (hfS s n m) (maT i) (kOf i n m)) := by
  have hk := (hfS_ok s hs n m hn hm).1
  rcases i with _ | _ | _ | _ | i
  · rw [show maT 0 = 1 from rfl, show kOf 0 n m = m + 1 from rfl, hearA_at hk hm1 rfl]
    have hk' := ok_hear hk hm1 (mail := 1) rfl
    rcases s with _ | _ | _ | _ | _ | _ | _ | _ | _ | s <;> first | omega | exact ⟨rfl, Or.inl ⟨rfl, by decide⟩⟩ | exact ⟨rfl, Or.inr (Or.inr ⟨by decide, by decide, (show (42 : Int) ≠ 0 by decide), nm_of hk' rfl⟩)⟩
  · rw [show maT 1 = 2 from rfl, show kOf 1 n m = m from rfl, hearA_at hk hm rfl]
    have hk' := ok_hear hk hm (mail := 2) rfl
    rcases s with _ | _ | _ | _ | _ | _ | _ | _ | _ | s <;> first | omega | exact ⟨rfl, Or.inr (Or.inl ⟨by decide, rfl, rfl⟩)⟩ | (rw [hLeave_yes] at hk'; rw [hLeave_yes]; exact ⟨rfl, Or.inr (Or.inr ⟨by decide, by decide, (show (44 : Int) ≠ 0 by decide), nm_of hk' rfl⟩)⟩; all_goals first | rfl | exact one0 | exact two0)
  · rw [show maT 2 = 3 from rfl, show kOf 2 n m = n from rfl, hearA_at hk hn rfl]
    have hk' := ok_hear hk hn (mail := 3) rfl
    rcases s with _ | _ | _ | _ | _ | _ | _ | _ | _ | s <;> first | omega | exact ⟨rfl, Or.inr (Or.inl ⟨by decide, rfl, rfl⟩)⟩ | (rw [hGrant_yes] at hk'; rw [hGrant_yes]; exact ⟨rfl, Or.inr (Or.inr ⟨by decide, by decide, (show (43 : Int) ≠ 0 by decide), nm_of hk' rfl⟩)⟩; all_goals rfl)
  · rw [show maT 3 = 4 from rfl, show kOf 3 n m = n from rfl, hearA_at hk hn rfl]
    have hk' := ok_hear hk hn (mail := 4) rfl
    rcases s with _ | _ | _ | _ | _ | _ | _ | _ | _ | s <;> first | omega | exact ⟨rfl, Or.inr (Or.inl ⟨by decide, rfl, rfl⟩)⟩ | (rw [hDeny_yes] at hk'; rw [hDeny_yes]; exact ⟨rfl, Or.inr (Or.inr ⟨by decide, by decide, (show (45 : Int) ≠ 0 by decide), nm_of hk' rfl⟩)⟩; all_goals first | rfl | exact one0 | exact two0)
  · omega
end Go.Proofs.YtppdopcghnfapaaGreatDoor

/- SubsAgree: two ends and the letters between them (pure). -/
set_option maxRecDepth 100000
namespace Go.Proofs.YtppdopcghnfapaaGreatDoor

abbrev Lt := Int × Int
/-- What a letter does to the side that is asked. -/
def stB (p : Int × Int) (a : Lt) : Int × Int := if a.1 = 1 then (1, a.2) else if a.1 = 2 ∧ p.1 ≠ 0 ∧ p.2 = a.2 then (0, 0) else p
/-- What a letter does to the side that asks. -/
def stA (p : Int × Int) (a : Lt) : Int × Int := if a.1 = 3 ∧ p.1 = 1 ∧ p.2 = a.2 then (2, p.2) else if a.1 = 4 ∧ p.1 ≠ 0 ∧ p.2 = a.2 then (0, 0) else p
def finB (p : Int × Int) (Q : List Lt) : Int × Int := Q.foldl stB p

theorem fin_cons (p : Int × Int) (a : Lt) (Q : List Lt) : finB p (a :: Q) = finB (stB p a) Q := rfl
theorem fin_app (p : Int × Int) (a : Lt) (Q : List Lt) : finB p (Q ++ [a]) = stB (finB p Q) a := by unfold finB; rw [List.foldl_append]; rfl
/-- Without a request among the letters. -/
theorem fin_none : ∀ (Q : List Lt) (p : Int × Int), (∀ y, (1, y) ∉ Q) → finB p Q = p ∨ finB p Q = (0, 0)
  | [], _, _ => Or.inl rfl
  | a :: Q, p, h => by
    have h1 : ¬ a.1 = 1 := fun e => h a.2 (by rw [← e]; exact List.mem_cons_self ..)
    have h2 : ∀ y, (1, y) ∉ Q := fun y hy => h y (List.mem_cons_of_mem _ hy)
    rw [fin_cons]
    unfold stB
    rw [if_neg h1]
    split
    · rcases fin_none Q (0, 0) h2 with e | e <;> exact Or.inr e
    · exact fin_none Q p h2
theorem fin_none0 (Q : List Lt) (h : ∀ y, (1, y) ∉ Q) : finB (0, 0) Q = (0, 0) := by rcases fin_none Q (0, 0) h with e | e <;> exact e
/-- With a request among them, what was there before doesn't matter. -/
theorem fin_some : ∀ (Q : List Lt), (∃ y, (1, y) ∈ Q) → ∃ r, (∀ p, finB p Q = r) ∧ (r = (0, 0) ∨ ∃ y, (1, y) ∈ Q ∧ r = (1, y))
  | [], ⟨_, h⟩ => absurd h (by simp)
  | a :: Q, ⟨y, hy⟩ => by
    by_cases hq : ∃ y, (1, y) ∈ Q
    · obtain ⟨r, h1, h2⟩ := fin_some Q hq
      refine ⟨r, fun p => by rw [fin_cons]; exact h1 _, h2.imp id (fun ⟨y, k, e⟩ => ⟨y, List.mem_cons_of_mem _ k, e⟩)⟩
    · have hq' : ∀ y, (1, y) ∉ Q := fun y k => hq ⟨y, k⟩
      have ha : a = (1, y) := by
        rcases List.mem_cons.1 hy with e | e
        · exact e.symm
        · exact absurd e (hq' y)
      subst ha
      refine ⟨finB (1, y) Q, fun p => rfl, ?_⟩
      rcases fin_none Q (1, y) hq' with e | e
      · exact Or.inr ⟨y, List.mem_cons_self .., e⟩
      · exact Or.inl e

/-- One end asks, the other one is asked: what both know, and what is on its way. -/
structure Dir (o n i m : Int) (Q1 Q0 : List Lt) (c : Int) : Prop where
  j1 : o = 0 → (finB (i, m) Q1).1 = 0
  j2 : o ≠ 0 → ((finB (i, m) Q1).2 = n ∧ (4, n) ∉ Q0 ∧ (((finB (i, m) Q1).1 = 1 ∧ o = 1 ∧ (3, n) ∉ Q0) ∨ ((finB (i, m) Q1).1 = 2 ∧ ((o = 1 ∧ (3, n) ∈ Q0) ∨ o = 2)))) ∨ ((finB (i, m) Q1).1 = 0 ∧ (4, n) ∈ Q0)
  j3 : Q1.Pairwise (fun a b => a.1 = 1 → b.1 = 1 → a.2 < b.2)
  j4 : ∀ y, (1, y) ∈ Q1 → m < y ∧ y ≤ c
  j5 : ∀ a ∈ Q0, (a.1 = 3 ∨ a.1 = 4) → a.2 ≤ c ∧ ∀ y, (1, y) ∈ Q1 → a.2 < y
  j6 : 0 ≤ m ∧ m ≤ c
  j7 : 0 ≤ o ∧ o ≤ 2
section
variable {o n i m c : Int} {Q1 Q0 : List Lt}
theorem Dir.more (D : Dir o n i m Q1 Q0 c) {c' : Int} (h : c ≤ c') : Dir o n i m Q1 Q0 c' :=
  ⟨D.j1, D.j2, D.j3, fun y hy => ⟨(D.j4 y hy).1, by have := (D.j4 y hy).2; omega⟩, fun a ha hk => ⟨by have := (D.j5 a ha hk).1; omega, (D.j5 a ha hk).2⟩, ⟨D.j6.1, by have := D.j6.2; omega⟩, D.j7⟩
theorem mem_app1 {Q : List Lt} {a b : Lt} : b ∈ Q ++ [a] ↔ b ∈ Q ∨ b = a := by simp
/-- A letter of the other matter, to the one that is asked. -/
theorem Dir.push1 (D : Dir o n i m Q1 Q0 c) {a : Lt} (h1 : a.1 ≠ 1) (h2 : a.1 ≠ 2) : Dir o n i m (Q1 ++ [a]) Q0 c := by
  have hf : finB (i, m) (Q1 ++ [a]) = finB (i, m) Q1 := by
    rw [fin_app]; unfold stB; rw [if_neg h1, if_neg (fun k => h2 k.1)]
  have hm : ∀ y, (1, y) ∈ Q1 ++ [a] → (1, y) ∈ Q1 := fun y hy => by
    rcases mem_app1.1 hy with k | k
    · exact k
    · exact absurd (by rw [← k]) h1
  refine ⟨by rw [hf]; exact D.j1, by rw [hf]; exact D.j2, ?_, fun y hy => D.j4 y (hm y hy), fun b hb hk => ⟨(D.j5 b hb hk).1, fun y hy => (D.j5 b hb hk).2 y (hm y hy)⟩, D.j6, D.j7⟩
  rw [List.pairwise_append]
  exact ⟨D.j3, List.pairwise_singleton _ _, fun x _ y hy _ e => by rw [List.mem_singleton.1 hy] at e; exact absurd e h1⟩
/-- A letter of the other matter, to the one that asks. -/
theorem Dir.push0 (D : Dir o n i m Q1 Q0 c) {a : Lt} (h3 : a.1 ≠ 3) (h4 : a.1 ≠ 4) : Dir o n i m Q1 (Q0 ++ [a]) c := by
  have m3 : (3, n) ∈ Q0 ++ [a] ↔ (3, n) ∈ Q0 := by rw [mem_app1]; exact ⟨fun h => h.resolve_right (fun e => h3 (by rw [← e])), Or.inl⟩
  have m4 : (4, n) ∈ Q0 ++ [a] ↔ (4, n) ∈ Q0 := by rw [mem_app1]; exact ⟨fun h => h.resolve_right (fun e => h4 (by rw [← e])), Or.inl⟩
  refine ⟨D.j1, by rw [m3, m4]; exact D.j2, D.j3, D.j4, fun b hb hk => ?_, D.j6, D.j7⟩
  rcases mem_app1.1 hb with k | k
  · exact D.j5 b k hk
  · subst k; exact absurd hk (by omega)
theorem Dir.ask (D : Dir o n i m Q1 Q0 c) {x : Int} (hx : c < x) : Dir 1 x i m (Q1 ++ [(1, x)]) Q0 x := by
  have hf : finB (i, m) (Q1 ++ [(1, x)]) = (1, x) := by rw [fin_app]; unfold stB; rw [if_pos rfl]
  have hn : ∀ k, k = 3 ∨ k = 4 → (k, x) ∉ Q0 := fun k hk hm => by have := (D.j5 _ hm hk).1; simp only at this; omega
  refine ⟨fun e => by omega, fun _ => Or.inl ⟨by rw [hf], hn 4 (Or.inr rfl), Or.inl ⟨by rw [hf], rfl, hn 3 (Or.inl rfl)⟩⟩, ?_, fun y hy => ?_, fun b hb hk => ⟨by have := (D.j5 b hb hk).1; omega, fun y hy => ?_⟩, ⟨D.j6.1, by have := D.j6.2; omega⟩, by omega⟩
  · rw [List.pairwise_append]
    refine ⟨D.j3, List.pairwise_singleton _ _, fun a ha b hb e _ => ?_⟩
    rw [List.mem_singleton.1 hb]
    have ha' : (1, a.2) ∈ Q1 := by rw [← e]; exact ha
    have := (D.j4 _ ha').2
    show a.2 < x
    omega
  · rcases mem_app1.1 hy with k | k
    · have := D.j4 y k; omega
    · have : y = x := (Prod.mk.inj k).2
      have := D.j6.2; omega
  · rcases mem_app1.1 hy with k | k
    · exact (D.j5 b hb hk).2 y k
    · have : y = x := (Prod.mk.inj k).2
      have := (D.j5 b hb hk).1; omega
theorem Dir.leave (D : Dir o n i m Q1 Q0 c) (h0 : o ≠ 0) : Dir 0 0 i m (Q1 ++ [(2, n)]) Q0 c := by
  have hm : ∀ y, (1, y) ∈ Q1 ++ [(2, n)] → (1, y) ∈ Q1 := fun y hy => by
    rcases mem_app1.1 hy with k | k
    · exact k
    · have := (Prod.mk.inj k).1; omega
  refine ⟨fun _ => ?_, fun h => absurd rfl h, ?_, fun y hy => D.j4 y (hm y hy), fun b hb hk => ⟨(D.j5 b hb hk).1, fun y hy => (D.j5 b hb hk).2 y (hm y hy)⟩, D.j6, by omega⟩
  · rw [fin_app]
    unfold stB
    rw [if_neg (show ¬ (2 : Int) = 1 by decide)]
    split
    · rfl
    · rename_i hh
      rcases D.j2 h0 with ⟨a1, _, a3⟩ | ⟨a1, _⟩
      · exfalso
        refine hh ⟨rfl, ?_, a1⟩
        rcases a3 with ⟨e, _⟩ | ⟨e, _⟩ <;> rw [e] <;> decide
      · exact a1
  · rw [List.pairwise_append]
    exact ⟨D.j3, List.pairwise_singleton _ _, fun x _ y hy _ e => by rw [List.mem_singleton.1 hy] at e; exact absurd e (show ¬ (2 : Int) = 1 by decide)⟩
theorem Dir.deny (D : Dir o n i m Q1 Q0 c) : Dir o n 0 0 Q1 (Q0 ++ [(4, m)]) c := by
  have m3 : (3, n) ∈ Q0 ++ [((4 : Int), m)] ↔ (3, n) ∈ Q0 := by rw [mem_app1]; exact ⟨fun h => h.resolve_right (fun e => by have := (Prod.mk.inj e).1; omega), Or.inl⟩
  have hj5 : ∀ b ∈ Q0 ++ [((4 : Int), m)], (b.1 = 3 ∨ b.1 = 4) → b.2 ≤ c ∧ ∀ y, (1, y) ∈ Q1 → b.2 < y := fun b hb hk => by
    rcases mem_app1.1 hb with k | k
    · exact D.j5 b k hk
    · subst k; exact ⟨D.j6.2, fun y hy => (D.j4 y hy).1⟩
  have hj4 : ∀ y, (1, y) ∈ Q1 → 0 < y ∧ y ≤ c := fun y hy => by have := D.j4 y hy; have := D.j6.1; omega
  by_cases hq : ∃ y, (1, y) ∈ Q1
  · obtain ⟨r, h1, h2⟩ := fin_some Q1 hq
    have j1 := D.j1
    have j2 := D.j2
    rw [h1] at j1 j2
    refine ⟨by rw [h1]; exact j1, fun h0 => ?_, D.j3, hj4, hj5, ⟨Int.le_refl _, by have := D.j6; omega⟩, D.j7⟩
    rw [h1, m3]
    rcases j2 h0 with ⟨a1, a2, a3⟩ | ⟨a1, a2⟩
    · refine Or.inl ⟨a1, fun k => ?_, a3⟩
      rcases mem_app1.1 k with k | k
      · exact a2 k
      · have e : n = m := (Prod.mk.inj k).2
        rcases h2 with e2 | ⟨y, hy, e2⟩
        · rcases a3 with ⟨b, _⟩ | ⟨b, _⟩ <;> rw [e2] at b <;> exact absurd b (by decide)
        · have := (D.j4 y hy).1
          rw [e2] at a1
          simp only at a1
          omega
    · exact Or.inr ⟨a1, mem_app1.2 (Or.inl a2)⟩
  · have hq' : ∀ y, (1, y) ∉ Q1 := fun y k => hq ⟨y, k⟩
    have hf := fin_none0 Q1 hq'
    refine ⟨fun _ => by rw [hf], fun h0 => ?_, D.j3, hj4, hj5, ⟨Int.le_refl _, by have := D.j6; omega⟩, D.j7⟩
    rw [hf]
    refine Or.inr ⟨rfl, mem_app1.2 ?_⟩
    rcases D.j2 h0 with ⟨a1, _, a3⟩ | ⟨_, a2⟩
    · refine Or.inr ?_
      rcases fin_none Q1 (i, m) hq' with e | e
      · rw [e] at a1; simp only at a1; rw [a1]
      · rw [e] at a3; rcases a3 with ⟨b, _⟩ | ⟨b, _⟩ <;> exact absurd b (by decide)
    · exact Or.inl a2
theorem Dir.grant (D : Dir o n i m Q1 Q0 c) (hi : i = 1) : Dir o n 2 m Q1 (Q0 ++ [(3, m)]) c := by
  subst hi
  have m4 : (4, n) ∈ Q0 ++ [((3 : Int), m)] ↔ (4, n) ∈ Q0 := by rw [mem_app1]; exact ⟨fun h => h.resolve_right (fun e => by have := (Prod.mk.inj e).1; omega), Or.inl⟩
  have hj5 : ∀ b ∈ Q0 ++ [((3 : Int), m)], (b.1 = 3 ∨ b.1 = 4) → b.2 ≤ c ∧ ∀ y, (1, y) ∈ Q1 → b.2 < y := fun b hb hk => by
    rcases mem_app1.1 hb with k | k
    · exact D.j5 b k hk
    · subst k; exact ⟨D.j6.2, fun y hy => (D.j4 y hy).1⟩
  by_cases hq : ∃ y, (1, y) ∈ Q1
  · obtain ⟨r, h1, h2⟩ := fin_some Q1 hq
    have j1 := D.j1
    have j2 := D.j2
    rw [h1] at j1 j2
    refine ⟨by rw [h1]; exact j1, fun h0 => ?_, D.j3, D.j4, hj5, D.j6, D.j7⟩
    rw [h1, m4]
    rcases j2 h0 with ⟨a1, a2, a3⟩ | ⟨a1, a2⟩
    · rcases h2 with e2 | ⟨y, hy, e2⟩
      · exfalso
        rcases a3 with ⟨b, _⟩ | ⟨b, _⟩ <;> rw [e2] at b <;> exact absurd b (by decide)
      · have hlt := (D.j4 y hy).1
        rw [e2] at a1 a3
        simp only at a1 a3
        rcases a3 with ⟨_, b2, b3⟩ | ⟨b, _⟩
        · refine Or.inl ⟨by rw [e2]; exact a1, a2, Or.inl ⟨by rw [e2], b2, fun k => ?_⟩⟩
          rcases mem_app1.1 k with k | k
          · exact b3 k
          · have : n = m := (Prod.mk.inj k).2
            omega
        · omega
    · exact Or.inr ⟨a1, a2⟩
  · have hq' : ∀ y, (1, y) ∉ Q1 := fun y k => hq ⟨y, k⟩
    have key : (finB (1, m) Q1 = (1, m) ∧ finB (2, m) Q1 = (2, m)) ∨ (finB (1, m) Q1 = (0, 0) ∧ finB (2, m) Q1 = (0, 0)) := by
      clear hj5 m4 D hq
      induction Q1 with
      | nil => exact Or.inl ⟨rfl, rfl⟩
      | cons a Q ih =>
        have h1 : ¬ a.1 = 1 := fun e => hq' a.2 (by rw [← e]; exact List.mem_cons_self ..)
        have h2 : ∀ y, (1, y) ∉ Q := fun y hy => hq' y (List.mem_cons_of_mem _ hy)
        rw [fin_cons, fin_cons]
        unfold stB
        rw [if_neg h1, if_neg h1]
        by_cases hc : a.1 = 2 ∧ m = a.2
        · rw [if_pos ⟨hc.1, one0, hc.2⟩, if_pos ⟨hc.1, two0, hc.2⟩, fin_none0 Q h2]
          exact Or.inr ⟨rfl, rfl⟩
        · rw [if_neg (fun k => hc ⟨k.1, k.2.2⟩), if_neg (fun k => hc ⟨k.1, k.2.2⟩)]
          exact ih h2
    rcases key with ⟨e1, e2⟩ | ⟨e1, e2⟩
    · have j1 := D.j1
      have j2 := D.j2
      rw [e1] at j1 j2
      refine ⟨fun h0 => absurd (j1 h0) one0, fun h0 => ?_, D.j3, D.j4, hj5, D.j6, D.j7⟩
      rw [e2, m4]
      rcases j2 h0 with ⟨a1, a2, a3⟩ | ⟨a1, _⟩
      · simp only at a1 a3
        rcases a3 with ⟨_, b2, _⟩ | ⟨b, _⟩
        · exact Or.inl ⟨a1, a2, Or.inr ⟨rfl, Or.inl ⟨b2, mem_app1.2 (Or.inr (by rw [a1]))⟩⟩⟩
        · omega
      · simp only at a1; omega
    · have j1 := D.j1
      have j2 := D.j2
      rw [e1] at j1 j2
      refine ⟨fun _ => by rw [e2], fun h0 => ?_, D.j3, D.j4, hj5, D.j6, D.j7⟩
      rw [e2, m4]
      rcases j2 h0 with ⟨_, _, a3⟩ | ⟨a1, a2⟩
      · simp only at a3; omega
      · exact Or.inr ⟨rfl, a2⟩
/-- The one that is asked hears. -/
theorem Dir.hearB {a : Lt} (D : Dir o n i m (a :: Q1) Q0 c) : Dir o n (stB (i, m) a).1 (stB (i, m) a).2 Q1 Q0 c := by
  have hj := List.pairwise_cons.1 D.j3
  refine ⟨D.j1, D.j2, hj.2, fun y hy => ⟨?_, (D.j4 y (List.mem_cons_of_mem _ hy)).2⟩, fun b hb hk => ⟨(D.j5 b hb hk).1, fun y hy => (D.j5 b hb hk).2 y (List.mem_cons_of_mem _ hy)⟩, ?_, D.j7⟩
  · have h4 := (D.j4 y (List.mem_cons_of_mem _ hy)).1
    have h6 := D.j6
    unfold stB
    split
    · rename_i e
      exact hj.1 _ hy e rfl
    · split
      · show (0 : Int) < y
        omega
      · exact h4
  · have h6 := D.j6
    unfold stB
    split
    · rename_i e
      have h : (1, a.2) ∈ a :: Q1 := by rw [← e]; exact List.mem_cons_self ..
      have := D.j4 _ h
      show 0 ≤ a.2 ∧ a.2 ≤ c
      omega
    · split
      · show (0 : Int) ≤ 0 ∧ 0 ≤ c
        omega
      · exact h6
/-- The one that asks hears. -/
theorem Dir.hearA {a : Lt} (D : Dir o n i m Q1 (a :: Q0) c) : Dir (stA (o, n) a).1 (stA (o, n) a).2 i m Q1 Q0 c := by
  have hj5 : ∀ b ∈ Q0, (b.1 = 3 ∨ b.1 = 4) → b.2 ≤ c ∧ ∀ y, (1, y) ∈ Q1 → b.2 < y := fun b hb hk => D.j5 b (List.mem_cons_of_mem _ hb) hk
  have tl : ∀ k, (k, n) ∉ a :: Q0 → (k, n) ∉ Q0 := fun k h h' => h (List.mem_cons_of_mem _ h')
  have j7 := D.j7
  unfold stA
  split
  · rename_i e
    obtain ⟨e1, e2, e3⟩ := e
    simp only at e2 e3
    have ha : a = (3, n) := by rw [e3, ← e1]
    refine ⟨fun h => by omega, fun _ => ?_, D.j3, D.j4, hj5, D.j6, by omega⟩
    rcases D.j2 (by omega) with ⟨a1, a2, a3⟩ | ⟨a1, a2⟩
    · refine Or.inl ⟨a1, tl 4 a2, ?_⟩
      rcases a3 with ⟨_, _, b3⟩ | ⟨b1, _⟩
      · exact absurd (by rw [ha]; exact List.mem_cons_self ..) b3
      · exact Or.inr ⟨b1, Or.inr rfl⟩
    · refine Or.inr ⟨a1, ?_⟩
      rcases List.mem_cons.1 a2 with k | k
      · rw [ha] at k; have := (Prod.mk.inj k).1; omega
      · exact k
  · split
    · rename_i e
      obtain ⟨e1, e2, e3⟩ := e
      simp only at e2 e3
      have ha : a = (4, n) := by rw [e3, ← e1]
      refine ⟨fun _ => ?_, fun h => absurd rfl h, D.j3, D.j4, hj5, D.j6, by omega⟩
      rcases D.j2 e2 with ⟨_, a2, _⟩ | ⟨a1, _⟩
      · exact absurd (by rw [ha]; exact List.mem_cons_self ..) a2
      · exact a1
    · rename_i n3 n4
      refine ⟨D.j1, fun h0 => ?_, D.j3, D.j4, hj5, D.j6, j7⟩
      have h0' : o ≠ 0 := h0
      rcases D.j2 h0' with ⟨a1, a2, a3⟩ | ⟨a1, a2⟩
      · refine Or.inl ⟨a1, tl 4 a2, ?_⟩
        rcases a3 with ⟨b1, b2, b3⟩ | ⟨b1, b2⟩
        · exact Or.inl ⟨b1, b2, tl 3 b3⟩
        · refine Or.inr ⟨b1, ?_⟩
          rcases b2 with ⟨d1, d2⟩ | d
          · refine Or.inl ⟨d1, ?_⟩
            rcases List.mem_cons.1 d2 with k | k
            · exact absurd ⟨by rw [← k], d1, by rw [← k]⟩ n3
            · exact k
          · exact Or.inr d
      · refine Or.inr ⟨a1, ?_⟩
        rcases List.mem_cons.1 a2 with k | k
        · exact absurd ⟨by rw [← k], h0', by rw [← k]⟩ n4
        · exact k
theorem Dir.done (D : Dir o n i m [] [] c) : o = i ∧ (o ≠ 0 → n = m) := by
  by_cases h0 : o = 0
  · have := D.j1 h0
    exact ⟨h0.trans this.symm, fun h => absurd h0 h⟩
  · rcases D.j2 h0 with ⟨a1, _, a3⟩ | ⟨_, a2⟩
    · refine ⟨?_, fun _ => a1.symm⟩
      rcases a3 with ⟨b1, b2, _⟩ | ⟨b1, ⟨_, b2⟩ | b2⟩
      · exact b2.trans b1.symm
      · simp at b2
      · exact b2.trans b1.symm
    · simp at a2
end

theorem stA_id {p : Int × Int} {a : Lt} (h3 : ¬ (a.1 = 3 ∧ p.1 = 1 ∧ p.2 = a.2)) (h4 : ¬ (a.1 = 4 ∧ p.1 ≠ 0 ∧ p.2 = a.2)) : p = stA p a := by unfold stA; rw [if_neg h3, if_neg h4]
theorem stB_id {p : Int × Int} {a : Lt} (h1 : ¬ a.1 = 1) (h2 : ¬ (a.1 = 2 ∧ p.1 ≠ 0 ∧ p.2 = a.2)) : p = stB p a := by unfold stB; rw [if_neg h1, if_neg h2]
/-- What a letter does to a half. -/
theorem hear_st {h : Hf} {a : Lt} {r : Hf × Int} (hr : hearH h a.1 a.2 = some r) : (r.1.o, r.1.n) = stA (h.o, h.n) a ∧ (r.1.i, r.1.m) = stB (h.i, h.m) a := by
  unfold hearH at hr
  split at hr
  · rename_i e
    cases hr
    exact ⟨stA_id (fun k => by omega) (fun k => by omega), by unfold stB; rw [if_pos e]; rfl⟩
  · rename_i e1
    split at hr
    · rename_i e
      cases hr
      unfold hLeaveH
      split
      · rename_i q
        exact ⟨stA_id (fun k => by omega) (fun k => by omega), stB_id e1 (fun k => k.2.1 q)⟩
      · rename_i q
        split
        · rename_i q2
          exact ⟨stA_id (fun k => by omega) (fun k => by omega), by unfold stB; rw [if_neg e1, if_pos ⟨e, q, q2⟩]⟩
        · rename_i q2
          exact ⟨stA_id (fun k => by omega) (fun k => by omega), stB_id e1 (fun k => q2 k.2.2)⟩
    · rename_i e2
      split at hr
      · rename_i e
        cases hr
        unfold hGrantH
        split
        · rename_i q
          split
          · rename_i q2
            exact ⟨by unfold stA; rw [if_pos ⟨e, q, q2⟩], stB_id e1 (fun k => e2 k.1)⟩
          · rename_i q2
            exact ⟨stA_id (fun k => q2 k.2.2) (fun k => by omega), stB_id e1 (fun k => e2 k.1)⟩
        · rename_i q
          exact ⟨stA_id (fun k => q k.2.1) (fun k => by omega), stB_id e1 (fun k => e2 k.1)⟩
      · rename_i e3
        split at hr
        · rename_i e
          cases hr
          unfold hDenyH
          split
          · rename_i q
            exact ⟨stA_id (fun k => e3 k.1) (fun k => k.2.1 q), stB_id e1 (fun k => e2 k.1)⟩
          · rename_i q
            split
            · rename_i q2
              exact ⟨by unfold stA; rw [if_neg (fun k => e3 k.1), if_pos ⟨e, q, q2⟩], stB_id e1 (fun k => e2 k.1)⟩
            · rename_i q2
              exact ⟨stA_id (fun k => e3 k.1) (fun k => q2 k.2.2), stB_id e1 (fun k => e2 k.1)⟩
        · cases hr

/-- Letters that can be heard. -/
def LtOk (a : Lt) : Prop := (1 ≤ a.1 ∧ a.1 ≤ 4) ∧ a.2 ≠ 0
/-- Two ends, and what is on its way to each. -/
structure Pz (h0 h1 : Hf) (q0 q1 : List Lt) (n0 n1 : Int) : Prop where
  k0 : okH h0 = true
  k1 : okH h1 = true
  d0 : Dir h0.o h0.n h1.i h1.m q1 q0 n0
  d1 : Dir h1.o h1.n h0.i h0.m q0 q1 n1
  l0 : ∀ a ∈ q0, LtOk a
  l1 : ∀ a ∈ q1, LtOk a
  p0 : 0 ≤ n0
  p1 : 0 ≤ n1
theorem Pz.swap {h0 h1 : Hf} {q0 q1 : List Lt} {n0 n1 : Int} (P : Pz h0 h1 q0 q1 n0 n1) : Pz h1 h0 q1 q0 n1 n0 := ⟨P.k1, P.k0, P.d1, P.d0, P.l1, P.l0, P.p1, P.p0⟩
theorem Pz.new : Pz ⟨0, 0, 0, 0⟩ ⟨0, 0, 0, 0⟩ [] [] 0 0 :=
  ⟨rfl, rfl, ⟨fun _ => rfl, fun h => absurd rfl h, List.Pairwise.nil, fun _ h => absurd h (by simp), fun _ h => absurd h (by simp), by decide, by decide⟩, ⟨fun _ => rfl, fun h => absurd rfl h, List.Pairwise.nil, fun _ h => absurd h (by simp), fun _ h => absurd h (by simp), by decide, by decide⟩, fun _ h => absurd h (by simp), fun _ h => absurd h (by simp), by decide, by decide⟩
theorem Pz.hear {h0 h1 : Hf} {a : Lt} {q0 q1 : List Lt} {n0 n1 : Int} (P : Pz h0 h1 (a :: q0) q1 n0 n1) : (hearA h0 a.1 a.2).2 = 0 ∧ Pz (hearA h0 a.1 a.2).1.1 h1 q0 q1 n0 n1 := by
  obtain ⟨⟨a1, a2⟩, a3⟩ := P.l0 a (List.mem_cons_self ..)
  obtain ⟨r, hr⟩ : ∃ r, hearH h0 a.1 a.2 = some r := by
    have : a.1 = 1 ∨ a.1 = 2 ∨ a.1 = 3 ∨ a.1 = 4 := by omega
    unfold hearH
    rcases this with e | e | e | e <;> rw [e] <;> exact ⟨_, rfl⟩
  rw [hearA_at P.k0 a3 hr]
  obtain ⟨s1, s2⟩ := hear_st hr
  have d0 := P.d0.hearA
  have d1 := P.d1.hearB
  rw [← s1] at d0
  rw [← s2] at d1
  exact ⟨rfl, ok_hear P.k0 a3 hr, P.k1, d0, d1, fun b hb => P.l0 b (List.mem_cons_of_mem _ hb), P.l1, P.p0, P.p1⟩
/-- The queue behind an act. -/
def pushQ (q : List Lt) (mail n : Int) : List Lt := if mail = 0 then q else q ++ [(mail, n)]
theorem mem_push1 {q : List Lt} {x : Lt} (h : ∀ a ∈ q, LtOk a) (hx : LtOk x) : ∀ a ∈ q ++ [x], LtOk a := fun a ha => by
  rcases mem_app1.1 ha with k | k
  · exact h a k
  · rw [k]; exact hx
theorem Pz.act {h0 h1 : Hf} {q0 q1 : List Lt} {n0 n1 : Int} (P : Pz h0 h1 q0 q1 n0 n1) (dd : Nat) (hd : dd < 4) :
    (actA h0 (kiT dd) (n0 + 1)).2 = 0 ∧ Pz (actA h0 (kiT dd) (n0 + 1)).1.1 h1 q0 (pushQ q1 (actA h0 (kiT dd) (n0 + 1)).1.2.1 (actA h0 (kiT dd) (n0 + 1)).1.2.2) (n0 + 1) n1 := by
  have hx : n0 + 1 ≠ 0 := by have := P.p0; omega
  have m0 := P.d0.more (c' := n0 + 1) (by omega)
  have p0 : 0 ≤ n0 + 1 := by have := P.p0; omega
  have same : Pz h0 h1 q0 q1 (n0 + 1) n1 := ⟨P.k0, P.k1, m0, P.d1, P.l0, P.l1, p0, P.p1⟩
  rcases dd with _ | _ | _ | _ | dd
  · rw [show kiT 0 = 11 from rfl, actA_ask P.k0 hx]
    refine ⟨rfl, ?_⟩
    unfold askH
    split
    · rename_i e
      have d0 := P.d0.ask (x := n0 + 1) (by omega)
      exact ⟨okH_mk (okR_1 hx) (okH_2 (h := h0) P.k0), P.k1, d0, P.d1.push0 (a := (1, n0 + 1)) (show (1 : Int) ≠ 3 by decide) (show (1 : Int) ≠ 4 by decide), P.l0, mem_push1 P.l1 ⟨show (1 : Int) ≤ 1 ∧ (1 : Int) ≤ 4 by decide, hx⟩, p0, P.p1⟩
    · exact same
  · rw [show kiT 1 = 13 from rfl, actA_leave P.k0]
    refine ⟨rfl, ?_⟩
    have hk := ok_leave P.k0
    unfold leaveH at hk ⊢
    split
    · exact same
    · rename_i e
      rw [if_neg e] at hk
      have hn : h0.n ≠ 0 := by rcases okR_cases (okH_1 P.k0) with ⟨a, _⟩ | ⟨_, b⟩ | ⟨_, b⟩ <;> first | exact b | omega
      exact ⟨hk, P.k1, m0.leave e, P.d1.push0 (a := (2, h0.n)) (show (2 : Int) ≠ 3 by decide) (show (2 : Int) ≠ 4 by decide), P.l0, mem_push1 P.l1 ⟨show (1 : Int) ≤ 2 ∧ (2 : Int) ≤ 4 by decide, hn⟩, p0, P.p1⟩
  · rw [show kiT 2 = 12 from rfl, actA_grant P.k0]
    refine ⟨rfl, ?_⟩
    have hk := ok_grant P.k0
    unfold grantH at hk ⊢
    split
    · rename_i e
      rw [if_pos e] at hk
      have hm : h0.m ≠ 0 := by rcases okR_cases (okH_2 P.k0) with ⟨a, _⟩ | ⟨_, b⟩ | ⟨_, b⟩ <;> first | exact b | omega
      exact ⟨hk, P.k1, m0.push1 (a := (3, h0.m)) (show (3 : Int) ≠ 1 by decide) (show (3 : Int) ≠ 2 by decide), P.d1.grant e, P.l0, mem_push1 P.l1 ⟨show (1 : Int) ≤ 3 ∧ (3 : Int) ≤ 4 by decide, hm⟩, p0, P.p1⟩
    · exact same
  · rw [show kiT 3 = 14 from rfl, actA_deny P.k0]
    refine ⟨rfl, ?_⟩
    have hk := ok_deny P.k0
    unfold denyH at hk ⊢
    split
    · exact same
    · rename_i e
      rw [if_neg e] at hk
      have hm : h0.m ≠ 0 := by rcases okR_cases (okH_2 P.k0) with ⟨a, _⟩ | ⟨_, b⟩ | ⟨_, b⟩ <;> first | exact b | omega
      exact ⟨hk, P.k1, m0.push1 (a := (4, h0.m)) (show (4 : Int) ≠ 1 by decide) (show (4 : Int) ≠ 2 by decide), P.d1.deny, P.l0, mem_push1 P.l1 ⟨show (1 : Int) ≤ 4 ∧ (4 : Int) ≤ 4 by decide, hm⟩, p0, P.p1⟩
  · omega
theorem zero_num {o n : Int} (h : okR o n = true) (h0 : o = 0) : n = 0 := by
  rcases okR_cases h with ⟨_, b⟩ | ⟨a, _⟩ | ⟨a, _⟩
  · exact b
  · omega
  · omega
theorem Pz.done {h0 h1 : Hf} {n0 n1 : Int} (P : Pz h0 h1 [] [] n0 n1) : (h0.o = h1.i ∧ h0.n = h1.m) ∧ (h1.o = h0.i ∧ h1.n = h0.m) := by
  obtain ⟨a1, a2⟩ := P.d0.done
  obtain ⟨b1, b2⟩ := P.d1.done
  refine ⟨⟨a1, ?_⟩, b1, ?_⟩
  · by_cases e : h0.o = 0
    · rw [zero_num (okH_1 P.k0) e, zero_num (okH_2 P.k1) (a1.symm.trans e)]
    · exact a2 e
  · by_cases e : h1.o = 0
    · rw [zero_num (okH_1 P.k1) e, zero_num (okH_2 P.k0) (b1.symm.trans e)]
    · exact b2 e
end Go.Proofs.YtppdopcghnfapaaGreatDoor

/- subs: the laws' arguments: events, steps. -/
set_option maxRecDepth 100000
namespace Go.Proofs.YtppdopcghnfapaaGreatDoor
open Go.RowKit

/-- An event: an act, a mail, a number. -/
structure EvAt (w : World) (b o : Nat) (k m x : Int) : Prop where
  c4 : w.cell? ⟨b, o + 4, none⟩ = some (.int .i64 k)
  c5 : w.cell? ⟨b, o + 5, none⟩ = some (.int .i64 m)
  c6 : w.cell? ⟨b, o + 6, none⟩ = some (.int .u64 x)
structure ERd (w : World) (a : Option Addr) (n c : Nat) (f : Nat → Int × Int × Int) : Prop where
  cap : n ≤ c
  most : c ≤ maxLen
  flat : 0 < n → ∃ b off, a = some ⟨b, off, none⟩ ∧ ∀ j, j < n → EvAt w b (off + j * 7) (f j).1 (f j).2.1 (f j).2.2
/-- A step: which end, what it does. -/
structure StAt (w : World) (b o : Nat) (e d : Int) : Prop where
  c0 : w.cell? ⟨b, o, none⟩ = some (.int .i64 e)
  c1 : w.cell? ⟨b, o + 1, none⟩ = some (.int .i64 d)
structure SRd (w : World) (a : Option Addr) (n c : Nat) (f : Nat → Int × Int) : Prop where
  cap : n ≤ c
  most : c ≤ maxLen
  flat : 0 < n → ∃ b off, a = some ⟨b, off, none⟩ ∧ ∀ j, j < n → StAt w b (off + j * 2) (f j).1 (f j).2

theorem below_cell {w w' : World} (hb : Below w.heap.size w w') {p : Addr} {v : Value} (h : w.cell? p = some v) : w'.cell? p = some v := (hb.cell (World.block_lt_of_cell? w _ h)).trans h
theorem EvAt.below {w w' : World} {b o : Nat} {k m x : Int} (h : EvAt w b o k m x) (hb : Below w.heap.size w w') : EvAt w' b o k m x := ⟨below_cell hb h.c4, below_cell hb h.c5, below_cell hb h.c6⟩
theorem StAt.below {w w' : World} {b o : Nat} {k m : Int} (h : StAt w b o k m) (hb : Below w.heap.size w w') : StAt w' b o k m := ⟨below_cell hb h.c0, below_cell hb h.c1⟩
/-- A word for each place. -/
theorem pick {α : Type} [Inhabited α] {n : Nat} {p : Nat → α → Prop} (h : ∀ j, j < n → ∃ x, p j x) : ∃ f : Nat → α, ∀ j, j < n → p j (f j) :=
  ⟨fun j => if hj : j < n then Classical.choose (h j hj) else default, fun j hj => by
    show p j (if hj : j < n then Classical.choose (h j hj) else default)
    rw [dif_pos hj]
    exact Classical.choose_spec (h j hj)⟩


section
open Go.ChangeShapes Go.WideShapes Go.ChangeAt
theorem cellsInt : Tryz.prog.cellsOf 3 = 1 := by kernel_rfl
theorem cellsU64 : Tryz.prog.cellsOf 33 = 1 := by kernel_rfl
end
end Go.Proofs.YtppdopcghnfapaaGreatDoor

/- SubsAgree: the letters on their way, in memory. -/
set_option maxRecDepth 100000
namespace Go.Proofs.YtppdopcghnfapaaGreatDoor
open Go.RowKit Go.Joins

def qv (q : List Lt) : List Value := q.flatMap fun x => [.int .i64 x.1, .int .u64 x.2]
theorem qv_len (q : List Lt) : (qv q).length = q.length * 2 := by
  induction q with
  | nil => rfl
  | cons a q ih => show (qv q).length + 2 = _; rw [ih, List.length_cons]; omega
theorem qv_app (q : List Lt) (x : Lt) : qv (q ++ [x]) = qv q ++ [.int .i64 x.1, .int .u64 x.2] := by unfold qv; rw [List.flatMap_append]; rfl

end Go.Proofs.YtppdopcghnfapaaGreatDoor

/- SubsAgree: all that the law holds at the head of a round. -/
set_option maxRecDepth 100000
namespace Go.Proofs.YtppdopcghnfapaaGreatDoor
open Go.RowKit Go.Joins

section
variable {w wr wx : World} {h0 h1 : Hf} {n0 n1 : Int} {v0 v1 : Value} {q0 q1 : List Lt}
end
/-- What is left to do. -/
def mu (N i a b : Nat) : Nat := (N - i) * 5 + 2 * (a + b) + (if i % 2 = 0 then (if a = 0 then 1 else 0) else (if b = 0 then 1 else 0))
theorem mu_early {N i a b a' b' : Nat} (hi : i < N) (h : a' + b' ≤ a + b + 1) : mu N (i + 1) a' b' < mu N i a b := by
  unfold mu
  have : (N - i) * 5 = (N - (i + 1)) * 5 + 5 := by omega
  split <;> split <;> split <;> split <;> omega
theorem mu_hear0 {N i a b : Nat} (hp : i % 2 = 0) : mu N (i + 1) a b < mu N i (a + 1) b := by
  unfold mu
  have : (N - (i + 1)) * 5 ≤ (N - i) * 5 := by omega
  rw [if_pos hp, if_neg (by omega : ¬ (a + 1 = 0)), if_neg (by omega : ¬ ((i + 1) % 2 = 0))]
  split <;> omega
theorem mu_hear1 {N i a b : Nat} (hp : i % 2 = 1) : mu N (i + 1) a b < mu N i a (b + 1) := by
  unfold mu
  have : (N - (i + 1)) * 5 ≤ (N - i) * 5 := by omega
  rw [if_neg (by omega : ¬ (i % 2 = 0)), if_neg (by omega : ¬ (b + 1 = 0)), if_pos (by omega : (i + 1) % 2 = 0)]
  split <;> omega
theorem mu_skip0 {N i b : Nat} (hp : i % 2 = 0) (hb : 0 < b) : mu N (i + 1) 0 b < mu N i 0 b := by
  unfold mu
  have : (N - (i + 1)) * 5 ≤ (N - i) * 5 := by omega
  rw [if_pos hp, if_pos rfl, if_neg (by omega : ¬ ((i + 1) % 2 = 0)), if_neg (by omega : ¬ b = 0)]
  omega
theorem mu_skip1 {N i a : Nat} (hp : i % 2 = 1) (ha : 0 < a) : mu N (i + 1) a 0 < mu N i a 0 := by
  unfold mu
  have : (N - (i + 1)) * 5 ≤ (N - i) * 5 := by omega
  rw [if_neg (by omega : ¬ (i % 2 = 0)), if_pos rfl, if_pos (by omega : (i + 1) % 2 = 0), if_neg (by omega : ¬ a = 0)]
  omega
theorem and_one (x : Int) : bits .and .i64 x 1 = 0 ∨ bits .and .i64 x 1 = 1 := by
  have h1 : (BitVec.ofInt 64 1).toNat = 1 := by decide
  have h2 : bits .and .i64 x 1 = IntKind.i64.wrap (((BitVec.ofInt 64 x &&& BitVec.ofInt 64 1).toNat : Nat) : Int) := rfl
  rw [h2, BitVec.toNat_and, h1, Nat.and_one_is_mod]
  rcases Nat.mod_two_eq_zero_or_one (BitVec.ofInt 64 x).toNat with h | h
  · rw [h]; left; decide
  · rw [h]; right; decide
theorem and_nat (i : Nat) (hi : i < 1000000) : bits .and .i64 (i : Int) 1 = ((i % 2 : Nat) : Int) := by
  have h1 : (BitVec.ofInt 64 1).toNat = 1 := by decide
  have h2 : bits .and .i64 (i : Int) 1 = IntKind.i64.wrap (((BitVec.ofInt 64 (i : Int) &&& BitVec.ofInt 64 1).toNat : Nat) : Int) := rfl
  have h3 : (BitVec.ofInt 64 (i : Int)).toNat = i := by simp; omega
  rw [h2, BitVec.toNat_and, h1, Nat.and_one_is_mod, h3]
  rcases Nat.mod_two_eq_zero_or_one i with h | h
  · rw [h]; decide
  · rw [h]; decide
end Go.Proofs.YtppdopcghnfapaaGreatDoor

/- RosterPair: two rosters of one contact each, and the letters between them (pure). -/
set_option maxRecDepth 100000
namespace Go.Proofs.YtppdopcghnfapaaGreatDoor
open Go.RowKit

/-- A roster that has at most this contact, by it alone. -/
structure On (R : Ro) (c : ByteArray) (it ak : Int) (k : Bool) (h : Hf) (x v : Int) : Prop where
  it : R.it = it
  ak : R.ak = ak
  nx : R.nx = x
  me : ofE R c = ⟨c, k, ⟨#[]⟩, (none, 0, 0), h⟩
  oth : ∀ s, s ≠ c → R.m s = none
  ks : R.ks.length = if (k || h.i != 0) = true then 1 else 0
  ksc : ∀ s ∈ R.ks, s = c
  kept : R.kept = if k = true then 1 else 0
  ver : 0 ≤ R.ver ∧ R.ver ≤ v
  was : wasK R c = k
  out : k = false → h.o = 0
section
variable {R : Ro} {c : ByteArray} {it ak : Int} {k : Bool} {h : Hf} {x v : Int}
theorem On.rg (I : On R c it ak k h x v) (hx : 0 ≤ x ∧ x < 1000000) (hv : v < 1000000) : RG R := by
  refine ⟨⟨by rw [I.nx]; exact hx.1, by rw [I.nx]; omega⟩, ?_, ?_, ⟨I.ver.1, by have := I.ver.2; omega⟩, fun s y hs => ?_⟩
  · rw [I.ks]; split <;> decide
  · rw [I.kept]; split <;> decide
  · by_cases e : s = c
    · subst e
      have := I.me
      unfold ofE at this
      rw [hs] at this
      have e2 : y = _ := this
      rw [e2]
    · rw [I.oth s e] at hs; cases hs
theorem On.plain (I : On R c it ak k h x v) (s : ByteArray) : (ofE R s).g = (none, 0, 0) ∧ (ofE R s).nm.size ≤ 1000000 := by
  by_cases e : s = c
  · subst e; rw [I.me]; exact ⟨rfl, show (0 : Nat) ≤ 1000000 by decide⟩
  · unfold ofE; rw [I.oth s e]; exact ⟨rfl, show (0 : Nat) ≤ 1000000 by decide⟩
theorem subK_nil {ks : List ByteArray} (h : ∀ s ∈ ks, s = c) : subK ks c = [] := by
  unfold subK
  rw [List.filter_eq_nil_iff]
  intro a ha
  rw [h a ha]
  simp
theorem ok_zero {h : Hf} (hk : okH h = true) (ho : h.o = 0) (hi : h.i = 0) : h = ⟨0, 0, 0, 0⟩ := by
  obtain ⟨o, n, i, m⟩ := h
  have h1 := zero_num (okH_1 hk) ho
  have h2 := zero_num (okH_2 hk) hi
  dsimp only at *
  subst ho hi h1 h2
  rfl
theorem On.lay (I : On R c it ak k h x v) (k' : Bool) (h' : Hf) (hok : okH h' = true) (ho : k' = false → h'.o = 0) (x' : Int) (y : Int) (hy : 0 ≤ y ∧ y ≤ v + 1) :
    On { layR { R with nx := x' } ⟨c, k', ⟨#[]⟩, (none, 0, 0), h'⟩ with ver := y } c it ak k' h' x' (v + 1) := by
  have hkB : keptB { R with nx := x' } c = 0 := by
    unfold keptB
    have hw : wasK { R with nx := x' } c = k := I.was
    rw [hw]
    show (if k = true then R.kept - 1 else R.kept) = 0
    rw [I.kept]
    cases k <;> rfl
  have hs := subK_nil I.ksc
  unfold layR
  cases ht : thr ⟨c, k', ⟨#[]⟩, (none, 0, 0), h'⟩ with
  | true =>
    rw [if_pos rfl]
    have ht' : (k' || h'.i != 0) = true := ht
    refine ⟨I.it, I.ak, rfl, ?_, ?_, ?_, ?_, ?_, hy, ?_, ho⟩
    · show (mputE R.m c (some ⟨c, k', ⟨#[]⟩, (none, 0, 0), h'⟩) c).getD (en0 c) = _; rw [mputE_same]; rfl
    · intro s e; show mputE R.m c _ s = none; rw [mputE_other _ _ e]; exact I.oth s e
    · rw [if_pos ht']; show (addK R.ks c).length = 1; unfold addK; rw [hs]; rfl
    · intro s hm
      rcases addK_mem.1 hm with e | e
      · exact e
      · exact I.ksc s e
    · show (if k' = true then keptB _ c + 1 else keptB _ c) = _
      rw [hkB]
      cases k' <;> rfl
    · show ((mputE R.m c (some ⟨c, k', ⟨#[]⟩, (none, 0, 0), h'⟩) c).getD (en0 ⟨#[]⟩)).k = _; rw [mputE_same]; rfl
  | false =>
    rw [if_neg (by decide)]
    have ht' : (k' || h'.i != 0) = false := ht
    rw [Bool.or_eq_false_iff] at ht'
    obtain ⟨e1, e2⟩ := ht'
    have e2' : h'.i = 0 := by simpa using e2
    subst e1
    have e3 := ok_zero hok (ho rfl) e2'
    subst e3
    refine ⟨I.it, I.ak, rfl, ?_, ?_, ?_, ?_, ?_, hy, ?_, fun _ => rfl⟩
    · show (mputE R.m c none c).getD (en0 c) = _; rw [mputE_same]; rfl
    · intro s e; show mputE R.m c _ s = none; rw [mputE_other _ _ e]; exact I.oth s e
    · show (subK R.ks c).length = _; rw [hs]; rfl
    · intro s hm; exact I.ksc s (subK_mem.1 hm).1
    · show keptB _ c = _; rw [hkB]; rfl
    · show ((mputE R.m c none c).getD (en0 ⟨#[]⟩)).k = _; rw [mputE_same]; rfl
theorem On.turn (I : On R c it ak k h x v) (k' : Bool) (h' : Hf) (hok : okH h' = true) (ho : k' = false → h'.o = 0) (x' : Int) (_ : 0 ≤ v) :
    On (turnR { R with nx := x' } ⟨c, k', ⟨#[]⟩, (none, 0, 0), h⟩ h') c it ak k' h' x' (v + 1) := by
  have hv2 := I.ver
  unfold turnR
  split
  · have := I.lay k' h' hok ho x' (R.ver + 1) (by omega)
    exact this
  · have := I.lay k' h' hok ho x' R.ver (by omega)
    have e : ({ layR { R with nx := x' } ⟨c, k', ⟨#[]⟩, (none, 0, 0), h'⟩ with ver := R.ver } : Ro) = layR { R with nx := x' } ⟨c, k', ⟨#[]⟩, (none, 0, 0), h'⟩ := by
      have := layR_ver { R with nx := x' } ⟨c, k', ⟨#[]⟩, (none, 0, 0), h'⟩
      generalize layR { R with nx := x' } ⟨c, k', ⟨#[]⟩, (none, 0, 0), h'⟩ = L at this ⊢
      obtain ⟨a1, a2, a3, a4, a5, a6, a7⟩ := L
      dsimp only at this ⊢
      rw [this]
    rw [e] at this
    exact this
theorem On.more (I : On R c it ak k h x v) : On R c it ak k h x (v + 1) := ⟨I.it, I.ak, I.nx, I.me, I.oth, I.ks, I.ksc, I.kept, ⟨I.ver.1, by have := I.ver.2; omega⟩, I.was, I.out⟩
theorem On.new (c : ByteArray) (it ak : Int) : On (newR it ak) c it ak false ⟨0, 0, 0, 0⟩ 0 0 := ⟨rfl, rfl, rfl, rfl, fun _ _ => rfl, rfl, fun s hs => (by cases hs), rfl, ⟨Int.le_refl _, Int.le_refl _⟩, rfl, fun _ => rfl⟩
end

section
variable {h0 h1 : Hf} {q0 q1 : List Lt} {n0 n1 : Int}
theorem Pz.doAsk (P : Pz h0 h1 q0 q1 n0 n1) (_ : h0.o = 0) : Pz { h0 with o := 1, n := n0 + 1 } h1 q0 (q1 ++ [(1, n0 + 1)]) (n0 + 1) n1 := by
  have hx : n0 + 1 ≠ 0 := by have := P.p0; omega
  have d0 := P.d0.ask (x := n0 + 1) (by omega)
  exact ⟨okH_mk (okR_1 hx) (okH_2 (h := h0) P.k0), P.k1, d0, P.d1.push0 (a := (1, n0 + 1)) (show (1 : Int) ≠ 3 by decide) (show (1 : Int) ≠ 4 by decide), P.l0, mem_push1 P.l1 ⟨show (1 : Int) ≤ 1 ∧ (1 : Int) ≤ 4 by decide, hx⟩, by have := P.p0; omega, P.p1⟩
theorem Pz.doLeave (P : Pz h0 h1 q0 q1 n0 n1) (e : ¬ h0.o = 0) : Pz { h0 with o := 0, n := 0 } h1 q0 (q1 ++ [(2, h0.n)]) n0 n1 := by
  have hk := ok_leave P.k0
  unfold leaveH at hk
  rw [if_neg e] at hk
  have hn : h0.n ≠ 0 := by rcases okR_cases (okH_1 P.k0) with ⟨a, _⟩ | ⟨_, b⟩ | ⟨_, b⟩ <;> first | exact b | omega
  exact ⟨hk, P.k1, P.d0.leave e, P.d1.push0 (a := (2, h0.n)) (show (2 : Int) ≠ 3 by decide) (show (2 : Int) ≠ 4 by decide), P.l0, mem_push1 P.l1 ⟨show (1 : Int) ≤ 2 ∧ (2 : Int) ≤ 4 by decide, hn⟩, P.p0, P.p1⟩
theorem Pz.doGrant (P : Pz h0 h1 q0 q1 n0 n1) (e : h0.i = 1) : Pz { h0 with i := 2 } h1 q0 (q1 ++ [(3, h0.m)]) n0 n1 := by
  have hk := ok_grant P.k0
  unfold grantH at hk
  rw [if_pos e] at hk
  have hm : h0.m ≠ 0 := by rcases okR_cases (okH_2 P.k0) with ⟨a, _⟩ | ⟨_, b⟩ | ⟨_, b⟩ <;> first | exact b | omega
  exact ⟨hk, P.k1, P.d0.push1 (a := (3, h0.m)) (show (3 : Int) ≠ 1 by decide) (show (3 : Int) ≠ 2 by decide), P.d1.grant e, P.l0, mem_push1 P.l1 ⟨show (1 : Int) ≤ 3 ∧ (3 : Int) ≤ 4 by decide, hm⟩, P.p0, P.p1⟩
theorem Pz.doDeny (P : Pz h0 h1 q0 q1 n0 n1) (e : ¬ h0.i = 0) : Pz { h0 with i := 0, m := 0 } h1 q0 (q1 ++ [(4, h0.m)]) n0 n1 := by
  have hk := ok_deny P.k0
  unfold denyH at hk
  rw [if_neg e] at hk
  have hm : h0.m ≠ 0 := by rcases okR_cases (okH_2 P.k0) with ⟨a, _⟩ | ⟨_, b⟩ | ⟨_, b⟩ <;> first | exact b | omega
  exact ⟨hk, P.k1, P.d0.push1 (a := (4, h0.m)) (show (4 : Int) ≠ 1 by decide) (show (4 : Int) ≠ 2 by decide), P.d1.deny, P.l0, mem_push1 P.l1 ⟨show (1 : Int) ≤ 4 ∧ (4 : Int) ≤ 4 by decide, hm⟩, P.p0, P.p1⟩
end

/-- An end acts. -/
theorem pair_act {R : Ro} {c : ByteArray} {it ak : Int} {k : Bool} {h h1 : Hf} {x v n1 : Int} {q0 q1 : List Lt} (I : On R c it ak k h x v) (P : Pz h h1 q0 q1 x n1) (hv : 0 ≤ v) (kind : Int) :
    ∃ k' h' x', On (actP R c kind).2.2 c it ak k' h' x' (v + 1) ∧ (x ≤ x' ∧ x' ≤ x + 1) ∧ Pz h' h1 q0 (if (actP R c kind).2.1 = 0 ∧ (actP R c kind).1.1 ≠ 0 then q1 ++ [((actP R c kind).1.1, (actP R c kind).1.2.1)] else q1) x' n1 := by
  have hx1 : x + 1 ≠ 0 := by have := P.p0; omega
  unfold actP
  rw [I.me, I.nx]
  dsimp only
  by_cases k1 : kind = 11
  · subst k1
    rw [actA_ask P.k0 hx1]
    rw [if_neg (fun hh => hh rfl)]
    unfold askH
    by_cases e : h.o = 0
    · rw [if_pos e]
      dsimp only
      rw [if_neg (show ¬ (1 : Int) = 0 by decide), if_pos rfl]
      cases hr : roomB R ⟨c, k, ⟨#[]⟩, (none, 0, 0), h⟩ with
      | true =>
        rw [if_pos rfl]
        have P2 := P.doAsk e
        refine ⟨true, { h with o := 1, n := x + 1 }, x + 1, I.turn true { h with o := 1, n := x + 1 } P2.k0 (fun hh => by cases hh) (x + 1) hv, by omega, ?_⟩
        rw [if_pos ⟨rfl, show (1 : Int) ≠ 0 by decide⟩]
        exact P2
      | false =>
        rw [if_neg (by decide)]
        refine ⟨k, h, x, I.more, by omega, ?_⟩
        rw [if_neg (fun hh => by have := hh.1; cases this)]
        exact P
    · rw [if_neg e]
      dsimp only
      rw [if_pos rfl]
      refine ⟨k, h, x, I.more, by omega, ?_⟩
      rw [if_neg (fun hh => hh.2 rfl)]
      exact P
  · by_cases k2 : kind = 12
    · subst k2
      rw [actA_grant P.k0]
      rw [if_neg (fun hh => hh rfl)]
      unfold grantH
      by_cases e : h.i = 1
      · rw [if_pos e]
        dsimp only
        have P2 := P.doGrant e
        rw [if_neg (show ¬ (3 : Int) = 0 by decide), if_neg (show ¬ (12 : Int) = 11 by decide), if_pos rfl]
        cases hr : roomB R ⟨c, k, ⟨#[]⟩, (none, 0, 0), h⟩ with
        | true =>
          rw [if_pos rfl]
          have I2 := I.turn true { h with i := 2 } P2.k0 (fun hh => by cases hh) x hv
          refine ⟨true, { h with i := 2 }, x, ?_, by omega, ?_⟩
          · have e : ({ R with nx := x } : Ro) = R := by rw [← I.nx]
            rw [e] at I2
            exact I2
          · rw [if_pos ⟨rfl, show (3 : Int) ≠ 0 by decide⟩]
            exact P2
        | false =>
          rw [if_neg (by decide)]
          refine ⟨k, h, x, I.more, by omega, ?_⟩
          rw [if_neg (fun hh => by have := hh.1; cases this)]
          exact P
      · rw [if_neg e]
        dsimp only
        rw [if_pos rfl]
        refine ⟨k, h, x, I.more, by omega, ?_⟩
        rw [if_neg (fun hh => hh.2 rfl)]
        exact P
    · by_cases k3 : kind = 13
      · subst k3
        rw [actA_leave P.k0]
        rw [if_neg (fun hh => hh rfl)]
        unfold leaveH
        by_cases e : h.o = 0
        · rw [if_pos e]
          dsimp only
          rw [if_pos rfl]
          refine ⟨k, h, x, I.more, by omega, ?_⟩
          rw [if_neg (fun hh => hh.2 rfl)]
          exact P
        · rw [if_neg e]
          dsimp only
          have P2 := P.doLeave e
          rw [if_neg (show ¬ (2 : Int) = 0 by decide), if_neg k1, if_neg k2]
          have I2 := I.turn k { h with o := 0, n := 0 } P2.k0 (fun _ => rfl) x hv
          have e4 : ({ R with nx := x } : Ro) = R := by rw [← I.nx]
          rw [e4] at I2
          refine ⟨k, { h with o := 0, n := 0 }, x, I2, by omega, ?_⟩
          rw [if_pos ⟨rfl, show (2 : Int) ≠ 0 by decide⟩]
          exact P2
      · by_cases k4 : kind = 14
        · subst k4
          rw [actA_deny P.k0]
          rw [if_neg (fun hh => hh rfl)]
          unfold denyH
          by_cases e : h.i = 0
          · rw [if_pos e]
            dsimp only
            rw [if_pos rfl]
            refine ⟨k, h, x, I.more, by omega, ?_⟩
            rw [if_neg (fun hh => hh.2 rfl)]
            exact P
          · rw [if_neg e]
            dsimp only
            have P2 := P.doDeny e
            rw [if_neg (show ¬ (4 : Int) = 0 by decide), if_neg k1, if_neg k2]
            have I2 := I.turn k { h with i := 0, m := 0 } P2.k0 I.out x hv
            have e4 : ({ R with nx := x } : Ro) = R := by rw [← I.nx]
            rw [e4] at I2
            refine ⟨k, { h with i := 0, m := 0 }, x, I2, by omega, ?_⟩
            rw [if_pos ⟨rfl, show (4 : Int) ≠ 0 by decide⟩]
            exact P2
        · have ea : actA h kind (x + 1) = ((⟨0, 0, 0, 0⟩, 0, 0), 1) := by
            unfold actA
            rw [if_pos P.k0]
            unfold actH
            rw [if_neg k1, if_neg k2, if_neg k3, if_neg k4]
          rw [ea]
          dsimp only
          rw [if_pos (show (1 : Nat) ≠ 0 by decide)]
          refine ⟨k, h, x, I.more, by omega, ?_⟩
          rw [if_neg (fun hh => by have := hh.1; cases this)]
          exact P
/-- An end hears. -/
theorem pair_hear {R : Ro} {c : ByteArray} {it ak : Int} {k : Bool} {h h1 : Hf} {x v n1 : Int} {a : Lt} {q0 q1 : List Lt} (I : On R c it ak k h x v) (P : Pz h h1 (a :: q0) q1 x n1) (hv : 0 ≤ v) :
    (hearP R c a.1 a.2).2.1 = 0 ∧ ∃ k' h', On (hearP R c a.1 a.2).2.2 c it ak k' h' x (v + 1) ∧ Pz h' h1 q0 (if (hearP R c a.1 a.2).1.2.1 = true then q1 ++ [(4, a.2)] else q1) x n1 ∧ ((hearP R c a.1 a.2).1.2.1 = true → a.1 = 1) := by
  obtain ⟨he, P2⟩ := P.hear
  have hst : (hearA h a.1 a.2).1.1.o = 0 ∨ h.o ≠ 0 := by
    by_cases e : h.o = 0
    · left
      obtain ⟨⟨a1, a2⟩, a3⟩ := P.l0 a (List.mem_cons_self ..)
      obtain ⟨r, hr⟩ : ∃ r, hearH h a.1 a.2 = some r := by
        have : a.1 = 1 ∨ a.1 = 2 ∨ a.1 = 3 ∨ a.1 = 4 := by omega
        unfold hearH
        rcases this with e | e | e | e <;> rw [e] <;> exact ⟨_, rfl⟩
      rw [hearA_at P.k0 a3 hr]
      have s1 := (hear_st hr).1
      have s2 : stA (h.o, h.n) a = (h.o, h.n) := by
        unfold stA
        rw [if_neg (fun hh => by have := hh.2.1; simp only at this; omega), if_neg (fun hh => hh.2.1 e)]
      rw [s2] at s1
      exact ((Prod.mk.inj s1).1).trans e
    · exact Or.inr e
  unfold hearP
  rw [I.me]
  dsimp only
  have hd : a.1 = 1 → (hearA h a.1 a.2) = (({ h with i := 1, m := a.2 }, 42), 0) := fun e => by
    have a3 := (P.l0 a (List.mem_cons_self ..)).2
    rw [e]
    exact hearA_at P.k0 a3 rfl
  generalize hearA h a.1 a.2 = r at *
  obtain ⟨⟨t, tl⟩, en⟩ := r
  dsimp only at he P2 hst ⊢
  subst he
  rw [if_neg (fun hh => hh rfl)]
  by_cases hc : a.1 = 1 ∧ thr ⟨c, k, ⟨#[]⟩, (none, 0, 0), h⟩ = false ∧ decide ((R.ks.length : Int) - R.kept ≥ R.ak) = true
  · rw [if_pos hc]
    refine ⟨rfl, k, h, I.more, ?_, fun _ => hc.1⟩
    dsimp only
    rw [if_pos rfl]
    have ht : (k || h.i != 0) = false := hc.2.1
    rw [Bool.or_eq_false_iff] at ht
    have hi : h.i = 0 := by simpa using ht.2
    have hm := zero_num (okH_2 P.k0) hi
    have e1 := hd hc.1
    have et : t = { h with i := 1, m := a.2 } := congrArg (fun z => z.1.1) e1
    subst et
    have P3 := P2.doDeny (show ¬ (1 : Int) = 0 by decide)
    have eh : ({ { h with i := 1, m := a.2 } with i := 0, m := 0 } : Hf) = h := by
      obtain ⟨o, n, i, m⟩ := h
      dsimp only at hi hm ⊢
      rw [hi, hm]
    rw [eh] at P3
    exact P3
  · rw [if_neg hc]
    have I2 := I.turn k t P2.k0 (fun e => hst.resolve_right (fun h2 => h2 (I.out e))) x hv
    have e4 : ({ R with nx := x } : Ro) = R := by rw [← I.nx]
    rw [e4] at I2
    refine ⟨rfl, k, t, I2, ?_, fun h => by cases h⟩
    dsimp only
    rw [if_neg (by decide)]
    exact P2

theorem On.got {R : Ro} {c : ByteArray} {it ak : Int} {k : Bool} {h : Hf} {x v : Int} (I : On R c it ak k h x v) (hp : prepB c = c) (he : prepE c = 0) (hk : okH h = true) : (getS R c).1.h = h := by
  unfold getS getP
  rw [he, hp, if_pos rfl, I.me]
  cases ht : thr ⟨c, k, ⟨#[]⟩, (none, 0, 0), h⟩ with
  | true => rw [if_pos rfl]
  | false =>
    rw [if_neg (by decide)]
    have ht' : (k || h.i != 0) = false := ht
    rw [Bool.or_eq_false_iff] at ht'
    exact (ok_zero hk (I.out ht'.1) (by simpa using ht'.2)).symm
/-- How much is on its way. -/
def wt : List Lt → Nat
  | [] => 0
  | a :: q => (if a.1 = 1 then 2 else 1) + wt q
theorem wt_app (q : List Lt) (a : Lt) : wt (q ++ [a]) = wt q + (if a.1 = 1 then 2 else 1) := by
  induction q with
  | nil => simp [wt]
  | cons b q ih => simp only [List.cons_append, wt, ih]; omega
theorem wt_pos {q : List Lt} (h : 0 < q.length) : 0 < wt q := by
  cases q with
  | nil => simp at h
  | cons a q => simp only [wt]; split <;> omega
def mu2 (N i a b : Nat) : Nat := (N - i) * 7 + 2 * (a + b) + (if i % 2 = 0 then (if a = 0 then 1 else 0) else (if b = 0 then 1 else 0))
theorem mu2_early {N i a b a' b' : Nat} (hi : i < N) (h : a' + b' ≤ a + b + 2) : mu2 N (i + 1) a' b' < mu2 N i a b := by
  unfold mu2
  have : (N - i) * 7 = (N - (i + 1)) * 7 + 7 := by omega
  split <;> split <;> split <;> split <;> omega
theorem mu2_fall {N i a b a' b' : Nat} (h : a' + b' + 1 ≤ a + b) : mu2 N (i + 1) a' b' < mu2 N i a b := by
  unfold mu2
  have : (N - (i + 1)) * 7 ≤ (N - i) * 7 := by omega
  split <;> split <;> split <;> split <;> omega
theorem mu2_skip0 {N i b : Nat} (hp : i % 2 = 0) (hb : 0 < b) : mu2 N (i + 1) 0 b < mu2 N i 0 b := by
  unfold mu2
  have : (N - (i + 1)) * 7 ≤ (N - i) * 7 := by omega
  rw [if_pos hp, if_pos rfl, if_neg (by omega : ¬ ((i + 1) % 2 = 0)), if_neg (by omega : ¬ b = 0)]
  omega
theorem mu2_skip1 {N i a : Nat} (hp : i % 2 = 1) (ha : 0 < a) : mu2 N (i + 1) a 0 < mu2 N i a 0 := by
  unfold mu2
  have : (N - (i + 1)) * 7 ≤ (N - i) * 7 := by omega
  rw [if_neg (by omega : ¬ (i % 2 = 0)), if_pos rfl, if_pos (by omega : (i + 1) % 2 = 0), if_neg (by omega : ¬ a = 0)]
  omega
end Go.Proofs.YtppdopcghnfapaaGreatDoor

/- RosterPair: the document's runs. -/
set_option maxRecDepth 100000
namespace Go.Proofs.YtppdopcghnfapaaGreatDoor
open Go.RowKit Go.Joins

def bBob : ByteArray := ⟨#[66, 111, 98]⟩
def bbob : ByteArray := ⟨#[98, 111, 98]⟩
def bann : ByteArray := ⟨#[97, 110, 110]⟩
theorem lBob : Nm.localN bBob.data.toList = ([98, 111, 98], 0) := by decide +kernel
theorem lbob : Nm.localN bbob.data.toList = ([98, 111, 98], 0) := by decide +kernel
theorem lann : Nm.localN bann.data.toList = ([97, 110, 110], 0) := by decide +kernel
theorem pBob : prepB bBob = bbob ∧ prepE bBob = 0 := by unfold prepB prepE; rw [lBob]; exact ⟨rfl, rfl⟩
theorem pbob : prepB bbob = bbob ∧ prepE bbob = 0 := by unfold prepB prepE; rw [lbob]; exact ⟨rfl, rfl⟩
theorem pann : prepB bann = bann ∧ prepE bann = 0 := by unfold prepB prepE; rw [lann]; exact ⟨rfl, rfl⟩

def rW : Ro := turnR { newR 2 1 with nx := 1 } ⟨bbob, true, ⟨#[]⟩, (none, 0, 0), ⟨0, 0, 0, 0⟩⟩ ⟨1, 1, 0, 0⟩
theorem rW_on : On rW bbob 2 1 true ⟨1, 1, 0, 0⟩ 1 1 := (On.new bbob 2 1).turn true ⟨1, 1, 0, 0⟩ rfl (fun h => by cases h) 1 (Int.le_refl _)
theorem rW_act : actS (newR 2 1) bBob 11 = ((1, 1, true), 0, rW) := by
  unfold actS
  rw [pBob.1, pBob.2, if_pos rfl]
  rfl
theorem rW_get : getS rW bbob = (⟨bbob, true, ⟨#[]⟩, (none, 0, 0), ⟨1, 1, 0, 0⟩⟩, 0, rW) := by
  unfold getS getP
  rw [pbob.1, pbob.2, if_pos rfl, rW_on.me]
  rfl
theorem rW_ver : rW.ver = 1 := rfl
set_option maxHeartbeats 1600000 in
theorem rwakes_any (w : World) (hT : Lib.Utf8Tabs 2 3 w) : Calls Tryz.prog 9 #[] w fun e w' => e = .returned (.bool true) ∧ Below w.heap.size w w' := by
  have cN := New_ok 2 1 rfl rfl w
  have HT : Hid (Lib.Utf8Tabs 2 3 w) := hT
  clear hT
  go_enter Tryz.func9, Tryz.ntmps9
  go_upto_region 4 with (first
    | (go_at_call 7; refine cN.mono ?_; clear cN; rintro e w1 ⟨q, mb, rfl, hr, hq, hm, hb⟩))
  have cA := Act_R w1 q mb (newR 2 1) hr (newR_G 2 1) bBob (by decide) 11 (tabs_keep HT.out (Keep.ofBelow (S := fun _ => False) hb) (fun h => h) (fun h => h)) (by rw [pBob.1]; decide)
  rw [rW_act] at cA
  dsimp only at cA
  have HB : Hid (Below w.heap.size w w1 ∧ w.heap.size ≤ q ∧ w.heap.size ≤ mb) := ⟨hb, hq, hm⟩
  clear hr hq hm hb
  unfold bBob at cA
  go_upto_region 5 with (first
    | (go_at_call 22; refine cA.mono ?_; clear cA; rintro e w2 ⟨rfl, hr2, k2⟩))
  have hb2 : Below w.heap.size w w2 := HB.out.1.trans (k2.below HB.out.1.size (fun i hi => by have := HB.out; omega))
  have cG := Get_R w2 q mb rW hr2 (rW_on.rg (by decide) (by decide)) bbob (by decide) rW_on.plain (tabs_keep HT.out (Keep.ofBelow (S := fun _ => False) hb2) (fun h => h) (fun h => h)) (by rw [pbob.1]; decide)
  rw [rW_get] at cG
  dsimp only at cG
  unfold bbob env enc gsv at cG
  dsimp only at cG
  rw [gad_nil] at cG
  clear hr2
  go_upto_region 6 with (first
    | (go_at_call 30; refine cG.mono ?_; clear cG; rintro e w3 ⟨rfl, hr3, k3⟩))
  have cV : ∀ W, RA W q mb rW → Calls Tryz.prog 16 #[.pointer (some ⟨q, 0, none⟩)] W fun e w' => e = .returned (.int .u64 1) ∧ w' = W := fun W h => by have := ver_any W q mb rW h; rw [rW_ver] at this; exact this
  have hr4 := hr3.below (below1 w3 (.cells #[.string ⟨#[98, 111, 98]⟩, .bool true, .string ⟨#[]⟩, .slice none 0 0, .int .i64 1, .int .u64 1, .int .i64 0, .int .u64 0] 51))
  have cV2 := cV _ hr4
  have hb3 : Below w.heap.size w (w3.alloc (.cells #[.string ⟨#[98, 111, 98]⟩, .bool true, .string ⟨#[]⟩, .slice none 0 0, .int .i64 1, .int .u64 1, .int .i64 0, .int .u64 0] 51)) := (hb2.trans (k3.below hb2.size (fun i hi => by have := HB.out; omega))).alloc (by have := k3.size; have := hb2.size; omega) _
  have HZ : Hid (Below w.heap.size w _) := hb3
  clear cV hr3 k3 k2 hb2 hr4 hb3
  go_wp2_with (first
    | (go_at_call 16; refine cV2.mono ?_; clear cV2; rintro e w5 ⟨rfl, hw5⟩; replace hw5 := hw5.symm; subst hw5))
  go_ret
  exact ⟨rfl, HZ.out⟩
end Go.Proofs.YtppdopcghnfapaaGreatDoor

/- roster: the law's calls as arguments. -/
set_option maxRecDepth 100000
namespace Go.Proofs.YtppdopcghnfapaaGreatDoor
open Go.RowKit Go.Joins Go.Shelf

section
open Go.ChangeShapes Go.WideShapes Go.ChangeAt
theorem cellsI6 : Tryz.prog.cellsOf 3 = 1 := by kernel_rfl
theorem cellsU6 : Tryz.prog.cellsOf 33 = 1 := by kernel_rfl
theorem cellsStr : Tryz.prog.cellsOf 9 = 1 := by kernel_rfl
theorem cellsStrs6 : Tryz.prog.cellsOf 32 = 1 := by kernel_rfl
theorem cellsOp6 : Tryz.prog.cellsOf 35 = 6 := by kernel_rfl
theorem list6 {α : Type} {l : List α} (h : l.length = 6) : ∃ c0 c1 c2 c3 c4 c5, l = [c0, c1, c2, c3, c4, c5] := by
  match l, h with
  | [c0, c1, c2, c3, c4, c5], _ => exact ⟨c0, c1, c2, c3, c4, c5, rfl⟩
theorem strs_cell {H : Type} {enc : TypeId × Value → H} {W : World} {fuel : Nat} {c0 : Value} {x : DataW H × List MemPlace} (f : DataW.trod enc Tryz.prog W 0 (fun _ => true) true fuel 32 [c0] = some x) :
    ∃ (a : Option Addr) (n c : Nat) (ts : List ByteArray), c0 = .slice a n c ∧ GRd W a n c ts := by
  rcases open_strings Tryz.underlying32 Tryz.underlying9 cellsStr f with ⟨hcs, _⟩ | ⟨x, l, cc, ss, hcs, _, hl, hm, hz, _, hcell, hws⟩
  · simp only [List.cons.injEq, and_true] at hcs
    exact ⟨none, 0, 0, [], hcs, ⟨rfl, Nat.le_refl _, Nat.zero_le _, fun h => absurd h (Nat.lt_irrefl 0)⟩⟩
  · simp only [List.cons.injEq, and_true] at hcs
    have hz' : ss.length = cc := by simpa using hz
    refine ⟨some x, l, cc, ss.take l, hcs, by rw [List.length_take]; omega, hl, hm, fun h0 => ?_⟩
    have hc : ∀ j, j < l → W.cell? (x.add j) = some (.string ((ss.take l).getD j ⟨#[]⟩)) := fun j hj => by
      have hjl : j < ss.length := by omega
      rw [hcell j (by omega)]
      simp [List.getD, hj, List.getElem?_eq_getElem hjl]
    obtain ⟨b, off, spot⟩ := x
    have hspot : spot = none := by simpa [Addr.add] using World.cell?_spot (hc 0 h0)
    subst hspot
    refine ⟨b, off, rfl, fun j hj => ?_⟩
    have := hc j hj
    rw [add_flat] at this
    exact this
/-- A call as an argument. -/
structure Op6 where
  d : Int
  c : ByteArray
  nm : ByteArray
  ga : Option Addr
  gn : Nat
  gc : Nat
  k : Int
  n : Int
def oc6 (o : Op6) : Array Value := #[.int .i64 o.d, .string o.c, .string o.nm, .slice o.ga o.gn o.gc, .int .i64 o.k, .int .u64 o.n]
def OpS (W : World) (o : Op6) (gs : List ByteArray) : Prop := GRd W o.ga o.gn o.gc gs
theorem op6_cells {H : Type} {enc : TypeId × Value → H} {W : World} {fuel : Nat} {c0 c1 c2 c3 c4 c5 : Value} {x : DataW H × List MemPlace} (f : DataW.trod enc Tryz.prog W 0 (fun _ => true) true fuel 35 [c0, c1, c2, c3, c4, c5] = some x) :
    ∃ (o : Op6) (gs : List ByteArray), #[c0, c1, c2, c3, c4, c5] = oc6 o ∧ OpS W o gs := by
  obtain ⟨ys, n, _, hx, hl, hlen, hfs⟩ := DataW.trod_struct Tryz.underlying35 f
  match ys, hlen with
  | [y0, y1, y2, y3, y4, y5], _ =>
    have f0 : DataW.trod enc Tryz.prog W 0 (fun _ => true) true n 3 [c0] = some y0 := by simpa [Value.cells, cellsI6] using hfs 0 _ rfl
    have f1 : DataW.trod enc Tryz.prog W 0 (fun _ => true) true n 9 [c1] = some y1 := by simpa [Value.cells, cellsStr] using hfs 1 _ rfl
    have f2 : DataW.trod enc Tryz.prog W 0 (fun _ => true) true n 9 [c2] = some y2 := by simpa [Value.cells, cellsStr] using hfs 2 _ rfl
    have f3 : DataW.trod enc Tryz.prog W 0 (fun _ => true) true n 32 [c3] = some y3 := by simpa [Value.cells, cellsStrs6] using hfs 3 _ rfl
    have f4 : DataW.trod enc Tryz.prog W 0 (fun _ => true) true n 3 [c4] = some y4 := by simpa [Value.cells, cellsI6] using hfs 4 _ rfl
    have f5 : DataW.trod enc Tryz.prog W 0 (fun _ => true) true n 33 [c5] = some y5 := by simpa [Value.cells, cellsU6] using hfs 5 _ rfl
    obtain ⟨D, e0, _, w0⟩ := DataW.trod_int Tryz.underlying3 f0
    obtain ⟨C, e1, _, w1⟩ := DataW.trod_string Tryz.underlying9 f1
    obtain ⟨N, e2, _, w2⟩ := DataW.trod_string Tryz.underlying9 f2
    obtain ⟨K, e4, _, w4⟩ := DataW.trod_int Tryz.underlying3 f4
    obtain ⟨U, e5, _, w5⟩ := DataW.trod_int Tryz.underlying33 f5
    simp only [List.cons.injEq, and_true] at e0 e1 e2 e4 e5
    subst e0 e1 e2 e4 e5
    obtain ⟨ga, gn, gc, gs, rfl, hG⟩ := strs_cell f3
    exact ⟨⟨D, C, N, ga, gn, gc, K, U⟩, gs, rfl, hG⟩
/-- The calls of the law, as they lie. -/
structure OSd (w : World) (a : Option Addr) (n c : Nat) : Prop where
  cap : n ≤ c
  most : c ≤ maxLen
  flat : 0 < n → ∃ b off, a = some ⟨b, off, none⟩ ∧ ∀ j, j < n → ∃ o gs, w.rangeAt b (off + j * 6) (oc6 o).toList ∧ OpS w o gs
theorem open_rops {H : Type} {enc : TypeId × Value → H} {W : World} {b0 : Nat} {v : Value} {d : DataW H} {p : List MemPlace}
    (hv : Value.okWide Tryz.prog W .any b0 22 v) (h : DataW.Trod enc Tryz.prog W 0 (fun _ => true) true 22 v d p) : ∃ a n c, v = .slice a n c ∧ OSd W a n c := by
  obtain ⟨a, n, c, rfl⟩ := okWide_slice Tryz.underlying22 hv
  obtain ⟨fuel, hf⟩ := h
  rcases Go.Deep.open_slice Tryz.underlying22 hf with ⟨hcs, _⟩ | ⟨x, l, cc, m, k, D, Pl, hcs, hb, hl, hm, hmm, _, hx⟩
  · simp [Value.cells] at hcs
    obtain ⟨rfl, rfl, rfl⟩ := hcs
    exact ⟨none, 0, 0, rfl, Nat.le_refl _, Nat.zero_le _, fun h => by omega⟩
  · simp [Value.cells] at hcs
    obtain ⟨rfl, rfl, rfl⟩ := hcs
    simp only [if_true] at hmm
    subst hmm
    have each : ∀ j, j < n → ∃ o gs, (∀ i u, (oc6 o)[i]? = some u → W.cell? (x.add (j * 6 + i)) = some u) ∧ OpS W o gs := by
      intro j hj
      obtain ⟨cs', h1, h2⟩ := hx j (by omega)
      rw [cellsOp6] at h1
      obtain ⟨_, hlen, hcell⟩ := World.cells?_some h1
      obtain ⟨c0, c1, c2, c3, c4, c5, rfl⟩ := list6 hlen
      obtain ⟨o, gs, e, hR⟩ := op6_cells h2
      refine ⟨o, gs, fun i u hu => ?_, hR⟩
      rw [← e] at hu
      have hi : i < 6 := by
        have := (Array.getElem?_eq_some_iff.1 hu).1
        simpa using this
      have := hcell i (by omega)
      rw [Go.Deep.add_add] at this
      rw [this]
      simpa using hu
    refine ⟨some x, n, _, rfl, hl, hm, fun h0 => ?_⟩
    obtain ⟨b, off, spot⟩ := x
    obtain ⟨o0, gs0, h0c, _⟩ := each 0 h0
    have hspot : spot = none := by simpa [Addr.add] using World.cell?_spot (h0c 0 _ rfl)
    subst hspot
    refine ⟨b, off, rfl, fun j hj => ?_⟩
    obtain ⟨o, gs, hc, hR⟩ := each j hj
    refine ⟨o, gs, fun i u hu => ?_, hR⟩
    have := hc i u (by rw [← Array.getElem?_toList]; exact hu)
    rw [add_flat] at this
    rw [Nat.add_assoc]
    exact this
end
end Go.Proofs.YtppdopcghnfapaaGreatDoor

/- roster: what holds between two calls of the law; each call as one contract. -/
set_option maxRecDepth 100000
namespace Go.Proofs.YtppdopcghnfapaaGreatDoor
open Go.RowKit Go.Joins

theorem layR_keep (R : Ro) (x : En) : (layR R x).it = R.it ∧ (layR R x).ak = R.ak ∧ (layR R x).nx = R.nx := by
  unfold layR
  split <;> exact ⟨rfl, rfl, rfl⟩
theorem turnR_keep (R : Ro) (x : En) (t : Hf) : (turnR R x t).it = R.it ∧ (turnR R x t).ak = R.ak ∧ (turnR R x t).nx = R.nx := by
  unfold turnR
  split
  · exact layR_keep R _
  · exact layR_keep R _
/-- Bounds stand, the counter of asks rises by one at most. -/
def Stay (R R' : Ro) : Prop := R'.it = R.it ∧ R'.ak = R.ak ∧ R.nx ≤ R'.nx ∧ R'.nx ≤ R.nx + 1
theorem Stay.refl (R : Ro) : Stay R R := ⟨rfl, rfl, Int.le_refl _, by omega⟩
theorem stay_turn (R : Ro) (x : En) (t : Hf) : Stay R (turnR R x t) := by
  obtain ⟨h1, h2, h3⟩ := turnR_keep R x t
  exact ⟨h1, h2, by omega, by omega⟩
theorem stay_act (R : Ro) (c : ByteArray) (kind : Int) : Stay R (actP R c kind).2.2 := by
  unfold actP
  split
  · exact Stay.refl R
  · split
    · exact Stay.refl R
    · split
      · split
        · obtain ⟨h1, h2, h3⟩ := turnR_keep { R with nx := R.nx + 1 } { ofE R c with k := true } (actA (ofE R c).h kind (R.nx + 1)).1.1
          refine ⟨h1, h2, ?_, ?_⟩
          · have : (turnR { R with nx := R.nx + 1 } { ofE R c with k := true } (actA (ofE R c).h kind (R.nx + 1)).1.1).nx = R.nx + 1 := h3
            show R.nx ≤ (turnR { R with nx := R.nx + 1 } { ofE R c with k := true } (actA (ofE R c).h kind (R.nx + 1)).1.1).nx
            omega
          · have : (turnR { R with nx := R.nx + 1 } { ofE R c with k := true } (actA (ofE R c).h kind (R.nx + 1)).1.1).nx = R.nx + 1 := h3
            show (turnR { R with nx := R.nx + 1 } { ofE R c with k := true } (actA (ofE R c).h kind (R.nx + 1)).1.1).nx ≤ R.nx + 1
            omega
        · exact Stay.refl R
      · split
        · split
          · exact stay_turn R _ _
          · exact Stay.refl R
        · exact stay_turn R _ _
theorem stay_actS (R : Ro) (s : ByteArray) (kind : Int) : Stay R (actS R s kind).2.2 := by
  unfold actS
  split
  · exact stay_act R _ kind
  · exact Stay.refl R
theorem stay_hearS (R : Ro) (s : ByteArray) (mail n : Int) : Stay R (hearS R s mail n).2.2 := by
  unfold hearS
  split
  · unfold hearP
    split
    · exact Stay.refl R
    · split
      · exact Stay.refl R
      · exact stay_turn R _ _
  · exact Stay.refl R
theorem stay_dropS (R : Ro) (s : ByteArray) : Stay R (dropS R s).2.2 := by
  unfold dropS
  split
  · unfold dropP
    split
    · obtain ⟨h1, h2, h3⟩ := layR_keep R (en0 (prepB s))
      exact ⟨h1, h2, Int.le_of_eq h3.symm, by show (layR R _).nx ≤ _; omega⟩
    · exact Stay.refl R
  · exact Stay.refl R

/-- What holds behind k calls. -/
structure Sbt (w : World) (q mb : Nat) (it ak : Int) (k : Nat) (R : Ro) (G : ByteArray → List ByteArray) : Prop where
  ra : RA w q mb R
  rx : RX w R G
  rb : RB R
  ib : R.it = it ∧ R.ak = ak
  bd : 0 ≤ it ∧ it ≤ 4 ∧ 0 ≤ ak ∧ ak ≤ 3
  nx : 0 ≤ R.nx ∧ R.nx ≤ k
  ver : 0 ≤ R.ver ∧ R.ver ≤ k
theorem RB.len {R : Ro} (h : RB R) : (R.ks.length : Int) = R.kept + (R.ks.countP (fun s => !kb R s) : Int) := by
  have e2 := List.length_eq_countP_add_countP (kb R) (l := R.ks)
  have e3 : R.ks.countP (fun a => decide ¬kb R a = true) = R.ks.countP (fun s => !kb R s) := List.countP_congr (fun a _ => by cases kb R a <;> simp)
  rw [e3] at e2
  have := h.kc
  omega
section
variable {w w' : World} {q mb : Nat} {it ak : Int} {k : Nat} {R R' : Ro} {G G' : ByteArray → List ByteArray}
theorem Sbt.few (h : Sbt w q mb it ak k R G) : R.ks.length ≤ 7 ∧ 0 ≤ R.kept ∧ R.kept ≤ 4 := by
  have h1 := h.rb.len
  have h2 := h.rb.it
  have h3 := h.rb.ak
  have h4 := h.ib
  have h5 := h.bd
  have h6 := h.rb.kc
  omega
theorem Sbt.rg (h : Sbt w q mb it ak k R G) (hk : k ≤ 1000) : RG R := by
  have h1 := h.few
  have h2 := h.nx
  have h3 := h.ver
  exact ⟨by omega, by omega, by omega, by omega, fun s x hx => (h.rb.ent s x hx).1⟩
theorem Sbt.below (h : Sbt w q mb it ak k R G) (hb : Below w.heap.size w w') : Sbt w' q mb it ak k R G := ⟨h.ra.below hb, h.rx.keep (S := fun _ => False) (Keep.ofBelow hb) (fun _ _ h => h), h.rb, h.ib, h.bd, h.nx, h.ver⟩
theorem Sbt.next (h : Sbt w q mb it ak k R G) (hs : Stay R R') {p : Bool} (hm : Moved R G R' G' p) (ha : RA w' q mb R') (hx : RX w' R' G') (hb : RB R') : Sbt w' q mb it ak (k + 1) R' G' := by
  obtain ⟨s1, s2, s3, s4⟩ := hs
  have h1 := h.ib
  have h2 := h.nx
  have h3 := h.ver
  refine ⟨ha, hx, hb, ⟨by rw [s1]; exact h1.1, by rw [s2]; exact h1.2⟩, h.bd, by omega, ?_⟩
  rcases hm with ⟨e, _⟩ | ⟨e, _⟩ <;> omega
end
set_option maxHeartbeats 800000 in
theorem sb_act {w : World} {q mb : Nat} {it ak : Int} {k : Nat} {R : Ro} {G : ByteArray → List ByteArray} (h : Sbt w q mb it ak k R G) (hk : k ≤ 1000) (s : ByteArray) (hs : s.size ≤ 1000000) (kind : Int) (hT : Lib.Utf8Tabs 2 3 w) (hp : (prepB s).size ≤ 1000000) :
    Calls Tryz.prog 22 #[.pointer (some ⟨q, 0, none⟩), .string s, .int .i64 kind] w fun e w' => ∃ (a b d : Int) (c : Bool) (R' : Ro) (G' : ByteArray → List ByteArray), e = .returned (.tuple #[.int .i64 a, .int .u64 b, .bool c, .int .i64 d]) ∧ Sbt w' q mb it ak (k + 1) R' G' ∧ Moved R G R' G' false ∧ Keep (fun j => j = q ∨ j = mb) w w' := by
  refine (Act_R w q mb R h.ra (h.rg hk) s hs kind hT hp).mono ?_
  rintro e w' ⟨rfl, hr, hk'⟩
  have hm := (moved_actS R G h.rb.of s kind).nrm
  have hx := (h.rx.actS h.rb s hp kind).keep hk' (fun b hb => ra_notTy h.ra hb)
  exact ⟨_, _, _, _, _, _, rfl, h.next (stay_actS R s kind) hm hr hx (rb_actS h.rb s kind), hm, hk'⟩
set_option maxHeartbeats 800000 in
theorem sb_hear {w : World} {q mb : Nat} {it ak : Int} {k : Nat} {R : Ro} {G : ByteArray → List ByteArray} (h : Sbt w q mb it ak k R G) (hk : k ≤ 1000) (s : ByteArray) (hs : s.size ≤ 1000000) (mail n : Int) (hT : Lib.Utf8Tabs 2 3 w) (hp : (prepB s).size ≤ 1000000) :
    Calls Tryz.prog 23 #[.pointer (some ⟨q, 0, none⟩), .string s, .int .i64 mail, .int .u64 n] w fun e w' => ∃ (a d : Int) (b c : Bool) (R' : Ro) (G' : ByteArray → List ByteArray), e = .returned (.tuple #[.agg #[.int .i64 a, .bool b, .bool c], .int .i64 d]) ∧ Sbt w' q mb it ak (k + 1) R' G' ∧ Moved R G R' G' false ∧ Keep (fun j => j = q ∨ j = mb) w w' := by
  refine (Hear_R w q mb R h.ra (h.rg hk) s hs mail n hT hp).mono ?_
  rintro e w' ⟨rfl, hr, hk'⟩
  have hm := (moved_hearS R G h.rb.of s mail n).nrm
  have hx := (h.rx.hearS h.rb s hp mail n).keep hk' (fun b hb => ra_notTy h.ra hb)
  exact ⟨_, _, _, _, _, _, rfl, h.next (stay_hearS R s mail n) hm hr hx (rb_hearS h.rb s mail n), hm, hk'⟩
set_option maxHeartbeats 800000 in
theorem sb_drop {w : World} {q mb : Nat} {it ak : Int} {k : Nat} {R : Ro} {G : ByteArray → List ByteArray} (h : Sbt w q mb it ak k R G) (hk : k ≤ 1000) (s : ByteArray) (hs : s.size ≤ 1000000) (hT : Lib.Utf8Tabs 2 3 w) (hp : (prepB s).size ≤ 1000000) :
    Calls Tryz.prog 21 #[.pointer (some ⟨q, 0, none⟩), .string s] w fun e w' => ∃ (x : En) (d : Int) (R' : Ro) (G' : ByteArray → List ByteArray), e = .returned (.tuple #[env x, .int .i64 d]) ∧ Sbt w' q mb it ak (k + 1) R' G' ∧ Moved R G R' G' false ∧ Keep (fun j => j = q ∨ j = mb) w w' := by
  refine (Drop_R w q mb R h.ra (h.rg hk) s hs hT hp).mono ?_
  rintro e w' ⟨rfl, hr, hk'⟩
  have hm := (moved_dropS R G s).nrm
  have hx := (h.rx.dropS s hp).keep hk' (fun b hb => ra_notTy h.ra hb)
  exact ⟨_, _, _, _, rfl, h.next (stay_dropS R s) hm hr hx (rb_dropS h.rb s), hm, hk'⟩
set_option maxHeartbeats 1600000 in
theorem sb_put {w : World} {q mb : Nat} {it ak : Int} {k : Nat} {R : Ro} {G : ByteArray → List ByteArray} (h : Sbt w q mb it ak k R G) (hk : k ≤ 1000) (s nm : ByteArray) (hs : s.size ≤ 1000000) (hn : nm.size ≤ 281474976710656) (a : Option Addr) (n cc : Nat) (gs : List ByteArray) (hg : GRd w a n cc gs) (hgn : n ≤ 100000) (hgs : ∀ s ∈ gs, s.size ≤ 281474976710656) (hT : Lib.Utf8Tabs 2 3 w) (hp : (prepB s).size ≤ 1000000) :
    Calls Tryz.prog 18 #[.pointer (some ⟨q, 0, none⟩), .string s, .string nm, .slice a n cc] w fun e w' => ∃ (x : En) (d : Nat) (R' : Ro) (G' : ByteArray → List ByteArray), e = .returned (.tuple #[env x, .int .i64 d]) ∧ Sbt w' q mb it ak (k + 1) R' G' ∧ Moved R G R' G' (decide (d = 0)) ∧ Keep (fun j => j = q ∨ j = mb) w w' := by
  by_cases h1 : putF R s nm gs = 0
  · have hF : prepE s = 0 ∧ putE R (prepB s) nm gs = 0 := by
      unfold putF at h1
      by_cases h0 : prepE s = 0
      · rw [if_pos h0] at h1; exact ⟨h0, h1⟩
      · rw [if_neg h0] at h1; exact absurd h1 h0
    refine (Put_ok w q mb R h.ra (h.rg hk) s nm hs hn a n cc gs hg hgn hgs hT hp hF.1 hF.2).mono ?_
    rintro e w' ⟨x, rfl, ⟨g, g', hx, hr, r1, r2, r3, r4, r5⟩, hk'⟩
    have hm := (moved_put R G (prepB s) nm g (inOrdK gs)).nrm
    have hcc := h.rb.of (prepB s)
    have hx1 := h.rx.keep hk' (fun b hb => ra_notTy h.ra hb)
    have hnm : nm.size ≤ 64 ∧ ∀ t ∈ inOrdK gs, t.size ≤ 281474976710656 := by
      have h2 := hF.2
      unfold putE at h2
      by_cases a1 : textE nm = 0
      · rw [if_neg (fun e => e a1)] at h2
        by_cases a2 : groupsE gs = 0
        · exact ⟨textE_le a1, fun t ht => by have := (groupsE_le a2).2 t (inOrdK_mem ht); omega⟩
        · rw [if_pos a2] at h2; exact absurd h2 a2
      · rw [if_pos a1] at h2; exact absurd h2 a1
    have hE : EX w' (putN R (prepB s) nm g) (inOrdK gs) := ⟨r1, r2.mono (Nat.zero_le _), by show (ofE R (prepB s)).c.size ≤ _; rw [hcc]; exact hp, by show nm.size ≤ _; omega, by show g.2.1 ≤ _; omega, hnm.2⟩
    have hl := hx1.lay (putN R (prepB s) nm g) (inOrdK gs) hE
    have ec : (putN R (prepB s) nm g).c = prepB s := hcc
    rw [ec] at hl
    have hx2 := hl.ver (R.ver + 1)
    obtain ⟨l1, l2, l3⟩ := layR_keep R (putN R (prepB s) nm g)
    have hst : Stay R { layR R (putN R (prepB s) nm g) with ver := R.ver + 1 } := ⟨l1, l2, Int.le_of_eq l3.symm, by show (layR R _).nx ≤ _; omega⟩
    exact ⟨x, 0, _, _, rfl, h.next hst hm hr hx2 (rb_put h.rb (prepB s) nm g gs hF.2), hm, hk'⟩
  · refine (Put_no w q mb R h.ra (h.rg hk) s nm hs hn a n cc gs hg hgn hgs hT hp h1).mono ?_
    rintro e w' ⟨rfl, hr, hk'⟩
    have hm := Moved.refl R G
    refine ⟨_, _, R, G, rfl, h.next (Stay.refl R) hm hr (h.rx.keep hk' (fun b hb => ra_notTy h.ra hb)) h.rb, ?_, hk'⟩
    rw [decide_eq_false h1]; exact hm
theorem sb_items {w : World} {q mb : Nat} {it ak : Int} {k : Nat} {R : Ro} {G : ByteArray → List ByteArray} (h : Sbt w q mb it ak k R G) :
    Calls Tryz.prog 17 #[.pointer (some ⟨q, 0, none⟩)] w fun e w' => ∃ (v : Value) (es : List En), e = .returned v ∧ Lst R G es ∧ w'.ownsRow w.heap.size 51 8 v es.length (ecs (sortE es)) ∧ (∀ e ∈ es, Copy w' w.heap.size R G e) ∧ (es.length : Int) = R.kept ∧ Below w.heap.size w w' := by
  refine (items_any w q mb R h.ra (by have := h.few; omega) G h.rx.rw).mono ?_
  rintro e w' ⟨v, es, rfl, hp, ho, hc, hb⟩
  refine ⟨v, es, rfl, lst_of h.rb hp hc, ho, hc, ?_, hb⟩
  have h1 := hp.length_eq
  rw [List.length_map] at h1
  rw [h1, h.rb.kc, ← List.countP_eq_length_filter, List.countP_map]
  congr 1
theorem sb_book {w : World} {q mb : Nat} {it ak : Int} {k : Nat} {R : Ro} {G : ByteArray → List ByteArray} (h : Sbt w q mb it ak k R G) :
    Calls Tryz.prog 15 #[.pointer (some ⟨q, 0, none⟩)] w fun e w' => ∃ (a : Option Addr) (n c : Nat), e = .returned (.agg (bkc R (.slice a n c))) ∧ n = R.ks.length ∧ Below w.heap.size w w' := by
  refine (book_any w q mb R h.ra (by have := h.few; omega) G h.rx.rw).mono ?_
  rintro e w' ⟨v, rfl, v', es, ev, hp, ho, hc, hb⟩
  injection ev with ev
  subst ev
  obtain ⟨av, cv, hv⟩ := ownT_sl ho
  subst hv
  refine ⟨av, _, cv, rfl, ?_, hb⟩
  have h1 := hp.length_eq
  rw [List.length_map] at h1
  rw [h1, List.filter_eq_self.2, List.length_map]
  intro z hz
  obtain ⟨s, hs, rfl⟩ := List.mem_map.1 hz
  unfold soP
  have e3 : (⟨s.data.toList.toArray⟩ : ByteArray) = s := ba_ext (by simp)
  rw [e3]
  have := (h.rb.mem s).2 hs
  cases hm : R.m s with
  | none => rw [hm] at this; cases this
  | some x => rfl
end Go.Proofs.YtppdopcghnfapaaGreatDoor

/- roster: how long a contact is, prepared; RosterBounds, its first half (under way). -/
set_option maxRecDepth 100000
namespace Go.Proofs.YtppdopcghnfapaaGreatDoor
open Go.RowKit Go.Joins Go.Shelf

/-! ### how long what is prepared is -/
theorem eachLen (step : Int → Int → Option Int) : ∀ (n : Nat) (st : Int) (l bs : List UInt8) (st' : Int), l.length ≤ n → Nm.each step st l = some (bs, st') → bs.length ≤ 4 * l.length
  | n, st, [], bs, st', _, h => by
    rw [Nm.each_nil] at h; cases h; simp
  | 0, st, b :: t, bs, st', hn, _ => by simp at hn
  | n + 1, st, b :: t, bs, st', hn, h => by
    rw [Nm.each_step step st _ (by simp)] at h
    cases hs : step st ((Lib.decodeL (b :: t)).1 : Int) with
    | none => rw [hs] at h; cases h
    | some r =>
      simp only [hs] at h
      have hw := Lib.decodeL_width (b :: t)
      have hl : ((b :: t).drop (Lib.decodeL (b :: t)).2).length ≤ n := by rw [List.length_drop]; omega
      cases he : Nm.each step r ((b :: t).drop (Lib.decodeL (b :: t)).2) with
      | none => simp only [he] at h; cases h
      | some p =>
        obtain ⟨bs2, st2⟩ := p
        simp only [he] at h
        cases h
        have ih := eachLen step n r _ _ _ hl he
        have h4 := Lib.runeCells_le r
        rw [Lib.runeCells_length] at h4
        rw [List.length_drop] at ih
        rw [List.length_append]
        simp at ih ⊢
        omega
theorem localLen (l : List UInt8) : (Nm.localN l).1.length ≤ 256 := by
  unfold Nm.localN Nm.prep
  split
  · simp
  · rename_i h64
    split
    · simp
    · split
      · simp
      · rename_i bs st he
        have := eachLen _ _ _ _ _ _ (Nat.le_refl _) he
        rw [if_pos rfl]
        show bs.length ≤ 256; omega

theorem prepB_le (s : ByteArray) : (prepB s).size ≤ 1000000 := by
  have := localLen s.data.toList
  show ((Nm.localN s.data.toList).1.toArray).size ≤ 1000000
  rw [List.size_toArray]
  omega
theorem infoOp6 : (Tryz.prog.info? 35).map (·.size) = some 6 := by kernel_rfl
theorem range_below {w w' : World} {b o : Nat} {cs : List Value} (h : w.rangeAt b o cs) (hb : Below w.heap.size w w') : w'.rangeAt b o cs := fun i u hu => (hb.cell (World.block_lt_of_cell? w _ (h i u hu))).trans (h i u hu)
theorem allSame_iff {G1 G0 : ByteArray → List ByteArray} : ∀ {l t : List En}, allSame G1 G0 l t = true ↔ (l.length = t.length ∧ ∀ (i : Nat) (x y : En), l[i]? = some x → t[i]? = some y → sameE x y (G1 x.c) (G0 y.c) = true)
  | [], [] => ⟨fun _ => ⟨rfl, fun i x y h => by simp at h⟩, fun _ => rfl⟩
  | [], b :: t => ⟨(fun h => by cases h), (fun h => by have := h.1; simp at this)⟩
  | a :: r, [] => ⟨(fun h => by cases h), (fun h => by have := h.1; simp at this)⟩
  | a :: r, b :: t => by
    unfold allSame
    rw [Bool.and_eq_true_iff, allSame_iff]
    constructor
    · rintro ⟨h1, h2, h3⟩
      refine ⟨by simp [h2], fun i x y hx hy => ?_⟩
      cases i with
      | zero => simp at hx hy; subst hx hy; exact h1
      | succ i => exact h3 i x y (by simpa using hx) (by simpa using hy)
    · rintro ⟨h2, h3⟩
      exact ⟨h3 0 a b rfl rfl, by simpa using h2, fun i x y hx hy => h3 (i + 1) x y (by simpa using hx) (by simpa using hy)⟩
/-- Element j of a row of entries, where it lies. -/
theorem own_at {w : World} {B n : Nat} {av : Option Addr} {cv : Nat} {es : List En} (h : w.ownsRow B 51 8 (.slice av n cv) n (ecs es)) {j : Nat} (hj : j < n) :
    ∃ g x, av = some ⟨g, 0, none⟩ ∧ es[j]? = some x ∧ n ≤ cv ∧ cv ≤ maxLen ∧ w.rangeAt g (j * 8) (enc x).toList := by
  have hl : es.length = n := by have := h.1; rw [ecs_len] at this; omega
  rcases h.2 with ⟨_, h0⟩ | ⟨g, cap, cur, hv, _, hb, h1, h2, h3, h4⟩
  · omega
  · injection hv with e1 _ e3
    subst e1 e3
    have hj' : j < es.length := by omega
    refine ⟨g, es[j], rfl, List.getElem?_eq_getElem hj', h1, h2, fun i u hu => ?_⟩
    have hi : i < 8 := by
      have := (List.getElem?_eq_some_iff.1 hu).1
      rw [enc_len] at this; exact this
    rw [cell_of_block hb]
    have e1 : (cur.toList.take (n * 8))[j * 8 + i]? = (ecs es)[j * 8 + i]? := by rw [h4]
    rw [List.getElem?_take_of_lt (by omega), Array.getElem?_toList] at e1
    rw [e1]
    haveI : Inhabited En := ⟨en0 ⟨#[]⟩⟩
    have e2 := flat_at (fun x : En => (enc x).toList) 8 enc_len (by decide) es (j * 8 + i) (by omega)
    unfold ecs
    rw [e2, show (j * 8 + i) / 8 = j by omega, show (j * 8 + i) % 8 = i by omega]
    rw [getElem!_pos es j hj']
    have hi2 : i < (enc es[j]).toList.length := by rw [enc_len]; exact hi
    rw [getElem!_pos _ i hi2]
    rw [← hu, List.getElem?_eq_getElem hi2]
end Go.Proofs.YtppdopcghnfapaaGreatDoor
