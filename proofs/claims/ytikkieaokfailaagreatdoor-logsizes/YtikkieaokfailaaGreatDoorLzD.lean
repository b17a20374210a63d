/- LogSizes, its plain part: what appends leave, without power that fails. -/
import Derived.Test.YtikkieaokfailaaGreatDoorLgY
import Derived.BigQuiet
import Derived.Deep.QuietTactic
namespace Go.Proofs.YtikkieaokfailaaGreatDoor
open Go.RowKit Go.Joins

/-- The log has the segments S, each a row of records; all but the last are safe. -/
structure SzI (m : Nat) (l : Lg) (k : Dk) (S : List (List (List Int))) (n : Nat) : Prop where
  most : l.most = m
  dn : l.dn = false
  ch : l.ch = ⟨1, S.length, (forms (S.getLastD [])).length, decide (0 < S.length)⟩
  recs : l.recs.length = n
  fl : S.flatten.length = n
  sg : Sg k S.length (fun j => forms (S.getD j [])) (fun j => if j + 1 < S.length then (forms (S.getD j [])).length else 0)
  sz : ∀ s ∈ S, (forms s).length ≤ m ∨ s.length = 1
  rl : ∀ s ∈ S, ∀ r ∈ s, r.length ≤ 200
  st : k.steps ≤ 2 * n
  fs : k.fs.length ≤ 2 * n
  us : used k.fs ≤ 208 * n
  room : k.room = 1000000
  sl : S.length ≤ n

theorem getD_snoc {α : Type} (T : List α) (s d : α) (j : Nat) : (T ++ [s]).getD j d = if j < T.length then T.getD j d else if j = T.length then s else d := by
  by_cases h : j < T.length
  · rw [if_pos h, List.getD_eq_getElem?_getD, List.getElem?_append_left h, List.getD_eq_getElem?_getD]
  · rw [if_neg h]
    by_cases e : j = T.length
    · subst e; rw [if_pos rfl, List.getD_eq_getElem?_getD]; simp
    · rw [if_neg e, List.getD_eq_getElem?_getD, List.getElem?_eq_none (by simp; omega)]; rfl
theorem formL_bd {r : List Int} (h : Bd r) : Bd (formL r) := by
  unfold formL
  exact ((bigL_bd _ _).append (bigL_bd _ _)).append h
theorem forms_snoc (s : List (List Int)) (r : List Int) : forms (s ++ [r]) = forms s ++ formL r := by rw [forms_app]; show forms s ++ (formL r ++ []) = _; rw [List.append_nil]
theorem stp_ok {k k' : Dk} {r : Nat × Dk} (h : r = (0, k')) : stp false k r = (0, false, k') := by rw [h]; rfl

theorem SzI.app {m : Nat} {l : Lg} {k : Dk} {S : List (List (List Int))} {n : Nat} (h : SzI m l k S n) (hn : n < 60) (r : List Int) (hr : r.length ≤ 200) (hb : Bd r) : ∃ S', (appendT l k r).1 = 0 ∧ SzI m (appendT l k r).2.1 (appendT l k r).2.2 S' (n + 1) := by
  have hfl := formL_len r
  have hus := h.us
  have hro := h.room
  have hst := h.st
  have hfs := h.fs
  have hsl := h.sl
  have hrc := h.recs
  unfold appendT appendL
  rw [if_neg (by omega), h.most, h.dn, h.ch]
  rcases List.eq_nil_or_concat S with hS | ⟨T, s, hS⟩
  · -- the first one
    subst hS
    obtain ⟨k', e1, e2, e3, e4, e5, e6⟩ := h.sg.app 0 (Nat.le_refl _) (by omega) (formL r) (formL_bd hb) (by omega)
    have hlay : layL m ⟨1, ([] : List (List (List Int))).length, (forms (([] : List (List (List Int))).getLastD [])).length, decide (0 < ([] : List (List (List Int))).length)⟩ (formL r) false k = (0, ⟨1, 1, 8 + r.length, true⟩, false, k') := by
      unfold layL
      rw [if_neg (by intro hh; exact Nat.lt_irrefl 0 hh.1)]
      show putS 1 0 ⟨1, 0, 0, false⟩ (formL r) false k = _
      rw [putS_eq (en := 0) (dn' := false) (k' := k') (by exact stp_ok e1), if_pos rfl, hfl, Nat.zero_add]
    rw [hlay]
    refine ⟨[[r]], rfl, ⟨rfl, rfl, ?_, ?_, ?_, ?_, ?_, ?_, by dsimp only; omega, by dsimp only; omega, by dsimp only; omega, by rw [e6]; exact hro, by simp⟩⟩
    · show (⟨1, 1, 8 + r.length, true⟩ : Ch) = ⟨1, 1, (forms [r]).length, true⟩
      have : (forms [r]).length = 8 + r.length := by show (formL r ++ []).length = _; rw [List.append_nil, hfl]
      rw [this]
    · show (l.recs ++ [r]).length = n + 1; rw [List.length_append, hrc]; rfl
    · have := h.fl; simp at this; simp; omega
    · refine (e2 : Sg k' 1 _ _).congr (fun j hj => ?_)
      have hj' : j < 1 := hj
      have : j = 0 := by omega
      subst this
      exact ⟨by show formL r = forms [r]; show _ = formL r ++ []; rw [List.append_nil], rfl⟩
    · intro s hs; rw [List.mem_singleton.1 hs]; exact Or.inr rfl
    · intro s hs r' hr'; rw [List.mem_singleton.1 hs] at hr'; rw [List.mem_singleton.1 hr']; exact hr
  · rw [List.concat_eq_append] at hS
    subst hS
    have hlen : (T ++ [s]).length = T.length + 1 := by simp
    have hlast : (T ++ [s]).getLastD [] = s := by simp
    have hdc : decide (0 < (T ++ [s]).length) = true := decide_eq_true (by rw [hlen]; omega)
    rw [hlen] at hsl
    have hsg := h.sg
    rw [hlen] at hsg
    rw [hlen, hlast, show decide (0 < T.length + 1) = true from decide_eq_true (by omega)]
    by_cases hfull : 0 < (forms s).length ∧ m < (forms s).length + (formL r).length
    · -- the next segment
      obtain ⟨k1, e1, e2, e3, e4, e5, e6⟩ := hsg.sync T.length (by omega)
      obtain ⟨k2, f1, f2, f3, f4, f5, f6⟩ := e2.app (T.length + 1) (Nat.le_refl _) (by omega) (formL r) (formL_bd hb) (by rw [e5, e6]; omega)
      have hset : settleL ⟨1, T.length + 1, (forms s).length, true⟩ false k = (0, ⟨1, T.length + 1, (forms s).length, false⟩, false, k1) := by
        unfold settleL
        rw [if_pos rfl]
        show ((stp false k (syncK k (segN 1 (T.length + 1)))).1, _, _) = _
        rw [stp_ok e1, if_pos rfl]
      have hlay : layL m ⟨1, T.length + 1, (forms s).length, true⟩ (formL r) false k = (0, ⟨1, T.length + 2, 8 + r.length, true⟩, false, k2) := by
        unfold layL
        rw [if_pos hfull, hset, if_neg (by simp)]
        show putS (max (T.length + 1) 1 + 1) 0 ⟨1, T.length + 1, (forms s).length, false⟩ (formL r) false k1 = _
        rw [show max (T.length + 1) 1 + 1 = T.length + 2 from by omega, putS_eq (en := 0) (dn' := false) (k' := k2) (by exact stp_ok f1), if_pos rfl, hfl, Nat.zero_add]
      rw [hlay]
      refine ⟨T ++ [s] ++ [[r]], rfl, ⟨rfl, rfl, ?_, ?_, ?_, ?_, ?_, ?_, by dsimp only; omega, by dsimp only; omega, by dsimp only; omega, by rw [f6, e6]; exact hro, by simp; omega⟩⟩
      · show (⟨1, T.length + 2, 8 + r.length, true⟩ : Ch) = _
        have e9 : (T ++ [s] ++ [[r]]).length = T.length + 2 := by simp
        have e8 : (T ++ [s] ++ [[r]]).getLastD [] = [r] := by simp
        have e7 : (forms [r]).length = 8 + r.length := by show (formL r ++ []).length = _; rw [List.append_nil, hfl]
        rw [e9, e8, e7, decide_eq_true (by omega)]
      · show (l.recs ++ [r]).length = n + 1; rw [List.length_append, hrc]; rfl
      · have := h.fl; simp at this; simp; omega
      · have e9 : (T ++ [s] ++ [[r]]).length = T.length + 2 := by simp
        rw [e9]
        rw [show max (T.length + 1) (T.length + 1 + 1) = T.length + 2 from by omega] at f2
        refine f2.congr (fun j hj => ?_)
        by_cases hj1 : j = T.length + 1
        · subst hj1
          have g : (T ++ [s] ++ [[r]]).getD (T.length + 1) [] = [r] := by rw [getD_snoc, hlen, if_neg (Nat.lt_irrefl _), if_pos rfl]
          rw [g]
          refine ⟨(if_pos rfl).trans ((if_neg (Nat.lt_irrefl _)).trans ?_), (if_pos rfl).trans ((if_neg (Nat.lt_irrefl _)).trans (if_neg (by omega)).symm)⟩
          show formL r = formL r ++ []
          rw [List.append_nil]
        · have g : (T ++ [s] ++ [[r]]).getD j [] = (T ++ [s]).getD j [] := by rw [getD_snoc (T ++ [s]), hlen, if_pos (by omega)]
          rw [g]
          refine ⟨if_neg hj1, (if_neg hj1).trans ?_⟩
          rw [if_pos (show j + 1 < T.length + 2 by omega)]
          by_cases hj2 : j = T.length
          · subst hj2
            exact if_pos rfl
          · exact (if_neg hj2).trans (if_pos (by omega))
      · intro s' hs'
        rcases List.mem_append.1 hs' with h9 | h9
        · exact h.sz s' h9
        · rw [List.mem_singleton.1 h9]; exact Or.inr rfl
      · intro s' hs' r' hr'
        rcases List.mem_append.1 hs' with h9 | h9
        · exact h.rl s' h9 r' hr'
        · rw [List.mem_singleton.1 h9] at hr'; rw [List.mem_singleton.1 hr']; exact hr
    · -- the same one
      obtain ⟨k2, f1, f2, f3, f4, f5, f6⟩ := hsg.app T.length (by omega) (by omega) (formL r) (formL_bd hb) (by omega)
      have hlay : layL m ⟨1, T.length + 1, (forms s).length, true⟩ (formL r) false k = (0, ⟨1, T.length + 1, (forms s).length + (8 + r.length), true⟩, false, k2) := by
        unfold layL
        rw [if_neg hfull]
        show putS (max (T.length + 1) 1) (forms s).length ⟨1, T.length + 1, (forms s).length, true⟩ (formL r) false k = _
        rw [show max (T.length + 1) 1 = T.length + 1 from by omega, putS_eq (en := 0) (dn' := false) (k' := k2) (by exact stp_ok f1), if_pos rfl, hfl]
      rw [hlay]
      have hfs2 : (forms (s ++ [r])).length = (forms s).length + (8 + r.length) := by rw [forms_snoc, List.length_append, hfl]
      refine ⟨T ++ [s ++ [r]], rfl, ⟨rfl, rfl, ?_, ?_, ?_, ?_, ?_, ?_, by dsimp only; omega, by dsimp only; omega, by dsimp only; omega, by rw [f6]; exact hro, by simp; omega⟩⟩
      · show (⟨1, T.length + 1, (forms s).length + (8 + r.length), true⟩ : Ch) = _
        have e9 : (T ++ [s ++ [r]]).length = T.length + 1 := by simp
        have e8 : (T ++ [s ++ [r]]).getLastD [] = s ++ [r] := by simp
        rw [e9, e8, hfs2, decide_eq_true (by omega)]
      · show (l.recs ++ [r]).length = n + 1; rw [List.length_append, hrc]; rfl
      · have := h.fl; simp at this; simp; omega
      · have e9 : (T ++ [s ++ [r]]).length = T.length + 1 := by simp
        rw [e9]
        rw [show max (T.length + 1) (T.length + 1) = T.length + 1 from Nat.max_self _] at f2
        refine f2.congr (fun j hj => ?_)
        by_cases hj1 : j = T.length
        · subst hj1
          have g : (T ++ [s ++ [r]]).getD T.length [] = s ++ [r] := by rw [getD_snoc, if_neg (Nat.lt_irrefl _), if_pos rfl]
          have g2 : (T ++ [s]).getD T.length [] = s := by rw [getD_snoc, if_neg (Nat.lt_irrefl _), if_pos rfl]
          rw [g, g2]
          refine ⟨(if_pos rfl).trans ((if_pos (by omega)).trans (forms_snoc s r).symm), (if_pos rfl).trans ((if_pos (by omega)).trans ((if_neg (by omega)).trans (if_neg (by omega)).symm))⟩
        · have g : (T ++ [s ++ [r]]).getD j [] = (T ++ [s]).getD j [] := by rw [getD_snoc, getD_snoc, if_pos (by omega), if_pos (by omega)]
          rw [g]
          exact ⟨if_neg hj1, if_neg hj1⟩
      · intro s' hs'
        rcases List.mem_append.1 hs' with h9 | h9
        · exact h.sz s' (List.mem_append_left _ h9)
        · rw [List.mem_singleton.1 h9, hfs2]
          by_cases h8 : 0 < (forms s).length
          · left
            rw [hfl] at hfull
            omega
          · right
            cases s with
            | nil => rfl
            | cons x xs => exact absurd (by show 0 < (formL x ++ forms xs).length; rw [List.length_append, formL_len]; omega) h8
      · intro s' hs' r' hr'
        rcases List.mem_append.1 hs' with h9 | h9
        · exact h.rl s' (List.mem_append_left _ h9) r' hr'
        · rw [List.mem_singleton.1 h9] at hr'
          rcases List.mem_append.1 hr' with h8 | h8
          · exact h.rl s (List.mem_append_right _ (List.mem_singleton.2 rfl)) r' h8
          · rw [List.mem_singleton.1 h8]; exact hr

end Go.Proofs.YtikkieaokfailaaGreatDoor

/- LogSizes, its plain part: the power goes and comes; the log is opened again. -/
namespace Go.Proofs.YtikkieaokfailaaGreatDoor
open Go.RowKit Go.Joins

theorem base_ne (g i : Nat) : sBase ≠ segN g i := fun e => by
  have h := congrArg (fun s : Nm => s.data.toList.head?) e
  have h1 : sBase.data.toList.head? = some 98 := rfl
  have h2 : (segN g i).data.toList.head? = some 108 := by
    show ([108, 111, 103, 45] ++ Lib.decDigits g ++ [45] ++ Lib.decDigits i).head? = some 108
    rfl
  have h3 : some (98 : UInt8) = some 108 := h1.symm.trans (h.trans h2)
  cases h3
def sumR (Rs : Nat → List (List Int)) : Nat → Nat → Nat
  | 0, _ => 0
  | c + 1, i => (Rs i).length + sumR Rs c (i + 1)
/-- Segments that are whole are all read. -/
theorem rd_all (Rs : Nat → List (List Int)) (Zs : Nat → Nat) : ∀ (c i : Nat) (l : Lg) (k : Dk), k.off = false → l.ch.g = 1 → i + c ≤ 1000 → (∀ j, i ≤ j → j < i + c → look k.fs (segN 1 (j + 1)) = some ⟨forms (Rs j), Zs j⟩ ∧ ∀ r ∈ Rs j, r.length ≤ 1048576) →
    ∃ l2, rdSegs c i l k = (0, l2, k) ∧ l2.ch.g = 1 ∧ l2.ch.cnt = l.ch.cnt ∧ l2.dn = l.dn ∧ l2.recs.length = l.recs.length + sumR Rs c i
  | 0, i, l, k, _, hg, _, _ => ⟨l, rfl, hg, rfl, rfl, rfl⟩
  | c + 1, i, l, k, on, hg, hc, h => by
    obtain ⟨h1, h2⟩ := h i (Nat.le_refl _) (by omega)
    have hnm := Sg.nm i (by omega)
    have hrd : readK k (segN 1 (i + 1)) = (0, forms (Rs i)) := by
      unfold readK
      rw [on, if_neg (by decide), if_neg (by rw [hnm]; decide), h1]
    have hseg : readSegL l (i + 1) k = (0, true, ⟨l.most, l.recs ++ Rs i, { l.ch with size := (forms (Rs i)).length }, l.dn⟩, k) := by
      unfold readSegL readSegR
      rw [hg, hrd]
      dsimp only
      rw [if_neg (by simp), scan_forms (Rs i) _ h2 (Nat.le_refl _), if_pos rfl, hg]
    obtain ⟨l2, e1, e2, e3, e4, e5⟩ := rd_all Rs Zs c (i + 1) ⟨l.most, l.recs ++ Rs i, { l.ch with size := (forms (Rs i)).length }, l.dn⟩ k on hg (by omega) (fun j hj1 hj2 => h j (by omega) (by omega))
    refine ⟨l2, ?_, e2, e3, e4, ?_⟩
    · unfold rdSegs
      rw [hseg]
      dsimp only
      rw [if_neg (by simp), if_pos rfl]
      exact e1
    · rw [e5]
      show (l.recs ++ Rs i).length + _ = l.recs.length + ((Rs i).length + sumR Rs c (i + 1))
      rw [List.length_append]
      omega
theorem sumR_le (Rs Rt : Nat → List (List Int)) (h : ∀ j, (Rs j).length ≤ (Rt j).length) : ∀ c i, sumR Rs c i ≤ sumR Rt c i
  | 0, _ => Nat.le_refl _
  | c + 1, i => by
    have := sumR_le Rs Rt h c (i + 1)
    have := h i
    show (Rs i).length + _ ≤ (Rt i).length + _
    omega
theorem sumR_flat : ∀ (T P : List (List (List Int))), sumR (fun j => (P ++ T).getD j []) T.length P.length = T.flatten.length
  | [], _ => rfl
  | s :: T, P => by
    have h := sumR_flat T (P ++ [s])
    rw [List.append_assoc, List.length_append] at h
    show ((P ++ s :: T).getD P.length []).length + sumR _ T.length (P.length + 1) = _
    rw [List.flatten_cons, List.length_append]
    have e : (P ++ s :: T).getD P.length [] = s := by rw [List.getD_eq_getElem?_getD, List.getElem?_append_right (Nat.le_refl _)]; simp
    rw [e]
    have h' : sumR (fun j => (P ++ s :: T).getD j []) T.length (P.length + 1) = T.flatten.length := h
    rw [h']
theorem used_rest (l : Fls) : used (restL l []) ≤ used l := by
  induction l with
  | nil => exact Nat.le_refl _
  | cons p r ih =>
    obtain ⟨n, f⟩ := p
    unfold restL
    split
    · simp only [used]; have : used (restL r []) ≤ used r := ih; omega
    · simp only [used]
      have h1 : (restF f (([] : List Int).headD 0)).b.length ≤ f.b.length := by
        show (restF f 0).b.length ≤ _
        rw [restF_zero]
        exact List.length_take_le' ..
      have : used (restL r []) ≤ used r := ih
      show _ + used (restL r ([] : List Int).tail) ≤ _
      show _ + used (restL r []) ≤ _
      omega

/-- A disk that has just whole segments is opened without a fault. -/
theorem open_sg {k : Dk} {n : Nat} {Rs : Nat → List (List Int)} {Zs : Nat → Nat} (m : Nat) (h : Sg k n (fun j => forms (Rs j)) Zs) (hr : ∀ j, j < n → ∀ r ∈ Rs j, r.length ≤ 1048576) : (openL m k).1 = 0 ∧ (openL m k).2.1.recs.length = sumR Rs n 0 := by
  have hbn : look k.fs sBase = none := by
    cases hl : look k.fs sBase with
    | none => rfl
    | some f => obtain ⟨j, _, e⟩ := h.only _ _ hl; exact absurd e (base_ne _ _)
  have hrb : readK k sBase = (7, []) := by
    unfold readK
    rw [h.on, if_neg (by decide), if_neg (by decide), hbn]
  have hls : listK k = (0, k.fs.map Prod.fst) := by unfold listK; rw [h.on]; rfl
  have hmem : ∀ s, s ∈ k.fs.map Prod.fst ↔ ∃ j, j < n ∧ s = segN 1 (j + 1) := fun s => by
    rw [← look_isSome]
    constructor
    · intro hs
      obtain ⟨f, hf⟩ := Option.isSome_iff_exists.1 hs
      exact h.only s f hf
    · rintro ⟨j, hj, rfl⟩
      rw [h.yes j hj]
      rfl
  have hcnt : cntN (k.fs.map Prod.fst) 1 = n := cntN_is ⟨fun s hs => by
    obtain ⟨i, hi, e⟩ := mem_segs.1 hs
    exact (hmem s).2 ⟨i, hi, by rw [e, Nat.zero_add]⟩, fun hs => by
    obtain ⟨j, hj, e⟩ := (hmem _).1 hs
    have := segN_inj e
    omega⟩
  have hfil : (k.fs.map Prod.fst).filter (left 1 n) = [] := by
    rw [List.filter_eq_nil_iff]
    intro s hs
    obtain ⟨j, hj, e⟩ := (hmem s).1 hs
    unfold left
    rw [inN_iff.2 (mem_segs.2 ⟨j, hj, by rw [e, Nat.zero_add]⟩)]
    simp
  have hcl : cleanL ⟨1, 0, 0, false⟩ false k = (0, ⟨1, n, 0, false⟩, false, k) := by
    unfold cleanL
    rw [hls]
    dsimp only
    rw [if_neg (by simp), hcnt, hfil]
    rfl
  obtain ⟨l2, e1, e2, e3, e4, e5⟩ := rd_all Rs Zs n 0 ⟨m, [], ⟨1, n, 0, false⟩, false⟩ k h.on rfl (by have := h.few; omega) (fun j _ hj => ⟨h.yes j (by omega), hr j (by omega)⟩)
  dsimp only at e3 e4 e5
  unfold openL
  rw [hrb]
  show (openR m (0, 1) k).1 = 0 ∧ _
  unfold openR
  rw [if_neg (by simp)]
  show (openR.openC m (cleanL ⟨1, 0, 0, false⟩ false k)).1 = 0 ∧ (openR.openC m (cleanL ⟨1, 0, 0, false⟩ false k)).2.1.recs.length = _
  rw [hcl]
  unfold openR.openC
  rw [if_neg (by simp)]
  dsimp only
  rw [e1]
  unfold openR.openD
  rw [if_neg (by simp)]
  dsimp only
  have hlen : l2.recs.length = sumR Rs n 0 := by rw [e5]; show 0 + _ = _; omega
  unfold commitL
  refine ⟨?_, hlen⟩
  dsimp only
  unfold settleL
  rw [e3]
  by_cases hn : 0 < n
  · rw [if_pos (decide_eq_true hn)]
    dsimp only
    obtain ⟨k', s1, _⟩ := h.sync (n - 1) (by omega)
    rw [show n - 1 + 1 = n from by omega] at s1
    rw [e2, e4, stp_ok s1]
  · rw [if_neg (by simp; omega)]

end Go.Proofs.YtikkieaokfailaaGreatDoor

/- LogSizes, its plain part: what is seen behind a new start; the law's own copies. -/
namespace Go.Proofs.YtikkieaokfailaaGreatDoor
open Go.RowKit Go.Joins

/-- A file as the law lets it be. -/
def FileOk (m : Nat) (ys : List Int) : Prop := ys.length < 8 ∨ ∃ q : Nat, q ≤ 200 ∧ ys.getD 0 0 = 0 ∧ ys.getD 1 0 = 0 ∧ ys.getD 2 0 = 0 ∧ ys.getD 3 0 = (q : Int) ∧ (ys.length ≤ m ∨ ys.length = q + 8)
theorem big_head (n : Nat) (h : n ≤ 200) (X : List Int) : (bigL 4 n ++ X).getD 0 0 = 0 ∧ (bigL 4 n ++ X).getD 1 0 = 0 ∧ (bigL 4 n ++ X).getD 2 0 = 0 ∧ (bigL 4 n ++ X).getD 3 0 = (n : Int) := by
  have e : bigL 4 n = [0, 0, 0, (n : Int)] := by
    show [((n / 256 ^ 3 % 256 : Nat) : Int), ((n / 256 ^ 2 % 256 : Nat) : Int), ((n / 256 ^ 1 % 256 : Nat) : Int), ((n / 256 ^ 0 % 256 : Nat) : Int)] = _
    have h1 : n / 256 ^ 3 % 256 = 0 := by omega
    have h2 : n / 256 ^ 2 % 256 = 0 := by omega
    have h3 : n / 256 ^ 1 % 256 = 0 := by omega
    have h4 : n / 256 ^ 0 % 256 = n := by omega
    rw [h1, h2, h3, h4]
    rfl
  rw [e]
  exact ⟨rfl, rfl, rfl, rfl⟩
theorem file_ok (m : Nat) (s : List (List Int)) (hr : ∀ r ∈ s, r.length ≤ 200) (hs : (forms s).length ≤ m ∨ s.length = 1) : FileOk m (forms s) := by
  cases s with
  | nil => exact Or.inl (by show 0 < 8; omega)
  | cons r t =>
    right
    have hrl := hr r (List.mem_cons_self ..)
    have e : forms (r :: t) = bigL 4 r.length ++ (bigL 4 (crcN r) ++ r ++ forms t) := by
      show formL r ++ forms t = _
      unfold formL
      simp only [List.append_assoc]
    obtain ⟨h0, h1, h2, h3⟩ := big_head r.length hrl (bigL 4 (crcN r) ++ r ++ forms t)
    rw [← e] at h0 h1 h2 h3
    refine ⟨r.length, hrl, h0, h1, h2, h3, hs.imp id (fun h => ?_)⟩
    have ht : t = [] := by
      cases t with
      | nil => rfl
      | cons => simp at h
    subst ht
    show (formL r ++ []).length = _
    rw [List.append_nil, formL_len]
    omega

/-- The disk behind a new start, as the law sees it. -/
structure SzR (m : Nat) (k : Dk) (n : Nat) : Prop where
  op : (openL m k).1 = 0
  re : (openL m k).2.1.recs.length ≤ n
  on : k.off = false
  fl : k.fs.length ≤ 1000
  st : k.steps < 800000
  us : used k.fs ≤ 900000
  fi : ∀ s ∈ k.fs.map Prod.fst, ∃ ys, readK k s = (0, ys) ∧ FileOk m ys ∧ Bd ys
theorem SzI.rest {m : Nat} {l : Lg} {k : Dk} {S : List (List (List Int))} {n : Nat} (h : SzI m l k S n) (hn : n ≤ 60) (hg : (restK k []).Good) : SzR m (restK k []) n := by
  have hsl := h.sl
  have hs := h.sg.rest hg
  obtain ⟨Rs, hRs⟩ : ∃ Rs : Nat → List (List Int), ∀ j, Rs j = if j + 1 < S.length then S.getD j [] else [] := ⟨_, fun _ => rfl⟩
  have hmemS : ∀ j, j < S.length → S.getD j [] ∈ S := fun j hj => by
    rw [List.getD_eq_getElem?_getD, List.getElem?_eq_getElem hj]
    exact List.getElem_mem hj
  have hs2 := hs.congr (B' := fun j => forms (Rs j)) (Z' := _) (fun j hj => ⟨by
    rw [hRs]
    by_cases c : j + 1 < S.length
    · rw [if_pos c, if_pos c, List.take_length]
    · rw [if_neg c, if_neg c, List.take_zero]; rfl, rfl⟩)
  have hr : ∀ j, j < S.length → ∀ r ∈ Rs j, r.length ≤ 1048576 := fun j hj r hrm => by
    rw [hRs] at hrm
    split at hrm
    · have := h.rl _ (hmemS j hj) r hrm; omega
    · cases hrm
  obtain ⟨o1, o2⟩ := open_sg m hs2 hr
  refine ⟨o1, ?_, rfl, ?_, ?_, ?_, ?_⟩
  · rw [o2]
    have h1 := sumR_le Rs (fun j => S.getD j []) (fun j => by
      rw [hRs]
      split
      · exact Nat.le_refl _
      · exact Nat.zero_le _) S.length 0
    have h3 : sumR (fun j => S.getD j []) S.length 0 = S.flatten.length := sumR_flat S []
    have := h.fl
    omega
  · show (restL k.fs []).length ≤ 1000
    have h1 := congrArg List.length (rest_names k.fs [])
    rw [List.length_map, List.length_map] at h1
    have := h.fs
    omega
  · show k.steps < _
    have := h.st
    omega
  · show used (restL k.fs []) ≤ _
    have := used_rest k.fs
    have := h.us
    omega
  · intro s hsm
    rw [← look_isSome] at hsm
    obtain ⟨f, hf⟩ := Option.isSome_iff_exists.1 hsm
    obtain ⟨j, hj, rfl⟩ := hs2.only s f hf
    have hy := hs2.yes j hj
    refine ⟨forms (Rs j), ?_, ?_, (look_good hg hy).2.2⟩
    · unfold readK
      rw [hs2.on, if_neg (by decide), if_neg (by rw [Sg.nm j (by have := hs2.few; omega)]; decide), hy]
    · rw [hRs]
      split
      · exact file_ok m _ (h.rl _ (hmemS j hj)) (h.sz _ (hmemS j hj))
      · exact Or.inl (by show 0 < 8; omega)
theorem SzI.new (m : Nat) : SzI m (lg1 m) (newK 1000000) [] 0 :=
  ⟨rfl, rfl, rfl, rfl, rfl, Sg.new 1000000 (by omega) _ _, (fun s hs => by cases hs), (fun s hs => by cases hs), Nat.le_refl _, Nat.le_refl _, Nat.le_refl _, rfl, Nat.le_refl _⟩
theorem SzI.ok {m : Nat} {l : Lg} {k : Dk} {S : List (List (List Int))} {n : Nat} (h : SzI m l k S n) (hn : n ≤ 60) (hm : m ≤ 1000) : l.Ok := by
  have hsl := h.sl
  refine ⟨by rw [h.ch]; show 1 < _; omega, ?_, ?_, by rw [h.most]; omega, by rw [h.recs]; omega⟩
  · rw [h.ch]; show S.length ≤ _; omega
  · rw [h.ch]
    show (forms (S.getLastD [])).length ≤ _
    rcases List.eq_nil_or_concat S with e | ⟨T, s, e⟩
    · subst e; exact Nat.zero_le _
    · rw [List.concat_eq_append] at e
      have hl : S.getLastD [] = s := by rw [e]; simp
      have hin : s ∈ S := by rw [e]; simp
      rw [hl]
      rcases h.sz s hin with h1 | h1
      · omega
      · obtain ⟨r, rfl⟩ : ∃ r, s = [r] := by
          cases s with
          | nil => simp at h1
          | cons r t => cases t with
            | nil => exact ⟨r, rfl⟩
            | cons => simp at h1
        have := h.rl _ hin r (List.mem_singleton.2 rfl)
        show (formL r ++ []).length ≤ _
        rw [List.append_nil, formL_len]
        omega

/-- few: at most 200 bytes, in new memory. -/
theorem few200 (a : Option Addr) (n c : Nat) (xs : List Int) (w : World) (hR : Rd w a n c xs) :
    Calls Tryz.prog 17 #[.slice a n c] w fun e w' => ∃ a' n' c', e = .returned (.slice a' n' c') ∧ Rd w' a' n' c' (xs.take 200) ∧ (∀ ad, a' = some ad → w.heap.size ≤ ad.block) ∧ Below w.heap.size w w' := by
  have hb := hR.bytes.take 200
  go_enter Tryz.func17, Tryz.ntmps17
  go_wp2_with (go_at_call 54; refine (twin_any a n c xs 200 _ hR (by omega)).mono ?_; rintro e w1 ⟨v1, rfl, ho1, hb1⟩)
  go_ret
  obtain ⟨a1, c1, rfl, hr1⟩ := Rd.ofOwn ho1 hb
  refine ⟨a1, _, c1, rfl, hr1, fun ad had => ?_, hb1⟩
  rcases ho1.2 with ⟨e, _⟩ | ⟨g, cap, cur, e, hg, _⟩
  · injection e with e1; rw [e1] at had; cases had
  · injection e with e1; rw [e1] at had; cases had; exact hg
theorem tm200 (z : Int) : ∃ k : Nat, (wrap64 (z.tmod 200 + 200)).tmod 200 = (k : Int) ∧ k < 200 := by
  have h1 : z.tmod 200 < 200 := Int.tmod_lt_of_pos z (by omega)
  have h2 : -200 < z.tmod 200 := by
    have : (-z).tmod 200 < 200 := Int.tmod_lt_of_pos (-z) (by omega)
    rw [Int.neg_tmod] at this; omega
  have h3 : wrap64 (z.tmod 200 + 200) = z.tmod 200 + 200 := by unfold wrap64; omega
  rw [h3, Int.tmod_eq_emod_of_nonneg (by omega)]
  exact ⟨((z.tmod 200 + 200) % 200).toNat, by omega, by omega⟩
theorem irnL (w : World) : IRd w 0 (.slice none 0 0) [] := ⟨none, 0, rfl, Nat.le_refl _, by omega, fun h => absurd rfl h⟩
theorem or0 {x : Nat} (h : x ≤ 255) : bits .or .i64 0 (x : Int) = (x : Int) := by
  have e : bits .or .i64 ((0 : Nat) : Int) (x : Int) = ((0 ||| x : Nat) : Int) := by
    show IntKind.i64.wrap ((BitVec.ofInt 64 ((0 : Nat) : Int) ||| BitVec.ofInt 64 (x : Int)).toNat : Int) = _
    rw [BitVec.toNat_or, ofInt_u64 0 (by omega), ofInt_u64 x (by omega), IntKind.wrap_i64, Nat.zero_or]
    omega
  rw [Nat.zero_or] at e
  exact e

end Go.Proofs.YtikkieaokfailaaGreatDoor

/- LogSizes: the law's walk. -/
namespace Go.Proofs.YtikkieaokfailaaGreatDoor
open Go.RowKit Go.Joins

set_option maxRecDepth 100000 in
set_option maxHeartbeats 8000000 in
theorem logSizes_any (a : Option Addr) (n c : Nat) (xs : List (List Int)) (mo : Int) (W : World) (hR : RRd W a n xs) (hP : Pw W) :
    Calls Tryz.prog 8 #[.slice a n c, .int .i64 mo] W fun e w' => e = .returned (.bool true) ∧ Below W.heap.size W w' := by
  obtain ⟨m0, hm0, hm200⟩ := tm200 mo
  have hN := new_ok 1000000 (by omega) W
  have hpl := hP.at
  have hnm := hR.most
  obtain ⟨m, hm⟩ : ∃ m, m0 + 16 = m := ⟨_, rfl⟩
  have hme : (m0 : Int) + 16 = ((m : Nat) : Int) := by omega
  obtain ⟨kN, HkN⟩ : ∃ kN, Hid (newK 1000000 = kN) := ⟨_, rfl⟩
  have hon := open_new m 1000000
  have hSz := SzI.new m
  rw [HkN.out] at hN hon hSz
  have hkf : kN.fs.length ≤ 1000 := by rw [← HkN.out]; decide
  have hks : kN.steps < 800000 := by rw [← HkN.out]; decide
  have hku : used kN.fs ≤ 900000 := by rw [← HkN.out]; decide
  have Hop : Hid (openL m kN = (0, lg1 m, kN)) := hon
  have HSz : Hid (SzI m (lg1 m) kN [] 0) := hSz
  clear hon hSz
  go_enter Tryz.func8, Tryz.ntmps8
  go_upto_region 3 with (first
    | (go_at_call 14; refine hN.mono ?_; rintro e w1 ⟨d, rfl, ⟨F1, hD1, hF1⟩, hb1⟩))
  have hop := sopen_any w1 F1 d m kN (by omega) (by omega) hD1 (hP.below hb1) (fun i hi => by have := hF1 i hi; omega) hkf hks hku
  rw [Hop.out] at hop
  try rw [hme]
  go_upto_region 4 with (first
    | (go_at_call 20; refine hop.mono ?_; rintro e w2 ho; obtain ⟨lb, rfl, hlb, F2, H2, hA2, hk2, hF2, hH2⟩ := ho.yes rfl))
  clear ho hop hkf hks hku Hop hN
  have hB2 : Below W.heap.size W w2 := hb1.trans (hk2.low hb1.size hF1)
  have hwk := swakes_any w2 (hP.below hB2)
  go_wp2_with (first
    | (go_at_call 11; refine hwk.mono ?_; rintro e w3 ⟨rfl, hb3⟩))
  have hB3 : Below W.heap.size W w3 := hB2.trans (hb3.mono hB2.size)
  have hF2' : ∀ i, F2 i → W.heap.size ≤ i := fun i hi => (hF2 i hi).elim (hF1 i) (fun h => by have := hb1.size; omega)
  have hH2' : ∀ i, H2 i → W.heap.size ≤ i := fun i hi => by have := hH2 i hi; have := hb1.size; omega
  have hlbW : W.heap.size ≤ lb := by have := hb1.size; omega
  have hA3 := hA2.below hb3
  clear hA2 hb3 hwk hB2 hk2 hF2 hH2 hlb hD1 hF1 hb1
  go_loopw [10, 11] (fun s10 s11 wr => ∃ (i : Nat) (l : Lg) (k : Dk) (S : List (List (List Int))) (F H : Nat → Prop), s10 = .int .i64 i ∧ s11 = .int .i64 i ∧ i ≤ n ∧ i ≤ 60 ∧ Hid (SzI m l k S i) ∧ Hid (LogAt wr F H lb d l k) ∧ Hid (∀ j, F j → W.heap.size ≤ j) ∧ Hid (∀ j, H j → W.heap.size ≤ j) ∧ Hid (Below W.heap.size W wr)) (fun _ s11 _ => 60 - (intOf s11).toNat)
  case atStart => exact ⟨0, _, kN, [], F2, H2, rfl, rfl, by omega, by omega, HSz.out, hA3, hF2', hH2', hB3⟩
  case round =>
    clear HSz hA3 hF2' hH2' hB3
    obtain ⟨i, l, k, S, F, H, rfl, rfl, hin, hi60, HS, HA, HF, HH, HB⟩ := hrel
    by_cases hlt : i < n ∧ i < 60
    · have hcl : (i : Int) < (n : Int) := by omega
      have hcl60 : (i : Int) < 60 := by omega
      obtain ⟨b, off, rfl, hce⟩ := hR.flat (by omega)
      obtain ⟨aj, nj, cj, hcj, hrj⟩ := hce i hlt.1
      clear hce
      have hcj' := (HB.out.cell (p := ⟨b, off + i, none⟩) (World.block_lt_of_cell? W _ hcj)).trans hcj
      have hrj' := hrj.carry (Nat.le_refl _) HB.out
      have hfew := few200 aj nj cj _ wr hrj'
      obtain ⟨S', e1, e2⟩ := HS.out.app hlt.2 ((xs.getD i []).take 200) (by rw [List.length_take]; omega) (hrj.bytes.take 200)
      obtain ⟨v0, hL0, _⟩ := HA.out.ex
      have hFl := hL0.D.lt
      have hll := hL0.lt
      have hap := fun w hb a' n' c' hR' hRF => sappend_any w F H lb d l k (HA.out.below hb) (HS.out.ok (by omega) (by omega)) (by have := HS.out.st; omega) (by have := HS.out.fs; omega) a' n' c' ((xs.getD i []).take 200) hR' hRF
      rw [e1] at hap
      obtain ⟨l', hl'⟩ : ∃ l', (appendT l k ((xs.getD i []).take 200)).2.1 = l' := ⟨_, rfl⟩
      obtain ⟨k', hk'⟩ : ∃ k', (appendT l k ((xs.getD i []).take 200)).2.2 = k' := ⟨_, rfl⟩
      rw [hl', hk'] at hap e2
      have HE2 : Hid (SzI m l' k' S' (i + 1)) := e2
      clear hl' hk' e1 e2 hcj hrj hL0 hrj'
      go_wp2_with (first
        | (go_at_call 17; refine hfew.mono ?_; rintro e w5 ⟨a5, n5, c5, rfl, hr5, hg5, hb5⟩)
        | (go_at_call 22; refine (hap _ hb5 a5 n5 c5 hr5 (fun ad had => ⟨fun hf => by have := hFl _ hf; have := hg5 ad had; omega, fun e => by have := hg5 ad had; omega⟩)).mono ?_; rintro e w6 ⟨rfl, F6, H6, hA6, hk6, hF6, hH6⟩))
      have hB5 := HB.out.trans (hb5.mono HB.out.size)
      have hB6 : Below W.heap.size W w6 := hB5.trans (hk6.low hB5.size (fun j hj => by
        rcases hj with hj | hj | hj
        · exact HF.out j hj
        · exact HH.out j hj
        · omega))
      have h5s := hB5.size
      exact ⟨⟨i + 1, l', k', S', F6, H6, by go_num, by go_num, by omega, by omega, HE2.out, hA6, fun j hj => (hF6 j hj).elim (HF.out j) (fun h => by omega), fun j hj => (hH6 j hj).elim (HH.out j) (fun h => by omega), hB6⟩, by simp [intOf]; omega⟩
    · have hend : ¬ (i : Int) < (n : Int) ∨ ((i : Int) < (n : Int) ∧ ¬ (i : Int) < 60) := by omega
      obtain ⟨v0, hL0, _⟩ := HA.out.ex
      have hRs := restart_any d F k 0 (.slice none 0 0) [] (by have := HS.out.fs; omega) wr hL0.D (irnL wr) (fun h => absurd rfl h)
      have HRst := fun hg => HS.out.rest hi60 hg
      obtain ⟨k2, Hk2⟩ : ∃ k2, Hid (restK k [] = k2) := ⟨_, rfl⟩
      rw [Hk2.out] at hRs HRst
      clear hL0 HS HA
      rcases hend with hcl | ⟨hcl, hcl60⟩ <;> (
        go_upto_region 14 with (first
          | (go_at_call 24; refine hRs.mono ?_; rintro e w4 ⟨rfl, F4, hD4, hk4, hF4⟩))
        have hQ := HRst hD4.good
        have hB4 : Below W.heap.size W w4 := HB.out.trans (hk4.low HB.out.size HF.out)
        have hF4' : ∀ j, F4 j → W.heap.size ≤ j := fun j hj => (hF4 j hj).elim (HF.out j) (fun h => by have := HB.out.size; omega)
        have hLs := list_any d F4 k2 (by have := hQ.fl; omega) w4 hD4
        rw [show listK k2 = (0, k2.fs.map Prod.fst) from by unfold listK; rw [hQ.on]; rfl] at hLs
        have HQ : Hid (SzR m k2 i) := hQ
        obtain ⟨ns, Hns⟩ : ∃ ns, Hid (k2.fs.map Prod.fst = ns) := ⟨_, rfl⟩
        rw [Hns.out] at hLs
        dsimp only at hLs
        obtain ⟨N, HN⟩ : ∃ N, Hid (ns.length = N) := ⟨_, rfl⟩
        rw [HN.out] at hLs
        clear hRs HRst hQ hk4 hF4
        go_upto_region 16 with (first
          | (go_at_call 37; refine hLs.mono ?_; rintro e w5 ⟨v5, rfl, o5, hb5⟩; obtain ⟨a5, c5, rfl, hn5⟩ := own_formN o5))
        have hB5 : Below W.heap.size W w5 := hB4.trans (hb5.mono hB4.size)
        have hD5 := hD4.below hb5
        clear hLs hb5 hB4 hD4
        go_loopw [14, 15, 16, 17] (fun s14 _ _ _ wq => ∃ j : Nat, s14 = .int .i64 j ∧ j ≤ N ∧ Hid (Below w5.heap.size w5 wq)) (fun s14 _ _ _ _ => N - (intOf s14).toNat)
        case atStart => exact ⟨0, rfl, by omega, Below.refl _ _⟩
        case round =>
          obtain ⟨j, rfl, hjN, HBq⟩ := hrel
          by_cases hjlt : j < N
          · have hcj : (j : Int) < (N : Int) := by omega
            have hj0 : (0 : Int) ≤ (j : Int) := by omega
            have hjl : j < ns.length := by rw [HN.out]; exact hjlt
            obtain ⟨x, hx⟩ : ∃ x, ns[j]? = some x := ⟨_, List.getElem?_eq_getElem hjl⟩
            have hnvj : (nv ns)[j]? = some (.string x) := by unfold nv; rw [List.getElem?_map, hx]; rfl
            obtain ⟨gr, hgr⟩ : ∃ g, a5 = some ⟨g, 0, none⟩ := by
              rcases o5.2 with ⟨_, h0⟩ | ⟨g, cap, cur, h1, _⟩
              · omega
              · cases h1; exact ⟨g, rfl⟩
            subst hgr
            have oq := own_keep (S := fun _ => False) o5 (Keep.ofBelow HBq.out) (fun _ _ h => h)
            have hc := oq.cells (g := gr) rfl j _ hnvj
            rw [add_flat, Nat.zero_add] at hc
            obtain ⟨ys, hy1, hy2, hyb⟩ := HQ.out.fi x (by rw [Hns.out]; exact List.mem_of_getElem? hx)
            have hRd := read_any d F4 k2 x _ (hD5.below HBq.out)
            rw [hy1] at hRd
            dsimp only at hRd
            obtain ⟨L, HL⟩ : ∃ L, Hid (ys.length = L) := ⟨_, rfl⟩
            unfold FileOk at hy2
            rw [HL.out] at hRd hy2
            clear hx hnvj oq hy1 hjl
            go_upto_region 19 with (first
              | (go_at_call 38; refine hRd.mono ?_; rintro e w6 ⟨v6, rfl, o6, hb6⟩; obtain ⟨a6, c6, rfl, r6⟩ := Rd.ofOwn o6 hyb))
            have hB6 : Below w5.heap.size w5 w6 := HBq.out.trans (hb6.mono HBq.out.size)
            clear hRd hc hb6
            by_cases h8 : L < 8
            · have hd : decide ((8 : Int) ≤ (L : Int)) = false := decide_eq_false (by omega)
              have z1 : ¬ (m : Int) < (L : Int) := by omega
              go_quiet (fail)
              go_wp2
              exact ⟨⟨j + 1, by go_num, by omega, ⟨hB6.os, hB6.tape, hB6.output, hB6.size, hB6.block⟩⟩, by simp [intOf]; omega⟩
            · obtain ⟨q, hq200, y0, y1, y2, y3, hfin⟩ := hy2.resolve_left h8
              obtain ⟨g6, hg6⟩ : ∃ g, a6 = some ⟨g, 0, none⟩ := by
                rcases o6.2 with ⟨_, h0⟩ | ⟨g, cap, cur, h1, _⟩
                · omega
                · injection h1 with h1; exact ⟨g, h1⟩
              subst hg6
              have hd : (8 : Int) ≤ (L : Int) := by omega
              have c0 := r6.cells _ rfl 0 (by omega)
              have c1 := r6.cells _ rfl 1 (by omega)
              have c2 := r6.cells _ rfl 2 (by omega)
              have c3 := r6.cells _ rfl 3 (by omega)
              rw [add_flat, Nat.zero_add] at c0 c1 c2 c3
              rw [y0] at c0
              rw [y1] at c1
              rw [y2] at c2
              rw [y3] at c3
              have i0 : (0 : Int) < (L : Int) := by omega
              have i1 : (1 : Int) < (L : Int) := by omega
              have i2 : (2 : Int) < (L : Int) := by omega
              have i3 : (3 : Int) < (L : Int) := by omega
              have qz : (q : Int) ≤ 200 := by omega
              have b0 : bits .or .i64 0 0 = 0 := or0 (x := 0) (by omega)
              have bq := or0 (x := q) (by omega)
              clear y0 y1 y2 y3
              by_cases hone : L = q + 8
              · have ho : ((q : Int) == (L : Int) - 8) = true := by rw [beq_iff_eq]; omega
                have ho2 : decide ((q : Int) = (L : Int) - 8) = true := decide_eq_true (by omega)
                clear hone hfin
                go_quiet (fail)
                by_cases hmL : m < L
                · have z1 : (m : Int) < (L : Int) := by omega
                  go_wp2
                  exact ⟨⟨j + 1, by go_num, by omega, ⟨hB6.os, hB6.tape, hB6.output, hB6.size, hB6.block⟩⟩, by simp [intOf]; omega⟩
                · have z1 : ¬ (m : Int) < (L : Int) := by omega
                  go_wp2
                  exact ⟨⟨j + 1, by go_num, by omega, ⟨hB6.os, hB6.tape, hB6.output, hB6.size, hB6.block⟩⟩, by simp [intOf]; omega⟩
              · have ho : ¬ (q : Int) = (L : Int) - 8 := by omega
                have z1 : ¬ (m : Int) < (L : Int) := by omega
                go_quiet (fail)
                go_wp2
                exact ⟨⟨j + 1, by go_num, by omega, ⟨hB6.os, hB6.tape, hB6.output, hB6.size, hB6.block⟩⟩, by simp [intOf]; omega⟩
          · have hcj : ¬ (j : Int) < (N : Int) := by omega
            have hBq : Below W.heap.size W _ := hB5.trans (HBq.out.mono hB5.size)
            have hop := sopen_any _ F4 d m k2 (by omega) (by omega) (hD5.below HBq.out) (hP.below hBq) (fun i hi => by have := hF4' i hi; omega) HQ.out.fl HQ.out.st HQ.out.us
            have hre := HQ.out.re
            obtain ⟨P, HP⟩ : ∃ P, Hid (openL m k2 = P) := ⟨_, rfl⟩
            have ho0 := HQ.out.op
            rw [HP.out] at hop hre ho0
            have hlz : ((P.2.1.recs.length : Nat) : Int) ≤ (i : Int) := by omega
            have hln := fun F H lb w hA => slen_any w F H lb d P.2.1 P.2.2 hA
            obtain ⟨R, HRe⟩ : ∃ R, Hid (P.2.1.recs.length = R) := ⟨_, rfl⟩
            rw [HRe.out] at hlz
            simp only [HRe.out] at hln
            clear hre
            go_wp2_with (first
              | (go_at_call 20; refine hop.mono ?_; rintro e w6 ho; obtain ⟨lb6, rfl, hlb6, F6, H6, hA6, hk6, hF6, hH6⟩ := ho.yes ho0)
              | (go_at_call 26; refine (hln F6 H6 lb6 _ hA6).mono ?_; rintro e w7 ⟨rfl, h7⟩; replace h7 := h7.symm; subst h7))
            go_ret
            exact ⟨rfl, hBq.trans (hk6.low hBq.size hF4')⟩)

end Go.Proofs.YtikkieaokfailaaGreatDoor
