/- Texts of one seat, one behind the other: LzD, LkB, LkC, LtI, DkI. -/
import Derived.Test.YtikkieaokfailaaGreatDoorM10
import Derived.BigQuiet
import Derived.Deep.QuietTactic
import Derived.Test.YtikkieaokfailaaGreatDoorM6
/- LogSizes, its plain part: what appends leave, without power that fails. -/
namespace Go.Proofs.YtikkieaokfailaaGreatDoor
open Go.RowKit Go.Joins

/-- The log has the segments S, each a row of records; all but the last are safe. -/
structure SzI (m : Nat) (l : Lg) (k : Dk) (S : List (List (List Int))) (n : Nat) : Prop where
  most : l.most = m
  dn : l.dn = false
  ch : l.ch = ⟨1, S.length, (forms (S.getLastD [])).length, decide (0 < S.length)⟩
  recs : l.recs.length = n
  fl : S.flatten.length = n
  sg : Sg k S.length (fun j => forms (S.getD j [])) (fun j => if j + 1 < S.length then (forms (S.getD j [])).length else 0)
  sz : ∀ s ∈ S, (forms s).length ≤ m ∨ s.length = 1
  rl : ∀ s ∈ S, ∀ r ∈ s, r.length ≤ 200
  st : k.steps ≤ 2 * n
  fs : k.fs.length ≤ 2 * n
  us : used k.fs ≤ 208 * n
  room : k.room = 1000000
  sl : S.length ≤ n

theorem getD_snoc {α : Type} (T : List α) (s d : α) (j : Nat) : (T ++ [s]).getD j d = if j < T.length then T.getD j d else if j = T.length then s else d := by
  by_cases h : j < T.length
  · rw [if_pos h, List.getD_eq_getElem?_getD, List.getElem?_append_left h, List.getD_eq_getElem?_getD]
  · rw [if_neg h]
    by_cases e : j = T.length
    · subst e; rw [if_pos rfl, List.getD_eq_getElem?_getD]; simp
    · rw [if_neg e, List.getD_eq_getElem?_getD, List.getElem?_eq_none (by simp; omega)]; rfl
theorem formL_bd {r : List Int} (h : Bd r) : Bd (formL r) := by
  unfold formL
  exact ((bigL_bd _ _).append (bigL_bd _ _)).append h
theorem forms_snoc (s : List (List Int)) (r : List Int) : forms (s ++ [r]) = forms s ++ formL r := by rw [forms_app]; show forms s ++ (formL r ++ []) = _; rw [List.append_nil]
theorem stp_ok {k k' : Dk} {r : Nat × Dk} (h : r = (0, k')) : stp false k r = (0, false, k') := by rw [h]; rfl

theorem SzI.app {m : Nat} {l : Lg} {k : Dk} {S : List (List (List Int))} {n : Nat} (h : SzI m l k S n) (hn : n < 60) (r : List Int) (hr : r.length ≤ 200) (hb : Bd r) : ∃ S', (appendT l k r).1 = 0 ∧ SzI m (appendT l k r).2.1 (appendT l k r).2.2 S' (n + 1) := by
  have hfl := formL_len r
  have hus := h.us
  have hro := h.room
  have hst := h.st
  have hfs := h.fs
  have hsl := h.sl
  have hrc := h.recs
  unfold appendT appendL
  rw [if_neg (by omega), h.most, h.dn, h.ch]
  rcases List.eq_nil_or_concat S with hS | ⟨T, s, hS⟩
  · -- the first one
    subst hS
    obtain ⟨k', e1, e2, e3, e4, e5, e6⟩ := h.sg.app 0 (Nat.le_refl _) (by omega) (formL r) (formL_bd hb) (by omega)
    have hlay : layL m ⟨1, ([] : List (List (List Int))).length, (forms (([] : List (List (List Int))).getLastD [])).length, decide (0 < ([] : List (List (List Int))).length)⟩ (formL r) false k = (0, ⟨1, 1, 8 + r.length, true⟩, false, k') := by
      unfold layL
      rw [if_neg (by intro hh; exact Nat.lt_irrefl 0 hh.1)]
      show putS 1 0 ⟨1, 0, 0, false⟩ (formL r) false k = _
      rw [putS_eq (en := 0) (dn' := false) (k' := k') (by exact stp_ok e1), if_pos rfl, hfl, Nat.zero_add]
    rw [hlay]
    refine ⟨[[r]], rfl, ⟨rfl, rfl, ?_, ?_, ?_, ?_, ?_, ?_, by dsimp only; omega, by dsimp only; omega, by dsimp only; omega, by rw [e6]; exact hro, by simp⟩⟩
    · show (⟨1, 1, 8 + r.length, true⟩ : Ch) = ⟨1, 1, (forms [r]).length, true⟩
      have : (forms [r]).length = 8 + r.length := by show (formL r ++ []).length = _; rw [List.append_nil, hfl]
      rw [this]
    · show (l.recs ++ [r]).length = n + 1; rw [List.length_append, hrc]; rfl
    · have := h.fl; simp at this; simp; omega
    · refine (e2 : Sg k' 1 _ _).congr (fun j hj => ?_)
      have hj' : j < 1 := hj
      have : j = 0 := by omega
      subst this
      exact ⟨by show formL r = forms [r]; show _ = formL r ++ []; rw [List.append_nil], rfl⟩
    · intro s hs; rw [List.mem_singleton.1 hs]; exact Or.inr rfl
    · intro s hs r' hr'; rw [List.mem_singleton.1 hs] at hr'; rw [List.mem_singleton.1 hr']; exact hr
  · rw [List.concat_eq_append] at hS
    subst hS
    have hlen : (T ++ [s]).length = T.length + 1 := by simp
    have hlast : (T ++ [s]).getLastD [] = s := by simp
    have hdc : decide (0 < (T ++ [s]).length) = true := decide_eq_true (by rw [hlen]; omega)
    rw [hlen] at hsl
    have hsg := h.sg
    rw [hlen] at hsg
    rw [hlen, hlast, show decide (0 < T.length + 1) = true from decide_eq_true (by omega)]
    by_cases hfull : 0 < (forms s).length ∧ m < (forms s).length + (formL r).length
    · -- the next segment
      obtain ⟨k1, e1, e2, e3, e4, e5, e6⟩ := hsg.sync T.length (by omega)
      obtain ⟨k2, f1, f2, f3, f4, f5, f6⟩ := e2.app (T.length + 1) (Nat.le_refl _) (by omega) (formL r) (formL_bd hb) (by rw [e5, e6]; omega)
      have hset : settleL ⟨1, T.length + 1, (forms s).length, true⟩ false k = (0, ⟨1, T.length + 1, (forms s).length, false⟩, false, k1) := by
        unfold settleL
        rw [if_pos rfl]
        show ((stp false k (syncK k (segN 1 (T.length + 1)))).1, _, _) = _
        rw [stp_ok e1, if_pos rfl]
      have hlay : layL m ⟨1, T.length + 1, (forms s).length, true⟩ (formL r) false k = (0, ⟨1, T.length + 2, 8 + r.length, true⟩, false, k2) := by
        unfold layL
        rw [if_pos hfull, hset, if_neg (by simp)]
        show putS (max (T.length + 1) 1 + 1) 0 ⟨1, T.length + 1, (forms s).length, false⟩ (formL r) false k1 = _
        rw [show max (T.length + 1) 1 + 1 = T.length + 2 from by omega, putS_eq (en := 0) (dn' := false) (k' := k2) (by exact stp_ok f1), if_pos rfl, hfl, Nat.zero_add]
      rw [hlay]
      refine ⟨T ++ [s] ++ [[r]], rfl, ⟨rfl, rfl, ?_, ?_, ?_, ?_, ?_, ?_, by dsimp only; omega, by dsimp only; omega, by dsimp only; omega, by rw [f6, e6]; exact hro, by simp; omega⟩⟩
      · show (⟨1, T.length + 2, 8 + r.length, true⟩ : Ch) = _
        have e9 : (T ++ [s] ++ [[r]]).length = T.length + 2 := by simp
        have e8 : (T ++ [s] ++ [[r]]).getLastD [] = [r] := by simp
        have e7 : (forms [r]).length = 8 + r.length := by show (formL r ++ []).length = _; rw [List.append_nil, hfl]
        rw [e9, e8, e7, decide_eq_true (by omega)]
      · show (l.recs ++ [r]).length = n + 1; rw [List.length_append, hrc]; rfl
      · have := h.fl; simp at this; simp; omega
      · have e9 : (T ++ [s] ++ [[r]]).length = T.length + 2 := by simp
        rw [e9]
        rw [show max (T.length + 1) (T.length + 1 + 1) = T.length + 2 from by omega] at f2
        refine f2.congr (fun j hj => ?_)
        by_cases hj1 : j = T.length + 1
        · subst hj1
          have g : (T ++ [s] ++ [[r]]).getD (T.length + 1) [] = [r] := by rw [getD_snoc, hlen, if_neg (Nat.lt_irrefl _), if_pos rfl]
          rw [g]
          refine ⟨(if_pos rfl).trans ((if_neg (Nat.lt_irrefl _)).trans ?_), (if_pos rfl).trans ((if_neg (Nat.lt_irrefl _)).trans (if_neg (by omega)).symm)⟩
          show formL r = formL r ++ []
          rw [List.append_nil]
        · have g : (T ++ [s] ++ [[r]]).getD j [] = (T ++ [s]).getD j [] := by rw [getD_snoc (T ++ [s]), hlen, if_pos (by omega)]
          rw [g]
          refine ⟨if_neg hj1, (if_neg hj1).trans ?_⟩
          rw [if_pos (show j + 1 < T.length + 2 by omega)]
          by_cases hj2 : j = T.length
          · subst hj2
            exact if_pos rfl
          · exact (if_neg hj2).trans (if_pos (by omega))
      · intro s' hs'
        rcases List.mem_append.1 hs' with h9 | h9
        · exact h.sz s' h9
        · rw [List.mem_singleton.1 h9]; exact Or.inr rfl
      · intro s' hs' r' hr'
        rcases List.mem_append.1 hs' with h9 | h9
        · exact h.rl s' h9 r' hr'
        · rw [List.mem_singleton.1 h9] at hr'; rw [List.mem_singleton.1 hr']; exact hr
    · -- the same one
      obtain ⟨k2, f1, f2, f3, f4, f5, f6⟩ := hsg.app T.length (by omega) (by omega) (formL r) (formL_bd hb) (by omega)
      have hlay : layL m ⟨1, T.length + 1, (forms s).length, true⟩ (formL r) false k = (0, ⟨1, T.length + 1, (forms s).length + (8 + r.length), true⟩, false, k2) := by
        unfold layL
        rw [if_neg hfull]
        show putS (max (T.length + 1) 1) (forms s).length ⟨1, T.length + 1, (forms s).length, true⟩ (formL r) false k = _
        rw [show max (T.length + 1) 1 = T.length + 1 from by omega, putS_eq (en := 0) (dn' := false) (k' := k2) (by exact stp_ok f1), if_pos rfl, hfl]
      rw [hlay]
      have hfs2 : (forms (s ++ [r])).length = (forms s).length + (8 + r.length) := by rw [forms_snoc, List.length_append, hfl]
      refine ⟨T ++ [s ++ [r]], rfl, ⟨rfl, rfl, ?_, ?_, ?_, ?_, ?_, ?_, by dsimp only; omega, by dsimp only; omega, by dsimp only; omega, by rw [f6]; exact hro, by simp; omega⟩⟩
      · show (⟨1, T.length + 1, (forms s).length + (8 + r.length), true⟩ : Ch) = _
        have e9 : (T ++ [s ++ [r]]).length = T.length + 1 := by simp
        have e8 : (T ++ [s ++ [r]]).getLastD [] = s ++ [r] := by simp
        rw [e9, e8, hfs2, decide_eq_true (by omega)]
      · show (l.recs ++ [r]).length = n + 1; rw [List.length_append, hrc]; rfl
      · have := h.fl; simp at this; simp; omega
      · have e9 : (T ++ [s ++ [r]]).length = T.length + 1 := by simp
        rw [e9]
        rw [show max (T.length + 1) (T.length + 1) = T.length + 1 from Nat.max_self _] at f2
        refine f2.congr (fun j hj => ?_)
        by_cases hj1 : j = T.length
        · subst hj1
          have g : (T ++ [s ++ [r]]).getD T.length [] = s ++ [r] := by rw [getD_snoc, if_neg (Nat.lt_irrefl _), if_pos rfl]
          have g2 : (T ++ [s]).getD T.length [] = s := by rw [getD_snoc, if_neg (Nat.lt_irrefl _), if_pos rfl]
          rw [g, g2]
          refine ⟨(if_pos rfl).trans ((if_pos (by omega)).trans (forms_snoc s r).symm), (if_pos rfl).trans ((if_pos (by omega)).trans ((if_neg (by omega)).trans (if_neg (by omega)).symm))⟩
        · have g : (T ++ [s ++ [r]]).getD j [] = (T ++ [s]).getD j [] := by rw [getD_snoc, getD_snoc, if_pos (by omega), if_pos (by omega)]
          rw [g]
          exact ⟨if_neg hj1, if_neg hj1⟩
      · intro s' hs'
        rcases List.mem_append.1 hs' with h9 | h9
        · exact h.sz s' (List.mem_append_left _ h9)
        · rw [List.mem_singleton.1 h9, hfs2]
          by_cases h8 : 0 < (forms s).length
          · left
            rw [hfl] at hfull
            omega
          · right
            cases s with
            | nil => rfl
            | cons x xs => exact absurd (by show 0 < (formL x ++ forms xs).length; rw [List.length_append, formL_len]; omega) h8
      · intro s' hs' r' hr'
        rcases List.mem_append.1 hs' with h9 | h9
        · exact h.rl s' (List.mem_append_left _ h9) r' hr'
        · rw [List.mem_singleton.1 h9] at hr'
          rcases List.mem_append.1 hr' with h8 | h8
          · exact h.rl s (List.mem_append_right _ (List.mem_singleton.2 rfl)) r' h8
          · rw [List.mem_singleton.1 h8]; exact hr

end Go.Proofs.YtikkieaokfailaaGreatDoor

/- LogSizes, its plain part: the power goes and comes; the log is opened again. -/
namespace Go.Proofs.YtikkieaokfailaaGreatDoor
open Go.RowKit Go.Joins

theorem base_ne (g i : Nat) : sBase ≠ segN g i := fun e => by
  have h := congrArg (fun s : Nm => s.data.toList.head?) e
  have h1 : sBase.data.toList.head? = some 98 := rfl
  have h2 : (segN g i).data.toList.head? = some 108 := by
    show ([108, 111, 103, 45] ++ Lib.decDigits g ++ [45] ++ Lib.decDigits i).head? = some 108
    rfl
  have h3 : some (98 : UInt8) = some 108 := h1.symm.trans (h.trans h2)
  cases h3
def sumR (Rs : Nat → List (List Int)) : Nat → Nat → Nat
  | 0, _ => 0
  | c + 1, i => (Rs i).length + sumR Rs c (i + 1)
/-- Segments that are whole are all read. -/
theorem rd_all (Rs : Nat → List (List Int)) (Zs : Nat → Nat) : ∀ (c i : Nat) (l : Lg) (k : Dk), k.off = false → l.ch.g = 1 → i + c ≤ 1000 → (∀ j, i ≤ j → j < i + c → look k.fs (segN 1 (j + 1)) = some ⟨forms (Rs j), Zs j⟩ ∧ ∀ r ∈ Rs j, r.length ≤ 1048576) →
    ∃ l2, rdSegs c i l k = (0, l2, k) ∧ l2.ch.g = 1 ∧ l2.ch.cnt = l.ch.cnt ∧ l2.dn = l.dn ∧ l2.recs.length = l.recs.length + sumR Rs c i
  | 0, i, l, k, _, hg, _, _ => ⟨l, rfl, hg, rfl, rfl, rfl⟩
  | c + 1, i, l, k, on, hg, hc, h => by
    obtain ⟨h1, h2⟩ := h i (Nat.le_refl _) (by omega)
    have hnm := Sg.nm i (by omega)
    have hrd : readK k (segN 1 (i + 1)) = (0, forms (Rs i)) := by
      unfold readK
      rw [on, if_neg (by decide), if_neg (by rw [hnm]; decide), h1]
    have hseg : readSegL l (i + 1) k = (0, true, ⟨l.most, l.recs ++ Rs i, { l.ch with size := (forms (Rs i)).length }, l.dn⟩, k) := by
      unfold readSegL readSegR
      rw [hg, hrd]
      dsimp only
      rw [if_neg (by simp), scan_forms (Rs i) _ h2 (Nat.le_refl _), if_pos rfl, hg]
    obtain ⟨l2, e1, e2, e3, e4, e5⟩ := rd_all Rs Zs c (i + 1) ⟨l.most, l.recs ++ Rs i, { l.ch with size := (forms (Rs i)).length }, l.dn⟩ k on hg (by omega) (fun j hj1 hj2 => h j (by omega) (by omega))
    refine ⟨l2, ?_, e2, e3, e4, ?_⟩
    · unfold rdSegs
      rw [hseg]
      dsimp only
      rw [if_neg (by simp), if_pos rfl]
      exact e1
    · rw [e5]
      show (l.recs ++ Rs i).length + _ = l.recs.length + ((Rs i).length + sumR Rs c (i + 1))
      rw [List.length_append]
      omega
theorem sumR_le (Rs Rt : Nat → List (List Int)) (h : ∀ j, (Rs j).length ≤ (Rt j).length) : ∀ c i, sumR Rs c i ≤ sumR Rt c i
  | 0, _ => Nat.le_refl _
  | c + 1, i => by
    have := sumR_le Rs Rt h c (i + 1)
    have := h i
    show (Rs i).length + _ ≤ (Rt i).length + _
    omega
theorem sumR_flat : ∀ (T P : List (List (List Int))), sumR (fun j => (P ++ T).getD j []) T.length P.length = T.flatten.length
  | [], _ => rfl
  | s :: T, P => by
    have h := sumR_flat T (P ++ [s])
    rw [List.append_assoc, List.length_append] at h
    show ((P ++ s :: T).getD P.length []).length + sumR _ T.length (P.length + 1) = _
    rw [List.flatten_cons, List.length_append]
    have e : (P ++ s :: T).getD P.length [] = s := by rw [List.getD_eq_getElem?_getD, List.getElem?_append_right (Nat.le_refl _)]; simp
    rw [e]
    have h' : sumR (fun j => (P ++ s :: T).getD j []) T.length (P.length + 1) = T.flatten.length := h
    rw [h']
theorem used_rest (l : Fls) : used (restL l []) ≤ used l := by
  induction l with
  | nil => exact Nat.le_refl _
  | cons p r ih =>
    obtain ⟨n, f⟩ := p
    unfold restL
    split
    · simp only [used]; have : used (restL r []) ≤ used r := ih; omega
    · simp only [used]
      have h1 : (restF f (([] : List Int).headD 0)).b.length ≤ f.b.length := by
        show (restF f 0).b.length ≤ _
        rw [restF_zero]
        exact List.length_take_le' ..
      have : used (restL r []) ≤ used r := ih
      show _ + used (restL r ([] : List Int).tail) ≤ _
      show _ + used (restL r []) ≤ _
      omega

/-- A disk that has just whole segments is opened without a fault. -/
theorem open_sg {k : Dk} {n : Nat} {Rs : Nat → List (List Int)} {Zs : Nat → Nat} (m : Nat) (h : Sg k n (fun j => forms (Rs j)) Zs) (hr : ∀ j, j < n → ∀ r ∈ Rs j, r.length ≤ 1048576) : (openL m k).1 = 0 ∧ (openL m k).2.1.recs.length = sumR Rs n 0 := by
  have hbn : look k.fs sBase = none := by
    cases hl : look k.fs sBase with
    | none => rfl
    | some f => obtain ⟨j, _, e⟩ := h.only _ _ hl; exact absurd e (base_ne _ _)
  have hrb : readK k sBase = (7, []) := by
    unfold readK
    rw [h.on, if_neg (by decide), if_neg (by decide), hbn]
  have hls : listK k = (0, k.fs.map Prod.fst) := by unfold listK; rw [h.on]; rfl
  have hmem : ∀ s, s ∈ k.fs.map Prod.fst ↔ ∃ j, j < n ∧ s = segN 1 (j + 1) := fun s => by
    rw [← look_isSome]
    constructor
    · intro hs
      obtain ⟨f, hf⟩ := Option.isSome_iff_exists.1 hs
      exact h.only s f hf
    · rintro ⟨j, hj, rfl⟩
      rw [h.yes j hj]
      rfl
  have hcnt : cntN (k.fs.map Prod.fst) 1 = n := cntN_is ⟨fun s hs => by
    obtain ⟨i, hi, e⟩ := mem_segs.1 hs
    exact (hmem s).2 ⟨i, hi, by rw [e, Nat.zero_add]⟩, fun hs => by
    obtain ⟨j, hj, e⟩ := (hmem _).1 hs
    have := segN_inj e
    omega⟩
  have hfil : (k.fs.map Prod.fst).filter (left 1 n) = [] := by
    rw [List.filter_eq_nil_iff]
    intro s hs
    obtain ⟨j, hj, e⟩ := (hmem s).1 hs
    unfold left
    rw [inN_iff.2 (mem_segs.2 ⟨j, hj, by rw [e, Nat.zero_add]⟩)]
    simp
  have hcl : cleanL ⟨1, 0, 0, false⟩ false k = (0, ⟨1, n, 0, false⟩, false, k) := by
    unfold cleanL
    rw [hls]
    dsimp only
    rw [if_neg (by simp), hcnt, hfil]
    rfl
  obtain ⟨l2, e1, e2, e3, e4, e5⟩ := rd_all Rs Zs n 0 ⟨m, [], ⟨1, n, 0, false⟩, false⟩ k h.on rfl (by have := h.few; omega) (fun j _ hj => ⟨h.yes j (by omega), hr j (by omega)⟩)
  dsimp only at e3 e4 e5
  unfold openL
  rw [hrb]
  show (openR m (0, 1) k).1 = 0 ∧ _
  unfold openR
  rw [if_neg (by simp)]
  show (openR.openC m (cleanL ⟨1, 0, 0, false⟩ false k)).1 = 0 ∧ (openR.openC m (cleanL ⟨1, 0, 0, false⟩ false k)).2.1.recs.length = _
  rw [hcl]
  unfold openR.openC
  rw [if_neg (by simp)]
  dsimp only
  rw [e1]
  unfold openR.openD
  rw [if_neg (by simp)]
  dsimp only
  have hlen : l2.recs.length = sumR Rs n 0 := by rw [e5]; show 0 + _ = _; omega
  unfold commitL
  refine ⟨?_, hlen⟩
  dsimp only
  unfold settleL
  rw [e3]
  by_cases hn : 0 < n
  · rw [if_pos (decide_eq_true hn)]
    dsimp only
    obtain ⟨k', s1, _⟩ := h.sync (n - 1) (by omega)
    rw [show n - 1 + 1 = n from by omega] at s1
    rw [e2, e4, stp_ok s1]
  · rw [if_neg (by simp; omega)]

end Go.Proofs.YtikkieaokfailaaGreatDoor

/- LogSizes, its plain part: what is seen behind a new start; the law's own copies. -/
namespace Go.Proofs.YtikkieaokfailaaGreatDoor
open Go.RowKit Go.Joins

/-- A file as the law lets it be. -/
def FileOk (m : Nat) (ys : List Int) : Prop := ys.length < 8 ∨ ∃ q : Nat, q ≤ 200 ∧ ys.getD 0 0 = 0 ∧ ys.getD 1 0 = 0 ∧ ys.getD 2 0 = 0 ∧ ys.getD 3 0 = (q : Int) ∧ (ys.length ≤ m ∨ ys.length = q + 8)
theorem big_head (n : Nat) (h : n ≤ 200) (X : List Int) : (bigL 4 n ++ X).getD 0 0 = 0 ∧ (bigL 4 n ++ X).getD 1 0 = 0 ∧ (bigL 4 n ++ X).getD 2 0 = 0 ∧ (bigL 4 n ++ X).getD 3 0 = (n : Int) := by
  have e : bigL 4 n = [0, 0, 0, (n : Int)] := by
    show [((n / 256 ^ 3 % 256 : Nat) : Int), ((n / 256 ^ 2 % 256 : Nat) : Int), ((n / 256 ^ 1 % 256 : Nat) : Int), ((n / 256 ^ 0 % 256 : Nat) : Int)] = _
    have h1 : n / 256 ^ 3 % 256 = 0 := by omega
    have h2 : n / 256 ^ 2 % 256 = 0 := by omega
    have h3 : n / 256 ^ 1 % 256 = 0 := by omega
    have h4 : n / 256 ^ 0 % 256 = n := by omega
    rw [h1, h2, h3, h4]
    rfl
  rw [e]
  exact ⟨rfl, rfl, rfl, rfl⟩
theorem file_ok (m : Nat) (s : List (List Int)) (hr : ∀ r ∈ s, r.length ≤ 200) (hs : (forms s).length ≤ m ∨ s.length = 1) : FileOk m (forms s) := by
  cases s with
  | nil => exact Or.inl (by show 0 < 8; omega)
  | cons r t =>
    right
    have hrl := hr r (List.mem_cons_self ..)
    have e : forms (r :: t) = bigL 4 r.length ++ (bigL 4 (crcN r) ++ r ++ forms t) := by
      show formL r ++ forms t = _
      unfold formL
      simp only [List.append_assoc]
    obtain ⟨h0, h1, h2, h3⟩ := big_head r.length hrl (bigL 4 (crcN r) ++ r ++ forms t)
    rw [← e] at h0 h1 h2 h3
    refine ⟨r.length, hrl, h0, h1, h2, h3, hs.imp id (fun h => ?_)⟩
    have ht : t = [] := by
      cases t with
      | nil => rfl
      | cons => simp at h
    subst ht
    show (formL r ++ []).length = _
    rw [List.append_nil, formL_len]
    omega

/-- The disk behind a new start, as the law sees it. -/
structure SzR (m : Nat) (k : Dk) (n : Nat) : Prop where
  op : (openL m k).1 = 0
  re : (openL m k).2.1.recs.length ≤ n
  on : k.off = false
  fl : k.fs.length ≤ 1000
  st : k.steps < 800000
  us : used k.fs ≤ 900000
  fi : ∀ s ∈ k.fs.map Prod.fst, ∃ ys, readK k s = (0, ys) ∧ FileOk m ys ∧ Bd ys
theorem SzI.rest {m : Nat} {l : Lg} {k : Dk} {S : List (List (List Int))} {n : Nat} (h : SzI m l k S n) (hn : n ≤ 60) (hg : (restK k []).Good) : SzR m (restK k []) n := by
  have hsl := h.sl
  have hs := h.sg.rest hg
  obtain ⟨Rs, hRs⟩ : ∃ Rs : Nat → List (List Int), ∀ j, Rs j = if j + 1 < S.length then S.getD j [] else [] := ⟨_, fun _ => rfl⟩
  have hmemS : ∀ j, j < S.length → S.getD j [] ∈ S := fun j hj => by
    rw [List.getD_eq_getElem?_getD, List.getElem?_eq_getElem hj]
    exact List.getElem_mem hj
  have hs2 := hs.congr (B' := fun j => forms (Rs j)) (Z' := _) (fun j hj => ⟨by
    rw [hRs]
    by_cases c : j + 1 < S.length
    · rw [if_pos c, if_pos c, List.take_length]
    · rw [if_neg c, if_neg c, List.take_zero]; rfl, rfl⟩)
  have hr : ∀ j, j < S.length → ∀ r ∈ Rs j, r.length ≤ 1048576 := fun j hj r hrm => by
    rw [hRs] at hrm
    split at hrm
    · have := h.rl _ (hmemS j hj) r hrm; omega
    · cases hrm
  obtain ⟨o1, o2⟩ := open_sg m hs2 hr
  refine ⟨o1, ?_, rfl, ?_, ?_, ?_, ?_⟩
  · rw [o2]
    have h1 := sumR_le Rs (fun j => S.getD j []) (fun j => by
      rw [hRs]
      split
      · exact Nat.le_refl _
      · exact Nat.zero_le _) S.length 0
    have h3 : sumR (fun j => S.getD j []) S.length 0 = S.flatten.length := sumR_flat S []
    have := h.fl
    omega
  · show (restL k.fs []).length ≤ 1000
    have h1 := congrArg List.length (rest_names k.fs [])
    rw [List.length_map, List.length_map] at h1
    have := h.fs
    omega
  · show k.steps < _
    have := h.st
    omega
  · show used (restL k.fs []) ≤ _
    have := used_rest k.fs
    have := h.us
    omega
  · intro s hsm
    rw [← look_isSome] at hsm
    obtain ⟨f, hf⟩ := Option.isSome_iff_exists.1 hsm
    obtain ⟨j, hj, rfl⟩ := hs2.only s f hf
    have hy := hs2.yes j hj
    refine ⟨forms (Rs j), ?_, ?_, (look_good hg hy).2.2⟩
    · unfold readK
      rw [hs2.on, if_neg (by decide), if_neg (by rw [Sg.nm j (by have := hs2.few; omega)]; decide), hy]
    · rw [hRs]
      split
      · exact file_ok m _ (h.rl _ (hmemS j hj)) (h.sz _ (hmemS j hj))
      · exact Or.inl (by show 0 < 8; omega)
theorem SzI.new (m : Nat) : SzI m (lg1 m) (newK 1000000) [] 0 :=
  ⟨rfl, rfl, rfl, rfl, rfl, Sg.new 1000000 (by omega) _ _, (fun s hs => by cases hs), (fun s hs => by cases hs), Nat.le_refl _, Nat.le_refl _, Nat.le_refl _, rfl, Nat.le_refl _⟩
theorem SzI.ok {m : Nat} {l : Lg} {k : Dk} {S : List (List (List Int))} {n : Nat} (h : SzI m l k S n) (hn : n ≤ 60) (hm : m ≤ 1000) : l.Ok := by
  have hsl := h.sl
  refine ⟨by rw [h.ch]; show 1 < _; omega, ?_, ?_, by rw [h.most]; omega, by rw [h.recs]; omega⟩
  · rw [h.ch]; show S.length ≤ _; omega
  · rw [h.ch]
    show (forms (S.getLastD [])).length ≤ _
    rcases List.eq_nil_or_concat S with e | ⟨T, s, e⟩
    · subst e; exact Nat.zero_le _
    · rw [List.concat_eq_append] at e
      have hl : S.getLastD [] = s := by rw [e]; simp
      have hin : s ∈ S := by rw [e]; simp
      rw [hl]
      rcases h.sz s hin with h1 | h1
      · omega
      · obtain ⟨r, rfl⟩ : ∃ r, s = [r] := by
          cases s with
          | nil => simp at h1
          | cons r t => cases t with
            | nil => exact ⟨r, rfl⟩
            | cons => simp at h1
        have := h.rl _ hin r (List.mem_singleton.2 rfl)
        show (formL r ++ []).length ≤ _
        rw [List.append_nil, formL_len]
        omega

/-- few: at most 200 bytes, in new memory. -/
theorem few200 (a : Option Addr) (n c : Nat) (xs : List Int) (w : World) (hR : Rd w a n c xs) :
    Calls Tryz.prog 17 #[.slice a n c] w fun e w' => ∃ a' n' c', e = .returned (.slice a' n' c') ∧ Rd w' a' n' c' (xs.take 200) ∧ (∀ ad, a' = some ad → w.heap.size ≤ ad.block) ∧ Below w.heap.size w w' := by
  have hb := hR.bytes.take 200
  go_enter Tryz.func17, Tryz.ntmps17
  go_wp2_with (go_at_call 54; refine (twin_any a n c xs 200 _ hR (by omega)).mono ?_; rintro e w1 ⟨v1, rfl, ho1, hb1⟩)
  go_ret
  obtain ⟨a1, c1, rfl, hr1⟩ := Rd.ofOwn ho1 hb
  refine ⟨a1, _, c1, rfl, hr1, fun ad had => ?_, hb1⟩
  rcases ho1.2 with ⟨e, _⟩ | ⟨g, cap, cur, e, hg, _⟩
  · injection e with e1; rw [e1] at had; cases had
  · injection e with e1; rw [e1] at had; cases had; exact hg
theorem tm200 (z : Int) : ∃ k : Nat, (wrap64 (z.tmod 200 + 200)).tmod 200 = (k : Int) ∧ k < 200 := by
  have h1 : z.tmod 200 < 200 := Int.tmod_lt_of_pos z (by omega)
  have h2 : -200 < z.tmod 200 := by
    have : (-z).tmod 200 < 200 := Int.tmod_lt_of_pos (-z) (by omega)
    rw [Int.neg_tmod] at this; omega
  have h3 : wrap64 (z.tmod 200 + 200) = z.tmod 200 + 200 := by unfold wrap64; omega
  rw [h3, Int.tmod_eq_emod_of_nonneg (by omega)]
  exact ⟨((z.tmod 200 + 200) % 200).toNat, by omega, by omega⟩
theorem irnL (w : World) : IRd w 0 (.slice none 0 0) [] := ⟨none, 0, rfl, Nat.le_refl _, by omega, fun h => absurd rfl h⟩
theorem or0 {x : Nat} (h : x ≤ 255) : bits .or .i64 0 (x : Int) = (x : Int) := by
  have e : bits .or .i64 ((0 : Nat) : Int) (x : Int) = ((0 ||| x : Nat) : Int) := by
    show IntKind.i64.wrap ((BitVec.ofInt 64 ((0 : Nat) : Int) ||| BitVec.ofInt 64 (x : Int)).toNat : Int) = _
    rw [BitVec.toNat_or, ofInt_u64 0 (by omega), ofInt_u64 x (by omega), IntKind.wrap_i64, Nat.zero_or]
    omega
  rw [Nat.zero_or] at e
  exact e

end Go.Proofs.YtikkieaokfailaaGreatDoor

/- LogSizes: the law's walk. -/
namespace Go.Proofs.YtikkieaokfailaaGreatDoor
open Go.RowKit Go.Joins

set_option maxRecDepth 100000 in
set_option maxHeartbeats 8000000 in
theorem logSizes_any (a : Option Addr) (n c : Nat) (xs : List (List Int)) (mo : Int) (W : World) (hR : RRd W a n xs) (hP : Pw W) :
    Calls Tryz.prog 8 #[.slice a n c, .int .i64 mo] W fun e w' => e = .returned (.bool true) ∧ Below W.heap.size W w' := by
  obtain ⟨m0, hm0, hm200⟩ := tm200 mo
  have hN := new_ok 1000000 (by omega) W
  have hpl := hP.at
  have hnm := hR.most
  obtain ⟨m, hm⟩ : ∃ m, m0 + 16 = m := ⟨_, rfl⟩
  have hme : (m0 : Int) + 16 = ((m : Nat) : Int) := by omega
  obtain ⟨kN, HkN⟩ : ∃ kN, Hid (newK 1000000 = kN) := ⟨_, rfl⟩
  have hon := open_new m 1000000
  have hSz := SzI.new m
  rw [HkN.out] at hN hon hSz
  have hkf : kN.fs.length ≤ 1000 := by rw [← HkN.out]; decide
  have hks : kN.steps < 800000 := by rw [← HkN.out]; decide
  have hku : used kN.fs ≤ 900000 := by rw [← HkN.out]; decide
  have Hop : Hid (openL m kN = (0, lg1 m, kN)) := hon
  have HSz : Hid (SzI m (lg1 m) kN [] 0) := hSz
  clear hon hSz
  go_enter Tryz.func8, Tryz.ntmps8
  go_upto_region 3 with (first
    | (go_at_call 14; refine hN.mono ?_; rintro e w1 ⟨d, rfl, ⟨F1, hD1, hF1⟩, hb1⟩))
  have hop := sopen_any w1 F1 d m kN (by omega) (by omega) hD1 (hP.below hb1) (fun i hi => by have := hF1 i hi; omega) hkf hks hku
  rw [Hop.out] at hop
  try rw [hme]
  go_upto_region 4 with (first
    | (go_at_call 20; refine hop.mono ?_; rintro e w2 ho; obtain ⟨lb, rfl, hlb, F2, H2, hA2, hk2, hF2, hH2⟩ := ho.yes rfl))
  clear ho hop hkf hks hku Hop hN
  have hB2 : Below W.heap.size W w2 := hb1.trans (hk2.low hb1.size hF1)
  have hwk := swakes_any w2 (hP.below hB2)
  go_wp2_with (first
    | (go_at_call 11; refine hwk.mono ?_; rintro e w3 ⟨rfl, hb3⟩))
  have hB3 : Below W.heap.size W w3 := hB2.trans (hb3.mono hB2.size)
  have hF2' : ∀ i, F2 i → W.heap.size ≤ i := fun i hi => (hF2 i hi).elim (hF1 i) (fun h => by have := hb1.size; omega)
  have hH2' : ∀ i, H2 i → W.heap.size ≤ i := fun i hi => by have := hH2 i hi; have := hb1.size; omega
  have hlbW : W.heap.size ≤ lb := by have := hb1.size; omega
  have hA3 := hA2.below hb3
  clear hA2 hb3 hwk hB2 hk2 hF2 hH2 hlb hD1 hF1 hb1
  go_loopw [10, 11] (fun s10 s11 wr => ∃ (i : Nat) (l : Lg) (k : Dk) (S : List (List (List Int))) (F H : Nat → Prop), s10 = .int .i64 i ∧ s11 = .int .i64 i ∧ i ≤ n ∧ i ≤ 60 ∧ Hid (SzI m l k S i) ∧ Hid (LogAt wr F H lb d l k) ∧ Hid (∀ j, F j → W.heap.size ≤ j) ∧ Hid (∀ j, H j → W.heap.size ≤ j) ∧ Hid (Below W.heap.size W wr)) (fun _ s11 _ => 60 - (intOf s11).toNat)
  case atStart => exact ⟨0, _, kN, [], F2, H2, rfl, rfl, by omega, by omega, HSz.out, hA3, hF2', hH2', hB3⟩
  case round =>
    clear HSz hA3 hF2' hH2' hB3
    obtain ⟨i, l, k, S, F, H, rfl, rfl, hin, hi60, HS, HA, HF, HH, HB⟩ := hrel
    by_cases hlt : i < n ∧ i < 60
    · have hcl : (i : Int) < (n : Int) := by omega
      have hcl60 : (i : Int) < 60 := by omega
      obtain ⟨b, off, rfl, hce⟩ := hR.flat (by omega)
      obtain ⟨aj, nj, cj, hcj, hrj⟩ := hce i hlt.1
      clear hce
      have hcj' := (HB.out.cell (p := ⟨b, off + i, none⟩) (World.block_lt_of_cell? W _ hcj)).trans hcj
      have hrj' := hrj.carry (Nat.le_refl _) HB.out
      have hfew := few200 aj nj cj _ wr hrj'
      obtain ⟨S', e1, e2⟩ := HS.out.app hlt.2 ((xs.getD i []).take 200) (by rw [List.length_take]; omega) (hrj.bytes.take 200)
      obtain ⟨v0, hL0, _⟩ := HA.out.ex
      have hFl := hL0.D.lt
      have hll := hL0.lt
      have hap := fun w hb a' n' c' hR' hRF => sappend_any w F H lb d l k (HA.out.below hb) (HS.out.ok (by omega) (by omega)) (by have := HS.out.st; omega) (by have := HS.out.fs; omega) a' n' c' ((xs.getD i []).take 200) hR' hRF
      rw [e1] at hap
      obtain ⟨l', hl'⟩ : ∃ l', (appendT l k ((xs.getD i []).take 200)).2.1 = l' := ⟨_, rfl⟩
      obtain ⟨k', hk'⟩ : ∃ k', (appendT l k ((xs.getD i []).take 200)).2.2 = k' := ⟨_, rfl⟩
      rw [hl', hk'] at hap e2
      have HE2 : Hid (SzI m l' k' S' (i + 1)) := e2
      clear hl' hk' e1 e2 hcj hrj hL0 hrj'
      go_wp2_with (first
        | (go_at_call 17; refine hfew.mono ?_; rintro e w5 ⟨a5, n5, c5, rfl, hr5, hg5, hb5⟩)
        | (go_at_call 22; refine (hap _ hb5 a5 n5 c5 hr5 (fun ad had => ⟨fun hf => by have := hFl _ hf; have := hg5 ad had; omega, fun e => by have := hg5 ad had; omega⟩)).mono ?_; rintro e w6 ⟨rfl, F6, H6, hA6, hk6, hF6, hH6⟩))
      have hB5 := HB.out.trans (hb5.mono HB.out.size)
      have hB6 : Below W.heap.size W w6 := hB5.trans (hk6.low hB5.size (fun j hj => by
        rcases hj with hj | hj | hj
        · exact HF.out j hj
        · exact HH.out j hj
        · omega))
      have h5s := hB5.size
      exact ⟨⟨i + 1, l', k', S', F6, H6, by go_num, by go_num, by omega, by omega, HE2.out, hA6, fun j hj => (hF6 j hj).elim (HF.out j) (fun h => by omega), fun j hj => (hH6 j hj).elim (HH.out j) (fun h => by omega), hB6⟩, by simp [intOf]; omega⟩
    · have hend : ¬ (i : Int) < (n : Int) ∨ ((i : Int) < (n : Int) ∧ ¬ (i : Int) < 60) := by omega
      obtain ⟨v0, hL0, _⟩ := HA.out.ex
      have hRs := restart_any d F k 0 (.slice none 0 0) [] (by have := HS.out.fs; omega) wr hL0.D (irnL wr) (fun h => absurd rfl h)
      have HRst := fun hg => HS.out.rest hi60 hg
      obtain ⟨k2, Hk2⟩ : ∃ k2, Hid (restK k [] = k2) := ⟨_, rfl⟩
      rw [Hk2.out] at hRs HRst
      clear hL0 HS HA
      rcases hend with hcl | ⟨hcl, hcl60⟩ <;> (
        go_upto_region 14 with (first
          | (go_at_call 24; refine hRs.mono ?_; rintro e w4 ⟨rfl, F4, hD4, hk4, hF4⟩))
        have hQ := HRst hD4.good
        have hB4 : Below W.heap.size W w4 := HB.out.trans (hk4.low HB.out.size HF.out)
        have hF4' : ∀ j, F4 j → W.heap.size ≤ j := fun j hj => (hF4 j hj).elim (HF.out j) (fun h => by have := HB.out.size; omega)
        have hLs := list_any d F4 k2 (by have := hQ.fl; omega) w4 hD4
        rw [show listK k2 = (0, k2.fs.map Prod.fst) from by unfold listK; rw [hQ.on]; rfl] at hLs
        have HQ : Hid (SzR m k2 i) := hQ
        obtain ⟨ns, Hns⟩ : ∃ ns, Hid (k2.fs.map Prod.fst = ns) := ⟨_, rfl⟩
        rw [Hns.out] at hLs
        dsimp only at hLs
        obtain ⟨N, HN⟩ : ∃ N, Hid (ns.length = N) := ⟨_, rfl⟩
        rw [HN.out] at hLs
        clear hRs HRst hQ hk4 hF4
        go_upto_region 16 with (first
          | (go_at_call 37; refine hLs.mono ?_; rintro e w5 ⟨v5, rfl, o5, hb5⟩; obtain ⟨a5, c5, rfl, hn5⟩ := own_formN o5))
        have hB5 : Below W.heap.size W w5 := hB4.trans (hb5.mono hB4.size)
        have hD5 := hD4.below hb5
        clear hLs hb5 hB4 hD4
        go_loopw [14, 15, 16, 17] (fun s14 _ _ _ wq => ∃ j : Nat, s14 = .int .i64 j ∧ j ≤ N ∧ Hid (Below w5.heap.size w5 wq)) (fun s14 _ _ _ _ => N - (intOf s14).toNat)
        case atStart => exact ⟨0, rfl, by omega, Below.refl _ _⟩
        case round =>
          obtain ⟨j, rfl, hjN, HBq⟩ := hrel
          by_cases hjlt : j < N
          · have hcj : (j : Int) < (N : Int) := by omega
            have hj0 : (0 : Int) ≤ (j : Int) := by omega
            have hjl : j < ns.length := by rw [HN.out]; exact hjlt
            obtain ⟨x, hx⟩ : ∃ x, ns[j]? = some x := ⟨_, List.getElem?_eq_getElem hjl⟩
            have hnvj : (nv ns)[j]? = some (.string x) := by unfold nv; rw [List.getElem?_map, hx]; rfl
            obtain ⟨gr, hgr⟩ : ∃ g, a5 = some ⟨g, 0, none⟩ := by
              rcases o5.2 with ⟨_, h0⟩ | ⟨g, cap, cur, h1, _⟩
              · omega
              · cases h1; exact ⟨g, rfl⟩
            subst hgr
            have oq := own_keep (S := fun _ => False) o5 (Keep.ofBelow HBq.out) (fun _ _ h => h)
            have hc := oq.cells (g := gr) rfl j _ hnvj
            rw [add_flat, Nat.zero_add] at hc
            obtain ⟨ys, hy1, hy2, hyb⟩ := HQ.out.fi x (by rw [Hns.out]; exact List.mem_of_getElem? hx)
            have hRd := read_any d F4 k2 x _ (hD5.below HBq.out)
            rw [hy1] at hRd
            dsimp only at hRd
            obtain ⟨L, HL⟩ : ∃ L, Hid (ys.length = L) := ⟨_, rfl⟩
            unfold FileOk at hy2
            rw [HL.out] at hRd hy2
            clear hx hnvj oq hy1 hjl
            go_upto_region 19 with (first
              | (go_at_call 38; refine hRd.mono ?_; rintro e w6 ⟨v6, rfl, o6, hb6⟩; obtain ⟨a6, c6, rfl, r6⟩ := Rd.ofOwn o6 hyb))
            have hB6 : Below w5.heap.size w5 w6 := HBq.out.trans (hb6.mono HBq.out.size)
            clear hRd hc hb6
            by_cases h8 : L < 8
            · have hd : decide ((8 : Int) ≤ (L : Int)) = false := decide_eq_false (by omega)
              have z1 : ¬ (m : Int) < (L : Int) := by omega
              go_quiet (fail)
              go_wp2
              exact ⟨⟨j + 1, by go_num, by omega, ⟨hB6.os, hB6.tape, hB6.output, hB6.size, hB6.block⟩⟩, by simp [intOf]; omega⟩
            · obtain ⟨q, hq200, y0, y1, y2, y3, hfin⟩ := hy2.resolve_left h8
              obtain ⟨g6, hg6⟩ : ∃ g, a6 = some ⟨g, 0, none⟩ := by
                rcases o6.2 with ⟨_, h0⟩ | ⟨g, cap, cur, h1, _⟩
                · omega
                · injection h1 with h1; exact ⟨g, h1⟩
              subst hg6
              have hd : (8 : Int) ≤ (L : Int) := by omega
              have c0 := r6.cells _ rfl 0 (by omega)
              have c1 := r6.cells _ rfl 1 (by omega)
              have c2 := r6.cells _ rfl 2 (by omega)
              have c3 := r6.cells _ rfl 3 (by omega)
              rw [add_flat, Nat.zero_add] at c0 c1 c2 c3
              rw [y0] at c0
              rw [y1] at c1
              rw [y2] at c2
              rw [y3] at c3
              have i0 : (0 : Int) < (L : Int) := by omega
              have i1 : (1 : Int) < (L : Int) := by omega
              have i2 : (2 : Int) < (L : Int) := by omega
              have i3 : (3 : Int) < (L : Int) := by omega
              have qz : (q : Int) ≤ 200 := by omega
              have b0 : bits .or .i64 0 0 = 0 := or0 (x := 0) (by omega)
              have bq := or0 (x := q) (by omega)
              clear y0 y1 y2 y3
              by_cases hone : L = q + 8
              · have ho : ((q : Int) == (L : Int) - 8) = true := by rw [beq_iff_eq]; omega
                have ho2 : decide ((q : Int) = (L : Int) - 8) = true := decide_eq_true (by omega)
                clear hone hfin
                go_quiet (fail)
                by_cases hmL : m < L
                · have z1 : (m : Int) < (L : Int) := by omega
                  go_wp2
                  exact ⟨⟨j + 1, by go_num, by omega, ⟨hB6.os, hB6.tape, hB6.output, hB6.size, hB6.block⟩⟩, by simp [intOf]; omega⟩
                · have z1 : ¬ (m : Int) < (L : Int) := by omega
                  go_wp2
                  exact ⟨⟨j + 1, by go_num, by omega, ⟨hB6.os, hB6.tape, hB6.output, hB6.size, hB6.block⟩⟩, by simp [intOf]; omega⟩
              · have ho : ¬ (q : Int) = (L : Int) - 8 := by omega
                have z1 : ¬ (m : Int) < (L : Int) := by omega
                go_quiet (fail)
                go_wp2
                exact ⟨⟨j + 1, by go_num, by omega, ⟨hB6.os, hB6.tape, hB6.output, hB6.size, hB6.block⟩⟩, by simp [intOf]; omega⟩
          · have hcj : ¬ (j : Int) < (N : Int) := by omega
            have hBq : Below W.heap.size W _ := hB5.trans (HBq.out.mono hB5.size)
            have hop := sopen_any _ F4 d m k2 (by omega) (by omega) (hD5.below HBq.out) (hP.below hBq) (fun i hi => by have := hF4' i hi; omega) HQ.out.fl HQ.out.st HQ.out.us
            have hre := HQ.out.re
            obtain ⟨P, HP⟩ : ∃ P, Hid (openL m k2 = P) := ⟨_, rfl⟩
            have ho0 := HQ.out.op
            rw [HP.out] at hop hre ho0
            have hlz : ((P.2.1.recs.length : Nat) : Int) ≤ (i : Int) := by omega
            have hln := fun F H lb w hA => slen_any w F H lb d P.2.1 P.2.2 hA
            obtain ⟨R, HRe⟩ : ∃ R, Hid (P.2.1.recs.length = R) := ⟨_, rfl⟩
            rw [HRe.out] at hlz
            simp only [HRe.out] at hln
            clear hre
            go_wp2_with (first
              | (go_at_call 20; refine hop.mono ?_; rintro e w6 ho; obtain ⟨lb6, rfl, hlb6, F6, H6, hA6, hk6, hF6, hH6⟩ := ho.yes ho0)
              | (go_at_call 26; refine (hln F6 H6 lb6 _ hA6).mono ?_; rintro e w7 ⟨rfl, h7⟩; replace h7 := h7.symm; subst h7))
            go_ret
            exact ⟨rfl, hBq.trans (hk6.low hBq.size hF4')⟩)

end Go.Proofs.YtikkieaokfailaaGreatDoor

/- LogKeeps, its plain part: what appends and commits leave, with power that fails. -/
namespace Go.Proofs.YtikkieaokfailaaGreatDoor
open Go.RowKit Go.Joins

theorem wholeN_mono : ∀ (s : List (List Int)) (a b : Nat), a ≤ b → wholeN s a ≤ wholeN s b
  | [], _, _, _ => Nat.le_refl _
  | r :: s, a, b, h => by
    unfold wholeN
    by_cases h1 : 8 + r.length ≤ a
    · rw [if_pos h1, if_pos (by omega)]
      have := wholeN_mono s (a - (8 + r.length)) (b - (8 + r.length)) (by omega)
      omega
    · rw [if_neg h1]
      exact Nat.zero_le _
theorem wholeN_app : ∀ (s t : List (List Int)) (z : Nat), wholeN s z ≤ wholeN (s ++ t) z
  | [], _, _ => Nat.zero_le _
  | r :: s, t, z => by
    show wholeN (r :: s) z ≤ wholeN (r :: (s ++ t)) z
    unfold wholeN
    split
    · have := wholeN_app s t (z - (8 + r.length))
      omega
    · exact Nat.le_refl _
theorem wholeN_take : ∀ (s : List (List Int)) (m z : Nat), wholeN (s.take m) z = min m (wholeN s z)
  | [], m, z => by rw [List.take_nil]; show 0 = min m 0; omega
  | r :: s, 0, z => by rw [List.take_zero]; show 0 = _; omega
  | r :: s, m + 1, z => by
    rw [List.take_succ_cons]
    unfold wholeN
    split
    · rw [wholeN_take s m]; omega
    · omega
theorem forms_split (s : List (List Int)) (m : Nat) : forms s = forms (s.take m) ++ forms (s.drop m) := by rw [← forms_app, List.take_append_drop]
theorem forms_take_len (s : List (List Int)) (m : Nat) : (forms (s.take m)).length ≤ (forms s).length := by rw [forms_split s m, List.length_append]; omega
theorem forms_take_eq (s : List (List Int)) (m : Nat) : (forms s).take (forms (s.take m)).length = forms (s.take m) := by
  conv => lhs; rw [forms_split s m]
  exact List.take_left'  rfl
/-- What is whole lies within. -/
theorem whole_within : ∀ (s : List (List Int)) (b : Nat), (forms (s.take (wholeN s b))).length ≤ b
  | [], b => by rw [List.take_nil]; exact Nat.zero_le _
  | r :: s, b => by
    unfold wholeN
    split
    · rw [List.take_succ_cons]
      show (formL r ++ forms (s.take _)).length ≤ b
      rw [List.length_append, formL_len]
      have := whole_within s (b - (8 + r.length))
      omega
    · rw [List.take_zero]; exact Nat.zero_le _

def KB (T : List (List (List Int))) (x : List Int) (j : Nat) : List Int := if j < T.length then forms (T.getD j []) else x
def KZ (T : List (List (List Int))) (z : Nat) (j : Nat) : Nat := if j < T.length then (forms (T.getD j [])).length else z
/-- What a disk holds of the records 'all', of which the first 'safe' are safe: whole segments that are safe, and a last one that may be cut short. -/
structure KF (k : Dk) (all : List (List Int)) (safe : Nat) : Prop where
  us : used k.fs ≤ 24960
  rl : ∀ r ∈ all, r.length ≤ 200
  ex : (Sh k 0 (fun _ => []) (fun _ => 0) ∧ safe = 0) ∨ ∃ T s b z, Sh k (T.length + 1) (KB T ((forms s).take b)) (KZ T z) ∧ (T.flatten ++ s) <+: all ∧ safe ≤ T.flatten.length + wholeN s z
/-- A log that is written on: its chain of segments and its disk. -/
structure KC (c : Ch) (k : Dk) (all : List (List Int)) (safe : Nat) : Prop where
  g : c.g = 1
  on : k.off = false
  us : used k.fs ≤ 208 * all.length
  room : k.room = 100000
  rl : ∀ r ∈ all, r.length ≤ 200
  ex : (c.cnt = 0 ∧ c.size = 0 ∧ c.loose = false ∧ all = [] ∧ safe = 0 ∧ Sh k 0 (fun _ => []) (fun _ => 0)) ∨ ∃ T s z, c.cnt = T.length + 1 ∧ c.size = (forms s).length ∧ (c.loose = false → z = (forms s).length) ∧ T.flatten ++ s = all ∧ safe ≤ T.flatten.length + wholeN s z ∧ Sh k (T.length + 1) (KB T (forms s)) (KZ T z) ∧ T.length + 1 ≤ all.length
theorem KF.weak {k : Dk} {all all' : List (List Int)} {safe safe' : Nat} (h : KF k all safe) (h1 : all <+: all') (h2 : safe' ≤ safe) (h3 : ∀ r ∈ all', r.length ≤ 200) : KF k all' safe' := by
  refine ⟨h.us, h3, ?_⟩
  rcases h.ex with ⟨e1, e2⟩ | ⟨T, s, b, z, e1, e2, e3⟩
  · exact Or.inl ⟨e1, by omega⟩
  · exact Or.inr ⟨T, s, b, z, e1, e2.trans h1, by omega⟩
theorem KC.kf {c : Ch} {k : Dk} {all : List (List Int)} {safe : Nat} (h : KC c k all safe) (ha : all.length ≤ 120) : KF k all safe := by
  refine ⟨by have := h.us; omega, h.rl, ?_⟩
  rcases h.ex with ⟨_, _, _, _, e2, e1⟩ | ⟨T, s, z, _, _, _, e2, e3, e4, _⟩
  · exact Or.inl ⟨e1, e2⟩
  · exact Or.inr ⟨T, s, (forms s).length, z, by rw [List.take_length]; exact e4, by rw [e2]; exact List.prefix_refl _, e3⟩
theorem stp_13 {k k' : Dk} {r : Nat × Dk} (h : r = (13, k')) : stp false k r = (13, true, k') := by
  subst h
  rfl
/-- The last segment is made safe. -/
theorem KC.settle {c : Ch} {k : Dk} {all : List (List Int)} {safe : Nat} (h : KC c k all safe) (ha : all.length ≤ 120) :
    ∃ en c' dn' k', settleL c false k = (en, c', dn', k') ∧ k'.steps ≤ k.steps + 1 ∧ ((en = 0 ∧ dn' = false ∧ KC c' k' all all.length ∧ c'.loose = false ∧ c'.cnt = c.cnt ∧ c'.size = c.size) ∨ (en = 13 ∧ KF k' all safe)) := by
  cases hl : c.loose with
  | false =>
    refine ⟨0, c, false, k, ?_, Nat.le_succ _, Or.inl ⟨rfl, rfl, ⟨h.g, h.on, h.us, h.room, h.rl, ?_⟩, hl, rfl, rfl⟩⟩
    · unfold settleL
      rw [hl, if_neg (by decide)]
    · rcases h.ex with ⟨e1, e2, e3, e4, e5, e6⟩ | ⟨T, s, z, e1, e2, e3, e4, e5, e6, e7⟩
      · exact Or.inl ⟨e1, e2, e3, e4, by rw [e4]; rfl, e6⟩
      · refine Or.inr ⟨T, s, z, e1, e2, e3, e4, ?_, e6, e7⟩
        rw [← e4, List.length_append, e3 hl, wholeN_all s _ (Nat.le_refl _)]
        exact Nat.le_refl _
  | true =>
    rcases h.ex with ⟨_, _, e3, _⟩ | ⟨T, s, z, e1, e2, e3, e4, e5, e6, e7⟩
    · rw [hl] at e3; cases e3
    obtain ⟨k', hc, hr, hs, hu, hn⟩ := e6.sync h.on T.length (by omega)
    have hB : KB T (forms s) T.length = forms s := if_neg (by omega)
    have heq : settleL c false k = ((stp false k (syncK k (segN 1 (T.length + 1)))).1, (if (stp false k (syncK k (segN 1 (T.length + 1)))).1 = 0 then { c with loose := false } else c), (stp false k (syncK k (segN 1 (T.length + 1)))).2) := by
      unfold settleL
      rw [hl, if_pos rfl, h.g, e1]
    rcases hc with ⟨c1, c2, c3⟩ | ⟨c1, c2, c3⟩
    · rw [stp_ok c1] at heq
      refine ⟨0, { c with loose := false }, false, k', heq, hs, Or.inl ⟨rfl, rfl, ⟨h.g, c2, by have := h.us; omega, by rw [hr]; exact h.room, h.rl, Or.inr ⟨T, s, (forms s).length, e1, e2, fun _ => rfl, e4, ?_, ?_, e7⟩⟩, rfl, rfl, rfl⟩⟩
      · rw [← e4, List.length_append, wholeN_all s _ (Nat.le_refl _)]
        exact Nat.le_refl _
      · refine c3.congr (fun j hj => ⟨rfl, ?_⟩)
        rw [hB]
        unfold KZ
        by_cases e : j = T.length
        · rw [if_pos e, if_neg (by omega)]
        · rw [if_neg e, if_pos (by omega), if_pos (by omega)]
    · rw [stp_13 c1] at heq
      refine ⟨13, c, true, k', heq, hs, Or.inr ⟨rfl, ⟨by have := h.us; omega, h.rl, Or.inr ⟨T, s, (forms s).length, z, by rw [List.take_length]; exact c3, by rw [e4]; exact List.prefix_refl _, e5⟩⟩⟩⟩
theorem rl_snoc {all : List (List Int)} {r : List Int} (h : ∀ r ∈ all, r.length ≤ 200) (hr : r.length ≤ 200) : ∀ x ∈ all ++ [r], x.length ≤ 200 := fun x hx => by
  rcases List.mem_append.1 hx with h1 | h1
  · exact h x h1
  · rw [List.mem_singleton.1 h1]; exact hr
/-- A record behind the others of the last segment. -/
theorem KC.put {c : Ch} {k : Dk} {all : List (List Int)} {safe : Nat} (h : KC c k all safe) (ha : all.length < 120) (r : List Int) (hr : r.length ≤ 200) (hb : Bd r) :
    ∃ en c' dn' k', putS (max c.cnt 1) c.size c (formL r) false k = (en, c', dn', k') ∧ k'.steps ≤ k.steps + 1 ∧ ((en = 0 ∧ dn' = false ∧ KC c' k' (all ++ [r]) safe) ∨ (en = 13 ∧ KF k' (all ++ [r]) safe)) := by
  have hfl := formL_len r
  have hus := h.us
  have hro := h.room
  have hal : (all ++ [r]).length = all.length + 1 := by simp
  rcases h.ex with ⟨e1, e2, e3, e4, e5, e6⟩ | ⟨T, s, z, e1, e2, e3, e4, e5, e6, e7⟩
  · obtain ⟨en, k', a1, a2, a3, a4, a5, a6⟩ := e6.app h.on 0 (by omega) (by omega) (formL r) (formL_bd hb) (by omega)
    have a3' : Sh k' (([] : List (List (List Int))).length + 1) (KB [] (forms [r])) (KZ [] 0) := a3.congr (fun j hj => by
      obtain rfl : j = 0 := by omega
      refine ⟨?_, rfl⟩
      show formL r = forms [r]
      show formL r = formL r ++ []
      rw [List.append_nil])
    rcases a2 with ⟨rfl, a2⟩ | ⟨rfl, a2⟩
    · refine ⟨0, ⟨c.g, 1, c.size + (formL r).length, true⟩, false, k', ?_, a5, Or.inl ⟨rfl, rfl, ⟨h.g, a2, by omega, by rw [a4]; exact hro, rl_snoc h.rl hr, Or.inr ⟨[], [r], 0, rfl, ?_, (fun e => by cases e), by rw [e4]; rfl, by omega, a3', by rw [hal]; exact Nat.le_add_left _ _⟩⟩⟩⟩
      · rw [e1, show max 0 1 = 1 from rfl, putS_eq (en := 0) (dn' := false) (k' := k') (by rw [h.g]; exact stp_ok a1), if_pos rfl]
      · show c.size + (formL r).length = (formL r ++ []).length
        rw [e2, List.append_nil, Nat.zero_add]
    · refine ⟨13, c, true, k', ?_, a5, Or.inr ⟨rfl, ⟨by omega, rl_snoc h.rl hr, Or.inr ⟨[], [r], (forms [r]).length, 0, by rw [List.take_length]; exact a3', by rw [e4]; exact List.prefix_refl _, by omega⟩⟩⟩⟩
      rw [e1, show max 0 1 = 1 from rfl, putS_eq (en := 13) (dn' := true) (k' := k') (by rw [h.g]; exact stp_13 a1), if_neg (by decide)]
  · have hfew := e6.few
    obtain ⟨en, k', a1, a2, a3, a4, a5, a6⟩ := e6.app h.on T.length (by omega) (by omega) (formL r) (formL_bd hb) (by omega)
    have hB : KB T (forms s) T.length = forms s := if_neg (by omega)
    have hZ : KZ T z T.length = z := if_neg (by omega)
    have a3' : Sh k' (T.length + 1) (KB T (forms (s ++ [r]))) (KZ T z) := by
      rw [show max (T.length + 1) (T.length + 1) = T.length + 1 from by omega] at a3
      refine a3.congr (fun j hj => ?_)
      rw [hB, hZ]
      by_cases e : j = T.length
      · rw [if_pos e, if_pos e, if_pos (by omega), if_pos (by omega)]
        unfold KB KZ
        rw [if_neg (by omega), if_neg (by omega), forms_snoc]
        exact ⟨rfl, rfl⟩
      · rw [if_neg e, if_neg e]
        unfold KB KZ
        rw [if_pos (by omega), if_pos (by omega)]
        exact ⟨rfl, rfl⟩
    have hsf : safe ≤ T.flatten.length + wholeN (s ++ [r]) z := by have := wholeN_app s [r] z; omega
    have hmx : max c.cnt 1 = T.length + 1 := by omega
    have hap : T.flatten ++ (s ++ [r]) = all ++ [r] := by rw [← List.append_assoc, e4]
    rcases a2 with ⟨rfl, a2⟩ | ⟨rfl, a2⟩
    · refine ⟨0, ⟨c.g, T.length + 1, c.size + (formL r).length, true⟩, false, k', ?_, a5, Or.inl ⟨rfl, rfl, ⟨h.g, a2, by omega, by rw [a4]; exact hro, rl_snoc h.rl hr, Or.inr ⟨T, s ++ [r], z, rfl, ?_, (fun e => by cases e), hap, hsf, a3', by omega⟩⟩⟩⟩
      · rw [hmx, putS_eq (en := 0) (dn' := false) (k' := k') (by rw [h.g]; exact stp_ok a1), if_pos rfl]
      · show c.size + (formL r).length = _
        rw [forms_snoc, List.length_append, e2]
    · refine ⟨13, c, true, k', ?_, a5, Or.inr ⟨rfl, ⟨by omega, rl_snoc h.rl hr, Or.inr ⟨T, s ++ [r], (forms (s ++ [r])).length, z, by rw [List.take_length]; exact a3', by rw [hap]; exact List.prefix_refl _, hsf⟩⟩⟩⟩
      rw [hmx, putS_eq (en := 13) (dn' := true) (k' := k') (by rw [h.g]; exact stp_13 a1), if_neg (by decide)]
/-- A record in the next segment. -/
theorem KC.nxt {c : Ch} {k : Dk} {all : List (List Int)} (h : KC c k all all.length) (hl : c.loose = false) (h0 : 0 < c.size) (ha : all.length < 120) (safe : Nat) (hsf : safe ≤ all.length) (r : List Int) (hr : r.length ≤ 200) (hb : Bd r) :
    ∃ en c' dn' k', putS (max c.cnt 1 + 1) 0 c (formL r) false k = (en, c', dn', k') ∧ k'.steps ≤ k.steps + 1 ∧ ((en = 0 ∧ dn' = false ∧ KC c' k' (all ++ [r]) safe) ∨ (en = 13 ∧ KF k' (all ++ [r]) safe)) := by
  have hfl := formL_len r
  have hus := h.us
  have hro := h.room
  have hal : (all ++ [r]).length = all.length + 1 := by simp
  rcases h.ex with ⟨e1, e2, e3, e4, e5, e6⟩ | ⟨T, s, z, e1, e2, e3, e4, e5, e6, e7⟩
  · omega
  · have hfew := e6.few
    obtain ⟨en, k', a1, a2, a3, a4, a5, a6⟩ := e6.app h.on (T.length + 1) (by omega) (by omega) (formL r) (formL_bd hb) (by omega)
    have hlT : (T ++ [s]).length = T.length + 1 := by simp
    have a3' : Sh k' ((T ++ [s]).length + 1) (KB (T ++ [s]) (forms [r])) (KZ (T ++ [s]) 0) := by
      rw [hlT]
      rw [show max (T.length + 1) (T.length + 1 + 1) = T.length + 1 + 1 from by omega] at a3
      refine a3.congr (fun j hj => ?_)
      unfold KB KZ
      rw [hlT]
      by_cases e : j = T.length + 1
      · rw [if_pos e, if_pos e, if_neg (show ¬ (T.length + 1 < T.length + 1) by omega), if_neg (show ¬ (T.length + 1 < T.length + 1) by omega), if_neg (show ¬ (j < T.length + 1) by omega), if_neg (show ¬ (j < T.length + 1) by omega)]
        refine ⟨?_, rfl⟩
        show formL r = formL r ++ []
        rw [List.append_nil]
      · rw [if_neg e, if_neg e]
        by_cases e2 : j < T.length
        · rw [if_pos e2, if_pos e2, if_pos (show j < T.length + 1 by omega), if_pos (show j < T.length + 1 by omega), getD_snoc, if_pos e2]
          exact ⟨rfl, rfl⟩
        · rw [if_neg e2, if_neg e2, if_pos (show j < T.length + 1 by omega), if_pos (show j < T.length + 1 by omega), getD_snoc, if_neg e2, if_pos (show j = T.length by omega), e3 hl]
          exact ⟨rfl, rfl⟩
    have hmx : max c.cnt 1 + 1 = T.length + 1 + 1 := by omega
    have hap : (T ++ [s]).flatten ++ [r] = all ++ [r] := by rw [List.flatten_append, List.flatten_singleton, e4]
    have hsf' : safe ≤ (T ++ [s]).flatten.length + wholeN [r] 0 := by rw [List.flatten_append, List.flatten_singleton, e4]; omega
    rcases a2 with ⟨rfl, a2⟩ | ⟨rfl, a2⟩
    · refine ⟨0, ⟨c.g, T.length + 1 + 1, 0 + (formL r).length, true⟩, false, k', ?_, a5, Or.inl ⟨rfl, rfl, ⟨h.g, a2, by omega, by rw [a4]; exact hro, rl_snoc h.rl hr, Or.inr ⟨T ++ [s], [r], 0, by rw [hlT], ?_, (fun e => by cases e), hap, hsf', a3', by rw [hlT]; omega⟩⟩⟩⟩
      · rw [hmx, putS_eq (en := 0) (dn' := false) (k' := k') (by rw [h.g]; exact stp_ok a1), if_pos rfl]
      · show 0 + (formL r).length = (formL r ++ []).length
        rw [List.append_nil, Nat.zero_add]
    · refine ⟨13, c, true, k', ?_, a5, Or.inr ⟨rfl, ⟨by omega, rl_snoc h.rl hr, Or.inr ⟨T ++ [s], [r], (forms [r]).length, 0, by rw [List.take_length]; exact a3', by rw [hap]; exact List.prefix_refl _, hsf'⟩⟩⟩⟩
      rw [hmx, putS_eq (en := 13) (dn' := true) (k' := k') (by rw [h.g]; exact stp_13 a1), if_neg (by decide)]
theorem KC.safe_le {c : Ch} {k : Dk} {all : List (List Int)} {safe : Nat} (h : KC c k all safe) : safe ≤ all.length := by
  rcases h.ex with ⟨_, _, _, e4, e5, _⟩ | ⟨T, s, z, _, _, _, e4, e5, _, _⟩
  · omega
  · have := wholeN_le s z
    rw [← e4, List.length_append]
    omega
theorem KC.lay {c : Ch} {k : Dk} {all : List (List Int)} {safe : Nat} (h : KC c k all safe) (ha : all.length < 120) (r : List Int) (hr : r.length ≤ 200) (hb : Bd r) :
    ∃ en c' dn' k', layL 64 c (formL r) false k = (en, c', dn', k') ∧ k'.steps ≤ k.steps + 2 ∧ ((en = 0 ∧ dn' = false ∧ KC c' k' (all ++ [r]) safe) ∨ (en = 13 ∧ KF k' (all ++ [r]) safe)) := by
  by_cases hm : 0 < c.size ∧ 64 < c.size + (formL r).length
  · obtain ⟨en, c1, dn1, k1, s1, s2, s3⟩ := h.settle (by omega)
    rcases s3 with ⟨rfl, rfl, s3, s4, s5, s6⟩ | ⟨rfl, s3⟩
    · obtain ⟨en, c2, dn2, k2, p1, p2, p3⟩ := s3.nxt s4 (by omega) ha safe h.safe_le r hr hb
      refine ⟨en, c2, dn2, k2, ?_, by omega, p3⟩
      unfold layL
      rw [if_pos hm, s1]
      dsimp only
      rw [if_neg (by simp), ← s5]
      exact p1
    · refine ⟨13, c1, dn1, k1, ?_, by omega, Or.inr ⟨rfl, s3.weak (List.prefix_append _ _) (Nat.le_refl _) (rl_snoc h.rl hr)⟩⟩
      unfold layL
      rw [if_pos hm, s1]
      dsimp only
      rw [if_pos (by simp)]
  · obtain ⟨en, c2, dn2, k2, p1, p2, p3⟩ := h.put ha r hr hb
    refine ⟨en, c2, dn2, k2, ?_, by omega, p3⟩
    unfold layL
    rw [if_neg hm]
    exact p1
/-- A log that is written on. -/
structure KI (l : Lg) (k : Dk) (all : List (List Int)) (safe : Nat) : Prop where
  most : l.most = 64
  dn : l.dn = false
  re : l.recs.length ≤ all.length
  c : KC l.ch k all safe
theorem KI.app {l : Lg} {k : Dk} {all : List (List Int)} {safe : Nat} (h : KI l k all safe) (ha : all.length < 120) (r : List Int) (hr : r.length ≤ 200) (hb : Bd r) :
    (appendT l k r).2.2.steps ≤ k.steps + 2 ∧ (((appendT l k r).1 = 0 ∧ KI (appendT l k r).2.1 (appendT l k r).2.2 (all ++ [r]) safe) ∨ ((appendT l k r).1 = 13 ∧ KF (appendT l k r).2.2 (all ++ [r]) safe)) := by
  obtain ⟨en, c', dn', k', p1, p2, p3⟩ := h.c.lay ha r hr hb
  have e : appendT l k r = (en, ⟨l.most, (if en = 0 then l.recs ++ [r] else l.recs), c', dn'⟩, k') := by
    unfold appendT appendL
    rw [if_neg (by omega), h.dn, h.most, p1]
  rw [e]
  refine ⟨p2, ?_⟩
  rcases p3 with ⟨rfl, rfl, p3⟩ | ⟨rfl, p3⟩
  · refine Or.inl ⟨rfl, ⟨h.most, rfl, ?_, p3⟩⟩
    show (if (0 : Nat) = 0 then l.recs ++ [r] else l.recs).length ≤ _
    rw [if_pos rfl, List.length_append, List.length_append]
    have := h.re
    simp only [List.length_singleton]
    omega
  · exact Or.inr ⟨rfl, p3⟩
theorem KI.commit {l : Lg} {k : Dk} {all : List (List Int)} {safe : Nat} (h : KI l k all safe) (ha : all.length ≤ 120) :
    (commitL l k).2.2.steps ≤ k.steps + 1 ∧ (((commitL l k).1 = 0 ∧ KI (commitL l k).2.1 (commitL l k).2.2 all all.length) ∨ ((commitL l k).1 = 13 ∧ KF (commitL l k).2.2 all safe)) := by
  obtain ⟨en, c', dn', k', p1, p2, p3⟩ := h.c.settle ha
  have e : commitL l k = (en, ⟨l.most, l.recs, c', dn'⟩, k') := by
    unfold commitL
    rw [h.dn, p1]
  rw [e]
  refine ⟨p2, ?_⟩
  rcases p3 with ⟨rfl, rfl, p3, _⟩ | ⟨rfl, p3⟩
  · exact Or.inl ⟨rfl, ⟨h.most, rfl, h.re, p3⟩⟩
  · exact Or.inr ⟨rfl, p3⟩
theorem KI.fuse {l : Lg} {k : Dk} {all : List (List Int)} {safe : Nat} (h : KI l k all safe) (n : Nat) (hn : n ≤ 9223372036854775807) : (fuseK k (n : Int)).1 = 0 ∧ KI l (fuseK k (n : Int)).2 all safe ∧ (fuseK k (n : Int)).2.steps = k.steps := by
  have e : fuseK k (n : Int) = (0, { k with fu := some n }) := by
    unfold fuseK
    rw [if_neg (by omega), h.c.on, if_neg (by decide)]
    rfl
  have hg : ∀ k : Dk, k.Good → ({ k with fu := some n } : Dk).Good := fun k g => ⟨g.room, g.rise, g.used, g.each, fun m e => by cases e; exact hn⟩
  rw [e]
  refine ⟨rfl, ⟨h.most, h.dn, h.re, ⟨h.c.g, h.c.on, h.c.us, h.c.room, h.c.rl, ?_⟩⟩, rfl⟩
  rcases h.c.ex with ⟨e1, e2, e3, e4, e5, e6⟩ | ⟨T, s, z, e1, e2, e3, e4, e5, e6, e7⟩
  · exact Or.inl ⟨e1, e2, e3, e4, e5, e6.same rfl (hg _ e6.good)⟩
  · exact Or.inr ⟨T, s, z, e1, e2, e3, e4, e5, e6.same rfl (hg _ e6.good), e7⟩
theorem KI.new : KI (lg1 64) (newK 100000) [] 0 :=
  ⟨rfl, rfl, Nat.le_refl _, ⟨rfl, rfl, Nat.le_refl _, rfl, (fun r hr => by cases hr), Or.inl ⟨rfl, rfl, rfl, rfl, rfl, ⟨newK_good (by omega), by omega, fun j hj => by omega, fun s f hs => by cases hs⟩⟩⟩⟩
theorem KI.ok {l : Lg} {k : Dk} {all : List (List Int)} {safe : Nat} (h : KI l k all safe) (ha : all.length ≤ 120) : l.Ok ∧ k.fs.length ≤ 120 := by
  have hre := h.re
  have hmo := h.most
  have hg := h.c.g
  rcases h.c.ex with ⟨e1, e2, e3, e4, e5, e6⟩ | ⟨T, s, z, e1, e2, e3, e4, e5, e6, e7⟩
  · exact ⟨⟨by omega, by omega, by omega, by omega, by omega⟩, by have := e6.len; omega⟩
  · have hs : (forms s).length ≤ 208 * s.length := by
      have hsr : ∀ r ∈ s, r.length ≤ 200 := fun r hr => h.c.rl r (by rw [← e4]; exact List.mem_append_right _ hr)
      clear e1 e2 e3 e4 e5 e6 e7
      induction s with
      | nil => exact Nat.le_refl _
      | cons r R ih =>
        have h1 := hsr r (List.mem_cons_self ..)
        have h2 := ih (fun x hx => hsr x (List.mem_cons_of_mem _ hx))
        show (formL r ++ forms R).length ≤ 208 * (R.length + 1)
        rw [List.length_append, formL_len]
        omega
    have hsl : s.length ≤ all.length := by rw [← e4, List.length_append]; omega
    exact ⟨⟨by omega, by omega, by omega, by omega, by omega⟩, by have := e6.len; omega⟩

end Go.Proofs.YtikkieaokfailaaGreatDoor

/- LogKeeps, its plain part: the power comes again; the log is opened, with power that fails. -/
namespace Go.Proofs.YtikkieaokfailaaGreatDoor
open Go.RowKit Go.Joins

theorem look_restG : ∀ (l : Fls) (keep : List Int) (s : Nm), (look l s = none ∧ look (restL l keep) s = none) ∨ ∃ f x, look l s = some f ∧ look (restL l keep) s = some (if f.b.length = f.safe then f else restF f x)
  | [], _, _ => Or.inl ⟨rfl, rfl⟩
  | (n, f) :: r, keep, s => by
    unfold restL
    split
    · rename_i h
      unfold look
      split
      · exact Or.inr ⟨f, 0, rfl, by rw [if_pos h]⟩
      · exact look_restG r keep s
    · rename_i h
      unfold look
      split
      · exact Or.inr ⟨f, keep.headD 0, rfl, by rw [if_neg h]⟩
      · exact look_restG r keep.tail s
theorem used_restG : ∀ (l : Fls) (keep : List Int), used (restL l keep) ≤ used l
  | [], _ => Nat.le_refl _
  | (n, f) :: r, keep => by
    unfold restL
    split
    · show f.b.length + used (restL r keep) ≤ f.b.length + used r
      have := used_restG r keep
      omega
    · show (restF f (keep.headD 0)).b.length + used (restL r keep.tail) ≤ f.b.length + used r
      have h1 := used_restG r keep.tail
      have h2 : (restF f (keep.headD 0)).b.length ≤ f.b.length := by
        unfold restF
        rw [List.length_take]
        omega
      omega
theorem KF.rest {k : Dk} {all : List (List Int)} {safe : Nat} (h : KF k all safe) (keep : List Int) (hg : (restK k keep).Good) : KF (restK k keep) all safe := by
  refine ⟨by have := used_restG k.fs keep; have := h.us; show used (restL k.fs keep) ≤ _; omega, h.rl, ?_⟩
  have honly : ∀ {n : Nat} {B : Nat → List Int} {Z : Nat → Nat}, Sh k n B Z → ∀ s f, look (restL k.fs keep) s = some f → ∃ j, j < n ∧ s = segN 1 (j + 1) := fun hs s f hf => by
    rcases look_restG k.fs keep s with ⟨_, e⟩ | ⟨f', x, e1, _⟩
    · rw [e] at hf; cases hf
    · exact hs.only s f' e1
  rcases h.ex with ⟨e1, e2⟩ | ⟨T, s, b, z, e1, e2, e3⟩
  · exact Or.inl ⟨⟨hg, by omega, fun j hj => by omega, honly e1⟩, e2⟩
  · have hl : ∀ j, j < T.length → look (restL k.fs keep) (segN 1 (j + 1)) = some ⟨forms (T.getD j []), (forms (T.getD j [])).length⟩ := fun j hj => by
      have hy := e1.yes j (by omega)
      rw [show KB T ((forms s).take b) j = forms (T.getD j []) from if_pos hj, show KZ T z j = (forms (T.getD j [])).length from if_pos hj] at hy
      rcases look_restG k.fs keep (segN 1 (j + 1)) with ⟨e, _⟩ | ⟨f', x, q1, q2⟩
      · rw [hy] at e; cases e
      · rw [hy] at q1
        cases q1
        rw [q2, if_pos rfl]
    have hy := e1.yes T.length (by omega)
    rw [show KB T ((forms s).take b) T.length = (forms s).take b from if_neg (by omega), show KZ T z T.length = z from if_neg (by omega)] at hy
    have hle : z ≤ ((forms s).take b).length := (look_good e1.good hy).2.1
    have hlast : ∃ b' z', look (restL k.fs keep) (segN 1 (T.length + 1)) = some ⟨(forms s).take b', z'⟩ ∧ z ≤ z' := by
      rcases look_restG k.fs keep (segN 1 (T.length + 1)) with ⟨e, _⟩ | ⟨f', x, q1, q2⟩
      · rw [hy] at e; cases e
      · rw [hy] at q1
        cases q1
        by_cases e : ((forms s).take b).length = z
        · rw [if_pos e] at q2
          exact ⟨b, z, q2, Nat.le_refl _⟩
        · rw [if_neg e] at q2
          unfold restF at q2
          dsimp only at q2
          rw [List.take_take] at q2
          exact ⟨_, _, q2, Nat.le_add_right _ _⟩
    obtain ⟨b', z', q1, q2⟩ := hlast
    refine Or.inr ⟨T, s, b', z', ⟨hg, e1.few, fun j hj => ?_, honly e1⟩, e2, by have := wholeN_mono s z z' q2; omega⟩
    show look (restL k.fs keep) _ = _
    unfold KB KZ
    by_cases e : j < T.length
    · rw [if_pos e, if_pos e]; exact hl j e
    · obtain rfl : j = T.length := by omega
      rw [if_neg e, if_neg e]; exact q1
theorem KF.fuse {k : Dk} {all : List (List Int)} {safe : Nat} (h : KF k all safe) (on : k.off = false) (n : Nat) (hn : n ≤ 9223372036854775807) : (fuseK k (n : Int)).1 = 0 ∧ KF (fuseK k (n : Int)).2 all safe ∧ (fuseK k (n : Int)).2.off = false ∧ (fuseK k (n : Int)).2.steps = k.steps := by
  have e : fuseK k (n : Int) = (0, { k with fu := some n }) := by
    unfold fuseK
    rw [if_neg (by omega), on, if_neg (by decide)]
    rfl
  have hg : ∀ k : Dk, k.Good → ({ k with fu := some n } : Dk).Good := fun k g => ⟨g.room, g.rise, g.used, g.each, fun m e => by cases e; exact hn⟩
  rw [e]
  refine ⟨rfl, ⟨h.us, h.rl, ?_⟩, on, rfl⟩
  rcases h.ex with ⟨e1, e2⟩ | ⟨T, s, b, z, e1, e2, e3⟩
  · exact Or.inl ⟨e1.same rfl (hg _ e1.good), e2⟩
  · exact Or.inr ⟨T, s, b, z, e1.same rfl (hg _ e1.good), e2, e3⟩
/-- Open of a disk that has just segments: they are read. -/
theorem Sh.openS {k : Dk} {n : Nat} {B : Nat → List Int} {Z : Nat → Nat} (m : Nat) (h : Sh k n B Z) (on : k.off = false) : openL m k = openR.openD (rdSegs n 0 ⟨m, [], ⟨1, n, 0, false⟩, false⟩ k) := by
  have hbn : look k.fs sBase = none := by
    cases hl : look k.fs sBase with
    | none => rfl
    | some f => obtain ⟨j, _, e⟩ := h.only _ _ hl; exact absurd e (base_ne _ _)
  have hrb : readK k sBase = (7, []) := by
    unfold readK
    rw [on, if_neg (by decide), if_neg (by decide), hbn]
  have hls : listK k = (0, k.fs.map Prod.fst) := by unfold listK; rw [on]; rfl
  have hmem : ∀ s, s ∈ k.fs.map Prod.fst ↔ ∃ j, j < n ∧ s = segN 1 (j + 1) := fun s => by
    rw [← look_isSome]
    constructor
    · intro hs
      obtain ⟨f, hf⟩ := Option.isSome_iff_exists.1 hs
      exact h.only s f hf
    · rintro ⟨j, hj, rfl⟩
      rw [h.yes j hj]
      rfl
  have hcnt : cntN (k.fs.map Prod.fst) 1 = n := cntN_is ⟨fun s hs => by
    obtain ⟨i, hi, e⟩ := mem_segs.1 hs
    exact (hmem s).2 ⟨i, hi, by rw [e, Nat.zero_add]⟩, fun hs => by
    obtain ⟨j, hj, e⟩ := (hmem _).1 hs
    have := segN_inj e
    omega⟩
  have hfil : (k.fs.map Prod.fst).filter (left 1 n) = [] := by
    rw [List.filter_eq_nil_iff]
    intro s hs
    obtain ⟨j, hj, e⟩ := (hmem s).1 hs
    unfold left
    rw [inN_iff.2 (mem_segs.2 ⟨j, hj, by rw [e, Nat.zero_add]⟩)]
    simp
  have hcl : cleanL ⟨1, 0, 0, false⟩ false k = (0, ⟨1, n, 0, false⟩, false, k) := by
    unfold cleanL
    rw [hls]
    dsimp only
    rw [if_neg (by simp), hcnt, hfil]
    rfl
  unfold openL
  rw [hrb]
  show openR m (0, 1) k = _
  unfold openR
  rw [if_neg (by simp)]
  show openR.openC m (cleanL ⟨1, 0, 0, false⟩ false k) = _
  rw [hcl]
  unfold openR.openC
  rw [if_neg (by simp)]
/-- Whole segments are read, up to the last one. -/
theorem rd_whole (k : Dk) (on : k.off = false) (Zs : Nat → Nat) : ∀ (U P : List (List (List Int))) (l : Lg), l.ch.g = 1 → (P ++ U).length ≤ 1000 → (∀ j, j < (P ++ U).length → look k.fs (segN 1 (j + 1)) = some ⟨forms ((P ++ U).getD j []), Zs j⟩) → (∀ t ∈ U, ∀ r ∈ t, r.length ≤ 1048576) →
    ∃ l2, rdSegs (U.length + 1) P.length l k = rdSegs 1 (P ++ U).length l2 k ∧ l2.ch.g = 1 ∧ l2.ch.cnt = l.ch.cnt ∧ l2.dn = l.dn ∧ l2.most = l.most ∧ l2.recs = l.recs ++ U.flatten
  | [], P, l, hg, _, _, _ => ⟨l, by rw [List.append_nil]; rfl, hg, rfl, rfl, rfl, by simp⟩
  | t :: U, P, l, hg, hc, h, hr => by
    have hlt : P.length < (P ++ t :: U).length := by simp
    have h1 := h P.length hlt
    have e0 : (P ++ t :: U).getD P.length [] = t := by simp
    rw [e0] at h1
    have hrd : readK k (segN 1 (P.length + 1)) = (0, forms t) := by
      unfold readK
      rw [on, if_neg (by decide), if_neg (by rw [Sg.nm P.length (by omega)]; decide), h1]
    have hsc := scan_forms t (forms t).length (hr t (List.mem_cons_self ..)) (Nat.le_refl _)
    have hseg : readSegL l (P.length + 1) k = (0, true, ⟨l.most, l.recs ++ t, { l.ch with size := (forms t).length }, l.dn⟩, k) := by
      unfold readSegL readSegR
      rw [hg, hrd]
      dsimp only
      rw [if_neg (by simp), hsc, if_pos rfl]
    have hP : P ++ t :: U = (P ++ [t]) ++ U := by simp
    obtain ⟨l2, i1, i2, i3, i4, i5, i6⟩ := rd_whole k on Zs U (P ++ [t]) ⟨l.most, l.recs ++ t, { l.ch with size := (forms t).length }, l.dn⟩ hg (by rw [← hP]; exact hc) (by rw [← hP]; exact h) (fun x hx => hr x (List.mem_cons_of_mem _ hx))
    refine ⟨l2, ?_, i2, i3, i4, i5, by rw [i6, List.flatten_cons, List.append_assoc]⟩
    rw [hP, ← i1]
    show rdSegs (U.length + 1 + 1) P.length l k = _
    conv => lhs; unfold rdSegs
    rw [hseg]
    dsimp only
    rw [if_neg (by simp), if_pos rfl, List.length_append]
    rfl
theorem KF.rlT {k : Dk} {all : List (List Int)} {safe : Nat} (h : KF k all safe) {T : List (List (List Int))} {s : List (List Int)} (hp : (T.flatten ++ s) <+: all) : (∀ t ∈ T, ∀ r ∈ t, r.length ≤ 1048576) ∧ ∀ r ∈ s, r.length ≤ 1048576 := by
  have hm : ∀ r ∈ T.flatten ++ s, r.length ≤ 1048576 := fun r hr => by
    have := h.rl r (hp.subset hr)
    omega
  exact ⟨fun t ht r hr => hm r (List.mem_append_left _ (List.mem_flatten.2 ⟨t, ht, hr⟩)), fun r hr => hm r (List.mem_append_right _ hr)⟩
/-- Open: what it leaves, and what it tells. -/
theorem KF.opens {k : Dk} {all : List (List Int)} {safe : Nat} (h : KF k all safe) (on : k.off = false) (m : Nat) :
    ∃ en l' k', openL m k = (en, l', k') ∧ k'.steps ≤ k.steps + 2 ∧ ((en = 0 ∧ l'.recs <+: all ∧ safe ≤ l'.recs.length ∧ KF k' l'.recs l'.recs.length) ∨ (en = 13 ∧ k.fu ≠ none ∧ KF k' all safe)) := by
  have hus := h.us
  rcases h.ex with ⟨e1, e2⟩ | ⟨T, s, b, z, e1, e2, e3⟩
  · refine ⟨0, ⟨m, [], ⟨1, 0, 0, false⟩, false⟩, k, ?_, Nat.le_add_right _ _, Or.inl ⟨rfl, List.nil_prefix, by omega, ⟨hus, (fun r hr => by cases hr), Or.inl ⟨e1, rfl⟩⟩⟩⟩
    rw [e1.openS m on]
    rfl
  · obtain ⟨rT, rs⟩ := h.rlT e2
    have hfew := e1.few
    have hyT : ∀ j, j < T.length → look k.fs (segN 1 (j + 1)) = some ⟨forms (T.getD j []), (forms (T.getD j [])).length⟩ := fun j hj => by
      have hy := e1.yes j (by omega)
      rw [show KB T ((forms s).take b) j = forms (T.getD j []) from if_pos hj, show KZ T z j = (forms (T.getD j [])).length from if_pos hj] at hy
      exact hy
    have hy := e1.yes T.length (by omega)
    rw [show KB T ((forms s).take b) T.length = (forms s).take b from if_neg (by omega), show KZ T z T.length = z from if_neg (by omega)] at hy
    have hle : z ≤ ((forms s).take b).length := (look_good e1.good hy).2.1
    have hlb : ((forms s).take b).length ≤ b := by rw [List.length_take]; omega
    obtain ⟨l2, i1, i2, i3, i4, i5, i6⟩ := rd_whole k on (fun j => (forms (T.getD j [])).length) T [] ⟨m, [], ⟨1, T.length + 1, 0, false⟩, false⟩ rfl (by show T.length ≤ 1000; omega) hyT rT
    have i1' : rdSegs (T.length + 1) 0 ⟨m, [], ⟨1, T.length + 1, 0, false⟩, false⟩ k = rdSegs 1 T.length l2 k := i1
    have i3' : l2.ch.cnt = T.length + 1 := i3
    have i4' : l2.dn = false := i4
    have i6' : l2.recs = T.flatten := i6
    have hop := e1.openS m on
    rw [i1'] at hop
    obtain ⟨mm, hmm⟩ : ∃ mm, wholeN s b = mm := ⟨_, rfl⟩
    have hrd : readK k (segN 1 (T.length + 1)) = (0, (forms s).take b) := by
      unfold readK
      rw [on, if_neg (by decide), if_neg (by rw [Sg.nm T.length (by omega)]; decide), hy]
    have hsc := scan_cut s b _ rs (Nat.le_refl _)
    rw [hmm] at hsc
    have hwi := whole_within s b
    rw [hmm] at hwi
    have hml : mm ≤ s.length := by rw [← hmm]; exact wholeN_le s b
    have hsl : (s.take mm).length = mm := by rw [List.length_take]; omega
    have hpre : (T.flatten ++ s.take mm) <+: all := List.IsPrefix.trans (by rw [List.prefix_append_right_inj]; exact List.take_prefix _ _) e2
    have hrl' : ∀ r ∈ T.flatten ++ s.take mm, r.length ≤ 200 := fun r hr => h.rl r (hpre.subset hr)
    have hzm : wholeN s z ≤ mm := by rw [← hmm]; exact wholeN_mono s z b (by omega)
    have hsafe : safe ≤ (T.flatten ++ s.take mm).length := by rw [List.length_append, hsl]; omega
    -- behind the reading: the last segment is synced
    have hend : ∀ (k2 : Dk) (sz z2 : Nat), k2.off = false → k2.steps ≤ k.steps + 1 → used k2.fs ≤ used k.fs → (k.fu = none → k2.fu = none) → Sh k2 (T.length + 1) (KB T (forms (s.take mm))) (KZ T z2) → wholeN s z ≤ wholeN (s.take mm) z2 → ∃ en l' k', openR.openD (0, ⟨m, T.flatten ++ s.take mm, ⟨1, T.length + 1, sz, l2.ch.loose⟩, false⟩, k2) = (en, l', k') ∧ k'.steps ≤ k.steps + 2 ∧ ((en = 0 ∧ l'.recs <+: all ∧ safe ≤ l'.recs.length ∧ KF k' l'.recs l'.recs.length) ∨ (en = 13 ∧ k.fu ≠ none ∧ KF k' all safe)) := by
      intro k2 sz z2 o2 st2 u2 f2 h2 hw
      obtain ⟨k', hc, hr, hs, hu, hn⟩ := h2.sync o2 T.length (by omega)
      have heq : openR.openD (0, ⟨m, T.flatten ++ s.take mm, ⟨1, T.length + 1, sz, l2.ch.loose⟩, false⟩, k2) = ((stp false k2 (syncK k2 (segN 1 (T.length + 1)))).1, ⟨m, T.flatten ++ s.take mm, (if (stp false k2 (syncK k2 (segN 1 (T.length + 1)))).1 = 0 then ⟨1, T.length + 1, sz, false⟩ else ⟨1, T.length + 1, sz, true⟩), (stp false k2 (syncK k2 (segN 1 (T.length + 1)))).2.1⟩, (stp false k2 (syncK k2 (segN 1 (T.length + 1)))).2.2) := by
        unfold openR.openD
        rw [if_neg (by simp)]
        dsimp only
        rw [show decide (0 < T.length + 1) = true from decide_eq_true (by omega)]
        rfl
      have hB : KB T (forms (s.take mm)) T.length = forms (s.take mm) := if_neg (by omega)
      rcases hc with ⟨c1, c2, c3⟩ | ⟨c1, c2, c3⟩
      · rw [stp_ok c1] at heq
        refine ⟨_, _, _, heq, by dsimp only; omega, Or.inl ⟨rfl, hpre, hsafe, ⟨by dsimp only; omega, hrl', Or.inr ⟨T, s.take mm, (forms (s.take mm)).length, (forms (s.take mm)).length, ?_, List.prefix_refl _, ?_⟩⟩⟩⟩
        · rw [List.take_length]
          refine c3.congr (fun j hj => ⟨rfl, ?_⟩)
          rw [hB]
          unfold KZ
          by_cases e : j = T.length
          · rw [if_pos e, if_neg (by omega)]
          · rw [if_neg e, if_pos (by omega), if_pos (by omega)]
        · rw [List.length_append, wholeN_all _ _ (Nat.le_refl _)]
          exact Nat.le_refl _
      · rw [stp_13 c1] at heq
        refine ⟨_, _, _, heq, by dsimp only; omega, Or.inr ⟨rfl, fun e => c2 (f2 e), ⟨by dsimp only; omega, h.rl, Or.inr ⟨T, s.take mm, (forms (s.take mm)).length, z2, by rw [List.take_length]; exact c3, hpre, by omega⟩⟩⟩⟩
    obtain ⟨lm, lr, ⟨lg, lc, lz, llo⟩, ld⟩ := l2
    dsimp only at i2 i3' i4' i5 i6' hend
    replace i5 := i5.symm
    subst i2 i3' i4' i5 i6'
    by_cases hw : (forms (s.take mm)).length = ((forms s).take b).length
    · have hseg : readSegL ⟨m, T.flatten, ⟨1, T.length + 1, lz, llo⟩, false⟩ (T.length + 1) k = (0, true, ⟨m, T.flatten ++ s.take mm, ⟨1, T.length + 1, (forms (s.take mm)).length, llo⟩, false⟩, k) := by
        unfold readSegL readSegR
        dsimp only
        rw [hrd]
        dsimp only
        rw [if_neg (by simp), hsc, if_pos (decide_eq_true hw)]
      have hrs : rdSegs 1 T.length ⟨m, T.flatten, ⟨1, T.length + 1, lz, llo⟩, false⟩ k = (0, ⟨m, T.flatten ++ s.take mm, ⟨1, T.length + 1, (forms (s.take mm)).length, llo⟩, false⟩, k) := by
        unfold rdSegs
        rw [hseg]
        dsimp only
        rw [if_neg (by simp), if_pos rfl]
        rfl
      have hbe : (forms s).take b = forms (s.take mm) := by
        have h1 : (forms s).take b = (forms s).take (min b (forms s).length) := by
          rw [← List.take_take, List.take_length]
        have h2 : min b (forms s).length = (forms (s.take mm)).length := by rw [hw, List.length_take]
        rw [h1, h2, forms_take_eq]
      rw [hop, hrs]
      refine hend k _ z on (by omega) (Nat.le_refl _) (fun e => e) (by rw [hbe] at e1; exact e1) ?_
      rw [wholeN_take]
      omega
    · have hcl : (forms (s.take mm)).length ≤ ((forms s).take b).length := by
        have := (scanF_le ((forms s).take b).length ((forms s).take b)).2
        rw [hsc] at this
        exact this
      have hB : KB T ((forms s).take b) T.length = (forms s).take b := if_neg (by omega)
      have hZ : KZ T z T.length = z := if_neg (by omega)
      obtain ⟨k', hc, hr, hs, hu, hn⟩ := e1.cut on T.length (by omega) (forms (s.take mm)).length (by rw [hB]; exact hcl)
      rw [hB, hZ] at hc
      rcases hc with ⟨c1, c2, c3⟩ | ⟨c1, c2, c3⟩
      · have hseg : readSegL ⟨m, T.flatten, ⟨1, T.length + 1, lz, llo⟩, false⟩ (T.length + 1) k = (0, false, ⟨m, T.flatten ++ s.take mm, ⟨1, T.length + 1, (forms (s.take mm)).length, llo⟩, false⟩, k') := by
          unfold readSegL readSegR
          dsimp only
          rw [hrd]
          dsimp only
          rw [if_neg (by simp), hsc, if_neg (fun e => hw (of_decide_eq_true e)), stp_ok c1]
        have hrs : rdSegs 1 T.length ⟨m, T.flatten, ⟨1, T.length + 1, lz, llo⟩, false⟩ k = (0, ⟨m, T.flatten ++ s.take mm, ⟨1, T.length + 1, (forms (s.take mm)).length, llo⟩, false⟩, k') := by
          unfold rdSegs
          rw [hseg]
          dsimp only
          rw [if_neg (by simp), if_neg (by simp)]
          unfold rdSegs.rdEnd
          dsimp only
          rw [Nat.sub_self]
          rfl
        rw [hop, hrs]
        refine hend k' _ (min z (forms (s.take mm)).length) c2 hs hu hn (c3.congr (fun j hj => ?_)) ?_
        · unfold KB KZ
          by_cases e : j = T.length
          · rw [if_pos e, if_pos e, if_neg (by omega), if_neg (by omega), List.take_take, Nat.min_eq_left hwi, forms_take_eq]
            exact ⟨rfl, rfl⟩
          · rw [if_neg e, if_neg e, if_pos (by omega), if_pos (by omega), if_pos (by omega), if_pos (by omega)]
            exact ⟨rfl, rfl⟩
        · by_cases hzz : z ≤ (forms (s.take mm)).length
          · rw [Nat.min_eq_left hzz, wholeN_take]
            omega
          · rw [Nat.min_eq_right (by omega), wholeN_all _ _ (Nat.le_refl _), hsl]
            exact hzm
      · have hseg : readSegL ⟨m, T.flatten, ⟨1, T.length + 1, lz, llo⟩, false⟩ (T.length + 1) k = (13, false, ⟨m, T.flatten ++ s.take mm, ⟨1, T.length + 1, (forms (s.take mm)).length, llo⟩, true⟩, k') := by
          unfold readSegL readSegR
          dsimp only
          rw [hrd]
          dsimp only
          rw [if_neg (by simp), hsc, if_neg (fun e => hw (of_decide_eq_true e)), stp_13 c1]
        have hrs : rdSegs 1 T.length ⟨m, T.flatten, ⟨1, T.length + 1, lz, llo⟩, false⟩ k = (13, ⟨m, T.flatten ++ s.take mm, ⟨1, T.length + 1, (forms (s.take mm)).length, llo⟩, true⟩, k') := by
          unfold rdSegs
          rw [hseg]
          dsimp only
          rw [if_pos (by simp)]
        rw [hop, hrs]
        refine ⟨13, ⟨m, T.flatten ++ s.take mm, ⟨1, T.length + 1, (forms (s.take mm)).length, llo⟩, true⟩, k', ?_, by omega, Or.inr ⟨rfl, c2, ⟨by omega, h.rl, Or.inr ⟨T, s, b, z, c3, e2, e3⟩⟩⟩⟩
        unfold openR.openD
        rw [if_pos (by simp)]

theorem KF.fl {k : Dk} {all : List (List Int)} {safe : Nat} (h : KF k all safe) : k.fs.length ≤ 1000 := by
  rcases h.ex with ⟨e1, _⟩ | ⟨T, s, b, z, e1, _⟩
  · have := e1.len; omega
  · have := e1.len; have := e1.few; omega
/-- Whatever Open answers, the disk holds what it held. -/
theorem KF.opened {k : Dk} {all : List (List Int)} {safe : Nat} (h : KF k all safe) (on : k.off = false) (m : Nat) : KF (openL m k).2.2 all safe ∧ (openL m k).2.2.steps ≤ k.steps + 2 := by
  obtain ⟨en, l', k', e1, e2, e3⟩ := h.opens on m
  rw [e1]
  refine ⟨?_, e2⟩
  rcases e3 with ⟨_, p1, p2, p3⟩ | ⟨_, _, p3⟩
  · exact p3.weak p1 p2 h.rl
  · exact p3

end Go.Proofs.YtikkieaokfailaaGreatDoor

/- Append of a number to a row of the call's own, with its place told; a log where other blocks are written. -/
namespace Go.Proofs.YtikkieaokfailaaGreatDoor
open Go.RowKit Go.Joins

theorem infoInt : (Tryz.prog.info? 3).map (fun i => (i.zero, i.size, i.bytes)) = some (some (.int .i64 0), 1, 8) := by kernel_rfl
set_option maxRecDepth 100000 in
theorem app_whereI {w : World} {base : Nat} {v : Value} {n : Nat} {xs : List Value} (hown : w.ownsRow base 3 1 v n xs) {ad : Addr} {c : Nat} {u : Value} (hu : u.oneCell' = true) (hr : ∀ j x, [u][j]? = some x → w.cell? (ad.add j) = some x) (hb : n ≤ 1000000) {ty : TypeId} {v' : Value} {w' : World}
    (hrun : (Builtin.append_ #[31, 31] ty #[v, .slice (some ad) 1 c]).run Tryz.prog w = .ok v' w') : v'.ownBlock = v.ownBlock ∨ v'.ownBlock = some w.heap.size := by
  obtain ⟨i0, hi, hz0, hz1, hz2⟩ := info_parts infoInt
  have hl : [u].length = 1 * i0.size := by rw [hz1]; rfl
  rcases hown.2 with ⟨rfl, rfl⟩ | ⟨g, cap, cur, rfl, hbg, hg, hnc, hcm, hcs, htake⟩
  · right
    have hr2 := run_append_nil (P := Tryz.prog) w 31 ty 3 i0 (.int .i64 0) Tryz.underlying31 hi hz0 ad 1 c [u] hl hr (by omega) (by omega) (by rw [hz2]; omega)
    rw [hr2] at hrun
    injection hrun with e _
    rw [← e]; rfl
  · by_cases hroom : n + 1 ≤ cap
    · left
      have hr2 := run_append_room (P := Tryz.prog) w 31 ty 3 i0 Tryz.underlying31 hi g n cap cur hg ad 1 c [u] hl hr (by simpa using hu) hroom (by rw [hl, hcs, hz1]; omega)
      rw [hr2] at hrun
      injection hrun with e _
      rw [← e]; rfl
    · right
      have hr2 := run_append_grow (P := Tryz.prog) w 31 ty 3 i0 (.int .i64 0) Tryz.underlying31 hi hz0 ⟨g, 0, none⟩ n cap xs (by rw [hown.1, hz1]) (hown.cells (g := g) rfl) ad 1 c [u] hl hr (by omega) (by omega) (growslice_fits (by omega) (by rw [hz2]; omega))
      rw [hr2] at hrun
      injection hrun with e _
      rw [← e]; rfl
theorem run_appI {w : World} (ty : TypeId) {base : Nat} {v : Value} {n : Nat} {xs : List Value} (hown : w.ownsRow base 3 1 v n xs) (z : Int) (hn : n ≤ 1000000) (hbase : base ≤ w.heap.size) :
    ∃ v' w', (Builtin.append_ #[31, 31] ty #[v, .slice (some ⟨w.heap.size, 0, none⟩) 1 1]).run Tryz.prog (w.alloc (.cells #[.int .i64 z] 3)) = .ok v' w' ∧ w'.ownsRow base 3 1 v' (n + 1) (xs ++ [.int .i64 z]) ∧ Keep (fun k => v.ownBlock = some k) w w' ∧ (v'.ownBlock = v.ownBlock ∨ ∃ g, v'.ownBlock = some g ∧ w.heap.size ≤ g) := by
  obtain ⟨i0, hi, hz0, hz1, hz2⟩ := info_parts infoInt
  have hk0 : Keep (fun k => v.ownBlock = some k) w (w.alloc (.cells #[.int .i64 z] 3)) := (Keep.refl _ _).alloc _
  have hown1 := own_keep (S := fun _ => False) hown ((Keep.refl (fun _ => False) w).alloc (.cells #[.int .i64 z] 3)) (fun _ _ h => h)
  have hnw : ∀ j u, [Value.int .i64 z][j]? = some u → (w.alloc (.cells #[.int .i64 z] 3)).cell? ((⟨w.heap.size, 0, none⟩ : Addr).add j) = some u := fun j u hu => by
    rw [add_flat, Nat.zero_add, cell_of_block (alloc_at w (.cells #[.int .i64 z] 3))]
    simpa using hu
  obtain ⟨v', w', hrun, h2, h3, _⟩ := run_append_own (P := Tryz.prog) (w.alloc (.cells #[.int .i64 z] 3)) base 31 ty 3 i0 (.int .i64 0) 1 8 Tryz.underlying31 hi hz0 hz1 hz2 rfl (by decide) v n xs hown1 ⟨w.heap.size, 0, none⟩ 1 1 [.int .i64 z] (by simp) hnw (by simp [Value.oneCell']) (by unfold maxLen; omega) (by omega) (by simp; omega)
  have h4 := app_whereI hown1 (by simp [Value.oneCell']) hnw hn hrun
  refine ⟨v', w', hrun, h2, hk0.trans (Keep.ofGrown h3), ?_⟩
  rcases h4 with h4 | h4
  · exact Or.inl h4
  · exact Or.inr ⟨_, h4, by simp⟩

theorem wp_app1I {w : World} {ops : Array Oper} {rest : List Oper} {o : Oper} {a : Act} {Q : Exit → Act → World → Prop} (hgd : o.guard = none) (s x : Operand)
    (ho : o.op = .call { callee := .builtin .append, args := #[s, x], argTypes := #[31, 31] })
    (base : Nat) (v : Value) (n : Nat) (xs : List Value) (hs : a.eval s = v) (hown : w.ownsRow base 3 1 v n xs) (z : Int)
    (hx : a.eval x = .slice (some ⟨w.heap.size, 0, none⟩) 1 1) (hn : n ≤ 1000000) (hbase : base ≤ w.heap.size)
    (h : ∀ v' w', w'.ownsRow base 3 1 v' (n + 1) (xs ++ [.int .i64 z]) → Keep (fun k => v.ownBlock = some k) w w' → (v'.ownBlock = v.ownBlock ∨ ∃ g, v'.ownBlock = some g ∧ w.heap.size ≤ g) → wpList Tryz.prog ops Q rest (a.put o.dst v') w') : wpList Tryz.prog ops Q (o :: rest) a (w.alloc (.cells #[.int .i64 z] 3)) := by
  refine wpList_plain hgd fun K hK => ?_
  obtain ⟨v', w', hrun, h2, h3, h4⟩ := run_appI o.type hown z hn hbase
  unfold Oper.wp
  simp only [execOp, ho, resolve, invoke, builtin, Sem.run_bind, Sem.run_pure, Result.andThen_ok, List.map_toArray, List.map_cons, List.map_nil, hs, hx, hrun]
  exact hK _ _ (h v' w' h2 h3 h4)
theorem LogAt.keep {S : Nat → Prop} {w w' : World} {F H : Nat → Prop} {lb d : Nat} {l : Lg} {k : Dk} (h : LogAt w F H lb d l k) (hk : Keep S w w') (hF : ∀ i, F i → ¬ S i) (hH : ∀ i, H i → ¬ S i) (hl : ¬ S lb) (hg : ¬ S 0) : LogAt w' F H lb d l k := by
  obtain ⟨v, h1, h2⟩ := h.ex
  exact ⟨⟨v, h1.keep hk hF hl, h2.keep hk hH (fun _ h => h)⟩, h.hf, h.hl, fun i hi => Nat.lt_of_lt_of_le (h.lt i hi) hk.size, ⟨h.pf.pw.keep hk hg, h.pf.fl, h.pf.ll⟩, h.ph⟩

end Go.Proofs.YtikkieaokfailaaGreatDoor

/- Rows of ints: an argument's, and the law's copy; the struct Tail, opened. -/
namespace Go.Proofs.YtikkieaokfailaaGreatDoor
open Go.ChangeShapes Go.WideShapes Go.ChangeAt Go.RowKit

/-- What a slice of ints reads as. -/
structure IAr (W : World) (a : Option Addr) (n c : Nat) (zs : List Int) : Prop where
  len : zs.length = n
  cap : n ≤ c
  most : c ≤ 9223372036854775807
  nil : a = none → c = 0
  cells : ∀ ad, a = some ad → ∀ j, j < n → W.cell? (ad.add j) = some (.int .i64 (zs.getD j 0))
theorem IAr.carry {W W' : World} {a : Option Addr} {n c : Nat} {zs : List Int} (h : IAr W a n c zs) (hb : Below W.heap.size W W') : IAr W' a n c zs :=
  ⟨h.len, h.cap, h.most, h.nil, fun ad ha j hj => (hb.cell (World.block_lt_of_cell? W _ (h.cells ad ha j hj))).trans (h.cells ad ha j hj)⟩
theorem IAr.take {W : World} {a : Option Addr} {n c : Nat} {zs : List Int} (h : IAr W a n c zs) {k : Nat} (hk : k ≤ n) : IAr W a k c (zs.take k) :=
  ⟨by rw [List.length_take, h.len]; omega, by have := h.cap; omega, h.most, h.nil, fun ad ha j hj => by
    rw [h.cells ad ha j (by omega)]
    simp [List.getD, hj]⟩
theorem iar_nil (W : World) : IAr W none 0 0 [] := ⟨rfl, Nat.le_refl _, by omega, fun _ => rfl, fun _ h => by cases h⟩
theorem iar_of_cells {H : Type} {enc : TypeId × Value → H} {W : World} {v : Value} {n : Nat} {y : DataW H × List MemPlace}
    (h : DataW.trod enc Tryz.prog W 0 (fun _ => true) true n 31 [v] = some y) : ∃ a n c zs, v = .slice a n c ∧ IAr W a n c zs := by
  rcases open_ints Tryz.underlying31 Tryz.underlying3 (by kernel_rfl) h with ⟨hcs, _⟩ | ⟨x, l, cc, zs, hcs, _, hl, hm, hz, _, hcell, hwz⟩
  · simp only [List.cons.injEq, and_true] at hcs
    exact ⟨none, 0, 0, [], hcs, iar_nil W⟩
  · simp only [List.cons.injEq, and_true] at hcs
    have hz' : zs.length = cc := by simpa using hz
    refine ⟨some x, l, cc, zs.take l, hcs, by rw [List.length_take]; omega, hl, hm, (fun h => by cases h), fun ad had j hj => ?_⟩
    cases had
    rw [hcell j (by omega)]
    simp [List.getD, hj]

def ic (zs : List Int) : List Value := zs.map (Value.int .i64)
theorem Tryz.info3 : (Tryz.prog.info? 3).map (fun i => (i.zero, i.size, i.bytes)) = some (some (.int .i64 0), 1, 8) := by kernel_rfl
theorem ic_one (zs : List Int) : ∀ u ∈ ic zs, u.oneCell' = true := by
  intro u hu
  obtain ⟨x, _, rfl⟩ := List.mem_map.1 hu
  rfl

/-- 'append([]int{}, x...)', in the world that was there before the empty slice. -/
theorem wp_app0I {w : World} {ops : Array Oper} {rest : List Oper} {o : Oper} {a : Act} {Q : Exit → Act → World → Prop} (hgd : o.guard = none) (s x : Operand)
    (ho : o.op = .call { callee := .builtin .append, args := #[s, x], argTypes := #[31, 31] })
    (hs : a.eval s = .slice (some ⟨w.heap.size, 0, none⟩) 0 0)
    (ao : Option Addr) (m c : Nat) (zs : List Int) (hx : a.eval x = .slice ao m c) (hr : IAr w ao m c zs) (hb : m ≤ 1000000000)
    (h : ∀ v' w', w'.ownsRow w.heap.size 3 1 v' m (ic zs) → Below w.heap.size w w' → wpList Tryz.prog ops Q rest (a.put o.dst v') w') : wpList Tryz.prog ops Q (o :: rest) a (w.alloc (.cells #[] 3)) := by
  obtain ⟨i0, hi, hz0, hz1, hz2⟩ := info_parts Tryz.info3
  have hown : (w.alloc (.cells #[] 3)).ownsRow w.heap.size 3 1 (.slice (some ⟨w.heap.size, 0, none⟩) 0 0) 0 [] := World.ownsRow_made w #[] 0 (Nat.le_refl _) (by unfold maxLen; omega) rfl
  have hbel : Below w.heap.size w (w.alloc (.cells #[] 3)) := (Below.refl _ _).alloc (Nat.le_refl _) _
  cases ao with
  | none =>
    have hc0 := hr.nil rfl
    have hcm := hr.cap
    obtain rfl : c = 0 := hc0
    obtain rfl : m = 0 := by omega
    have hzs : zs = [] := List.eq_nil_of_length_eq_zero hr.len
    subst hzs
    refine wpList_append_own_none hgd s x 31 ho w.heap.size 3 i0 1 Tryz.underlying31 hi _ 0 [] hs hown hx ?_
    exact h _ _ hown hbel
  | some ad =>
    refine wpList_append_own (w.alloc (.cells #[] 3)) hgd s x 31 ho w.heap.size 3 i0 (.int .i64 0) 1 8 Tryz.underlying31 hi hz0 hz1 hz2 rfl (by decide) _ 0 [] hs hown ad m c (ic zs) hx (by simp [ic, hr.len]) (fun j u hu => ?_) (ic_one zs) (by unfold maxLen; omega) (by omega) (by simp) ?_
    · have hj : j < m := by
        have := (List.getElem?_eq_some_iff.1 hu).1
        simp [ic, hr.len] at this
        exact this
      have hjz : j < zs.length := by rw [hr.len]; exact hj
      have := (hr.carry hbel).cells ad rfl j hj
      rw [this]
      simp only [ic, List.getElem?_map, List.getElem?_eq_getElem hjz, Option.map_some] at hu
      rw [← hu]
      simp [List.getD, hjz]
    · intro v' w' k1 k2 _
      simp only [Nat.zero_add, List.nil_append] at k1
      exact h v' w' k1 (hbel.grown k2 (by simp) (fun k hk => by cases hk; exact Nat.le_refl _))

/-- What the law copies of ints. -/
theorem ints_any (a : Option Addr) (n c : Nat) (zs : List Int) (w : World) (hR : IAr w a n c zs) :
    Calls Tryz.prog 25 #[.slice a n c] w fun e w' => ∃ v g, e = .returned v ∧ IRd w' g v (zs.take 30) ∧ w.heap.size ≤ g ∧ Below w.heap.size w w' := by
  have hcp := hR.cap
  have hmx := hR.most
  have fin : ∀ v w' k, (zs.take 30).length = k → w'.ownsRow w.heap.size 3 1 v k (ic (zs.take 30)) → ∃ g, IRd w' g v (zs.take 30) ∧ w.heap.size ≤ g := fun v w' k hl ho => by
    rcases ho.2 with ⟨rfl, h0⟩ | ⟨g, cap, cur, rfl, hg, hb, hnc, hcm, hcs, htk⟩
    · subst h0
      exact ⟨w.heap.size, ⟨none, 0, by rw [hl], by omega, by omega, fun h => absurd (List.eq_nil_of_length_eq_zero hl) h⟩, Nat.le_refl _⟩
    · refine ⟨g, ⟨_, cap, by rw [hl], by omega, by unfold maxLen at hcm; omega, fun _ => ⟨0, rfl, fun j hj => ?_⟩⟩, hg⟩
      have := ho.cells (g := g) rfl j (.int .i64 ((zs.take 30).getD j 0)) (by rw [ic, List.getElem?_map, List.getD_eq_getElem?_getD, List.getElem?_eq_getElem hj]; rfl)
      rw [add_flat] at this
      exact this
  by_cases hn : (30 : Int) < (n : Int)
  · have hl : (zs.take 30).length = 30 := by rw [List.length_take, hR.len]; omega
    have HL : Hid ((zs.take 30).length = 30) := hl
    clear hl
    go_enter Tryz.func25, Tryz.ntmps25
    go_wp2_with (at_builtin; refine wp_app0I rfl _ _ rfl rfl a 30 c (zs.take 30) rfl (hR.take (by omega)) (by omega) ?_; intro v' w1 hown1 hb1)
    go_ret
    obtain ⟨g, h1, h2⟩ := fin _ _ _ HL.out hown1
    first | exact ⟨_, g, rfl, h1, h2, hb1⟩ | exact ⟨_, rfl, g, h1, h2, hb1⟩ | exact ⟨_, rfl, ⟨g, h1, h2⟩, hb1⟩
  · have ht : zs.take 30 = zs := List.take_of_length_le (by rw [hR.len]; omega)
    have hl : (zs.take 30).length = n := by rw [ht, hR.len]
    have HT : Hid (zs.take 30 = zs) := ht
    have HL : Hid ((zs.take 30).length = n) := hl
    clear ht hl
    go_enter Tryz.func25, Tryz.ntmps25
    go_wp2_with (at_builtin; refine wp_app0I rfl _ _ rfl rfl a n c zs rfl hR (by omega) ?_; intro v' w1 hown1 hb1)
    go_ret
    obtain ⟨g, h1, h2⟩ := fin _ _ _ HL.out (by rw [HT.out]; exact hown1)
    first | exact ⟨_, g, rfl, h1, h2, hb1⟩ | exact ⟨_, rfl, g, h1, h2, hb1⟩ | exact ⟨_, rfl, ⟨g, h1, h2⟩, hb1⟩

theorem cellsBytes : Tryz.prog.cellsOf 29 = 1 := by kernel_rfl
theorem cellsInt : Tryz.prog.cellsOf 3 = 1 := by kernel_rfl
theorem cellsRows : Tryz.prog.cellsOf 30 = 1 := by kernel_rfl
theorem cellsInts : Tryz.prog.cellsOf 31 = 1 := by kernel_rfl
theorem arr4 {α : Type} {cs : Array α} (h : cs.size = 4) : ∃ c0 c1 c2 c3, cs = #[c0, c1, c2, c3] := by
  obtain ⟨l⟩ := cs
  match l, h with
  | [c0, c1, c2, c3], _ => exact ⟨c0, c1, c2, c3, rfl⟩
end Go.Proofs.YtikkieaokfailaaGreatDoor
