/- Texts of one seat, one behind the other: LzD, LkB, LrA, LsA. -/
import Derived.Test.YtikkieaokfailaaGreatDoorM10
import Derived.BigQuiet
import Derived.Deep.QuietTactic
import Derived.Test.YtikkieaokfailaaGreatDoorM6
/- LogSizes, its plain part: what appends leave, without power that fails. -/
namespace Go.Proofs.YtikkieaokfailaaGreatDoor
open Go.RowKit Go.Joins

/-- The log has the segments S, each a row of records; all but the last are safe. -/
structure SzI (m : Nat) (l : Lg) (k : Dk) (S : List (List (List Int))) (n : Nat) : Prop where
  most : l.most = m
  dn : l.dn = false
  ch : l.ch = ⟨1, S.length, (forms (S.getLastD [])).length, decide (0 < S.length)⟩
  recs : l.recs.length = n
  fl : S.flatten.length = n
  sg : Sg k S.length (fun j => forms (S.getD j [])) (fun j => if j + 1 < S.length then (forms (S.getD j [])).length else 0)
  sz : ∀ s ∈ S, (forms s).length ≤ m ∨ s.length = 1
  rl : ∀ s ∈ S, ∀ r ∈ s, r.length ≤ 200
  st : k.steps ≤ 2 * n
  fs : k.fs.length ≤ 2 * n
  us : used k.fs ≤ 208 * n
  room : k.room = 1000000
  sl : S.length ≤ n

theorem getD_snoc {α : Type} (T : List α) (s d : α) (j : Nat) : (T ++ [s]).getD j d = if j < T.length then T.getD j d else if j = T.length then s else d := by
  by_cases h : j < T.length
  · rw [if_pos h, List.getD_eq_getElem?_getD, List.getElem?_append_left h, List.getD_eq_getElem?_getD]
  · rw [if_neg h]
    by_cases e : j = T.length
    · subst e; rw [if_pos rfl, List.getD_eq_getElem?_getD]; simp
    · rw [if_neg e, List.getD_eq_getElem?_getD, List.getElem?_eq_none (by simp; omega)]; rfl
theorem formL_bd {r : List Int} (h : Bd r) : Bd (formL r) := by
  unfold formL
  exact ((bigL_bd _ _).append (bigL_bd _ _)).append h
theorem forms_snoc (s : List (List Int)) (r : List Int) : forms (s ++ [r]) = forms s ++ formL r := by rw [forms_app]; show forms s ++ (formL r ++ []) = _; rw [List.append_nil]
theorem stp_ok {k k' : Dk} {r : Nat × Dk} (h : r = (0, k')) : stp false k r = (0, false, k') := by rw [h]; rfl

theorem SzI.app {m : Nat} {l : Lg} {k : Dk} {S : List (List (List Int))} {n : Nat} (h : SzI m l k S n) (hn : n < 60) (r : List Int) (hr : r.length ≤ 200) (hb : Bd r) : ∃ S', (appendT l k r).1 = 0 ∧ SzI m (appendT l k r).2.1 (appendT l k r).2.2 S' (n + 1) := by
  have hfl := formL_len r
  have hus := h.us
  have hro := h.room
  have hst := h.st
  have hfs := h.fs
  have hsl := h.sl
  have hrc := h.recs
  unfold appendT appendL
  rw [if_neg (by omega), h.most, h.dn, h.ch]
  rcases List.eq_nil_or_concat S with hS | ⟨T, s, hS⟩
  · -- the first one
    subst hS
    obtain ⟨k', e1, e2, e3, e4, e5, e6⟩ := h.sg.app 0 (Nat.le_refl _) (by omega) (formL r) (formL_bd hb) (by omega)
    have hlay : layL m ⟨1, ([] : List (List (List Int))).length, (forms (([] : List (List (List Int))).getLastD [])).length, decide (0 < ([] : List (List (List Int))).length)⟩ (formL r) false k = (0, ⟨1, 1, 8 + r.length, true⟩, false, k') := by
      unfold layL
      rw [if_neg (by intro hh; exact Nat.lt_irrefl 0 hh.1)]
      show putS 1 0 ⟨1, 0, 0, false⟩ (formL r) false k = _
      rw [putS_eq (en := 0) (dn' := false) (k' := k') (by exact stp_ok e1), if_pos rfl, hfl, Nat.zero_add]
    rw [hlay]
    refine ⟨[[r]], rfl, ⟨rfl, rfl, ?_, ?_, ?_, ?_, ?_, ?_, by dsimp only; omega, by dsimp only; omega, by dsimp only; omega, by rw [e6]; exact hro, by simp⟩⟩
    · show (⟨1, 1, 8 + r.length, true⟩ : Ch) = ⟨1, 1, (forms [r]).length, true⟩
      have : (forms [r]).length = 8 + r.length := by show (formL r ++ []).length = _; rw [List.append_nil, hfl]
      rw [this]
    · show (l.recs ++ [r]).length = n + 1; rw [List.length_append, hrc]; rfl
    · have := h.fl; simp at this; simp; omega
    · refine (e2 : Sg k' 1 _ _).congr (fun j hj => ?_)
      have hj' : j < 1 := hj
      have : j = 0 := by omega
      subst this
      exact ⟨by show formL r = forms [r]; show _ = formL r ++ []; rw [List.append_nil], rfl⟩
    · intro s hs; rw [List.mem_singleton.1 hs]; exact Or.inr rfl
    · intro s hs r' hr'; rw [List.mem_singleton.1 hs] at hr'; rw [List.mem_singleton.1 hr']; exact hr
  · rw [List.concat_eq_append] at hS
    subst hS
    have hlen : (T ++ [s]).length = T.length + 1 := by simp
    have hlast : (T ++ [s]).getLastD [] = s := by simp
    have hdc : decide (0 < (T ++ [s]).length) = true := decide_eq_true (by rw [hlen]; omega)
    rw [hlen] at hsl
    have hsg := h.sg
    rw [hlen] at hsg
    rw [hlen, hlast, show decide (0 < T.length + 1) = true from decide_eq_true (by omega)]
    by_cases hfull : 0 < (forms s).length ∧ m < (forms s).length + (formL r).length
    · -- the next segment
      obtain ⟨k1, e1, e2, e3, e4, e5, e6⟩ := hsg.sync T.length (by omega)
      obtain ⟨k2, f1, f2, f3, f4, f5, f6⟩ := e2.app (T.length + 1) (Nat.le_refl _) (by omega) (formL r) (formL_bd hb) (by rw [e5, e6]; omega)
      have hset : settleL ⟨1, T.length + 1, (forms s).length, true⟩ false k = (0, ⟨1, T.length + 1, (forms s).length, false⟩, false, k1) := by
        unfold settleL
        rw [if_pos rfl]
        show ((stp false k (syncK k (segN 1 (T.length + 1)))).1, _, _) = _
        rw [stp_ok e1, if_pos rfl]
      have hlay : layL m ⟨1, T.length + 1, (forms s).length, true⟩ (formL r) false k = (0, ⟨1, T.length + 2, 8 + r.length, true⟩, false, k2) := by
        unfold layL
        rw [if_pos hfull, hset, if_neg (by simp)]
        show putS (max (T.length + 1) 1 + 1) 0 ⟨1, T.length + 1, (forms s).length, false⟩ (formL r) false k1 = _
        rw [show max (T.length + 1) 1 + 1 = T.length + 2 from by omega, putS_eq (en := 0) (dn' := false) (k' := k2) (by exact stp_ok f1), if_pos rfl, hfl, Nat.zero_add]
      rw [hlay]
      refine ⟨T ++ [s] ++ [[r]], rfl, ⟨rfl, rfl, ?_, ?_, ?_, ?_, ?_, ?_, by dsimp only; omega, by dsimp only; omega, by dsimp only; omega, by rw [f6, e6]; exact hro, by simp; omega⟩⟩
      · show (⟨1, T.length + 2, 8 + r.length, true⟩ : Ch) = _
        have e9 : (T ++ [s] ++ [[r]]).length = T.length + 2 := by simp
        have e8 : (T ++ [s] ++ [[r]]).getLastD [] = [r] := by simp
        have e7 : (forms [r]).length = 8 + r.length := by show (formL r ++ []).length = _; rw [List.append_nil, hfl]
        rw [e9, e8, e7, decide_eq_true (by omega)]
      · show (l.recs ++ [r]).length = n + 1; rw [List.length_append, hrc]; rfl
      · have := h.fl; simp at this; simp; omega
      · have e9 : (T ++ [s] ++ [[r]]).length = T.length + 2 := by simp
        rw [e9]
        rw [show max (T.length + 1) (T.length + 1 + 1) = T.length + 2 from by omega] at f2
        refine f2.congr (fun j hj => ?_)
        by_cases hj1 : j = T.length + 1
        · subst hj1
          have g : (T ++ [s] ++ [[r]]).getD (T.length + 1) [] = [r] := by rw [getD_snoc, hlen, if_neg (Nat.lt_irrefl _), if_pos rfl]
          rw [g]
          refine ⟨(if_pos rfl).trans ((if_neg (Nat.lt_irrefl _)).trans ?_), (if_pos rfl).trans ((if_neg (Nat.lt_irrefl _)).trans (if_neg (by omega)).symm)⟩
          show formL r = formL r ++ []
          rw [List.append_nil]
        · have g : (T ++ [s] ++ [[r]]).getD j [] = (T ++ [s]).getD j [] := by rw [getD_snoc (T ++ [s]), hlen, if_pos (by omega)]
          rw [g]
          refine ⟨if_neg hj1, (if_neg hj1).trans ?_⟩
          rw [if_pos (show j + 1 < T.length + 2 by omega)]
          by_cases hj2 : j = T.length
          · subst hj2
            exact if_pos rfl
          · exact (if_neg hj2).trans (if_pos (by omega))
      · intro s' hs'
        rcases List.mem_append.1 hs' with h9 | h9
        · exact h.sz s' h9
        · rw [List.mem_singleton.1 h9]; exact Or.inr rfl
      · intro s' hs' r' hr'
        rcases List.mem_append.1 hs' with h9 | h9
        · exact h.rl s' h9 r' hr'
        · rw [List.mem_singleton.1 h9] at hr'; rw [List.mem_singleton.1 hr']; exact hr
    · -- the same one
      obtain ⟨k2, f1, f2, f3, f4, f5, f6⟩ := hsg.app T.length (by omega) (by omega) (formL r) (formL_bd hb) (by omega)
      have hlay : layL m ⟨1, T.length + 1, (forms s).length, true⟩ (formL r) false k = (0, ⟨1, T.length + 1, (forms s).length + (8 + r.length), true⟩, false, k2) := by
        unfold layL
        rw [if_neg hfull]
        show putS (max (T.length + 1) 1) (forms s).length ⟨1, T.length + 1, (forms s).length, true⟩ (formL r) false k = _
        rw [show max (T.length + 1) 1 = T.length + 1 from by omega, putS_eq (en := 0) (dn' := false) (k' := k2) (by exact stp_ok f1), if_pos rfl, hfl]
      rw [hlay]
      have hfs2 : (forms (s ++ [r])).length = (forms s).length + (8 + r.length) := by rw [forms_snoc, List.length_append, hfl]
      refine ⟨T ++ [s ++ [r]], rfl, ⟨rfl, rfl, ?_, ?_, ?_, ?_, ?_, ?_, by dsimp only; omega, by dsimp only; omega, by dsimp only; omega, by rw [f6]; exact hro, by simp; omega⟩⟩
      · show (⟨1, T.length + 1, (forms s).length + (8 + r.length), true⟩ : Ch) = _
        have e9 : (T ++ [s ++ [r]]).length = T.length + 1 := by simp
        have e8 : (T ++ [s ++ [r]]).getLastD [] = s ++ [r] := by simp
        rw [e9, e8, hfs2, decide_eq_true (by omega)]
      · show (l.recs ++ [r]).length = n + 1; rw [List.length_append, hrc]; rfl
      · have := h.fl; simp at this; simp; omega
      · have e9 : (T ++ [s ++ [r]]).length = T.length + 1 := by simp
        rw [e9]
        rw [show max (T.length + 1) (T.length + 1) = T.length + 1 from Nat.max_self _] at f2
        refine f2.congr (fun j hj => ?_)
        by_cases hj1 : j = T.length
        · subst hj1
          have g : (T ++ [s ++ [r]]).getD T.length [] = s ++ [r] := by rw [getD_snoc, if_neg (Nat.lt_irrefl _), if_pos rfl]
          have g2 : (T ++ [s]).getD T.length [] = s := by rw [getD_snoc, if_neg (Nat.lt_irrefl _), if_pos rfl]
          rw [g, g2]
          refine ⟨(if_pos rfl).trans ((if_pos (by omega)).trans (forms_snoc s r).symm), (if_pos rfl).trans ((if_pos (by omega)).trans ((if_neg (by omega)).trans (if_neg (by omega)).symm))⟩
        · have g : (T ++ [s ++ [r]]).getD j [] = (T ++ [s]).getD j [] := by rw [getD_snoc, getD_snoc, if_pos (by omega), if_pos (by omega)]
          rw [g]
          exact ⟨if_neg hj1, if_neg hj1⟩
      · intro s' hs'
        rcases List.mem_append.1 hs' with h9 | h9
        · exact h.sz s' (List.mem_append_left _ h9)
        · rw [List.mem_singleton.1 h9, hfs2]
          by_cases h8 : 0 < (forms s).length
          · left
            rw [hfl] at hfull
            omega
          · right
            cases s with
            | nil => rfl
            | cons x xs => exact absurd (by show 0 < (formL x ++ forms xs).length; rw [List.length_append, formL_len]; omega) h8
      · intro s' hs' r' hr'
        rcases List.mem_append.1 hs' with h9 | h9
        · exact h.rl s' (List.mem_append_left _ h9) r' hr'
        · rw [List.mem_singleton.1 h9] at hr'
          rcases List.mem_append.1 hr' with h8 | h8
          · exact h.rl s (List.mem_append_right _ (List.mem_singleton.2 rfl)) r' h8
          · rw [List.mem_singleton.1 h8]; exact hr

end Go.Proofs.YtikkieaokfailaaGreatDoor

/- LogSizes, its plain part: the power goes and comes; the log is opened again. -/
namespace Go.Proofs.YtikkieaokfailaaGreatDoor
open Go.RowKit Go.Joins

theorem base_ne (g i : Nat) : sBase ≠ segN g i := fun e => by
  have h := congrArg (fun s : Nm => s.data.toList.head?) e
  have h1 : sBase.data.toList.head? = some 98 := rfl
  have h2 : (segN g i).data.toList.head? = some 108 := by
    show ([108, 111, 103, 45] ++ Lib.decDigits g ++ [45] ++ Lib.decDigits i).head? = some 108
    rfl
  have h3 : some (98 : UInt8) = some 108 := h1.symm.trans (h.trans h2)
  cases h3
def sumR (Rs : Nat → List (List Int)) : Nat → Nat → Nat
  | 0, _ => 0
  | c + 1, i => (Rs i).length + sumR Rs c (i + 1)
/-- Segments that are whole are all read. -/
theorem rd_all (Rs : Nat → List (List Int)) (Zs : Nat → Nat) : ∀ (c i : Nat) (l : Lg) (k : Dk), k.off = false → l.ch.g = 1 → i + c ≤ 1000 → (∀ j, i ≤ j → j < i + c → look k.fs (segN 1 (j + 1)) = some ⟨forms (Rs j), Zs j⟩ ∧ ∀ r ∈ Rs j, r.length ≤ 1048576) →
    ∃ l2, rdSegs c i l k = (0, l2, k) ∧ l2.ch.g = 1 ∧ l2.ch.cnt = l.ch.cnt ∧ l2.dn = l.dn ∧ l2.recs.length = l.recs.length + sumR Rs c i
  | 0, i, l, k, _, hg, _, _ => ⟨l, rfl, hg, rfl, rfl, rfl⟩
  | c + 1, i, l, k, on, hg, hc, h => by
    obtain ⟨h1, h2⟩ := h i (Nat.le_refl _) (by omega)
    have hnm := Sg.nm i (by omega)
    have hrd : readK k (segN 1 (i + 1)) = (0, forms (Rs i)) := by
      unfold readK
      rw [on, if_neg (by decide), if_neg (by rw [hnm]; decide), h1]
    have hseg : readSegL l (i + 1) k = (0, true, ⟨l.most, l.recs ++ Rs i, { l.ch with size := (forms (Rs i)).length }, l.dn⟩, k) := by
      unfold readSegL readSegR
      rw [hg, hrd]
      dsimp only
      rw [if_neg (by simp), scan_forms (Rs i) _ h2 (Nat.le_refl _), if_pos rfl, hg]
    obtain ⟨l2, e1, e2, e3, e4, e5⟩ := rd_all Rs Zs c (i + 1) ⟨l.most, l.recs ++ Rs i, { l.ch with size := (forms (Rs i)).length }, l.dn⟩ k on hg (by omega) (fun j hj1 hj2 => h j (by omega) (by omega))
    refine ⟨l2, ?_, e2, e3, e4, ?_⟩
    · unfold rdSegs
      rw [hseg]
      dsimp only
      rw [if_neg (by simp), if_pos rfl]
      exact e1
    · rw [e5]
      show (l.recs ++ Rs i).length + _ = l.recs.length + ((Rs i).length + sumR Rs c (i + 1))
      rw [List.length_append]
      omega
theorem sumR_le (Rs Rt : Nat → List (List Int)) (h : ∀ j, (Rs j).length ≤ (Rt j).length) : ∀ c i, sumR Rs c i ≤ sumR Rt c i
  | 0, _ => Nat.le_refl _
  | c + 1, i => by
    have := sumR_le Rs Rt h c (i + 1)
    have := h i
    show (Rs i).length + _ ≤ (Rt i).length + _
    omega
theorem sumR_flat : ∀ (T P : List (List (List Int))), sumR (fun j => (P ++ T).getD j []) T.length P.length = T.flatten.length
  | [], _ => rfl
  | s :: T, P => by
    have h := sumR_flat T (P ++ [s])
    rw [List.append_assoc, List.length_append] at h
    show ((P ++ s :: T).getD P.length []).length + sumR _ T.length (P.length + 1) = _
    rw [List.flatten_cons, List.length_append]
    have e : (P ++ s :: T).getD P.length [] = s := by rw [List.getD_eq_getElem?_getD, List.getElem?_append_right (Nat.le_refl _)]; simp
    rw [e]
    have h' : sumR (fun j => (P ++ s :: T).getD j []) T.length (P.length + 1) = T.flatten.length := h
    rw [h']
theorem used_rest (l : Fls) : used (restL l []) ≤ used l := by
  induction l with
  | nil => exact Nat.le_refl _
  | cons p r ih =>
    obtain ⟨n, f⟩ := p
    unfold restL
    split
    · simp only [used]; have : used (restL r []) ≤ used r := ih; omega
    · simp only [used]
      have h1 : (restF f (([] : List Int).headD 0)).b.length ≤ f.b.length := by
        show (restF f 0).b.length ≤ _
        rw [restF_zero]
        exact List.length_take_le' ..
      have : used (restL r []) ≤ used r := ih
      show _ + used (restL r ([] : List Int).tail) ≤ _
      show _ + used (restL r []) ≤ _
      omega

/-- A disk that has just whole segments is opened without a fault. -/
theorem open_sg {k : Dk} {n : Nat} {Rs : Nat → List (List Int)} {Zs : Nat → Nat} (m : Nat) (h : Sg k n (fun j => forms (Rs j)) Zs) (hr : ∀ j, j < n → ∀ r ∈ Rs j, r.length ≤ 1048576) : (openL m k).1 = 0 ∧ (openL m k).2.1.recs.length = sumR Rs n 0 := by
  have hbn : look k.fs sBase = none := by
    cases hl : look k.fs sBase with
    | none => rfl
    | some f => obtain ⟨j, _, e⟩ := h.only _ _ hl; exact absurd e (base_ne _ _)
  have hrb : readK k sBase = (7, []) := by
    unfold readK
    rw [h.on, if_neg (by decide), if_neg (by decide), hbn]
  have hls : listK k = (0, k.fs.map Prod.fst) := by unfold listK; rw [h.on]; rfl
  have hmem : ∀ s, s ∈ k.fs.map Prod.fst ↔ ∃ j, j < n ∧ s = segN 1 (j + 1) := fun s => by
    rw [← look_isSome]
    constructor
    · intro hs
      obtain ⟨f, hf⟩ := Option.isSome_iff_exists.1 hs
      exact h.only s f hf
    · rintro ⟨j, hj, rfl⟩
      rw [h.yes j hj]
      rfl
  have hcnt : cntN (k.fs.map Prod.fst) 1 = n := cntN_is ⟨fun s hs => by
    obtain ⟨i, hi, e⟩ := mem_segs.1 hs
    exact (hmem s).2 ⟨i, hi, by rw [e, Nat.zero_add]⟩, fun hs => by
    obtain ⟨j, hj, e⟩ := (hmem _).1 hs
    have := segN_inj e
    omega⟩
  have hfil : (k.fs.map Prod.fst).filter (left 1 n) = [] := by
    rw [List.filter_eq_nil_iff]
    intro s hs
    obtain ⟨j, hj, e⟩ := (hmem s).1 hs
    unfold left
    rw [inN_iff.2 (mem_segs.2 ⟨j, hj, by rw [e, Nat.zero_add]⟩)]
    simp
  have hcl : cleanL ⟨1, 0, 0, false⟩ false k = (0, ⟨1, n, 0, false⟩, false, k) := by
    unfold cleanL
    rw [hls]
    dsimp only
    rw [if_neg (by simp), hcnt, hfil]
    rfl
  obtain ⟨l2, e1, e2, e3, e4, e5⟩ := rd_all Rs Zs n 0 ⟨m, [], ⟨1, n, 0, false⟩, false⟩ k h.on rfl (by have := h.few; omega) (fun j _ hj => ⟨h.yes j (by omega), hr j (by omega)⟩)
  dsimp only at e3 e4 e5
  unfold openL
  rw [hrb]
  show (openR m (0, 1) k).1 = 0 ∧ _
  unfold openR
  rw [if_neg (by simp)]
  show (openR.openC m (cleanL ⟨1, 0, 0, false⟩ false k)).1 = 0 ∧ (openR.openC m (cleanL ⟨1, 0, 0, false⟩ false k)).2.1.recs.length = _
  rw [hcl]
  unfold openR.openC
  rw [if_neg (by simp)]
  dsimp only
  rw [e1]
  unfold openR.openD
  rw [if_neg (by simp)]
  dsimp only
  have hlen : l2.recs.length = sumR Rs n 0 := by rw [e5]; show 0 + _ = _; omega
  unfold commitL
  refine ⟨?_, hlen⟩
  dsimp only
  unfold settleL
  rw [e3]
  by_cases hn : 0 < n
  · rw [if_pos (decide_eq_true hn)]
    dsimp only
    obtain ⟨k', s1, _⟩ := h.sync (n - 1) (by omega)
    rw [show n - 1 + 1 = n from by omega] at s1
    rw [e2, e4, stp_ok s1]
  · rw [if_neg (by simp; omega)]

end Go.Proofs.YtikkieaokfailaaGreatDoor

/- LogSizes, its plain part: what is seen behind a new start; the law's own copies. -/
namespace Go.Proofs.YtikkieaokfailaaGreatDoor
open Go.RowKit Go.Joins

/-- A file as the law lets it be. -/
def FileOk (m : Nat) (ys : List Int) : Prop := ys.length < 8 ∨ ∃ q : Nat, q ≤ 200 ∧ ys.getD 0 0 = 0 ∧ ys.getD 1 0 = 0 ∧ ys.getD 2 0 = 0 ∧ ys.getD 3 0 = (q : Int) ∧ (ys.length ≤ m ∨ ys.length = q + 8)
theorem big_head (n : Nat) (h : n ≤ 200) (X : List Int) : (bigL 4 n ++ X).getD 0 0 = 0 ∧ (bigL 4 n ++ X).getD 1 0 = 0 ∧ (bigL 4 n ++ X).getD 2 0 = 0 ∧ (bigL 4 n ++ X).getD 3 0 = (n : Int) := by
  have e : bigL 4 n = [0, 0, 0, (n : Int)] := by
    show [((n / 256 ^ 3 % 256 : Nat) : Int), ((n / 256 ^ 2 % 256 : Nat) : Int), ((n / 256 ^ 1 % 256 : Nat) : Int), ((n / 256 ^ 0 % 256 : Nat) : Int)] = _
    have h1 : n / 256 ^ 3 % 256 = 0 := by omega
    have h2 : n / 256 ^ 2 % 256 = 0 := by omega
    have h3 : n / 256 ^ 1 % 256 = 0 := by omega
    have h4 : n / 256 ^ 0 % 256 = n := by omega
    rw [h1, h2, h3, h4]
    rfl
  rw [e]
  exact ⟨rfl, rfl, rfl, rfl⟩
theorem file_ok (m : Nat) (s : List (List Int)) (hr : ∀ r ∈ s, r.length ≤ 200) (hs : (forms s).length ≤ m ∨ s.length = 1) : FileOk m (forms s) := by
  cases s with
  | nil => exact Or.inl (by show 0 < 8; omega)
  | cons r t =>
    right
    have hrl := hr r (List.mem_cons_self ..)
    have e : forms (r :: t) = bigL 4 r.length ++ (bigL 4 (crcN r) ++ r ++ forms t) := by
      show formL r ++ forms t = _
      unfold formL
      simp only [List.append_assoc]
    obtain ⟨h0, h1, h2, h3⟩ := big_head r.length hrl (bigL 4 (crcN r) ++ r ++ forms t)
    rw [← e] at h0 h1 h2 h3
    refine ⟨r.length, hrl, h0, h1, h2, h3, hs.imp id (fun h => ?_)⟩
    have ht : t = [] := by
      cases t with
      | nil => rfl
      | cons => simp at h
    subst ht
    show (formL r ++ []).length = _
    rw [List.append_nil, formL_len]
    omega

/-- The disk behind a new start, as the law sees it. -/
structure SzR (m : Nat) (k : Dk) (n : Nat) : Prop where
  op : (openL m k).1 = 0
  re : (openL m k).2.1.recs.length ≤ n
  on : k.off = false
  fl : k.fs.length ≤ 1000
  st : k.steps < 800000
  us : used k.fs ≤ 900000
  fi : ∀ s ∈ k.fs.map Prod.fst, ∃ ys, readK k s = (0, ys) ∧ FileOk m ys ∧ Bd ys
theorem SzI.rest {m : Nat} {l : Lg} {k : Dk} {S : List (List (List Int))} {n : Nat} (h : SzI m l k S n) (hn : n ≤ 60) (hg : (restK k []).Good) : SzR m (restK k []) n := by
  have hsl := h.sl
  have hs := h.sg.rest hg
  obtain ⟨Rs, hRs⟩ : ∃ Rs : Nat → List (List Int), ∀ j, Rs j = if j + 1 < S.length then S.getD j [] else [] := ⟨_, fun _ => rfl⟩
  have hmemS : ∀ j, j < S.length → S.getD j [] ∈ S := fun j hj => by
    rw [List.getD_eq_getElem?_getD, List.getElem?_eq_getElem hj]
    exact List.getElem_mem hj
  have hs2 := hs.congr (B' := fun j => forms (Rs j)) (Z' := _) (fun j hj => ⟨by
    rw [hRs]
    by_cases c : j + 1 < S.length
    · rw [if_pos c, if_pos c, List.take_length]
    · rw [if_neg c, if_neg c, List.take_zero]; rfl, rfl⟩)
  have hr : ∀ j, j < S.length → ∀ r ∈ Rs j, r.length ≤ 1048576 := fun j hj r hrm => by
    rw [hRs] at hrm
    split at hrm
    · have := h.rl _ (hmemS j hj) r hrm; omega
    · cases hrm
  obtain ⟨o1, o2⟩ := open_sg m hs2 hr
  refine ⟨o1, ?_, rfl, ?_, ?_, ?_, ?_⟩
  · rw [o2]
    have h1 := sumR_le Rs (fun j => S.getD j []) (fun j => by
      rw [hRs]
      split
      · exact Nat.le_refl _
      · exact Nat.zero_le _) S.length 0
    have h3 : sumR (fun j => S.getD j []) S.length 0 = S.flatten.length := sumR_flat S []
    have := h.fl
    omega
  · show (restL k.fs []).length ≤ 1000
    have h1 := congrArg List.length (rest_names k.fs [])
    rw [List.length_map, List.length_map] at h1
    have := h.fs
    omega
  · show k.steps < _
    have := h.st
    omega
  · show used (restL k.fs []) ≤ _
    have := used_rest k.fs
    have := h.us
    omega
  · intro s hsm
    rw [← look_isSome] at hsm
    obtain ⟨f, hf⟩ := Option.isSome_iff_exists.1 hsm
    obtain ⟨j, hj, rfl⟩ := hs2.only s f hf
    have hy := hs2.yes j hj
    refine ⟨forms (Rs j), ?_, ?_, (look_good hg hy).2.2⟩
    · unfold readK
      rw [hs2.on, if_neg (by decide), if_neg (by rw [Sg.nm j (by have := hs2.few; omega)]; decide), hy]
    · rw [hRs]
      split
      · exact file_ok m _ (h.rl _ (hmemS j hj)) (h.sz _ (hmemS j hj))
      · exact Or.inl (by show 0 < 8; omega)
theorem SzI.new (m : Nat) : SzI m (lg1 m) (newK 1000000) [] 0 :=
  ⟨rfl, rfl, rfl, rfl, rfl, Sg.new 1000000 (by omega) _ _, (fun s hs => by cases hs), (fun s hs => by cases hs), Nat.le_refl _, Nat.le_refl _, Nat.le_refl _, rfl, Nat.le_refl _⟩
theorem SzI.ok {m : Nat} {l : Lg} {k : Dk} {S : List (List (List Int))} {n : Nat} (h : SzI m l k S n) (hn : n ≤ 60) (hm : m ≤ 1000) : l.Ok := by
  have hsl := h.sl
  refine ⟨by rw [h.ch]; show 1 < _; omega, ?_, ?_, by rw [h.most]; omega, by rw [h.recs]; omega⟩
  · rw [h.ch]; show S.length ≤ _; omega
  · rw [h.ch]
    show (forms (S.getLastD [])).length ≤ _
    rcases List.eq_nil_or_concat S with e | ⟨T, s, e⟩
    · subst e; exact Nat.zero_le _
    · rw [List.concat_eq_append] at e
      have hl : S.getLastD [] = s := by rw [e]; simp
      have hin : s ∈ S := by rw [e]; simp
      rw [hl]
      rcases h.sz s hin with h1 | h1
      · omega
      · obtain ⟨r, rfl⟩ : ∃ r, s = [r] := by
          cases s with
          | nil => simp at h1
          | cons r t => cases t with
            | nil => exact ⟨r, rfl⟩
            | cons => simp at h1
        have := h.rl _ hin r (List.mem_singleton.2 rfl)
        show (formL r ++ []).length ≤ _
        rw [List.append_nil, formL_len]
        omega

/-- few: at most 200 bytes, in new memory. -/
theorem few200 (a : Option Addr) (n c : Nat) (xs : List Int) (w : World) (hR : Rd w a n c xs) :
    Calls Tryz.prog 17 #[.slice a n c] w fun e w' => ∃ a' n' c', e = .returned (.slice a' n' c') ∧ Rd w' a' n' c' (xs.take 200) ∧ (∀ ad, a' = some ad → w.heap.size ≤ ad.block) ∧ Below w.heap.size w w' := by
  have hb := hR.bytes.take 200
  go_enter Tryz.func17, Tryz.ntmps17
  go_wp2_with (go_at_call 54; refine (twin_any a n c xs 200 _ hR (by omega)).mono ?_; rintro e w1 ⟨v1, rfl, ho1, hb1⟩)
  go_ret
  obtain ⟨a1, c1, rfl, hr1⟩ := Rd.ofOwn ho1 hb
  refine ⟨a1, _, c1, rfl, hr1, fun ad had => ?_, hb1⟩
  rcases ho1.2 with ⟨e, _⟩ | ⟨g, cap, cur, e, hg, _⟩
  · injection e with e1; rw [e1] at had; cases had
  · injection e with e1; rw [e1] at had; cases had; exact hg
theorem tm200 (z : Int) : ∃ k : Nat, (wrap64 (z.tmod 200 + 200)).tmod 200 = (k : Int) ∧ k < 200 := by
  have h1 : z.tmod 200 < 200 := Int.tmod_lt_of_pos z (by omega)
  have h2 : -200 < z.tmod 200 := by
    have : (-z).tmod 200 < 200 := Int.tmod_lt_of_pos (-z) (by omega)
    rw [Int.neg_tmod] at this; omega
  have h3 : wrap64 (z.tmod 200 + 200) = z.tmod 200 + 200 := by unfold wrap64; omega
  rw [h3, Int.tmod_eq_emod_of_nonneg (by omega)]
  exact ⟨((z.tmod 200 + 200) % 200).toNat, by omega, by omega⟩
theorem irnL (w : World) : IRd w 0 (.slice none 0 0) [] := ⟨none, 0, rfl, Nat.le_refl _, by omega, fun h => absurd rfl h⟩
theorem or0 {x : Nat} (h : x ≤ 255) : bits .or .i64 0 (x : Int) = (x : Int) := by
  have e : bits .or .i64 ((0 : Nat) : Int) (x : Int) = ((0 ||| x : Nat) : Int) := by
    show IntKind.i64.wrap ((BitVec.ofInt 64 ((0 : Nat) : Int) ||| BitVec.ofInt 64 (x : Int)).toNat : Int) = _
    rw [BitVec.toNat_or, ofInt_u64 0 (by omega), ofInt_u64 x (by omega), IntKind.wrap_i64, Nat.zero_or]
    omega
  rw [Nat.zero_or] at e
  exact e

end Go.Proofs.YtikkieaokfailaaGreatDoor

/- LogSizes: the law's walk. -/
namespace Go.Proofs.YtikkieaokfailaaGreatDoor
open Go.RowKit Go.Joins

set_option maxRecDepth 100000 in
set_option maxHeartbeats 8000000 in
theorem logSizes_any (a : Option Addr) (n c : Nat) (xs : List (List Int)) (mo : Int) (W : World) (hR : RRd W a n xs) (hP : Pw W) :
    Calls Tryz.prog 8 #[.slice a n c, .int .i64 mo] W fun e w' => e = .returned (.bool true) ∧ Below W.heap.size W w' := by
  obtain ⟨m0, hm0, hm200⟩ := tm200 mo
  have hN := new_ok 1000000 (by omega) W
  have hpl := hP.at
  have hnm := hR.most
  obtain ⟨m, hm⟩ : ∃ m, m0 + 16 = m := ⟨_, rfl⟩
  have hme : (m0 : Int) + 16 = ((m : Nat) : Int) := by omega
  obtain ⟨kN, HkN⟩ : ∃ kN, Hid (newK 1000000 = kN) := ⟨_, rfl⟩
  have hon := open_new m 1000000
  have hSz := SzI.new m
  rw [HkN.out] at hN hon hSz
  have hkf : kN.fs.length ≤ 1000 := by rw [← HkN.out]; decide
  have hks : kN.steps < 800000 := by rw [← HkN.out]; decide
  have hku : used kN.fs ≤ 900000 := by rw [← HkN.out]; decide
  have Hop : Hid (openL m kN = (0, lg1 m, kN)) := hon
  have HSz : Hid (SzI m (lg1 m) kN [] 0) := hSz
  clear hon hSz
  go_enter Tryz.func8, Tryz.ntmps8
  go_upto_region 3 with (first
    | (go_at_call 14; refine hN.mono ?_; rintro e w1 ⟨d, rfl, ⟨F1, hD1, hF1⟩, hb1⟩))
  have hop := sopen_any w1 F1 d m kN (by omega) (by omega) hD1 (hP.below hb1) (fun i hi => by have := hF1 i hi; omega) hkf hks hku
  rw [Hop.out] at hop
  try rw [hme]
  go_upto_region 4 with (first
    | (go_at_call 20; refine hop.mono ?_; rintro e w2 ho; obtain ⟨lb, rfl, hlb, F2, H2, hA2, hk2, hF2, hH2⟩ := ho.yes rfl))
  clear ho hop hkf hks hku Hop hN
  have hB2 : Below W.heap.size W w2 := hb1.trans (hk2.low hb1.size hF1)
  have hwk := swakes_any w2 (hP.below hB2)
  go_wp2_with (first
    | (go_at_call 11; refine hwk.mono ?_; rintro e w3 ⟨rfl, hb3⟩))
  have hB3 : Below W.heap.size W w3 := hB2.trans (hb3.mono hB2.size)
  have hF2' : ∀ i, F2 i → W.heap.size ≤ i := fun i hi => (hF2 i hi).elim (hF1 i) (fun h => by have := hb1.size; omega)
  have hH2' : ∀ i, H2 i → W.heap.size ≤ i := fun i hi => by have := hH2 i hi; have := hb1.size; omega
  have hlbW : W.heap.size ≤ lb := by have := hb1.size; omega
  have hA3 := hA2.below hb3
  clear hA2 hb3 hwk hB2 hk2 hF2 hH2 hlb hD1 hF1 hb1
  go_loopw [10, 11] (fun s10 s11 wr => ∃ (i : Nat) (l : Lg) (k : Dk) (S : List (List (List Int))) (F H : Nat → Prop), s10 = .int .i64 i ∧ s11 = .int .i64 i ∧ i ≤ n ∧ i ≤ 60 ∧ Hid (SzI m l k S i) ∧ Hid (LogAt wr F H lb d l k) ∧ Hid (∀ j, F j → W.heap.size ≤ j) ∧ Hid (∀ j, H j → W.heap.size ≤ j) ∧ Hid (Below W.heap.size W wr)) (fun _ s11 _ => 60 - (intOf s11).toNat)
  case atStart => exact ⟨0, _, kN, [], F2, H2, rfl, rfl, by omega, by omega, HSz.out, hA3, hF2', hH2', hB3⟩
  case round =>
    clear HSz hA3 hF2' hH2' hB3
    obtain ⟨i, l, k, S, F, H, rfl, rfl, hin, hi60, HS, HA, HF, HH, HB⟩ := hrel
    by_cases hlt : i < n ∧ i < 60
    · have hcl : (i : Int) < (n : Int) := by omega
      have hcl60 : (i : Int) < 60 := by omega
      obtain ⟨b, off, rfl, hce⟩ := hR.flat (by omega)
      obtain ⟨aj, nj, cj, hcj, hrj⟩ := hce i hlt.1
      clear hce
      have hcj' := (HB.out.cell (p := ⟨b, off + i, none⟩) (World.block_lt_of_cell? W _ hcj)).trans hcj
      have hrj' := hrj.carry (Nat.le_refl _) HB.out
      have hfew := few200 aj nj cj _ wr hrj'
      obtain ⟨S', e1, e2⟩ := HS.out.app hlt.2 ((xs.getD i []).take 200) (by rw [List.length_take]; omega) (hrj.bytes.take 200)
      obtain ⟨v0, hL0, _⟩ := HA.out.ex
      have hFl := hL0.D.lt
      have hll := hL0.lt
      have hap := fun w hb a' n' c' hR' hRF => sappend_any w F H lb d l k (HA.out.below hb) (HS.out.ok (by omega) (by omega)) (by have := HS.out.st; omega) (by have := HS.out.fs; omega) a' n' c' ((xs.getD i []).take 200) hR' hRF
      rw [e1] at hap
      obtain ⟨l', hl'⟩ : ∃ l', (appendT l k ((xs.getD i []).take 200)).2.1 = l' := ⟨_, rfl⟩
      obtain ⟨k', hk'⟩ : ∃ k', (appendT l k ((xs.getD i []).take 200)).2.2 = k' := ⟨_, rfl⟩
      rw [hl', hk'] at hap e2
      have HE2 : Hid (SzI m l' k' S' (i + 1)) := e2
      clear hl' hk' e1 e2 hcj hrj hL0 hrj'
      go_wp2_with (first
        | (go_at_call 17; refine hfew.mono ?_; rintro e w5 ⟨a5, n5, c5, rfl, hr5, hg5, hb5⟩)
        | (go_at_call 22; refine (hap _ hb5 a5 n5 c5 hr5 (fun ad had => ⟨fun hf => by have := hFl _ hf; have := hg5 ad had; omega, fun e => by have := hg5 ad had; omega⟩)).mono ?_; rintro e w6 ⟨rfl, F6, H6, hA6, hk6, hF6, hH6⟩))
      have hB5 := HB.out.trans (hb5.mono HB.out.size)
      have hB6 : Below W.heap.size W w6 := hB5.trans (hk6.low hB5.size (fun j hj => by
        rcases hj with hj | hj | hj
        · exact HF.out j hj
        · exact HH.out j hj
        · omega))
      have h5s := hB5.size
      exact ⟨⟨i + 1, l', k', S', F6, H6, by go_num, by go_num, by omega, by omega, HE2.out, hA6, fun j hj => (hF6 j hj).elim (HF.out j) (fun h => by omega), fun j hj => (hH6 j hj).elim (HH.out j) (fun h => by omega), hB6⟩, by simp [intOf]; omega⟩
    · have hend : ¬ (i : Int) < (n : Int) ∨ ((i : Int) < (n : Int) ∧ ¬ (i : Int) < 60) := by omega
      obtain ⟨v0, hL0, _⟩ := HA.out.ex
      have hRs := restart_any d F k 0 (.slice none 0 0) [] (by have := HS.out.fs; omega) wr hL0.D (irnL wr) (fun h => absurd rfl h)
      have HRst := fun hg => HS.out.rest hi60 hg
      obtain ⟨k2, Hk2⟩ : ∃ k2, Hid (restK k [] = k2) := ⟨_, rfl⟩
      rw [Hk2.out] at hRs HRst
      clear hL0 HS HA
      rcases hend with hcl | ⟨hcl, hcl60⟩ <;> (
        go_upto_region 14 with (first
          | (go_at_call 24; refine hRs.mono ?_; rintro e w4 ⟨rfl, F4, hD4, hk4, hF4⟩))
        have hQ := HRst hD4.good
        have hB4 : Below W.heap.size W w4 := HB.out.trans (hk4.low HB.out.size HF.out)
        have hF4' : ∀ j, F4 j → W.heap.size ≤ j := fun j hj => (hF4 j hj).elim (HF.out j) (fun h => by have := HB.out.size; omega)
        have hLs := list_any d F4 k2 (by have := hQ.fl; omega) w4 hD4
        rw [show listK k2 = (0, k2.fs.map Prod.fst) from by unfold listK; rw [hQ.on]; rfl] at hLs
        have HQ : Hid (SzR m k2 i) := hQ
        obtain ⟨ns, Hns⟩ : ∃ ns, Hid (k2.fs.map Prod.fst = ns) := ⟨_, rfl⟩
        rw [Hns.out] at hLs
        dsimp only at hLs
        obtain ⟨N, HN⟩ : ∃ N, Hid (ns.length = N) := ⟨_, rfl⟩
        rw [HN.out] at hLs
        clear hRs HRst hQ hk4 hF4
        go_upto_region 16 with (first
          | (go_at_call 37; refine hLs.mono ?_; rintro e w5 ⟨v5, rfl, o5, hb5⟩; obtain ⟨a5, c5, rfl, hn5⟩ := own_formN o5))
        have hB5 : Below W.heap.size W w5 := hB4.trans (hb5.mono hB4.size)
        have hD5 := hD4.below hb5
        clear hLs hb5 hB4 hD4
        go_loopw [14, 15, 16, 17] (fun s14 _ _ _ wq => ∃ j : Nat, s14 = .int .i64 j ∧ j ≤ N ∧ Hid (Below w5.heap.size w5 wq)) (fun s14 _ _ _ _ => N - (intOf s14).toNat)
        case atStart => exact ⟨0, rfl, by omega, Below.refl _ _⟩
        case round =>
          obtain ⟨j, rfl, hjN, HBq⟩ := hrel
          by_cases hjlt : j < N
          · have hcj : (j : Int) < (N : Int) := by omega
            have hj0 : (0 : Int) ≤ (j : Int) := by omega
            have hjl : j < ns.length := by rw [HN.out]; exact hjlt
            obtain ⟨x, hx⟩ : ∃ x, ns[j]? = some x := ⟨_, List.getElem?_eq_getElem hjl⟩
            have hnvj : (nv ns)[j]? = some (.string x) := by unfold nv; rw [List.getElem?_map, hx]; rfl
            obtain ⟨gr, hgr⟩ : ∃ g, a5 = some ⟨g, 0, none⟩ := by
              rcases o5.2 with ⟨_, h0⟩ | ⟨g, cap, cur, h1, _⟩
              · omega
              · cases h1; exact ⟨g, rfl⟩
            subst hgr
            have oq := own_keep (S := fun _ => False) o5 (Keep.ofBelow HBq.out) (fun _ _ h => h)
            have hc := oq.cells (g := gr) rfl j _ hnvj
            rw [add_flat, Nat.zero_add] at hc
            obtain ⟨ys, hy1, hy2, hyb⟩ := HQ.out.fi x (by rw [Hns.out]; exact List.mem_of_getElem? hx)
            have hRd := read_any d F4 k2 x _ (hD5.below HBq.out)
            rw [hy1] at hRd
            dsimp only at hRd
            obtain ⟨L, HL⟩ : ∃ L, Hid (ys.length = L) := ⟨_, rfl⟩
            unfold FileOk at hy2
            rw [HL.out] at hRd hy2
            clear hx hnvj oq hy1 hjl
            go_upto_region 19 with (first
              | (go_at_call 38; refine hRd.mono ?_; rintro e w6 ⟨v6, rfl, o6, hb6⟩; obtain ⟨a6, c6, rfl, r6⟩ := Rd.ofOwn o6 hyb))
            have hB6 : Below w5.heap.size w5 w6 := HBq.out.trans (hb6.mono HBq.out.size)
            clear hRd hc hb6
            by_cases h8 : L < 8
            · have hd : decide ((8 : Int) ≤ (L : Int)) = false := decide_eq_false (by omega)
              have z1 : ¬ (m : Int) < (L : Int) := by omega
              go_quiet (fail)
              go_wp2
              exact ⟨⟨j + 1, by go_num, by omega, ⟨hB6.os, hB6.tape, hB6.output, hB6.size, hB6.block⟩⟩, by simp [intOf]; omega⟩
            · obtain ⟨q, hq200, y0, y1, y2, y3, hfin⟩ := hy2.resolve_left h8
              obtain ⟨g6, hg6⟩ : ∃ g, a6 = some ⟨g, 0, none⟩ := by
                rcases o6.2 with ⟨_, h0⟩ | ⟨g, cap, cur, h1, _⟩
                · omega
                · injection h1 with h1; exact ⟨g, h1⟩
              subst hg6
              have hd : (8 : Int) ≤ (L : Int) := by omega
              have c0 := r6.cells _ rfl 0 (by omega)
              have c1 := r6.cells _ rfl 1 (by omega)
              have c2 := r6.cells _ rfl 2 (by omega)
              have c3 := r6.cells _ rfl 3 (by omega)
              rw [add_flat, Nat.zero_add] at c0 c1 c2 c3
              rw [y0] at c0
              rw [y1] at c1
              rw [y2] at c2
              rw [y3] at c3
              have i0 : (0 : Int) < (L : Int) := by omega
              have i1 : (1 : Int) < (L : Int) := by omega
              have i2 : (2 : Int) < (L : Int) := by omega
              have i3 : (3 : Int) < (L : Int) := by omega
              have qz : (q : Int) ≤ 200 := by omega
              have b0 : bits .or .i64 0 0 = 0 := or0 (x := 0) (by omega)
              have bq := or0 (x := q) (by omega)
              clear y0 y1 y2 y3
              by_cases hone : L = q + 8
              · have ho : ((q : Int) == (L : Int) - 8) = true := by rw [beq_iff_eq]; omega
                have ho2 : decide ((q : Int) = (L : Int) - 8) = true := decide_eq_true (by omega)
                clear hone hfin
                go_quiet (fail)
                by_cases hmL : m < L
                · have z1 : (m : Int) < (L : Int) := by omega
                  go_wp2
                  exact ⟨⟨j + 1, by go_num, by omega, ⟨hB6.os, hB6.tape, hB6.output, hB6.size, hB6.block⟩⟩, by simp [intOf]; omega⟩
                · have z1 : ¬ (m : Int) < (L : Int) := by omega
                  go_wp2
                  exact ⟨⟨j + 1, by go_num, by omega, ⟨hB6.os, hB6.tape, hB6.output, hB6.size, hB6.block⟩⟩, by simp [intOf]; omega⟩
              · have ho : ¬ (q : Int) = (L : Int) - 8 := by omega
                have z1 : ¬ (m : Int) < (L : Int) := by omega
                go_quiet (fail)
                go_wp2
                exact ⟨⟨j + 1, by go_num, by omega, ⟨hB6.os, hB6.tape, hB6.output, hB6.size, hB6.block⟩⟩, by simp [intOf]; omega⟩
          · have hcj : ¬ (j : Int) < (N : Int) := by omega
            have hBq : Below W.heap.size W _ := hB5.trans (HBq.out.mono hB5.size)
            have hop := sopen_any _ F4 d m k2 (by omega) (by omega) (hD5.below HBq.out) (hP.below hBq) (fun i hi => by have := hF4' i hi; omega) HQ.out.fl HQ.out.st HQ.out.us
            have hre := HQ.out.re
            obtain ⟨P, HP⟩ : ∃ P, Hid (openL m k2 = P) := ⟨_, rfl⟩
            have ho0 := HQ.out.op
            rw [HP.out] at hop hre ho0
            have hlz : ((P.2.1.recs.length : Nat) : Int) ≤ (i : Int) := by omega
            have hln := fun F H lb w hA => slen_any w F H lb d P.2.1 P.2.2 hA
            obtain ⟨R, HRe⟩ : ∃ R, Hid (P.2.1.recs.length = R) := ⟨_, rfl⟩
            rw [HRe.out] at hlz
            simp only [HRe.out] at hln
            clear hre
            go_wp2_with (first
              | (go_at_call 20; refine hop.mono ?_; rintro e w6 ho; obtain ⟨lb6, rfl, hlb6, F6, H6, hA6, hk6, hF6, hH6⟩ := ho.yes ho0)
              | (go_at_call 26; refine (hln F6 H6 lb6 _ hA6).mono ?_; rintro e w7 ⟨rfl, h7⟩; replace h7 := h7.symm; subst h7))
            go_ret
            exact ⟨rfl, hBq.trans (hk6.low hBq.size hF4')⟩)

end Go.Proofs.YtikkieaokfailaaGreatDoor

/- LogKeeps, its plain part: what appends and commits leave, with power that fails. -/
namespace Go.Proofs.YtikkieaokfailaaGreatDoor
open Go.RowKit Go.Joins

theorem wholeN_mono : ∀ (s : List (List Int)) (a b : Nat), a ≤ b → wholeN s a ≤ wholeN s b
  | [], _, _, _ => Nat.le_refl _
  | r :: s, a, b, h => by
    unfold wholeN
    by_cases h1 : 8 + r.length ≤ a
    · rw [if_pos h1, if_pos (by omega)]
      have := wholeN_mono s (a - (8 + r.length)) (b - (8 + r.length)) (by omega)
      omega
    · rw [if_neg h1]
      exact Nat.zero_le _
theorem wholeN_app : ∀ (s t : List (List Int)) (z : Nat), wholeN s z ≤ wholeN (s ++ t) z
  | [], _, _ => Nat.zero_le _
  | r :: s, t, z => by
    show wholeN (r :: s) z ≤ wholeN (r :: (s ++ t)) z
    unfold wholeN
    split
    · have := wholeN_app s t (z - (8 + r.length))
      omega
    · exact Nat.le_refl _
theorem wholeN_take : ∀ (s : List (List Int)) (m z : Nat), wholeN (s.take m) z = min m (wholeN s z)
  | [], m, z => by rw [List.take_nil]; show 0 = min m 0; omega
  | r :: s, 0, z => by rw [List.take_zero]; show 0 = _; omega
  | r :: s, m + 1, z => by
    rw [List.take_succ_cons]
    unfold wholeN
    split
    · rw [wholeN_take s m]; omega
    · omega
theorem forms_split (s : List (List Int)) (m : Nat) : forms s = forms (s.take m) ++ forms (s.drop m) := by rw [← forms_app, List.take_append_drop]
theorem forms_take_len (s : List (List Int)) (m : Nat) : (forms (s.take m)).length ≤ (forms s).length := by rw [forms_split s m, List.length_append]; omega
theorem forms_take_eq (s : List (List Int)) (m : Nat) : (forms s).take (forms (s.take m)).length = forms (s.take m) := by
  conv => lhs; rw [forms_split s m]
  exact List.take_left'  rfl
/-- What is whole lies within. -/
theorem whole_within : ∀ (s : List (List Int)) (b : Nat), (forms (s.take (wholeN s b))).length ≤ b
  | [], b => by rw [List.take_nil]; exact Nat.zero_le _
  | r :: s, b => by
    unfold wholeN
    split
    · rw [List.take_succ_cons]
      show (formL r ++ forms (s.take _)).length ≤ b
      rw [List.length_append, formL_len]
      have := whole_within s (b - (8 + r.length))
      omega
    · rw [List.take_zero]; exact Nat.zero_le _

def KB (T : List (List (List Int))) (x : List Int) (j : Nat) : List Int := if j < T.length then forms (T.getD j []) else x
def KZ (T : List (List (List Int))) (z : Nat) (j : Nat) : Nat := if j < T.length then (forms (T.getD j [])).length else z
/-- What a disk holds of the records 'all', of which the first 'safe' are safe: whole segments that are safe, and a last one that may be cut short. -/
structure KF (k : Dk) (all : List (List Int)) (safe : Nat) : Prop where
  us : used k.fs ≤ 24960
  rl : ∀ r ∈ all, r.length ≤ 200
  ex : (Sh k 0 (fun _ => []) (fun _ => 0) ∧ safe = 0) ∨ ∃ T s b z, Sh k (T.length + 1) (KB T ((forms s).take b)) (KZ T z) ∧ (T.flatten ++ s) <+: all ∧ safe ≤ T.flatten.length + wholeN s z
/-- A log that is written on: its chain of segments and its disk. -/
structure KC (c : Ch) (k : Dk) (all : List (List Int)) (safe : Nat) : Prop where
  g : c.g = 1
  on : k.off = false
  us : used k.fs ≤ 208 * all.length
  room : k.room = 100000
  rl : ∀ r ∈ all, r.length ≤ 200
  ex : (c.cnt = 0 ∧ c.size = 0 ∧ c.loose = false ∧ all = [] ∧ safe = 0 ∧ Sh k 0 (fun _ => []) (fun _ => 0)) ∨ ∃ T s z, c.cnt = T.length + 1 ∧ c.size = (forms s).length ∧ (c.loose = false → z = (forms s).length) ∧ T.flatten ++ s = all ∧ safe ≤ T.flatten.length + wholeN s z ∧ Sh k (T.length + 1) (KB T (forms s)) (KZ T z) ∧ T.length + 1 ≤ all.length
theorem KF.weak {k : Dk} {all all' : List (List Int)} {safe safe' : Nat} (h : KF k all safe) (h1 : all <+: all') (h2 : safe' ≤ safe) (h3 : ∀ r ∈ all', r.length ≤ 200) : KF k all' safe' := by
  refine ⟨h.us, h3, ?_⟩
  rcases h.ex with ⟨e1, e2⟩ | ⟨T, s, b, z, e1, e2, e3⟩
  · exact Or.inl ⟨e1, by omega⟩
  · exact Or.inr ⟨T, s, b, z, e1, e2.trans h1, by omega⟩
theorem KC.kf {c : Ch} {k : Dk} {all : List (List Int)} {safe : Nat} (h : KC c k all safe) (ha : all.length ≤ 120) : KF k all safe := by
  refine ⟨by have := h.us; omega, h.rl, ?_⟩
  rcases h.ex with ⟨_, _, _, _, e2, e1⟩ | ⟨T, s, z, _, _, _, e2, e3, e4, _⟩
  · exact Or.inl ⟨e1, e2⟩
  · exact Or.inr ⟨T, s, (forms s).length, z, by rw [List.take_length]; exact e4, by rw [e2]; exact List.prefix_refl _, e3⟩
theorem stp_13 {k k' : Dk} {r : Nat × Dk} (h : r = (13, k')) : stp false k r = (13, true, k') := by
  subst h
  rfl
/-- The last segment is made safe. -/
theorem KC.settle {c : Ch} {k : Dk} {all : List (List Int)} {safe : Nat} (h : KC c k all safe) (ha : all.length ≤ 120) :
    ∃ en c' dn' k', settleL c false k = (en, c', dn', k') ∧ k'.steps ≤ k.steps + 1 ∧ ((en = 0 ∧ dn' = false ∧ KC c' k' all all.length ∧ c'.loose = false ∧ c'.cnt = c.cnt ∧ c'.size = c.size) ∨ (en = 13 ∧ KF k' all safe)) := by
  cases hl : c.loose with
  | false =>
    refine ⟨0, c, false, k, ?_, Nat.le_succ _, Or.inl ⟨rfl, rfl, ⟨h.g, h.on, h.us, h.room, h.rl, ?_⟩, hl, rfl, rfl⟩⟩
    · unfold settleL
      rw [hl, if_neg (by decide)]
    · rcases h.ex with ⟨e1, e2, e3, e4, e5, e6⟩ | ⟨T, s, z, e1, e2, e3, e4, e5, e6, e7⟩
      · exact Or.inl ⟨e1, e2, e3, e4, by rw [e4]; rfl, e6⟩
      · refine Or.inr ⟨T, s, z, e1, e2, e3, e4, ?_, e6, e7⟩
        rw [← e4, List.length_append, e3 hl, wholeN_all s _ (Nat.le_refl _)]
        exact Nat.le_refl _
  | true =>
    rcases h.ex with ⟨_, _, e3, _⟩ | ⟨T, s, z, e1, e2, e3, e4, e5, e6, e7⟩
    · rw [hl] at e3; cases e3
    obtain ⟨k', hc, hr, hs, hu, hn⟩ := e6.sync h.on T.length (by omega)
    have hB : KB T (forms s) T.length = forms s := if_neg (by omega)
    have heq : settleL c false k = ((stp false k (syncK k (segN 1 (T.length + 1)))).1, (if (stp false k (syncK k (segN 1 (T.length + 1)))).1 = 0 then { c with loose := false } else c), (stp false k (syncK k (segN 1 (T.length + 1)))).2) := by
      unfold settleL
      rw [hl, if_pos rfl, h.g, e1]
    rcases hc with ⟨c1, c2, c3⟩ | ⟨c1, c2, c3⟩
    · rw [stp_ok c1] at heq
      refine ⟨0, { c with loose := false }, false, k', heq, hs, Or.inl ⟨rfl, rfl, ⟨h.g, c2, by have := h.us; omega, by rw [hr]; exact h.room, h.rl, Or.inr ⟨T, s, (forms s).length, e1, e2, fun _ => rfl, e4, ?_, ?_, e7⟩⟩, rfl, rfl, rfl⟩⟩
      · rw [← e4, List.length_append, wholeN_all s _ (Nat.le_refl _)]
        exact Nat.le_refl _
      · refine c3.congr (fun j hj => ⟨rfl, ?_⟩)
        rw [hB]
        unfold KZ
        by_cases e : j = T.length
        · rw [if_pos e, if_neg (by omega)]
        · rw [if_neg e, if_pos (by omega), if_pos (by omega)]
    · rw [stp_13 c1] at heq
      refine ⟨13, c, true, k', heq, hs, Or.inr ⟨rfl, ⟨by have := h.us; omega, h.rl, Or.inr ⟨T, s, (forms s).length, z, by rw [List.take_length]; exact c3, by rw [e4]; exact List.prefix_refl _, e5⟩⟩⟩⟩
theorem rl_snoc {all : List (List Int)} {r : List Int} (h : ∀ r ∈ all, r.length ≤ 200) (hr : r.length ≤ 200) : ∀ x ∈ all ++ [r], x.length ≤ 200 := fun x hx => by
  rcases List.mem_append.1 hx with h1 | h1
  · exact h x h1
  · rw [List.mem_singleton.1 h1]; exact hr
/-- A record behind the others of the last segment. -/
theorem KC.put {c : Ch} {k : Dk} {all : List (List Int)} {safe : Nat} (h : KC c k all safe) (ha : all.length < 120) (r : List Int) (hr : r.length ≤ 200) (hb : Bd r) :
    ∃ en c' dn' k', putS (max c.cnt 1) c.size c (formL r) false k = (en, c', dn', k') ∧ k'.steps ≤ k.steps + 1 ∧ ((en = 0 ∧ dn' = false ∧ KC c' k' (all ++ [r]) safe) ∨ (en = 13 ∧ KF k' (all ++ [r]) safe)) := by
  have hfl := formL_len r
  have hus := h.us
  have hro := h.room
  have hal : (all ++ [r]).length = all.length + 1 := by simp
  rcases h.ex with ⟨e1, e2, e3, e4, e5, e6⟩ | ⟨T, s, z, e1, e2, e3, e4, e5, e6, e7⟩
  · obtain ⟨en, k', a1, a2, a3, a4, a5, a6⟩ := e6.app h.on 0 (by omega) (by omega) (formL r) (formL_bd hb) (by omega)
    have a3' : Sh k' (([] : List (List (List Int))).length + 1) (KB [] (forms [r])) (KZ [] 0) := a3.congr (fun j hj => by
      obtain rfl : j = 0 := by omega
      refine ⟨?_, rfl⟩
      show formL r = forms [r]
      show formL r = formL r ++ []
      rw [List.append_nil])
    rcases a2 with ⟨rfl, a2⟩ | ⟨rfl, a2⟩
    · refine ⟨0, ⟨c.g, 1, c.size + (formL r).length, true⟩, false, k', ?_, a5, Or.inl ⟨rfl, rfl, ⟨h.g, a2, by omega, by rw [a4]; exact hro, rl_snoc h.rl hr, Or.inr ⟨[], [r], 0, rfl, ?_, (fun e => by cases e), by rw [e4]; rfl, by omega, a3', by rw [hal]; exact Nat.le_add_left _ _⟩⟩⟩⟩
      · rw [e1, show max 0 1 = 1 from rfl, putS_eq (en := 0) (dn' := false) (k' := k') (by rw [h.g]; exact stp_ok a1), if_pos rfl]
      · show c.size + (formL r).length = (formL r ++ []).length
        rw [e2, List.append_nil, Nat.zero_add]
    · refine ⟨13, c, true, k', ?_, a5, Or.inr ⟨rfl, ⟨by omega, rl_snoc h.rl hr, Or.inr ⟨[], [r], (forms [r]).length, 0, by rw [List.take_length]; exact a3', by rw [e4]; exact List.prefix_refl _, by omega⟩⟩⟩⟩
      rw [e1, show max 0 1 = 1 from rfl, putS_eq (en := 13) (dn' := true) (k' := k') (by rw [h.g]; exact stp_13 a1), if_neg (by decide)]
  · have hfew := e6.few
    obtain ⟨en, k', a1, a2, a3, a4, a5, a6⟩ := e6.app h.on T.length (by omega) (by omega) (formL r) (formL_bd hb) (by omega)
    have hB : KB T (forms s) T.length = forms s := if_neg (by omega)
    have hZ : KZ T z T.length = z := if_neg (by omega)
    have a3' : Sh k' (T.length + 1) (KB T (forms (s ++ [r]))) (KZ T z) := by
      rw [show max (T.length + 1) (T.length + 1) = T.length + 1 from by omega] at a3
      refine a3.congr (fun j hj => ?_)
      rw [hB, hZ]
      by_cases e : j = T.length
      · rw [if_pos e, if_pos e, if_pos (by omega), if_pos (by omega)]
        unfold KB KZ
        rw [if_neg (by omega), if_neg (by omega), forms_snoc]
        exact ⟨rfl, rfl⟩
      · rw [if_neg e, if_neg e]
        unfold KB KZ
        rw [if_pos (by omega), if_pos (by omega)]
        exact ⟨rfl, rfl⟩
    have hsf : safe ≤ T.flatten.length + wholeN (s ++ [r]) z := by have := wholeN_app s [r] z; omega
    have hmx : max c.cnt 1 = T.length + 1 := by omega
    have hap : T.flatten ++ (s ++ [r]) = all ++ [r] := by rw [← List.append_assoc, e4]
    rcases a2 with ⟨rfl, a2⟩ | ⟨rfl, a2⟩
    · refine ⟨0, ⟨c.g, T.length + 1, c.size + (formL r).length, true⟩, false, k', ?_, a5, Or.inl ⟨rfl, rfl, ⟨h.g, a2, by omega, by rw [a4]; exact hro, rl_snoc h.rl hr, Or.inr ⟨T, s ++ [r], z, rfl, ?_, (fun e => by cases e), hap, hsf, a3', by omega⟩⟩⟩⟩
      · rw [hmx, putS_eq (en := 0) (dn' := false) (k' := k') (by rw [h.g]; exact stp_ok a1), if_pos rfl]
      · show c.size + (formL r).length = _
        rw [forms_snoc, List.length_append, e2]
    · refine ⟨13, c, true, k', ?_, a5, Or.inr ⟨rfl, ⟨by omega, rl_snoc h.rl hr, Or.inr ⟨T, s ++ [r], (forms (s ++ [r])).length, z, by rw [List.take_length]; exact a3', by rw [hap]; exact List.prefix_refl _, hsf⟩⟩⟩⟩
      rw [hmx, putS_eq (en := 13) (dn' := true) (k' := k') (by rw [h.g]; exact stp_13 a1), if_neg (by decide)]
/-- A record in the next segment. -/
theorem KC.nxt {c : Ch} {k : Dk} {all : List (List Int)} (h : KC c k all all.length) (hl : c.loose = false) (h0 : 0 < c.size) (ha : all.length < 120) (safe : Nat) (hsf : safe ≤ all.length) (r : List Int) (hr : r.length ≤ 200) (hb : Bd r) :
    ∃ en c' dn' k', putS (max c.cnt 1 + 1) 0 c (formL r) false k = (en, c', dn', k') ∧ k'.steps ≤ k.steps + 1 ∧ ((en = 0 ∧ dn' = false ∧ KC c' k' (all ++ [r]) safe) ∨ (en = 13 ∧ KF k' (all ++ [r]) safe)) := by
  have hfl := formL_len r
  have hus := h.us
  have hro := h.room
  have hal : (all ++ [r]).length = all.length + 1 := by simp
  rcases h.ex with ⟨e1, e2, e3, e4, e5, e6⟩ | ⟨T, s, z, e1, e2, e3, e4, e5, e6, e7⟩
  · omega
  · have hfew := e6.few
    obtain ⟨en, k', a1, a2, a3, a4, a5, a6⟩ := e6.app h.on (T.length + 1) (by omega) (by omega) (formL r) (formL_bd hb) (by omega)
    have hlT : (T ++ [s]).length = T.length + 1 := by simp
    have a3' : Sh k' ((T ++ [s]).length + 1) (KB (T ++ [s]) (forms [r])) (KZ (T ++ [s]) 0) := by
      rw [hlT]
      rw [show max (T.length + 1) (T.length + 1 + 1) = T.length + 1 + 1 from by omega] at a3
      refine a3.congr (fun j hj => ?_)
      unfold KB KZ
      rw [hlT]
      by_cases e : j = T.length + 1
      · rw [if_pos e, if_pos e, if_neg (show ¬ (T.length + 1 < T.length + 1) by omega), if_neg (show ¬ (T.length + 1 < T.length + 1) by omega), if_neg (show ¬ (j < T.length + 1) by omega), if_neg (show ¬ (j < T.length + 1) by omega)]
        refine ⟨?_, rfl⟩
        show formL r = formL r ++ []
        rw [List.append_nil]
      · rw [if_neg e, if_neg e]
        by_cases e2 : j < T.length
        · rw [if_pos e2, if_pos e2, if_pos (show j < T.length + 1 by omega), if_pos (show j < T.length + 1 by omega), getD_snoc, if_pos e2]
          exact ⟨rfl, rfl⟩
        · rw [if_neg e2, if_neg e2, if_pos (show j < T.length + 1 by omega), if_pos (show j < T.length + 1 by omega), getD_snoc, if_neg e2, if_pos (show j = T.length by omega), e3 hl]
          exact ⟨rfl, rfl⟩
    have hmx : max c.cnt 1 + 1 = T.length + 1 + 1 := by omega
    have hap : (T ++ [s]).flatten ++ [r] = all ++ [r] := by rw [List.flatten_append, List.flatten_singleton, e4]
    have hsf' : safe ≤ (T ++ [s]).flatten.length + wholeN [r] 0 := by rw [List.flatten_append, List.flatten_singleton, e4]; omega
    rcases a2 with ⟨rfl, a2⟩ | ⟨rfl, a2⟩
    · refine ⟨0, ⟨c.g, T.length + 1 + 1, 0 + (formL r).length, true⟩, false, k', ?_, a5, Or.inl ⟨rfl, rfl, ⟨h.g, a2, by omega, by rw [a4]; exact hro, rl_snoc h.rl hr, Or.inr ⟨T ++ [s], [r], 0, by rw [hlT], ?_, (fun e => by cases e), hap, hsf', a3', by rw [hlT]; omega⟩⟩⟩⟩
      · rw [hmx, putS_eq (en := 0) (dn' := false) (k' := k') (by rw [h.g]; exact stp_ok a1), if_pos rfl]
      · show 0 + (formL r).length = (formL r ++ []).length
        rw [List.append_nil, Nat.zero_add]
    · refine ⟨13, c, true, k', ?_, a5, Or.inr ⟨rfl, ⟨by omega, rl_snoc h.rl hr, Or.inr ⟨T ++ [s], [r], (forms [r]).length, 0, by rw [List.take_length]; exact a3', by rw [hap]; exact List.prefix_refl _, hsf'⟩⟩⟩⟩
      rw [hmx, putS_eq (en := 13) (dn' := true) (k' := k') (by rw [h.g]; exact stp_13 a1), if_neg (by decide)]
theorem KC.safe_le {c : Ch} {k : Dk} {all : List (List Int)} {safe : Nat} (h : KC c k all safe) : safe ≤ all.length := by
  rcases h.ex with ⟨_, _, _, e4, e5, _⟩ | ⟨T, s, z, _, _, _, e4, e5, _, _⟩
  · omega
  · have := wholeN_le s z
    rw [← e4, List.length_append]
    omega
theorem KC.lay {c : Ch} {k : Dk} {all : List (List Int)} {safe : Nat} (h : KC c k all safe) (ha : all.length < 120) (r : List Int) (hr : r.length ≤ 200) (hb : Bd r) :
    ∃ en c' dn' k', layL 64 c (formL r) false k = (en, c', dn', k') ∧ k'.steps ≤ k.steps + 2 ∧ ((en = 0 ∧ dn' = false ∧ KC c' k' (all ++ [r]) safe) ∨ (en = 13 ∧ KF k' (all ++ [r]) safe)) := by
  by_cases hm : 0 < c.size ∧ 64 < c.size + (formL r).length
  · obtain ⟨en, c1, dn1, k1, s1, s2, s3⟩ := h.settle (by omega)
    rcases s3 with ⟨rfl, rfl, s3, s4, s5, s6⟩ | ⟨rfl, s3⟩
    · obtain ⟨en, c2, dn2, k2, p1, p2, p3⟩ := s3.nxt s4 (by omega) ha safe h.safe_le r hr hb
      refine ⟨en, c2, dn2, k2, ?_, by omega, p3⟩
      unfold layL
      rw [if_pos hm, s1]
      dsimp only
      rw [if_neg (by simp), ← s5]
      exact p1
    · refine ⟨13, c1, dn1, k1, ?_, by omega, Or.inr ⟨rfl, s3.weak (List.prefix_append _ _) (Nat.le_refl _) (rl_snoc h.rl hr)⟩⟩
      unfold layL
      rw [if_pos hm, s1]
      dsimp only
      rw [if_pos (by simp)]
  · obtain ⟨en, c2, dn2, k2, p1, p2, p3⟩ := h.put ha r hr hb
    refine ⟨en, c2, dn2, k2, ?_, by omega, p3⟩
    unfold layL
    rw [if_neg hm]
    exact p1
/-- A log that is written on. -/
structure KI (l : Lg) (k : Dk) (all : List (List Int)) (safe : Nat) : Prop where
  most : l.most = 64
  dn : l.dn = false
  re : l.recs.length ≤ all.length
  c : KC l.ch k all safe
theorem KI.app {l : Lg} {k : Dk} {all : List (List Int)} {safe : Nat} (h : KI l k all safe) (ha : all.length < 120) (r : List Int) (hr : r.length ≤ 200) (hb : Bd r) :
    (appendT l k r).2.2.steps ≤ k.steps + 2 ∧ (((appendT l k r).1 = 0 ∧ KI (appendT l k r).2.1 (appendT l k r).2.2 (all ++ [r]) safe) ∨ ((appendT l k r).1 = 13 ∧ KF (appendT l k r).2.2 (all ++ [r]) safe)) := by
  obtain ⟨en, c', dn', k', p1, p2, p3⟩ := h.c.lay ha r hr hb
  have e : appendT l k r = (en, ⟨l.most, (if en = 0 then l.recs ++ [r] else l.recs), c', dn'⟩, k') := by
    unfold appendT appendL
    rw [if_neg (by omega), h.dn, h.most, p1]
  rw [e]
  refine ⟨p2, ?_⟩
  rcases p3 with ⟨rfl, rfl, p3⟩ | ⟨rfl, p3⟩
  · refine Or.inl ⟨rfl, ⟨h.most, rfl, ?_, p3⟩⟩
    show (if (0 : Nat) = 0 then l.recs ++ [r] else l.recs).length ≤ _
    rw [if_pos rfl, List.length_append, List.length_append]
    have := h.re
    simp only [List.length_singleton]
    omega
  · exact Or.inr ⟨rfl, p3⟩
theorem KI.commit {l : Lg} {k : Dk} {all : List (List Int)} {safe : Nat} (h : KI l k all safe) (ha : all.length ≤ 120) :
    (commitL l k).2.2.steps ≤ k.steps + 1 ∧ (((commitL l k).1 = 0 ∧ KI (commitL l k).2.1 (commitL l k).2.2 all all.length) ∨ ((commitL l k).1 = 13 ∧ KF (commitL l k).2.2 all safe)) := by
  obtain ⟨en, c', dn', k', p1, p2, p3⟩ := h.c.settle ha
  have e : commitL l k = (en, ⟨l.most, l.recs, c', dn'⟩, k') := by
    unfold commitL
    rw [h.dn, p1]
  rw [e]
  refine ⟨p2, ?_⟩
  rcases p3 with ⟨rfl, rfl, p3, _⟩ | ⟨rfl, p3⟩
  · exact Or.inl ⟨rfl, ⟨h.most, rfl, h.re, p3⟩⟩
  · exact Or.inr ⟨rfl, p3⟩
theorem KI.fuse {l : Lg} {k : Dk} {all : List (List Int)} {safe : Nat} (h : KI l k all safe) (n : Nat) (hn : n ≤ 9223372036854775807) : (fuseK k (n : Int)).1 = 0 ∧ KI l (fuseK k (n : Int)).2 all safe ∧ (fuseK k (n : Int)).2.steps = k.steps := by
  have e : fuseK k (n : Int) = (0, { k with fu := some n }) := by
    unfold fuseK
    rw [if_neg (by omega), h.c.on, if_neg (by decide)]
    rfl
  have hg : ∀ k : Dk, k.Good → ({ k with fu := some n } : Dk).Good := fun k g => ⟨g.room, g.rise, g.used, g.each, fun m e => by cases e; exact hn⟩
  rw [e]
  refine ⟨rfl, ⟨h.most, h.dn, h.re, ⟨h.c.g, h.c.on, h.c.us, h.c.room, h.c.rl, ?_⟩⟩, rfl⟩
  rcases h.c.ex with ⟨e1, e2, e3, e4, e5, e6⟩ | ⟨T, s, z, e1, e2, e3, e4, e5, e6, e7⟩
  · exact Or.inl ⟨e1, e2, e3, e4, e5, e6.same rfl (hg _ e6.good)⟩
  · exact Or.inr ⟨T, s, z, e1, e2, e3, e4, e5, e6.same rfl (hg _ e6.good), e7⟩
theorem KI.new : KI (lg1 64) (newK 100000) [] 0 :=
  ⟨rfl, rfl, Nat.le_refl _, ⟨rfl, rfl, Nat.le_refl _, rfl, (fun r hr => by cases hr), Or.inl ⟨rfl, rfl, rfl, rfl, rfl, ⟨newK_good (by omega), by omega, fun j hj => by omega, fun s f hs => by cases hs⟩⟩⟩⟩
theorem KI.ok {l : Lg} {k : Dk} {all : List (List Int)} {safe : Nat} (h : KI l k all safe) (ha : all.length ≤ 120) : l.Ok ∧ k.fs.length ≤ 120 := by
  have hre := h.re
  have hmo := h.most
  have hg := h.c.g
  rcases h.c.ex with ⟨e1, e2, e3, e4, e5, e6⟩ | ⟨T, s, z, e1, e2, e3, e4, e5, e6, e7⟩
  · exact ⟨⟨by omega, by omega, by omega, by omega, by omega⟩, by have := e6.len; omega⟩
  · have hs : (forms s).length ≤ 208 * s.length := by
      have hsr : ∀ r ∈ s, r.length ≤ 200 := fun r hr => h.c.rl r (by rw [← e4]; exact List.mem_append_right _ hr)
      clear e1 e2 e3 e4 e5 e6 e7
      induction s with
      | nil => exact Nat.le_refl _
      | cons r R ih =>
        have h1 := hsr r (List.mem_cons_self ..)
        have h2 := ih (fun x hx => hsr x (List.mem_cons_of_mem _ hx))
        show (formL r ++ forms R).length ≤ 208 * (R.length + 1)
        rw [List.length_append, formL_len]
        omega
    have hsl : s.length ≤ all.length := by rw [← e4, List.length_append]; omega
    exact ⟨⟨by omega, by omega, by omega, by omega, by omega⟩, by have := e6.len; omega⟩

end Go.Proofs.YtikkieaokfailaaGreatDoor

/- seglog's Rebase: the new generation's segments are laid. -/
namespace Go.Proofs.YtikkieaokfailaaGreatDoor
open Go.RowKit Go.Joins

theorem app_gr (k : Dk) (s : Nm) (xs : List Int) : (appK k s xs).2.steps ≤ k.steps + 1 ∧ (appK k s xs).2.fs.length ≤ k.fs.length + 1 := by
  unfold appK
  split
  · exact ⟨Nat.le_succ _, Nat.le_succ _⟩
  · split
    · exact ⟨Nat.le_succ _, Nat.le_succ _⟩
    · split
      · exact ⟨Nat.le_succ _, Nat.le_succ _⟩
      · unfold passK
        split
        · exact ⟨Nat.le_refl _, len_put _ _ _⟩
        · exact ⟨Nat.le_succ _, len_put _ _ _⟩
        · exact ⟨Nat.le_refl _, len_put _ _ _⟩
theorem putS_gr (i sz : Nat) (c : Ch) (b : List Int) (dn : Bool) (k : Dk) : (putS i sz c b dn k).2.2.2.steps ≤ k.steps + 1 ∧ (putS i sz c b dn k).2.2.2.fs.length ≤ k.fs.length + 1 ∧ (putS i sz c b dn k).2.1.g = c.g ∧ (putS i sz c b dn k).2.1.cnt ≤ max c.cnt i ∧ (putS i sz c b dn k).2.1.size ≤ max c.size (sz + b.length) := by
  have h1 := stp_gr dn k (appK k (segN c.g i) b) (app_gr k _ _).1
  have h2 := stp_fl dn k (appK k (segN c.g i) b) (app_gr k _ _).2
  unfold putS
  dsimp only
  refine ⟨h1, h2, ?_, ?_, ?_⟩
  · split <;> rfl
  · split
    · exact Nat.le_max_right _ _
    · exact Nat.le_max_left _ _
  · split
    · exact Nat.le_max_right _ _
    · exact Nat.le_max_left _ _
theorem settle_sz (c : Ch) (dn : Bool) (k : Dk) : (settleL c dn k).2.1.size = c.size := by
  unfold settleL
  split
  · dsimp only
    split <;> rfl
  · rfl
theorem lay_gr (most : Nat) (c : Ch) (b : List Int) (dn : Bool) (k : Dk) : (layL most c b dn k).2.2.2.steps ≤ k.steps + 2 ∧ (layL most c b dn k).2.2.2.fs.length ≤ k.fs.length + 2 ∧ (layL most c b dn k).2.1.g = c.g ∧ (layL most c b dn k).2.1.cnt ≤ max c.cnt 1 + 1 ∧ (layL most c b dn k).2.1.size ≤ c.size + b.length := by
  unfold layL
  obtain ⟨s1, s2, s3, s4⟩ := settle_gr c dn k
  have s5 := settle_sz c dn k
  split
  · split
    · exact ⟨by omega, by omega, s3, by omega, by omega⟩
    · obtain ⟨p1, p2, p3, p4, p5⟩ := putS_gr (max c.cnt 1 + 1) 0 (settleL c dn k).2.1 b (settleL c dn k).2.2.1 (settleL c dn k).2.2.2
      exact ⟨by omega, by omega, p3.trans s3, by omega, by omega⟩
  · obtain ⟨p1, p2, p3, p4, p5⟩ := putS_gr (max c.cnt 1) c.size c b dn k
    exact ⟨by omega, by omega, p3, by omega, by omega⟩
/-- All records, one behind the other; then the last segment is made to last. -/
def layAllL (most : Nat) : List (List Int) → Ch → Bool → Dk → Nat × Ch × Bool × Dk
  | [], c, dn, k => settleL c dn k
  | r :: rs, c, dn, k => if (layL most c (formL r) dn k).1 ≠ 0 then layL most c (formL r) dn k else layAllL most rs (layL most c (formL r) dn k).2.1 (layL most c (formL r) dn k).2.2.1 (layL most c (formL r) dn k).2.2.2
theorem layAll_no {most : Nat} {r : List Int} {rs : List (List Int)} {c c' : Ch} {dn dn' : Bool} {k k' : Dk} {en : Nat} (h : layL most c (formL r) dn k = (en, c', dn', k')) (h0 : en ≠ 0) : layAllL most (r :: rs) c dn k = (en, c', dn', k') := by
  unfold layAllL
  rw [h, if_pos h0]
theorem layAll_ok {most : Nat} {r : List Int} {rs : List (List Int)} {c c' : Ch} {dn dn' : Bool} {k k' : Dk} (h : layL most c (formL r) dn k = (0, c', dn', k')) : layAllL most (r :: rs) c dn k = layAllL most rs c' dn' k' := by
  conv => lhs; unfold layAllL
  rw [h, if_neg (by simp)]
theorem layAll_gr (most : Nat) : ∀ (rs : List (List Int)) (c : Ch) (dn : Bool) (k : Dk), (layAllL most rs c dn k).2.2.2.steps ≤ k.steps + 2 * rs.length + 1 ∧ (layAllL most rs c dn k).2.2.2.fs.length ≤ k.fs.length + 2 * rs.length + 1 ∧ (layAllL most rs c dn k).2.1.g = c.g ∧ (layAllL most rs c dn k).2.1.cnt ≤ max c.cnt 1 + rs.length
  | [], c, dn, k => by
    obtain ⟨s1, s2, s3, s4⟩ := settle_gr c dn k
    exact ⟨s1, s2, s3, by show (settleL c dn k).2.1.cnt ≤ max c.cnt 1 + 0; omega⟩
  | r :: rs, c, dn, k => by
    obtain ⟨l1, l2, l3, l4, _⟩ := lay_gr most c (formL r) dn k
    unfold layAllL
    split
    · exact ⟨by simp only [List.length_cons]; omega, by simp only [List.length_cons]; omega, l3, by simp only [List.length_cons]; omega⟩
    · obtain ⟨i1, i2, i3, i4⟩ := layAll_gr most rs (layL most c (formL r) dn k).2.1 (layL most c (formL r) dn k).2.2.1 (layL most c (formL r) dn k).2.2.2
      exact ⟨by simp only [List.length_cons]; omega, by simp only [List.length_cons]; omega, i3.trans l3, by simp only [List.length_cons]; omega⟩

/-- A row of rows, and its rows, lie in none of the blocks S. -/
def RNot (w : World) (a : Option Addr) (n : Nat) (S : Nat → Prop) : Prop := (∀ ad, a = some ad → ¬ S ad.block) ∧ ∀ b off, a = some ⟨b, off, none⟩ → ∀ j, j < n → ∀ aj nj cj, w.cell? ⟨b, off + j, none⟩ = some (.slice aj nj cj) → ∀ ad, aj = some ad → ¬ S ad.block
theorem RRd.keepS {w w' : World} {a : Option Addr} {n : Nat} {xs : List (List Int)} {S : Nat → Prop} (h : RRd w a n xs) (hn : RNot w a n S) (hk : Keep S w w') : RRd w' a n xs := by
  refine ⟨h.len, h.most, fun h0 => ?_⟩
  obtain ⟨b, off, rfl, hc⟩ := h.flat h0
  refine ⟨b, off, rfl, fun j hj => ?_⟩
  obtain ⟨aj, nj, cj, c1, c2⟩ := hc j hj
  exact ⟨aj, nj, cj, hk.cell c1 (show ¬ S b from hn.1 ⟨b, off, none⟩ rfl), c2.keep hk (hn.2 b off rfl j hj aj nj cj c1)⟩
theorem RNot.keep {w w' : World} {a : Option Addr} {n : Nat} {xs : List (List Int)} {S T : Nat → Prop} (h : RRd w a n xs) (hn : RNot w a n S) (hk : Keep T w w') (hT : RNot w a n T) : RNot w' a n S := by
  refine ⟨hn.1, fun b off e j hj aj nj cj hc => ?_⟩
  obtain ⟨b', off', e', hce⟩ := h.flat (by omega)
  rw [e] at e'
  injection e' with e'
  injection e' with e1 e2
  subst e1 e2
  obtain ⟨aj', nj', cj', c1, _⟩ := hce j hj
  have c1' := hk.cell c1 (show ¬ T b from hT.1 ⟨b, off, none⟩ e)
  rw [hc] at c1'
  injection c1' with c1'
  injection c1' with q1 q2 q3
  subst q1 q2 q3
  exact hn.2 b off e j hj _ _ _ c1

set_option maxHeartbeats 2000000 in
theorem layAll_any (w : World) (F : Nat → Prop) (lb d most : Nat) (v : Value) (dn : Bool) (k : Dk) (b : Nat) (c0 c : Ch) (h : LC w F lb d most v dn k b 0 c0 c) (hP : Pf w F lb) (hPb : 0 < b) (hg : c.g < 18446744073709551616) (hi : c.cnt ≤ 1000000000) (hz : c.size ≤ 1000000000) (hmo : most ≤ 1000000000)
    (a : Option Addr) (n cc : Nat) (rs : List (List Int)) (hR : RRd w a n rs) (hnS : RNot w a n (fun i => F i ∨ i = lb ∨ i = b)) (hn : n ≤ 10000) (hrl : ∀ r ∈ rs, r.length ≤ 1048576) (hst : k.steps + 2 * n < 999990) (hfl : k.fs.length + 2 * n < 999990) :
    Calls Tryz.prog 110 #[.pointer (some ⟨lb, 0, none⟩), .pointer (some ⟨b, 0, none⟩), .slice a n cc] w fun e w' => Gs (layAllL most rs c dn k).1 e ∧ Lcp w F lb d most v (layAllL most rs c dn k).2.2.1 (layAllL most rs c dn k).2.2.2 b 0 c0 (layAllL most rs c dn k).2.1 w' := by
  obtain ⟨R, HR⟩ : ∃ R, Hid (layAllL most rs c dn k = R) := ⟨_, rfl⟩
  rw [HR.out]
  obtain ⟨eR, cR, dnR, kR⟩ := R
  dsimp only
  have hnm := hR.most
  have Hn : Hid (rs.length = n) := hR.len
  have hpl := hP.pw.at
  go_enter Tryz.func110, Tryz.ntmps110
  go_upto_region 1 with fail
  go_loopw [7, 10] (fun _ s10 wr => ∃ (j : Nat) (F1 : Nat → Prop) (dn1 : Bool) (k1 : Dk) (c1 : Ch), s10 = .int .i64 j ∧ j ≤ n ∧ k1.steps + 2 * (n - j) < 999990 ∧ k1.fs.length + 2 * (n - j) < 999990 ∧ c1.cnt ≤ 1000000001 + j ∧ c1.size ≤ 1000000000 + j * 1048584 ∧ c1.g < 18446744073709551616 ∧ Hid (LC wr F1 lb d most v dn1 k1 b 0 c0 c1) ∧ Hid (Pf wr F1 lb) ∧ Hid (Keep (fun i => F i ∨ i = lb ∨ i = b) w wr) ∧ Hid (∀ i, F1 i → F i ∨ w.heap.size ≤ i) ∧ Hid (layAllL most (rs.drop j) c1 dn1 k1 = (eR, cR, dnR, kR))) (fun _ s10 _ => n - (intOf s10).toNat)
  case atStart => exact ⟨0, F, dn, k, c, rfl, by omega, by omega, by omega, by omega, by omega, hg, h, hP, Keep.refl _ _, fun i hi => Or.inl hi, HR.out⟩
  case round =>
    obtain ⟨j, F1, dn1, k1, c1, rfl, hjn, hs1, hf1, hc1, hz1, hg1, HL, HP, HK, HF, HQ⟩ := hrel
    have hws := HK.out.size
    by_cases hlt : j < n
    · have hcl : (j : Int) < (n : Int) := by omega
      have hRr := hR.keepS hnS HK.out
      obtain ⟨bb, off, rfl, hce⟩ := hRr.flat (by omega)
      obtain ⟨aj, nj, cj, hcj, hrj⟩ := hce j hlt
      clear hce hRr
      obtain ⟨r, hr⟩ : ∃ r, rs[j]? = some r := ⟨_, List.getElem?_eq_getElem (by rw [Hn.out]; exact hlt)⟩
      have hrd : rs.getD j [] = r := by rw [List.getD_eq_getElem?_getD, hr]; rfl
      rw [hrd] at hrj
      have hrm := hrl r (List.mem_of_getElem? hr)
      have hdr : rs.drop j = r :: rs.drop (j + 1) := by
        rw [List.drop_eq_getElem_cons (by rw [Hn.out]; exact hlt)]
        congr 1
        rw [List.getElem?_eq_getElem (by rw [Hn.out]; exact hlt)] at hr
        exact Option.some.inj hr
      have HQn : Hid (layAllL most (r :: rs.drop (j + 1)) c1 dn1 k1 = (eR, cR, dnR, kR)) := by
        have h9 := HQ.out
        rw [hdr] at h9
        exact h9
      have hla := lay_any wr F1 lb d most v dn1 k1 b 0 c0 c1 HL.out HP.out hPb hg1 (by omega) (by omega) (by omega) (by omega) (by omega) aj nj cj r hrj (by rw [← hrj.len]; exact hrm)
      obtain ⟨g1, g2, g3, g4, g5⟩ := lay_gr most c1 (formL r) dn1 k1
      have hfln := formL_len r
      obtain ⟨P, HP2⟩ : ∃ P, Hid (layL most c1 (formL r) dn1 k1 = P) := ⟨_, rfl⟩
      rw [HP2.out] at hla g1 g2 g3 g4 g5
      obtain ⟨en, c2, dn2, k2⟩ := P
      dsimp only at hla g1 g2 g3 g4 g5
      clear HQ hr hrd hdr
      by_cases h0 : en = 0
      · subst h0
        have HQ2 : Hid (layAllL most (rs.drop (j + 1)) c2 dn2 k2 = (eR, cR, dnR, kR)) := by
          show _ = _
          rw [← layAll_ok HP2.out]
          exact HQn.out
        clear HQn
        go_wp2_with (first
          | (go_at_call 65; refine (hla.mono (fun e w' h => And.intro (h.1.elim (fun k => k.2) (fun k => absurd rfl k.1)) h.2 : ∀ e w', _ → (e = .returned (.tuple #[]) ∧ _))).mono ?_; rintro e w6 ⟨rfl, hp⟩))
        obtain ⟨F2, hL2, hk2, hF2⟩ := hp
        have hkall : Keep (fun i => F i ∨ i = lb ∨ i = b) w w6 := HK.out.andThen hk2 (fun q hq hs => by
          rcases hs with hs | hs
          · rcases HF.out q hs with h9 | h9
            · exact Or.inl h9
            · omega
          · exact Or.inr hs)
        exact ⟨⟨j + 1, F2, dn2, k2, c2, by go_num, by omega, by omega, by omega, by omega, by omega, by omega, hL2, HP.out.next3 hPb hk2 hF2, hkall, fun q hq => (hF2 q hq).elim (HF.out q) (fun h9 => Or.inr (Nat.le_trans hws h9)), HQ2.out⟩, by simp [intOf]; omega⟩
      · have hres := HQn.out.symm.trans (layAll_no HP2.out h0)
        simp only [Prod.mk.injEq] at hres
        obtain ⟨e1, e2, e3, e4⟩ := hres
        subst eR cR dnR kR
        clear HQn
        go_wp2_with (first
          | (go_at_call 65; refine (hla.mono (fun e w' h => And.intro (h.1.elim (fun k => absurd k.1 h0) (fun k => k.2)) h.2 : ∀ e w', _ → (e = .panicked (gaveS en) ∧ _))).mono ?_; rintro e w6 ⟨rfl, hp⟩))
        exact ⟨rfl, gs_no h0 rfl, Lcp.next HK.out HF.out hp⟩
    · have hcl : ¬ (j : Int) < (n : Int) := by omega
      have hQ := HQ.out
      rw [List.drop_eq_nil_of_le (by rw [Hn.out]; omega)] at hQ
      have HQ2 : Hid (settleL c1 dn1 k1 = (eR, cR, dnR, kR)) := hQ
      have hse := settle_any wr F1 lb d most v dn1 k1 b 0 c0 c1 HL.out HP.out hg1 (by omega) (by omega) (by omega)
      rw [HQ2.out] at hse
      dsimp only at hse
      clear hQ HQ
      by_cases h0 : eR = 0
      · subst h0
        go_wp2_with (first
          | (go_at_call 68; refine (hse.mono (fun e w' h => And.intro (h.1.elim (fun k => k.2) (fun k => absurd rfl k.1)) h.2 : ∀ e w', _ → (e = .returned (.tuple #[]) ∧ _))).mono ?_; rintro e w6 ⟨rfl, hp⟩))
        go_end0
        exact ⟨Or.inl ⟨rfl, rfl⟩, Lcp.next HK.out HF.out hp⟩
      · go_wp2_with (first
          | (go_at_call 68; refine (hse.mono (fun e w' h => And.intro (h.1.elim (fun k => absurd k.1 h0) (fun k => k.2)) h.2 : ∀ e w', _ → (e = .panicked (gaveS eR) ∧ _))).mono ?_; rintro e w6 ⟨rfl, hp⟩))
        exact ⟨rfl, gs_no h0 rfl, Lcp.next HK.out HF.out hp⟩

end Go.Proofs.YtikkieaokfailaaGreatDoor

/- LogSwitch, its plain part: one generation's segments beside other files, with power that fails. -/
namespace Go.Proofs.YtikkieaokfailaaGreatDoor
open Go.RowKit Go.Joins

theorem split_sep {x : UInt8} : ∀ (a c b d : List UInt8), a ++ x :: b = c ++ x :: d → x ∉ a → x ∉ c → a = c ∧ b = d
  | [], [], b, d, h, _, _ => ⟨rfl, by simpa using h⟩
  | [], y :: c, b, d, h, _, hc => by
    simp only [List.nil_append, List.cons_append, List.cons.injEq] at h
    exact absurd (by rw [h.1]; exact List.mem_cons_self ..) hc
  | y :: a, [], b, d, h, ha, _ => by
    simp only [List.nil_append, List.cons_append, List.cons.injEq] at h
    exact absurd (by rw [← h.1]; exact List.mem_cons_self ..) ha
  | y :: a, z :: c, b, d, h, ha, hc => by
    simp only [List.cons_append, List.cons.injEq] at h
    obtain ⟨h1, h2⟩ := split_sep a c b d h.2 (fun hm => ha (List.mem_cons_of_mem _ hm)) (fun hm => hc (List.mem_cons_of_mem _ hm))
    exact ⟨by rw [h.1, h1], h2⟩
theorem dec_no45 : ∀ (k n : Nat), n ≤ k → (45 : UInt8) ∉ Lib.decDigits n
  | k, n, h => by
    have hd : ∀ d : Nat, d < 10 → (45 : UInt8) ≠ UInt8.ofNat (48 + d) := fun d hd e => by
      have := congrArg UInt8.toNat e
      rw [UInt8.toNat_ofNat'] at this
      have h45 : (45 : UInt8).toNat = 45 := rfl
      omega
    by_cases h1 : n < 10
    · rw [Lib.decDigits_one h1]
      intro hm
      exact hd n h1 (List.mem_singleton.1 hm)
    · match k, h with
      | 0, h => omega
      | k + 1, h =>
        rw [decDigits_moreL h1]
        intro hm
        rcases List.mem_append.1 hm with hm | hm
        · exact dec_no45 k (n / 10) (by omega) hm
        · exact hd (n % 10) (by omega) (List.mem_singleton.1 hm)
theorem segN_inj2 {g h i j : Nat} (e : segN g i = segN h j) : g = h ∧ i = j := by
  have h1 := congrArg (fun s : Nm => s.data.toList) e
  unfold segN at h1
  simp only [List.append_assoc] at h1
  have h2 := List.append_cancel_left h1
  simp only [List.cons_append, List.nil_append] at h2
  obtain ⟨h3, h4⟩ := split_sep _ _ _ _ h2 (dec_no45 g g (Nat.le_refl _)) (dec_no45 h h (Nat.le_refl _))
  exact ⟨dec_inj h3, dec_inj h4⟩
theorem new_ne (g i : Nat) : sNew ≠ segN g i := fun e => by
  have h := congrArg (fun s : Nm => s.data.toList.head?) e
  have h1 : sNew.data.toList.head? = some 98 := rfl
  have h2 : (segN g i).data.toList.head? = some 108 := rfl
  have h3 : sNew.data.toList.head? = (segN g i).data.toList.head? := h
  rw [h1, h2] at h3
  cases h3

/-- The disk has the segments 1 to n of generation g, and besides the files O. -/
structure ShG (g : Nat) (O : Nm → Option Fle) (k : Dk) (n : Nat) (B : Nat → List Int) (Z : Nat → Nat) : Prop where
  good : k.Good
  few : n ≤ 1000
  yes : ∀ j, j < n → look k.fs (segN g (j + 1)) = some ⟨B j, Z j⟩
  gap : ∀ j, n ≤ j → look k.fs (segN g (j + 1)) = none
  rest : ∀ s, (∀ j, s ≠ segN g (j + 1)) → look k.fs s = O s
section
variable {g : Nat} {O : Nm → Option Fle} {k : Dk} {n : Nat} {B : Nat → List Int} {Z : Nat → Nat}
theorem ShG.congr {B' : Nat → List Int} {Z' : Nat → Nat} (h : ShG g O k n B Z) (e : ∀ j, j < n → B j = B' j ∧ Z j = Z' j) : ShG g O k n B' Z' :=
  ⟨h.good, h.few, fun j hj => by rw [← (e j hj).1, ← (e j hj).2]; exact h.yes j hj, h.gap, h.rest⟩
theorem ShG.same {k' : Dk} (h : ShG g O k n B Z) (e : k'.fs = k.fs) (hg : k'.Good) : ShG g O k' n B Z :=
  ⟨hg, h.few, fun j hj => by rw [e]; exact h.yes j hj, fun j hj => by rw [e]; exact h.gap j hj, fun s hs => by rw [e]; exact h.rest s hs⟩
theorem ShG.put {k' : Dk} (h : ShG g O k n B Z) (j : Nat) (hj : j ≤ n) (hj9 : j < 1000) (f : Fle) (hfs : k'.fs = putL k.fs (segN g (j + 1)) f) (hg : k'.Good) {m : Nat} (hm : m = max n (j + 1)) {B' : Nat → List Int} {Z' : Nat → Nat} (hB : ∀ i, i < m → B' i = if i = j then f.b else B i) (hZ : ∀ i, i < m → Z' i = if i = j then f.safe else Z i) : ShG g O k' m B' Z' := by
  refine ⟨hg, by have := h.few; omega, fun i hi => ?_, fun i hi => ?_, fun s hs => ?_⟩
  · rw [hfs, look_put _ h.good.rise, hB i hi, hZ i hi]
    by_cases e : i = j
    · subst e
      rw [if_pos rfl, if_pos rfl, if_pos rfl]
    · rw [if_neg (fun e4 => e (by have := segN_inj e4; omega)), if_neg e, if_neg e]
      exact h.yes i (by omega)
  · rw [hfs, look_put _ h.good.rise, if_neg (fun e4 => by have := segN_inj e4; omega)]
    exact h.gap i (by omega)
  · rw [hfs, look_put _ h.good.rise, if_neg (hs j)]
    exact h.rest s hs
theorem ShG.nm (hg : g < 18446744073709551616) (j : Nat) (h : j ≤ 1000) : isNm (segN g (j + 1)) = true := isNm_seg g (j + 1) hg (by omega)
/-- A segment is synced. -/
theorem ShG.sync (h : ShG g O k n B Z) (hg : g < 18446744073709551616) (on : k.off = false) (j : Nat) (hj : j < n) :
    ∃ k', ((syncK k (segN g (j + 1)) = (0, k') ∧ k'.off = false ∧ ShG g O k' n B (fun i => if i = j then (B j).length else Z i)) ∨ (syncK k (segN g (j + 1)) = (13, k') ∧ k.fu ≠ none ∧ ShG g O k' n B Z)) ∧ k'.room = k.room ∧ k'.steps ≤ k.steps + 1 ∧ used k'.fs ≤ used k.fs := by
  have hy := h.yes j hj
  have hnm := ShG.nm hg j (by have := h.few; omega)
  obtain ⟨_, _, g3⟩ := look_good h.good hy
  obtain ⟨k', hc, hg', hr, hs, hu, hn⟩ := step_or h.good on (segN g (j + 1)) hnm ⟨B j, Z j⟩ hy (fun _ => 0) rfl ⟨B j, (B j).length⟩ (Nat.le_refl _) g3 (Nat.le_refl _)
  have he : syncK k (segN g (j + 1)) = stepK k (segN g (j + 1)) (fun _ => 0) (fun k _ => { k with fs := putL k.fs (segN g (j + 1)) ⟨B j, (B j).length⟩ }) := by
    unfold syncK stepK
    rw [hy]
  rw [he]
  refine ⟨k', ?_, hr, hs, hu⟩
  rcases hc with ⟨e1, e2, e3⟩ | ⟨e1, e2, e3⟩
  · exact Or.inl ⟨e1, e2, h.put j (by omega) (by have := h.few; omega) _ e3 hg' (by omega) (fun i _ => by split <;> simp_all) (fun i _ => rfl)⟩
  · exact Or.inr ⟨e1, e2, h.same e3 hg'⟩
/-- Bytes are appended to a segment, or to the next one; where the power fails they are there, and not safe. -/
theorem ShG.app (h : ShG g O k n B Z) (hg : g < 18446744073709551616) (on : k.off = false) (j : Nat) (hj : j ≤ n) (hj9 : j < 1000) (ys : List Int) (hb : Bd ys) (hro : ys.length + used k.fs ≤ k.room) :
    ∃ en k', appK k (segN g (j + 1)) ys = (en, k') ∧ ((en = 0 ∧ k'.off = false) ∨ (en = 13 ∧ k.fu ≠ none)) ∧ ShG g O k' (max n (j + 1)) (fun i => if i = j then (if j < n then B j ++ ys else ys) else B i) (fun i => if i = j then (if j < n then Z j else 0) else Z i) ∧ k'.room = k.room ∧ k'.steps ≤ k.steps + 1 ∧ used k'.fs = used k.fs + ys.length := by
  have hnm := ShG.nm hg j (by omega)
  obtain ⟨o, ho⟩ : ∃ o, look k.fs (segN g (j + 1)) = o := ⟨_, rfl⟩
  have hob : o = if j < n then some ⟨B j, Z j⟩ else none := by
    rw [← ho]
    by_cases hjn : j < n
    · rw [if_pos hjn]; exact h.yes j hjn
    · rw [if_neg hjn]; exact h.gap j (by omega)
  have hbo : (o.map Fle.b).getD [] ++ ys = (if j < n then B j ++ ys else ys) ∧ (o.map Fle.safe).getD 0 = (if j < n then Z j else 0) ∧ lenO o + ys.length = ((o.map Fle.b).getD [] ++ ys).length := by
    rw [hob]
    split
    · exact ⟨rfl, rfl, by show (B j).length + ys.length = (B j ++ ys).length; rw [List.length_append]⟩
    · exact ⟨rfl, rfl, by show 0 + ys.length = ([] ++ ys).length; simp⟩
  have hup := used_put k.fs h.good.rise (segN g (j + 1)) ⟨(o.map Fle.b).getD [] ++ ys, (o.map Fle.safe).getD 0⟩
  rw [ho] at hup
  have e2 : (⟨(o.map Fle.b).getD [] ++ ys, (o.map Fle.safe).getD 0⟩ : Fle).b.length = ((o.map Fle.b).getD [] ++ ys).length := rfl
  rw [e2] at hup
  have hsb : (o.map Fle.safe).getD 0 ≤ ((o.map Fle.b).getD [] ++ ys).length ∧ Bd ((o.map Fle.b).getD [] ++ ys) := by
    cases o with
    | none => exact ⟨Nat.zero_le _, hb⟩
    | some f =>
      obtain ⟨g1, g2, g3⟩ := look_good h.good ho
      exact ⟨by show f.safe ≤ (f.b ++ ys).length; rw [List.length_append]; omega, g3.append hb⟩
  have hgp := good_put h.good hnm (f := ⟨(o.map Fle.b).getD [] ++ ys, (o.map Fle.safe).getD 0⟩) hsb.1 hsb.2 (by omega)
  obtain ⟨k2, hk2⟩ : ∃ k2 : Dk, ({ k with fs := putL k.fs (segN g (j + 1)) ⟨(o.map Fle.b).getD [] ++ ys, (o.map Fle.safe).getD 0⟩ } : Dk) = k2 := ⟨_, rfl⟩
  rw [hk2] at hgp
  have hgg := good_pass hgp
  have hf2 : k2.fs = putL k.fs (segN g (j + 1)) ⟨(o.map Fle.b).getD [] ++ ys, (o.map Fle.safe).getD 0⟩ := by rw [← hk2]
  have ho2 : k2.off = k.off := by rw [← hk2]
  have hr2 : k2.room = k.room := by rw [← hk2]
  have hs2 : k2.steps = k.steps := by rw [← hk2]
  have hu2 : k2.fu = k.fu := by rw [← hk2]
  have hap : appK k (segN g (j + 1)) ys = passK k2 := by
    unfold appK
    rw [on, if_neg (by decide), if_neg (by rw [hnm]; decide), if_neg (not_not_intro hro), ho, ← hk2, on]
  obtain ⟨k1, hp, hf, hr, hs, hn⟩ := pass_or k2
  have hsh : k1.Good → ShG g O k1 (max n (j + 1)) (fun i => if i = j then (if j < n then B j ++ ys else ys) else B i) (fun i => if i = j then (if j < n then Z j else 0) else Z i) := fun hg =>
    h.put j hj hj9 ⟨(o.map Fle.b).getD [] ++ ys, (o.map Fle.safe).getD 0⟩ (hf.trans hf2) hg rfl (fun i _ => by dsimp only; rw [hbo.1]) (fun i _ => by dsimp only; rw [hbo.2.1])
  rw [hap]
  rcases hp with ⟨hp, hoo⟩ | ⟨hp, hfu⟩
  · rw [hp] at hgg
    exact ⟨0, k1, hp, Or.inl ⟨rfl, by rw [hoo, ho2, on]⟩, hsh hgg, hr.trans hr2, by omega, by rw [hf, hf2]; omega⟩
  · rw [hp] at hgg
    exact ⟨13, k1, hp, Or.inr ⟨rfl, by rw [← hu2]; exact hfu⟩, hsh hgg, hr.trans hr2, by omega, by rw [hf, hf2]; omega⟩
end

/-- A chain of segments that is written on, beside the files O; so many bytes are used besides. -/
structure KG (g : Nat) (O : Nm → Option Fle) (m u : Nat) (c : Ch) (k : Dk) (all : List (List Int)) : Prop where
  cg : c.g = g
  on : k.off = false
  us : used k.fs ≤ u + 208 * all.length
  room : u + 208 * m ≤ k.room
  ex : (c.cnt = 0 ∧ c.size = 0 ∧ c.loose = false ∧ all = [] ∧ ShG g O k 0 (fun _ => []) (fun _ => 0)) ∨ ∃ T s z, c.cnt = T.length + 1 ∧ c.size = (forms s).length ∧ (c.loose = false → z = (forms s).length) ∧ T.flatten ++ s = all ∧ ShG g O k (T.length + 1) (KB T (forms s)) (KZ T z) ∧ T.length + 1 ≤ all.length
/-- What is left where the power failed: the other files. -/
structure KO (g : Nat) (O : Nm → Option Fle) (k : Dk) : Prop where
  good : k.Good
  rest : ∀ s, (∀ j, s ≠ segN g (j + 1)) → look k.fs s = O s
section
variable {g : Nat} {O : Nm → Option Fle} {m u : Nat} {c : Ch} {k : Dk} {all : List (List Int)}
theorem KG.settle (h : KG g O m u c k all) (hg : g < 18446744073709551616) :
    ∃ en c' dn' k', settleL c false k = (en, c', dn', k') ∧ ((en = 0 ∧ dn' = false ∧ KG g O m u c' k' all ∧ c'.loose = false ∧ c'.cnt = c.cnt ∧ c'.size = c.size) ∨ (en = 13 ∧ k.fu ≠ none ∧ KO g O k')) := by
  cases hl : c.loose with
  | false =>
    refine ⟨0, c, false, k, ?_, Or.inl ⟨rfl, rfl, h, hl, rfl, rfl⟩⟩
    unfold settleL
    rw [hl, if_neg (by decide)]
  | true =>
    rcases h.ex with ⟨_, _, e3, _⟩ | ⟨T, s, z, e1, e2, e3, e4, e6, e7⟩
    · rw [hl] at e3; cases e3
    obtain ⟨k', hc, hr, hs, hu⟩ := e6.sync hg h.on T.length (by omega)
    have hB : KB T (forms s) T.length = forms s := if_neg (by omega)
    have heq : settleL c false k = ((stp false k (syncK k (segN g (T.length + 1)))).1, (if (stp false k (syncK k (segN g (T.length + 1)))).1 = 0 then { c with loose := false } else c), (stp false k (syncK k (segN g (T.length + 1)))).2) := by
      unfold settleL
      rw [hl, if_pos rfl, h.cg, e1]
    rcases hc with ⟨c1, c2, c3⟩ | ⟨c1, c2, c3⟩
    · rw [stp_ok c1] at heq
      refine ⟨0, { c with loose := false }, false, k', heq, Or.inl ⟨rfl, rfl, ⟨h.cg, c2, by have := h.us; omega, by rw [hr]; exact h.room, Or.inr ⟨T, s, (forms s).length, e1, e2, fun _ => rfl, e4, ?_, e7⟩⟩, rfl, rfl, rfl⟩⟩
      refine c3.congr (fun j hj => ⟨rfl, ?_⟩)
      rw [hB]
      unfold KZ
      by_cases e : j = T.length
      · rw [if_pos e, if_neg (by omega)]
      · rw [if_neg e, if_pos (by omega), if_pos (by omega)]
    · rw [stp_13 c1] at heq
      exact ⟨13, c, true, k', heq, Or.inr ⟨rfl, c2, ⟨c3.good, c3.rest⟩⟩⟩
theorem KG.put (h : KG g O m u c k all) (hg : g < 18446744073709551616) (ha : all.length < m) (r : List Int) (hr : r.length ≤ 200) (hb : Bd r) :
    ∃ en c' dn' k', putS (max c.cnt 1) c.size c (formL r) false k = (en, c', dn', k') ∧ ((en = 0 ∧ dn' = false ∧ KG g O m u c' k' (all ++ [r])) ∨ (en = 13 ∧ k.fu ≠ none ∧ KO g O k')) := by
  have hfl := formL_len r
  have hus := h.us
  have hro := h.room
  have hal : (all ++ [r]).length = all.length + 1 := by simp
  rcases h.ex with ⟨e1, e2, e3, e4, e6⟩ | ⟨T, s, z, e1, e2, e3, e4, e6, e7⟩
  · obtain ⟨en, k', a1, a2, a3, a4, a5, a6⟩ := e6.app hg h.on 0 (by omega) (by omega) (formL r) (formL_bd hb) (by omega)
    have a3' : ShG g O k' (([] : List (List (List Int))).length + 1) (KB [] (forms [r])) (KZ [] 0) := a3.congr (B' := KB [] (forms [r])) (Z' := KZ [] 0) (fun j hj => by
      obtain rfl : j = 0 := by omega
      refine ⟨?_, rfl⟩
      show formL r = formL r ++ []
      rw [List.append_nil])
    rcases a2 with ⟨rfl, a2⟩ | ⟨rfl, a2⟩
    · refine ⟨0, ⟨c.g, 1, c.size + (formL r).length, true⟩, false, k', ?_, Or.inl ⟨rfl, rfl, ⟨h.cg, a2, by omega, by rw [a4]; exact hro, Or.inr ⟨[], [r], 0, rfl, ?_, (fun e => by cases e), by rw [e4]; rfl, a3', by rw [hal]; exact Nat.le_add_left _ _⟩⟩⟩⟩
      · rw [e1, show max 0 1 = 1 from rfl, putS_eq (en := 0) (dn' := false) (k' := k') (by rw [h.cg]; exact stp_ok a1), if_pos rfl]
      · show c.size + (formL r).length = (formL r ++ []).length
        rw [e2, List.append_nil, Nat.zero_add]
    · refine ⟨13, c, true, k', ?_, Or.inr ⟨rfl, a2, ⟨a3.good, a3.rest⟩⟩⟩
      rw [e1, show max 0 1 = 1 from rfl, putS_eq (en := 13) (dn' := true) (k' := k') (by rw [h.cg]; exact stp_13 a1), if_neg (by decide)]
  · have hfew := e6.few
    obtain ⟨en, k', a1, a2, a3, a4, a5, a6⟩ := e6.app hg h.on T.length (by omega) (by omega) (formL r) (formL_bd hb) (by omega)
    have hB : KB T (forms s) T.length = forms s := if_neg (by omega)
    have hZ : KZ T z T.length = z := if_neg (by omega)
    have a3' : ShG g O k' (T.length + 1) (KB T (forms (s ++ [r]))) (KZ T z) := by
      rw [show max (T.length + 1) (T.length + 1) = T.length + 1 from by omega] at a3
      refine a3.congr (fun j hj => ?_)
      rw [hB, hZ]
      by_cases e : j = T.length
      · rw [if_pos e, if_pos e, if_pos (by omega), if_pos (by omega)]
        unfold KB KZ
        rw [if_neg (by omega), if_neg (by omega), forms_snoc]
        exact ⟨rfl, rfl⟩
      · rw [if_neg e, if_neg e]
        unfold KB KZ
        rw [if_pos (by omega), if_pos (by omega)]
        exact ⟨rfl, rfl⟩
    have hmx : max c.cnt 1 = T.length + 1 := by omega
    have hap : T.flatten ++ (s ++ [r]) = all ++ [r] := by rw [← List.append_assoc, e4]
    rcases a2 with ⟨rfl, a2⟩ | ⟨rfl, a2⟩
    · refine ⟨0, ⟨c.g, T.length + 1, c.size + (formL r).length, true⟩, false, k', ?_, Or.inl ⟨rfl, rfl, ⟨h.cg, a2, by omega, by rw [a4]; exact hro, Or.inr ⟨T, s ++ [r], z, rfl, ?_, (fun e => by cases e), hap, a3', by omega⟩⟩⟩⟩
      · rw [hmx, putS_eq (en := 0) (dn' := false) (k' := k') (by rw [h.cg]; exact stp_ok a1), if_pos rfl]
      · show c.size + (formL r).length = _
        rw [forms_snoc, List.length_append, e2]
    · refine ⟨13, c, true, k', ?_, Or.inr ⟨rfl, a2, ⟨a3.good, a3.rest⟩⟩⟩
      rw [hmx, putS_eq (en := 13) (dn' := true) (k' := k') (by rw [h.cg]; exact stp_13 a1), if_neg (by decide)]
theorem KG.nxt (h : KG g O m u c k all) (hg : g < 18446744073709551616) (hl : c.loose = false) (h0 : 0 < c.size) (ha : all.length < m) (hm : m ≤ 900) (r : List Int) (hr : r.length ≤ 200) (hb : Bd r) :
    ∃ en c' dn' k', putS (max c.cnt 1 + 1) 0 c (formL r) false k = (en, c', dn', k') ∧ ((en = 0 ∧ dn' = false ∧ KG g O m u c' k' (all ++ [r])) ∨ (en = 13 ∧ k.fu ≠ none ∧ KO g O k')) := by
  have hfl := formL_len r
  have hus := h.us
  have hro := h.room
  have hal : (all ++ [r]).length = all.length + 1 := by simp
  rcases h.ex with ⟨e1, e2, e3, e4, e6⟩ | ⟨T, s, z, e1, e2, e3, e4, e6, e7⟩
  · omega
  · have hfew := e6.few
    obtain ⟨en, k', a1, a2, a3, a4, a5, a6⟩ := e6.app hg h.on (T.length + 1) (by omega) (by omega) (formL r) (formL_bd hb) (by omega)
    have hlT : (T ++ [s]).length = T.length + 1 := by simp
    have a3' : ShG g O k' ((T ++ [s]).length + 1) (KB (T ++ [s]) (forms [r])) (KZ (T ++ [s]) 0) := by
      rw [hlT]
      rw [show max (T.length + 1) (T.length + 1 + 1) = T.length + 1 + 1 from by omega] at a3
      refine a3.congr (fun j hj => ?_)
      unfold KB KZ
      rw [hlT]
      by_cases e : j = T.length + 1
      · rw [if_pos e, if_pos e, if_neg (show ¬ (T.length + 1 < T.length + 1) by omega), if_neg (show ¬ (T.length + 1 < T.length + 1) by omega), if_neg (show ¬ (j < T.length + 1) by omega), if_neg (show ¬ (j < T.length + 1) by omega)]
        refine ⟨?_, rfl⟩
        show formL r = formL r ++ []
        rw [List.append_nil]
      · rw [if_neg e, if_neg e]
        by_cases e2 : j < T.length
        · rw [if_pos e2, if_pos e2, if_pos (show j < T.length + 1 by omega), if_pos (show j < T.length + 1 by omega), getD_snoc, if_pos e2]
          exact ⟨rfl, rfl⟩
        · rw [if_neg e2, if_neg e2, if_pos (show j < T.length + 1 by omega), if_pos (show j < T.length + 1 by omega), getD_snoc, if_neg e2, if_pos (show j = T.length by omega), e3 hl]
          exact ⟨rfl, rfl⟩
    have hmx : max c.cnt 1 + 1 = T.length + 1 + 1 := by omega
    have hap : (T ++ [s]).flatten ++ [r] = all ++ [r] := by rw [List.flatten_append, List.flatten_singleton, e4]
    rcases a2 with ⟨rfl, a2⟩ | ⟨rfl, a2⟩
    · refine ⟨0, ⟨c.g, T.length + 1 + 1, 0 + (formL r).length, true⟩, false, k', ?_, Or.inl ⟨rfl, rfl, ⟨h.cg, a2, by omega, by rw [a4]; exact hro, Or.inr ⟨T ++ [s], [r], 0, by rw [hlT], ?_, (fun e => by cases e), hap, a3', by rw [hlT]; omega⟩⟩⟩⟩
      · rw [hmx, putS_eq (en := 0) (dn' := false) (k' := k') (by rw [h.cg]; exact stp_ok a1), if_pos rfl]
      · show 0 + (formL r).length = (formL r ++ []).length
        rw [List.append_nil, Nat.zero_add]
    · refine ⟨13, c, true, k', ?_, Or.inr ⟨rfl, a2, ⟨a3.good, a3.rest⟩⟩⟩
      rw [hmx, putS_eq (en := 13) (dn' := true) (k' := k') (by rw [h.cg]; exact stp_13 a1), if_neg (by decide)]
theorem KG.lay (h : KG g O m u c k all) (hg : g < 18446744073709551616) (most : Nat) (ha : all.length < m) (hm : m ≤ 900) (r : List Int) (hr : r.length ≤ 200) (hb : Bd r) :
    ∃ en c' dn' k', layL most c (formL r) false k = (en, c', dn', k') ∧ ((en = 0 ∧ dn' = false ∧ KG g O m u c' k' (all ++ [r])) ∨ (en = 13 ∧ KO g O k')) := by
  by_cases hmo : 0 < c.size ∧ most < c.size + (formL r).length
  · obtain ⟨en, c1, dn1, k1, s1, s3⟩ := h.settle hg
    rcases s3 with ⟨rfl, rfl, s3, s4, s5, s6⟩ | ⟨rfl, _, s3⟩
    · obtain ⟨en, c2, dn2, k2, p1, p3⟩ := s3.nxt hg s4 (by omega) ha hm r hr hb
      refine ⟨en, c2, dn2, k2, ?_, p3.imp id (fun h => ⟨h.1, h.2.2⟩)⟩
      unfold layL
      rw [if_pos hmo, s1]
      dsimp only
      rw [if_neg (by simp), ← s5]
      exact p1
    · refine ⟨13, c1, dn1, k1, ?_, Or.inr ⟨rfl, s3⟩⟩
      unfold layL
      rw [if_pos hmo, s1]
      dsimp only
      rw [if_pos (by simp)]
  · obtain ⟨en, c2, dn2, k2, p1, p3⟩ := h.put hg ha r hr hb
    refine ⟨en, c2, dn2, k2, ?_, p3.imp id (fun h => ⟨h.1, h.2.2⟩)⟩
    unfold layL
    rw [if_neg hmo]
    exact p1
end
theorem KG.layAll {g : Nat} {O : Nm → Option Fle} {m u : Nat} (hg : g < 18446744073709551616) (most : Nat) (hm : m ≤ 900) : ∀ (rs : List (List Int)) {c : Ch} {k : Dk} {all : List (List Int)}, KG g O m u c k all → all.length + rs.length ≤ m → (∀ r ∈ rs, r.length ≤ 200 ∧ Bd r) →
    ∃ en c' dn' k', layAllL most rs c false k = (en, c', dn', k') ∧ ((en = 0 ∧ dn' = false ∧ KG g O m u c' k' (all ++ rs) ∧ c'.loose = false) ∨ (en = 13 ∧ KO g O k'))
  | [], c, k, all, h, ha, _ => by
    obtain ⟨en, c1, dn1, k1, s1, s3⟩ := h.settle hg
    refine ⟨en, c1, dn1, k1, s1, ?_⟩
    rcases s3 with ⟨e1, e2, s3, s4, _⟩ | ⟨e1, _, s3⟩
    · exact Or.inl ⟨e1, e2, by rw [List.append_nil]; exact s3, s4⟩
    · exact Or.inr ⟨e1, s3⟩
  | r :: rs, c, k, all, h, ha, hr => by
    simp only [List.length_cons] at ha
    obtain ⟨en, c1, dn1, k1, s1, s3⟩ := h.lay hg most (by omega) hm r (hr r (List.mem_cons_self ..)).1 (hr r (List.mem_cons_self ..)).2
    rcases s3 with ⟨rfl, rfl, s3⟩ | ⟨rfl, s3⟩
    · obtain ⟨en, c2, dn2, k2, p1, p3⟩ := KG.layAll hg most hm rs s3 (by rw [List.length_append, List.length_singleton]; omega) (fun x hx => hr x (List.mem_cons_of_mem _ hx))
      refine ⟨en, c2, dn2, k2, by rw [layAll_ok s1]; exact p1, ?_⟩
      rw [List.append_assoc] at p3
      exact p3
    · exact ⟨13, c1, dn1, k1, layAll_no s1 (by decide), Or.inr ⟨rfl, s3⟩⟩

end Go.Proofs.YtikkieaokfailaaGreatDoor
