/- Texts of one seat, one behind the other: LkC, LsB, LrB, LrC, LrD. -/
import Derived.Test.YtikkieaokfailaaGreatDoorM11
/- LogKeeps, its plain part: the power comes again; the log is opened, with power that fails. -/
namespace Go.Proofs.YtikkieaokfailaaGreatDoor
open Go.RowKit Go.Joins

theorem look_restG : ∀ (l : Fls) (keep : List Int) (s : Nm), (look l s = none ∧ look (restL l keep) s = none) ∨ ∃ f x, look l s = some f ∧ look (restL l keep) s = some (if f.b.length = f.safe then f else restF f x)
  | [], _, _ => Or.inl ⟨rfl, rfl⟩
  | (n, f) :: r, keep, s => by
    unfold restL
    split
    · rename_i h
      unfold look
      split
      · exact Or.inr ⟨f, 0, rfl, by rw [if_pos h]⟩
      · exact look_restG r keep s
    · rename_i h
      unfold look
      split
      · exact Or.inr ⟨f, keep.headD 0, rfl, by rw [if_neg h]⟩
      · exact look_restG r keep.tail s
theorem used_restG : ∀ (l : Fls) (keep : List Int), used (restL l keep) ≤ used l
  | [], _ => Nat.le_refl _
  | (n, f) :: r, keep => by
    unfold restL
    split
    · show f.b.length + used (restL r keep) ≤ f.b.length + used r
      have := used_restG r keep
      omega
    · show (restF f (keep.headD 0)).b.length + used (restL r keep.tail) ≤ f.b.length + used r
      have h1 := used_restG r keep.tail
      have h2 : (restF f (keep.headD 0)).b.length ≤ f.b.length := by
        unfold restF
        rw [List.length_take]
        omega
      omega
theorem KF.rest {k : Dk} {all : List (List Int)} {safe : Nat} (h : KF k all safe) (keep : List Int) (hg : (restK k keep).Good) : KF (restK k keep) all safe := by
  refine ⟨by have := used_restG k.fs keep; have := h.us; show used (restL k.fs keep) ≤ _; omega, h.rl, ?_⟩
  have honly : ∀ {n : Nat} {B : Nat → List Int} {Z : Nat → Nat}, Sh k n B Z → ∀ s f, look (restL k.fs keep) s = some f → ∃ j, j < n ∧ s = segN 1 (j + 1) := fun hs s f hf => by
    rcases look_restG k.fs keep s with ⟨_, e⟩ | ⟨f', x, e1, _⟩
    · rw [e] at hf; cases hf
    · exact hs.only s f' e1
  rcases h.ex with ⟨e1, e2⟩ | ⟨T, s, b, z, e1, e2, e3⟩
  · exact Or.inl ⟨⟨hg, by omega, fun j hj => by omega, honly e1⟩, e2⟩
  · have hl : ∀ j, j < T.length → look (restL k.fs keep) (segN 1 (j + 1)) = some ⟨forms (T.getD j []), (forms (T.getD j [])).length⟩ := fun j hj => by
      have hy := e1.yes j (by omega)
      rw [show KB T ((forms s).take b) j = forms (T.getD j []) from if_pos hj, show KZ T z j = (forms (T.getD j [])).length from if_pos hj] at hy
      rcases look_restG k.fs keep (segN 1 (j + 1)) with ⟨e, _⟩ | ⟨f', x, q1, q2⟩
      · rw [hy] at e; cases e
      · rw [hy] at q1
        cases q1
        rw [q2, if_pos rfl]
    have hy := e1.yes T.length (by omega)
    rw [show KB T ((forms s).take b) T.length = (forms s).take b from if_neg (by omega), show KZ T z T.length = z from if_neg (by omega)] at hy
    have hle : z ≤ ((forms s).take b).length := (look_good e1.good hy).2.1
    have hlast : ∃ b' z', look (restL k.fs keep) (segN 1 (T.length + 1)) = some ⟨(forms s).take b', z'⟩ ∧ z ≤ z' := by
      rcases look_restG k.fs keep (segN 1 (T.length + 1)) with ⟨e, _⟩ | ⟨f', x, q1, q2⟩
      · rw [hy] at e; cases e
      · rw [hy] at q1
        cases q1
        by_cases e : ((forms s).take b).length = z
        · rw [if_pos e] at q2
          exact ⟨b, z, q2, Nat.le_refl _⟩
        · rw [if_neg e] at q2
          unfold restF at q2
          dsimp only at q2
          rw [List.take_take] at q2
          exact ⟨_, _, q2, Nat.le_add_right _ _⟩
    obtain ⟨b', z', q1, q2⟩ := hlast
    refine Or.inr ⟨T, s, b', z', ⟨hg, e1.few, fun j hj => ?_, honly e1⟩, e2, by have := wholeN_mono s z z' q2; omega⟩
    show look (restL k.fs keep) _ = _
    unfold KB KZ
    by_cases e : j < T.length
    · rw [if_pos e, if_pos e]; exact hl j e
    · obtain rfl : j = T.length := by omega
      rw [if_neg e, if_neg e]; exact q1
theorem KF.fuse {k : Dk} {all : List (List Int)} {safe : Nat} (h : KF k all safe) (on : k.off = false) (n : Nat) (hn : n ≤ 9223372036854775807) : (fuseK k (n : Int)).1 = 0 ∧ KF (fuseK k (n : Int)).2 all safe ∧ (fuseK k (n : Int)).2.off = false ∧ (fuseK k (n : Int)).2.steps = k.steps := by
  have e : fuseK k (n : Int) = (0, { k with fu := some n }) := by
    unfold fuseK
    rw [if_neg (by omega), on, if_neg (by decide)]
    rfl
  have hg : ∀ k : Dk, k.Good → ({ k with fu := some n } : Dk).Good := fun k g => ⟨g.room, g.rise, g.used, g.each, fun m e => by cases e; exact hn⟩
  rw [e]
  refine ⟨rfl, ⟨h.us, h.rl, ?_⟩, on, rfl⟩
  rcases h.ex with ⟨e1, e2⟩ | ⟨T, s, b, z, e1, e2, e3⟩
  · exact Or.inl ⟨e1.same rfl (hg _ e1.good), e2⟩
  · exact Or.inr ⟨T, s, b, z, e1.same rfl (hg _ e1.good), e2, e3⟩
/-- Open of a disk that has just segments: they are read. -/
theorem Sh.openS {k : Dk} {n : Nat} {B : Nat → List Int} {Z : Nat → Nat} (m : Nat) (h : Sh k n B Z) (on : k.off = false) : openL m k = openR.openD (rdSegs n 0 ⟨m, [], ⟨1, n, 0, false⟩, false⟩ k) := by
  have hbn : look k.fs sBase = none := by
    cases hl : look k.fs sBase with
    | none => rfl
    | some f => obtain ⟨j, _, e⟩ := h.only _ _ hl; exact absurd e (base_ne _ _)
  have hrb : readK k sBase = (7, []) := by
    unfold readK
    rw [on, if_neg (by decide), if_neg (by decide), hbn]
  have hls : listK k = (0, k.fs.map Prod.fst) := by unfold listK; rw [on]; rfl
  have hmem : ∀ s, s ∈ k.fs.map Prod.fst ↔ ∃ j, j < n ∧ s = segN 1 (j + 1) := fun s => by
    rw [← look_isSome]
    constructor
    · intro hs
      obtain ⟨f, hf⟩ := Option.isSome_iff_exists.1 hs
      exact h.only s f hf
    · rintro ⟨j, hj, rfl⟩
      rw [h.yes j hj]
      rfl
  have hcnt : cntN (k.fs.map Prod.fst) 1 = n := cntN_is ⟨fun s hs => by
    obtain ⟨i, hi, e⟩ := mem_segs.1 hs
    exact (hmem s).2 ⟨i, hi, by rw [e, Nat.zero_add]⟩, fun hs => by
    obtain ⟨j, hj, e⟩ := (hmem _).1 hs
    have := segN_inj e
    omega⟩
  have hfil : (k.fs.map Prod.fst).filter (left 1 n) = [] := by
    rw [List.filter_eq_nil_iff]
    intro s hs
    obtain ⟨j, hj, e⟩ := (hmem s).1 hs
    unfold left
    rw [inN_iff.2 (mem_segs.2 ⟨j, hj, by rw [e, Nat.zero_add]⟩)]
    simp
  have hcl : cleanL ⟨1, 0, 0, false⟩ false k = (0, ⟨1, n, 0, false⟩, false, k) := by
    unfold cleanL
    rw [hls]
    dsimp only
    rw [if_neg (by simp), hcnt, hfil]
    rfl
  unfold openL
  rw [hrb]
  show openR m (0, 1) k = _
  unfold openR
  rw [if_neg (by simp)]
  show openR.openC m (cleanL ⟨1, 0, 0, false⟩ false k) = _
  rw [hcl]
  unfold openR.openC
  rw [if_neg (by simp)]
/-- Whole segments are read, up to the last one. -/
theorem rd_whole (k : Dk) (on : k.off = false) (Zs : Nat → Nat) : ∀ (U P : List (List (List Int))) (l : Lg), l.ch.g = 1 → (P ++ U).length ≤ 1000 → (∀ j, j < (P ++ U).length → look k.fs (segN 1 (j + 1)) = some ⟨forms ((P ++ U).getD j []), Zs j⟩) → (∀ t ∈ U, ∀ r ∈ t, r.length ≤ 1048576) →
    ∃ l2, rdSegs (U.length + 1) P.length l k = rdSegs 1 (P ++ U).length l2 k ∧ l2.ch.g = 1 ∧ l2.ch.cnt = l.ch.cnt ∧ l2.dn = l.dn ∧ l2.most = l.most ∧ l2.recs = l.recs ++ U.flatten
  | [], P, l, hg, _, _, _ => ⟨l, by rw [List.append_nil]; rfl, hg, rfl, rfl, rfl, by simp⟩
  | t :: U, P, l, hg, hc, h, hr => by
    have hlt : P.length < (P ++ t :: U).length := by simp
    have h1 := h P.length hlt
    have e0 : (P ++ t :: U).getD P.length [] = t := by simp
    rw [e0] at h1
    have hrd : readK k (segN 1 (P.length + 1)) = (0, forms t) := by
      unfold readK
      rw [on, if_neg (by decide), if_neg (by rw [Sg.nm P.length (by omega)]; decide), h1]
    have hsc := scan_forms t (forms t).length (hr t (List.mem_cons_self ..)) (Nat.le_refl _)
    have hseg : readSegL l (P.length + 1) k = (0, true, ⟨l.most, l.recs ++ t, { l.ch with size := (forms t).length }, l.dn⟩, k) := by
      unfold readSegL readSegR
      rw [hg, hrd]
      dsimp only
      rw [if_neg (by simp), hsc, if_pos rfl]
    have hP : P ++ t :: U = (P ++ [t]) ++ U := by simp
    obtain ⟨l2, i1, i2, i3, i4, i5, i6⟩ := rd_whole k on Zs U (P ++ [t]) ⟨l.most, l.recs ++ t, { l.ch with size := (forms t).length }, l.dn⟩ hg (by rw [← hP]; exact hc) (by rw [← hP]; exact h) (fun x hx => hr x (List.mem_cons_of_mem _ hx))
    refine ⟨l2, ?_, i2, i3, i4, i5, by rw [i6, List.flatten_cons, List.append_assoc]⟩
    rw [hP, ← i1]
    show rdSegs (U.length + 1 + 1) P.length l k = _
    conv => lhs; unfold rdSegs
    rw [hseg]
    dsimp only
    rw [if_neg (by simp), if_pos rfl, List.length_append]
    rfl
theorem KF.rlT {k : Dk} {all : List (List Int)} {safe : Nat} (h : KF k all safe) {T : List (List (List Int))} {s : List (List Int)} (hp : (T.flatten ++ s) <+: all) : (∀ t ∈ T, ∀ r ∈ t, r.length ≤ 1048576) ∧ ∀ r ∈ s, r.length ≤ 1048576 := by
  have hm : ∀ r ∈ T.flatten ++ s, r.length ≤ 1048576 := fun r hr => by
    have := h.rl r (hp.subset hr)
    omega
  exact ⟨fun t ht r hr => hm r (List.mem_append_left _ (List.mem_flatten.2 ⟨t, ht, hr⟩)), fun r hr => hm r (List.mem_append_right _ hr)⟩
/-- Open: what it leaves, and what it tells. -/
theorem KF.opens {k : Dk} {all : List (List Int)} {safe : Nat} (h : KF k all safe) (on : k.off = false) (m : Nat) :
    ∃ en l' k', openL m k = (en, l', k') ∧ k'.steps ≤ k.steps + 2 ∧ ((en = 0 ∧ l'.recs <+: all ∧ safe ≤ l'.recs.length ∧ KF k' l'.recs l'.recs.length) ∨ (en = 13 ∧ k.fu ≠ none ∧ KF k' all safe)) := by
  have hus := h.us
  rcases h.ex with ⟨e1, e2⟩ | ⟨T, s, b, z, e1, e2, e3⟩
  · refine ⟨0, ⟨m, [], ⟨1, 0, 0, false⟩, false⟩, k, ?_, Nat.le_add_right _ _, Or.inl ⟨rfl, List.nil_prefix, by omega, ⟨hus, (fun r hr => by cases hr), Or.inl ⟨e1, rfl⟩⟩⟩⟩
    rw [e1.openS m on]
    rfl
  · obtain ⟨rT, rs⟩ := h.rlT e2
    have hfew := e1.few
    have hyT : ∀ j, j < T.length → look k.fs (segN 1 (j + 1)) = some ⟨forms (T.getD j []), (forms (T.getD j [])).length⟩ := fun j hj => by
      have hy := e1.yes j (by omega)
      rw [show KB T ((forms s).take b) j = forms (T.getD j []) from if_pos hj, show KZ T z j = (forms (T.getD j [])).length from if_pos hj] at hy
      exact hy
    have hy := e1.yes T.length (by omega)
    rw [show KB T ((forms s).take b) T.length = (forms s).take b from if_neg (by omega), show KZ T z T.length = z from if_neg (by omega)] at hy
    have hle : z ≤ ((forms s).take b).length := (look_good e1.good hy).2.1
    have hlb : ((forms s).take b).length ≤ b := by rw [List.length_take]; omega
    obtain ⟨l2, i1, i2, i3, i4, i5, i6⟩ := rd_whole k on (fun j => (forms (T.getD j [])).length) T [] ⟨m, [], ⟨1, T.length + 1, 0, false⟩, false⟩ rfl (by show T.length ≤ 1000; omega) hyT rT
    have i1' : rdSegs (T.length + 1) 0 ⟨m, [], ⟨1, T.length + 1, 0, false⟩, false⟩ k = rdSegs 1 T.length l2 k := i1
    have i3' : l2.ch.cnt = T.length + 1 := i3
    have i4' : l2.dn = false := i4
    have i6' : l2.recs = T.flatten := i6
    have hop := e1.openS m on
    rw [i1'] at hop
    obtain ⟨mm, hmm⟩ : ∃ mm, wholeN s b = mm := ⟨_, rfl⟩
    have hrd : readK k (segN 1 (T.length + 1)) = (0, (forms s).take b) := by
      unfold readK
      rw [on, if_neg (by decide), if_neg (by rw [Sg.nm T.length (by omega)]; decide), hy]
    have hsc := scan_cut s b _ rs (Nat.le_refl _)
    rw [hmm] at hsc
    have hwi := whole_within s b
    rw [hmm] at hwi
    have hml : mm ≤ s.length := by rw [← hmm]; exact wholeN_le s b
    have hsl : (s.take mm).length = mm := by rw [List.length_take]; omega
    have hpre : (T.flatten ++ s.take mm) <+: all := List.IsPrefix.trans (by rw [List.prefix_append_right_inj]; exact List.take_prefix _ _) e2
    have hrl' : ∀ r ∈ T.flatten ++ s.take mm, r.length ≤ 200 := fun r hr => h.rl r (hpre.subset hr)
    have hzm : wholeN s z ≤ mm := by rw [← hmm]; exact wholeN_mono s z b (by omega)
    have hsafe : safe ≤ (T.flatten ++ s.take mm).length := by rw [List.length_append, hsl]; omega
    -- behind the reading: the last segment is synced
    have hend : ∀ (k2 : Dk) (sz z2 : Nat), k2.off = false → k2.steps ≤ k.steps + 1 → used k2.fs ≤ used k.fs → (k.fu = none → k2.fu = none) → Sh k2 (T.length + 1) (KB T (forms (s.take mm))) (KZ T z2) → wholeN s z ≤ wholeN (s.take mm) z2 → ∃ en l' k', openR.openD (0, ⟨m, T.flatten ++ s.take mm, ⟨1, T.length + 1, sz, l2.ch.loose⟩, false⟩, k2) = (en, l', k') ∧ k'.steps ≤ k.steps + 2 ∧ ((en = 0 ∧ l'.recs <+: all ∧ safe ≤ l'.recs.length ∧ KF k' l'.recs l'.recs.length) ∨ (en = 13 ∧ k.fu ≠ none ∧ KF k' all safe)) := by
      intro k2 sz z2 o2 st2 u2 f2 h2 hw
      obtain ⟨k', hc, hr, hs, hu, hn⟩ := h2.sync o2 T.length (by omega)
      have heq : openR.openD (0, ⟨m, T.flatten ++ s.take mm, ⟨1, T.length + 1, sz, l2.ch.loose⟩, false⟩, k2) = ((stp false k2 (syncK k2 (segN 1 (T.length + 1)))).1, ⟨m, T.flatten ++ s.take mm, (if (stp false k2 (syncK k2 (segN 1 (T.length + 1)))).1 = 0 then ⟨1, T.length + 1, sz, false⟩ else ⟨1, T.length + 1, sz, true⟩), (stp false k2 (syncK k2 (segN 1 (T.length + 1)))).2.1⟩, (stp false k2 (syncK k2 (segN 1 (T.length + 1)))).2.2) := by
        unfold openR.openD
        rw [if_neg (by simp)]
        dsimp only
        rw [show decide (0 < T.length + 1) = true from decide_eq_true (by omega)]
        rfl
      have hB : KB T (forms (s.take mm)) T.length = forms (s.take mm) := if_neg (by omega)
      rcases hc with ⟨c1, c2, c3⟩ | ⟨c1, c2, c3⟩
      · rw [stp_ok c1] at heq
        refine ⟨_, _, _, heq, by dsimp only; omega, Or.inl ⟨rfl, hpre, hsafe, ⟨by dsimp only; omega, hrl', Or.inr ⟨T, s.take mm, (forms (s.take mm)).length, (forms (s.take mm)).length, ?_, List.prefix_refl _, ?_⟩⟩⟩⟩
        · rw [List.take_length]
          refine c3.congr (fun j hj => ⟨rfl, ?_⟩)
          rw [hB]
          unfold KZ
          by_cases e : j = T.length
          · rw [if_pos e, if_neg (by omega)]
          · rw [if_neg e, if_pos (by omega), if_pos (by omega)]
        · rw [List.length_append, wholeN_all _ _ (Nat.le_refl _)]
          exact Nat.le_refl _
      · rw [stp_13 c1] at heq
        refine ⟨_, _, _, heq, by dsimp only; omega, Or.inr ⟨rfl, fun e => c2 (f2 e), ⟨by dsimp only; omega, h.rl, Or.inr ⟨T, s.take mm, (forms (s.take mm)).length, z2, by rw [List.take_length]; exact c3, hpre, by omega⟩⟩⟩⟩
    obtain ⟨lm, lr, ⟨lg, lc, lz, llo⟩, ld⟩ := l2
    dsimp only at i2 i3' i4' i5 i6' hend
    replace i5 := i5.symm
    subst i2 i3' i4' i5 i6'
    by_cases hw : (forms (s.take mm)).length = ((forms s).take b).length
    · have hseg : readSegL ⟨m, T.flatten, ⟨1, T.length + 1, lz, llo⟩, false⟩ (T.length + 1) k = (0, true, ⟨m, T.flatten ++ s.take mm, ⟨1, T.length + 1, (forms (s.take mm)).length, llo⟩, false⟩, k) := by
        unfold readSegL readSegR
        dsimp only
        rw [hrd]
        dsimp only
        rw [if_neg (by simp), hsc, if_pos (decide_eq_true hw)]
      have hrs : rdSegs 1 T.length ⟨m, T.flatten, ⟨1, T.length + 1, lz, llo⟩, false⟩ k = (0, ⟨m, T.flatten ++ s.take mm, ⟨1, T.length + 1, (forms (s.take mm)).length, llo⟩, false⟩, k) := by
        unfold rdSegs
        rw [hseg]
        dsimp only
        rw [if_neg (by simp), if_pos rfl]
        rfl
      have hbe : (forms s).take b = forms (s.take mm) := by
        have h1 : (forms s).take b = (forms s).take (min b (forms s).length) := by
          rw [← List.take_take, List.take_length]
        have h2 : min b (forms s).length = (forms (s.take mm)).length := by rw [hw, List.length_take]
        rw [h1, h2, forms_take_eq]
      rw [hop, hrs]
      refine hend k _ z on (by omega) (Nat.le_refl _) (fun e => e) (by rw [hbe] at e1; exact e1) ?_
      rw [wholeN_take]
      omega
    · have hcl : (forms (s.take mm)).length ≤ ((forms s).take b).length := by
        have := (scanF_le ((forms s).take b).length ((forms s).take b)).2
        rw [hsc] at this
        exact this
      have hB : KB T ((forms s).take b) T.length = (forms s).take b := if_neg (by omega)
      have hZ : KZ T z T.length = z := if_neg (by omega)
      obtain ⟨k', hc, hr, hs, hu, hn⟩ := e1.cut on T.length (by omega) (forms (s.take mm)).length (by rw [hB]; exact hcl)
      rw [hB, hZ] at hc
      rcases hc with ⟨c1, c2, c3⟩ | ⟨c1, c2, c3⟩
      · have hseg : readSegL ⟨m, T.flatten, ⟨1, T.length + 1, lz, llo⟩, false⟩ (T.length + 1) k = (0, false, ⟨m, T.flatten ++ s.take mm, ⟨1, T.length + 1, (forms (s.take mm)).length, llo⟩, false⟩, k') := by
          unfold readSegL readSegR
          dsimp only
          rw [hrd]
          dsimp only
          rw [if_neg (by simp), hsc, if_neg (fun e => hw (of_decide_eq_true e)), stp_ok c1]
        have hrs : rdSegs 1 T.length ⟨m, T.flatten, ⟨1, T.length + 1, lz, llo⟩, false⟩ k = (0, ⟨m, T.flatten ++ s.take mm, ⟨1, T.length + 1, (forms (s.take mm)).length, llo⟩, false⟩, k') := by
          unfold rdSegs
          rw [hseg]
          dsimp only
          rw [if_neg (by simp), if_neg (by simp)]
          unfold rdSegs.rdEnd
          dsimp only
          rw [Nat.sub_self]
          rfl
        rw [hop, hrs]
        refine hend k' _ (min z (forms (s.take mm)).length) c2 hs hu hn (c3.congr (fun j hj => ?_)) ?_
        · unfold KB KZ
          by_cases e : j = T.length
          · rw [if_pos e, if_pos e, if_neg (by omega), if_neg (by omega), List.take_take, Nat.min_eq_left hwi, forms_take_eq]
            exact ⟨rfl, rfl⟩
          · rw [if_neg e, if_neg e, if_pos (by omega), if_pos (by omega), if_pos (by omega), if_pos (by omega)]
            exact ⟨rfl, rfl⟩
        · by_cases hzz : z ≤ (forms (s.take mm)).length
          · rw [Nat.min_eq_left hzz, wholeN_take]
            omega
          · rw [Nat.min_eq_right (by omega), wholeN_all _ _ (Nat.le_refl _), hsl]
            exact hzm
      · have hseg : readSegL ⟨m, T.flatten, ⟨1, T.length + 1, lz, llo⟩, false⟩ (T.length + 1) k = (13, false, ⟨m, T.flatten ++ s.take mm, ⟨1, T.length + 1, (forms (s.take mm)).length, llo⟩, true⟩, k') := by
          unfold readSegL readSegR
          dsimp only
          rw [hrd]
          dsimp only
          rw [if_neg (by simp), hsc, if_neg (fun e => hw (of_decide_eq_true e)), stp_13 c1]
        have hrs : rdSegs 1 T.length ⟨m, T.flatten, ⟨1, T.length + 1, lz, llo⟩, false⟩ k = (13, ⟨m, T.flatten ++ s.take mm, ⟨1, T.length + 1, (forms (s.take mm)).length, llo⟩, true⟩, k') := by
          unfold rdSegs
          rw [hseg]
          dsimp only
          rw [if_pos (by simp)]
        rw [hop, hrs]
        refine ⟨13, ⟨m, T.flatten ++ s.take mm, ⟨1, T.length + 1, (forms (s.take mm)).length, llo⟩, true⟩, k', ?_, by omega, Or.inr ⟨rfl, c2, ⟨by omega, h.rl, Or.inr ⟨T, s, b, z, c3, e2, e3⟩⟩⟩⟩
        unfold openR.openD
        rw [if_pos (by simp)]

theorem KF.fl {k : Dk} {all : List (List Int)} {safe : Nat} (h : KF k all safe) : k.fs.length ≤ 1000 := by
  rcases h.ex with ⟨e1, _⟩ | ⟨T, s, b, z, e1, _⟩
  · have := e1.len; omega
  · have := e1.len; have := e1.few; omega
/-- Whatever Open answers, the disk holds what it held. -/
theorem KF.opened {k : Dk} {all : List (List Int)} {safe : Nat} (h : KF k all safe) (on : k.off = false) (m : Nat) : KF (openL m k).2.2 all safe ∧ (openL m k).2.2.steps ≤ k.steps + 2 := by
  obtain ⟨en, l', k', e1, e2, e3⟩ := h.opens on m
  rw [e1]
  refine ⟨?_, e2⟩
  rcases e3 with ⟨_, p1, p2, p3⟩ | ⟨_, _, p3⟩
  · exact p3.weak p1 p2 h.rl
  · exact p3

end Go.Proofs.YtikkieaokfailaaGreatDoor

/- LogSwitch, its plain part: the generation that is opened. -/
namespace Go.Proofs.YtikkieaokfailaaGreatDoor
open Go.RowKit Go.Joins

/-- Generation g is what is opened: its segments S are whole and safe, and 'base' names it. -/
structure Gn (k : Dk) (g : Nat) (S : List (List (List Int))) : Prop where
  good : k.Good
  gl : 0 < g ∧ g < 18446744073709551616
  base : (g = 1 ∧ look k.fs sBase = none) ∨ look k.fs sBase = some ⟨baseL g, 12⟩
  yes : ∀ j, j < S.length → look k.fs (segN g (j + 1)) = some ⟨forms (S.getD j []), (forms (S.getD j [])).length⟩
  no : look k.fs (segN g (S.length + 1)) = none
  rl : ∀ t ∈ S, ∀ r ∈ t, r.length ≤ 1048576
  few : S.length ≤ 1000
/-- Other files don't count. -/
theorem Gn.of {k k' : Dk} {g : Nat} {S : List (List (List Int))} (h : Gn k g S) (hg : k'.Good) (e : ∀ s, (s = sBase ∨ ∃ j, s = segN g (j + 1)) → look k'.fs s = look k.fs s) : Gn k' g S :=
  ⟨hg, h.gl, by rw [e sBase (Or.inl rfl)]; exact h.base, fun j hj => by rw [e _ (Or.inr ⟨j, rfl⟩)]; exact h.yes j hj, by rw [e _ (Or.inr ⟨_, rfl⟩)]; exact h.no, h.rl, h.few⟩
/-- The power goes and comes. -/
theorem Gn.rest {k : Dk} {g : Nat} {S : List (List (List Int))} (h : Gn k g S) (keep : List Int) (hg : (restK k keep).Good) : Gn (restK k keep) g S := by
  have hsome : ∀ s b, look k.fs s = some ⟨b, b.length⟩ → look (restL k.fs keep) s = some ⟨b, b.length⟩ := fun s b hs => by
    rcases look_restG k.fs keep s with ⟨e, _⟩ | ⟨f, x, q1, q2⟩
    · rw [hs] at e; cases e
    · rw [hs] at q1
      cases q1
      rw [q2, if_pos rfl]
  have hnone : ∀ s, look k.fs s = none → look (restL k.fs keep) s = none := fun s hs => by
    rcases look_restG k.fs keep s with ⟨_, e⟩ | ⟨f, x, q1, _⟩
    · exact e
    · rw [hs] at q1; cases q1
  refine ⟨hg, h.gl, ?_, fun j hj => hsome _ _ (h.yes j hj), hnone _ h.no, h.rl, h.few⟩
  rcases h.base with ⟨e1, e2⟩ | e
  · exact Or.inl ⟨e1, hnone _ e2⟩
  · refine Or.inr ?_
    have hl := baseL_len g
    have e' : look k.fs sBase = some ⟨baseL g, (baseL g).length⟩ := by rw [hl]; exact e
    have := hsome _ _ e'
    rw [hl] at this
    exact this
theorem numL_big8 (n : Nat) (h : n < 18446744073709551616) : numL (bigL 8 n) = n := by
  show ((((((((0 * 256 + ((n / 72057594037927936 % 256 : Nat) : Int).toNat) * 256 + ((n / 281474976710656 % 256 : Nat) : Int).toNat) * 256 + ((n / 1099511627776 % 256 : Nat) : Int).toNat) * 256 + ((n / 4294967296 % 256 : Nat) : Int).toNat) * 256 + ((n / 16777216 % 256 : Nat) : Int).toNat) * 256 + ((n / 65536 % 256 : Nat) : Int).toNat) * 256 + ((n / 256 % 256 : Nat) : Int).toNat) * 256 + ((n / 1 % 256 : Nat) : Int).toNat) = n
  simp only [Int.toNat_natCast]
  omega
theorem remove_on {k : Dk} (on : k.off = false) (fu : k.fu = none) (hg : k.Good) {s : Nm} (hs : (look k.fs s).isSome = true) : ∃ k', removeK k s = (0, k') ∧ k'.off = false ∧ k'.fu = none ∧ k'.Good ∧ k'.fs = dropL k.fs s := by
  obtain ⟨f, hf⟩ := Option.isSome_iff_exists.1 hs
  have hnm := (look_good hg hf).1
  have hgp := good_pass hg
  rw [pass_on fu] at hgp
  refine ⟨{ k with steps := k.steps + 1, fs := dropL k.fs s }, ?_, on, fu, good_drop hgp s, rfl⟩
  unfold removeK stepK
  rw [on, if_neg (by decide), if_neg (by rw [hnm]; decide), hf]
  dsimp only
  rw [if_neg (by simp), pass_on fu, if_neg (by simp)]
  dsimp only
  rw [on]
theorem remAll_on : ∀ (ns : List Nm) (k : Dk), k.off = false → k.fu = none → k.Good → (∀ s ∈ ns, (look k.fs s).isSome = true) → ns.Nodup → ∃ k', remAll ns false k = (0, false, k') ∧ k'.off = false ∧ k'.fu = none ∧ k'.Good ∧ ∀ s, s ∉ ns → look k'.fs s = look k.fs s
  | [], k, on, fu, hg, _, _ => ⟨k, rfl, on, fu, hg, fun s _ => rfl⟩
  | s :: ns, k, on, fu, hg, hs, hn => by
    have hn' := List.pairwise_cons.1 hn
    obtain ⟨k1, r1, r2, r3, r4, r5⟩ := remove_on on fu hg (hs s (List.mem_cons_self ..))
    obtain ⟨k2, q1, q2, q3, q4, q5⟩ := remAll_on ns k1 r2 r3 r4 (fun t ht => by
      rw [r5, look_drop, if_neg (fun e => hn'.1 t ht e.symm)]
      exact hs t (List.mem_cons_of_mem _ ht)) hn'.2
    refine ⟨k2, ?_, q2, q3, q4, fun t ht => ?_⟩
    · rw [remAll_ok (stp_ok r1)]
      exact q1
    · rw [q5 t (fun h => ht (List.mem_cons_of_mem _ h)), r5, look_drop, if_neg (fun e => ht (by rw [e]; exact List.mem_cons_self ..))]
/-- Whole segments are all read. -/
theorem rd_wholeG (g : Nat) (hg : g < 18446744073709551616) (k : Dk) (on : k.off = false) (Zs : Nat → Nat) : ∀ (U P : List (List (List Int))) (l : Lg), l.ch.g = g → (P ++ U).length ≤ 1000 → (∀ j, j < (P ++ U).length → look k.fs (segN g (j + 1)) = some ⟨forms ((P ++ U).getD j []), Zs j⟩) → (∀ t ∈ U, ∀ r ∈ t, r.length ≤ 1048576) →
    ∃ l2, rdSegs U.length P.length l k = (0, l2, k) ∧ l2.ch.g = g ∧ l2.ch.cnt = l.ch.cnt ∧ l2.dn = l.dn ∧ l2.most = l.most ∧ l2.recs = l.recs ++ U.flatten
  | [], P, l, hl, _, _, _ => ⟨l, rfl, hl, rfl, rfl, rfl, by simp⟩
  | t :: U, P, l, hl, hc, h, hr => by
    have hlt : P.length < (P ++ t :: U).length := by simp
    have h1 := h P.length hlt
    have e0 : (P ++ t :: U).getD P.length [] = t := by simp
    rw [e0] at h1
    have hrd : readK k (segN g (P.length + 1)) = (0, forms t) := by
      unfold readK
      rw [on, if_neg (by decide), if_neg (by rw [ShG.nm hg P.length (by omega)]; decide), h1]
    have hsc := scan_forms t (forms t).length (hr t (List.mem_cons_self ..)) (Nat.le_refl _)
    have hseg : readSegL l (P.length + 1) k = (0, true, ⟨l.most, l.recs ++ t, { l.ch with size := (forms t).length }, l.dn⟩, k) := by
      unfold readSegL readSegR
      rw [hl, hrd]
      dsimp only
      rw [if_neg (by simp), hsc, if_pos rfl]
    have hP : P ++ t :: U = (P ++ [t]) ++ U := by simp
    obtain ⟨l2, i1, i2, i3, i4, i5, i6⟩ := rd_wholeG g hg k on Zs U (P ++ [t]) ⟨l.most, l.recs ++ t, { l.ch with size := (forms t).length }, l.dn⟩ hl (by rw [← hP]; exact hc) (by rw [← hP]; exact h) (fun x hx => hr x (List.mem_cons_of_mem _ hx))
    refine ⟨l2, ?_, i2, i3, i4, i5, by rw [i6, List.flatten_cons, List.append_assoc]⟩
    rw [← i1]
    show rdSegs (U.length + 1) P.length l k = _
    conv => lhs; unfold rdSegs
    rw [hseg]
    dsimp only
    rw [if_neg (by simp), if_pos rfl, List.length_append]
    rfl
/-- What is opened is just that generation. -/
theorem Gn.opens {k : Dk} {g : Nat} {S : List (List (List Int))} (h : Gn k g S) (on : k.off = false) (fu : k.fu = none) (m : Nat) : (openL m k).1 = 0 ∧ (openL m k).2.1.recs = S.flatten := by
  have hgl := h.gl
  have hbase : baseR (readK k sBase) = (0, g) := by
    rcases h.base with ⟨e1, e2⟩ | e
    · have : readK k sBase = (7, []) := by
        unfold readK
        rw [on, if_neg (by decide), if_neg (by decide), e2]
      rw [this, e1]
      rfl
    · have hrd : readK k sBase = (0, baseL g) := by
        unfold readK
        rw [on, if_neg (by decide), if_neg (by decide), e]
      have ht : (baseL g).take 8 = bigL 8 g := by
        unfold baseL
        rw [List.take_append_of_le_length (by rw [bigL_len]; omega), List.take_of_length_le (by rw [bigL_len]; omega)]
      rw [hrd]
      unfold baseR
      dsimp only
      rw [if_neg (by decide), if_neg (by simp), if_neg (by rw [baseL_len]; simp), ht, numL_big8 g hgl.2, if_pos ⟨hgl.1, rfl⟩]
  have hls : listK k = (0, k.fs.map Prod.fst) := by unfold listK; rw [on]; rfl
  have hmem : ∀ s, s ∈ k.fs.map Prod.fst ↔ (look k.fs s).isSome = true := fun s => look_isSome.symm
  have hcnt : cntN (k.fs.map Prod.fst) g = S.length := cntN_is ⟨fun s hs => by
    obtain ⟨i, hi, e⟩ := mem_segs.1 hs
    rw [hmem, e, Nat.zero_add, h.yes i hi]
    rfl, fun hs => by
    rw [hmem, h.no] at hs
    cases hs⟩
  obtain ⟨ns, hns⟩ : ∃ ns, (k.fs.map Prod.fst).filter (left g S.length) = ns := ⟨_, rfl⟩
  have hnd : ns.Nodup := by
    rw [← hns]
    exact ((rise_pair h.good.rise).imp (fun {a b} hlt e => by subst e; exact ltN_irrefl _ hlt) : (k.fs.map Prod.fst).Nodup).filter _
  have hnp : ∀ s ∈ ns, (look k.fs s).isSome = true := fun s hs => by
    rw [← hns] at hs
    exact (hmem s).1 (List.mem_filter.1 hs).1
  have hseg : ∀ j, j < S.length → segN g (j + 1) ∉ ns := fun j hj hs => by
    rw [← hns] at hs
    have h2 := (List.mem_filter.1 hs).2
    unfold left at h2
    rw [inN_iff.2 (mem_segs.2 ⟨j, hj, by rw [Nat.zero_add]⟩)] at h2
    simp at h2
  obtain ⟨k1, r1, r2, r3, r4, r5⟩ := remAll_on ns k on fu h.good hnp hnd
  have hcl : cleanL ⟨g, 0, 0, false⟩ false k = (0, ⟨g, S.length, 0, false⟩, false, k1) := by
    unfold cleanL
    rw [hls]
    dsimp only
    rw [if_neg (by simp), hcnt, hns, r1]
  have hy1 : ∀ j, j < S.length → look k1.fs (segN g (j + 1)) = some ⟨forms (S.getD j []), (forms (S.getD j [])).length⟩ := fun j hj => by
    rw [r5 _ (hseg j hj)]
    exact h.yes j hj
  obtain ⟨l2, i1, i2, i3, i4, i5, i6⟩ := rd_wholeG g hgl.2 k1 r2 (fun j => (forms (S.getD j [])).length) S [] ⟨m, [], ⟨g, S.length, 0, false⟩, false⟩ rfl h.few hy1 h.rl
  have i1' : rdSegs S.length 0 ⟨m, [], ⟨g, S.length, 0, false⟩, false⟩ k1 = (0, l2, k1) := i1
  have i6' : l2.recs = S.flatten := i6
  have i3' : l2.ch.cnt = S.length := i3
  have i4' : l2.dn = false := i4
  have hop : openL m k = openR.openD (0, l2, k1) := by
    unfold openL
    rw [hbase]
    unfold openR
    rw [if_neg (by simp)]
    show openR.openC m (cleanL ⟨g, 0, 0, false⟩ false k) = _
    rw [hcl]
    unfold openR.openC
    rw [if_neg (by simp)]
    dsimp only
    rw [i1']
  rw [hop]
  unfold openR.openD
  rw [if_neg (by simp)]
  dsimp only
  unfold commitL
  refine ⟨?_, i6'⟩
  dsimp only
  unfold settleL
  rw [i3', i4']
  dsimp only
  by_cases h0 : 0 < S.length
  · rw [if_pos (decide_eq_true h0), i2]
    have hsy : ∃ k', syncK k1 (segN g (S.length - 1 + 1)) = (0, k') := by
      unfold syncK stepK
      rw [r2, if_neg (by decide), if_neg (by rw [ShG.nm hgl.2 (S.length - 1) (by have := h.few; omega)]; decide), hy1 (S.length - 1) (by omega)]
      dsimp only
      rw [if_neg (by simp), pass_on r3, if_neg (by simp)]
      exact ⟨_, rfl⟩
    obtain ⟨k', hk'⟩ := hsy
    rw [show S.length - 1 + 1 = S.length from by omega] at hk'
    rw [stp_ok hk']
  · rw [if_neg (by rw [decide_eq_false h0]; decide)]

end Go.Proofs.YtikkieaokfailaaGreatDoor

/- seglog's Rebase: attempts at another chain; what is taken back for want of room; copies of the records. -/
namespace Go.Proofs.YtikkieaokfailaaGreatDoor
open Go.RowKit Go.Joins

/-- The error's cell is written behind it. -/
theorem Lcp.err {w0 w1 : World} {o : Obj} {F : Nat → Prop} {lb d most : Nat} {v : Value} {dn : Bool} {k : Dk} {b off : Nat} {c0 c : Ch} (h : Lcp (w0.alloc o) F lb d most v dn k b off c0 c w1) (hF : ∀ i, F i → i < w0.heap.size) (hlb : lb < w0.heap.size) (hb : b < w0.heap.size) (u : Value) : Lcp w0 F lb d most v dn k b off c0 c (w1.setCell ⟨w0.heap.size, 0, none⟩ u) := by
  obtain ⟨F', h1, h2, h3⟩ := h
  have hs : (w0.alloc o).heap.size = w0.heap.size + 1 := by simp
  have hk : Keep (fun k => k = w0.heap.size) w1 (w1.setCell ⟨w0.heap.size, 0, none⟩ u) := (Keep.refl (fun k => k = w0.heap.size) w1).setCell (p := ⟨w0.heap.size, 0, none⟩) rfl u
  have hnF : ∀ i, F' i → i ≠ w0.heap.size := fun i hi e => by
    rcases h3 i hi with h | h
    · have := hF i h; omega
    · omega
  exact ⟨F', h1.keep hk hnF (by omega) (by omega), (((Keep.refl _ w0).alloc o).trans h2).setNew (Nat.le_refl _) u, fun i hi => (h3 i hi).imp id (fun h => by omega)⟩
/-- attempt of a closure that leaves a log and a chain. -/
theorem attempt_C (f : Nat) (caps : Array Value) (en : Nat) (W : World) (F : Nat → Prop) (lb d most : Nat) (v : Value) (dn dn' : Bool) (k k' : Dk) (b : Nat) (c0 c c' : Ch) (h : LC W F lb d most v dn k b 0 c0 c) (hent : ∀ args w, (callFunc f args).run Tryz.prog w = .ok (.enter f args) w)
    (hC : LC (W.alloc (.cells #[.int .i64 0] 37)) F lb d most v dn k b 0 c0 c → Below W.heap.size W (W.alloc (.cells #[.int .i64 0] 37)) → Calls Tryz.prog f caps (W.alloc (.cells #[.int .i64 0] 37)) fun e w' => Gs en e ∧ Lcp (W.alloc (.cells #[.int .i64 0] 37)) F lb d most v dn' k' b 0 c0 c' w') :
    Calls Tryz.prog 60 #[.func (.func f) #[] caps] W fun e w' => e = .returned (.int .i64 en) ∧ Lcp W F lb d most v dn' k' b 0 c0 c' w' := by
  have hb0 : Below W.heap.size W (W.alloc (.cells #[.int .i64 0] 37)) := (Below.refl _ _).alloc (Nat.le_refl _) _
  have hF := h.L.D.lt
  have hlb := h.L.lt
  have hb := h.ltb
  refine (attemptS f caps en (fun w' => Lcp (W.alloc (.cells #[.int .i64 0] 37)) F lb d most v dn' k' b 0 c0 c' w') W hent ((hC (h.below hb0) hb0).mono ?_)).mono ?_
  · rintro e w' ⟨h1, h2⟩
    refine ⟨h1, h2, ?_⟩
    obtain ⟨F', _, hk, _⟩ := h2
    exact box_keep (alloc_at W _) hk (fun e => by
      rcases e with e | e | e
      · have := hF _ e; omega
      · omega
      · omega)
  · rintro e w' ⟨rfl, w1, h1, rfl⟩
    exact ⟨rfl, h1.err hF hlb hb _⟩

/-- ifRoom: something is done, or taken back. -/
theorem ifRoom_any (x : Value) (f1 f2 : Nat) (caps1 caps2 : Array Value) (e1 e2 : Nat) (P1 P2 : World → Prop) (w : World) (hent : ∀ args w, (callFunc f2 args).run Tryz.prog w = .ok (.enter f2 args) w)
    (h1 : Calls Tryz.prog 60 #[.func (.func f1) #[] caps1] w fun e w' => e = .returned (.int .i64 e1) ∧ P1 w')
    (h2 : e1 = 8 → ∀ w1, P1 w1 → Calls Tryz.prog f2 caps2 w1 fun e w' => Gs e2 e ∧ P2 w') :
    Calls Tryz.prog 108 #[x, .func (.func f1) #[] caps1, .func (.func f2) #[] caps2] w fun e w' => Gs (if e1 = 8 then (if e2 ≠ 0 then e2 else 8) else e1) e ∧ (if e1 = 8 then P2 w' else P1 w') := by
  by_cases h8 : e1 = 8
  · subst h8
    rw [if_pos rfl]
    have h2' := h2 rfl
    have z8 : ((8 : Nat) : Int) = 8 := rfl
    by_cases h0 : e2 = 0
    · subst h0
      rw [if_neg (by simp)]
      have h2c := fun w1 hp => (h2' w1 hp).mono (fun e w' h => And.intro (h.1.elim (fun k => k.2) (fun k => absurd rfl k.1)) h.2 : ∀ e w', _ → (e = .returned (.tuple #[]) ∧ _))
      clear h2' h2
      go_enter Tryz.func108, Tryz.ntmps108
      go_wp2_with (first
        | (go_at_call 60; refine h1.mono ?_; rintro e w1 ⟨rfl, hp1⟩)
        | (go_at_fn f2; refine (h2c w1 hp1).mono ?_; rintro e w2 ⟨rfl, hp2⟩)
        | (go_at_call 129; refine (sask_no 8 _).mono ?_; rintro e w3 ⟨rfl, h3⟩; replace h3 := h3.symm; subst h3))
      exact ⟨rfl, gs_no (by decide) rfl, hp2⟩
    · rw [if_pos h0]
      have h2c := fun w1 hp => (h2' w1 hp).mono (fun e w' h => And.intro (h.1.elim (fun k => absurd k.1 h0) (fun k => k.2)) h.2 : ∀ e w', _ → (e = .panicked (gaveS e2) ∧ _))
      clear h2' h2
      go_enter Tryz.func108, Tryz.ntmps108
      go_wp2_with (first
        | (go_at_call 60; refine h1.mono ?_; rintro e w1 ⟨rfl, hp1⟩)
        | (go_at_fn f2; refine (h2c w1 hp1).mono ?_; rintro e w2 ⟨rfl, hp2⟩))
      exact ⟨rfl, gs_no h0 rfl, hp2⟩
  · rw [if_neg h8]
    have z8 : ((e1 : Int) == 8) = false := by rw [beq_eq_false_iff_ne]; omega
    clear h2
    by_cases h0 : e1 = 0
    · subst h0
      go_enter Tryz.func108, Tryz.ntmps108
      go_wp2_with (first
        | (go_at_call 60; refine h1.mono ?_; rintro e w1 ⟨rfl, hp1⟩)
        | (go_at_call 129; refine (sask_ok 0 _).mono ?_; rintro e w3 ⟨rfl, h3⟩; replace h3 := h3.symm; subst h3))
      go_end0
      exact ⟨Or.inl ⟨rfl, rfl⟩, hp1⟩
    · have z0 : ((e1 : Int) == 0) = false := by rw [beq_eq_false_iff_ne]; omega
      go_enter Tryz.func108, Tryz.ntmps108
      go_wp2_with (first
        | (go_at_call 60; refine h1.mono ?_; rintro e w1 ⟨rfl, hp1⟩)
        | (go_at_call 129; refine (sask_no e1 _).mono ?_; rintro e w3 ⟨rfl, h3⟩; replace h3 := h3.symm; subst h3))
      exact ⟨rfl, gs_no h0 rfl, hp1⟩

theorem mk0R (w : World) (M : Nat) (hM : M ≤ 10000000) : ∃ w', (Instr.makeSlice 30 (.int .i64 0) (.int .i64 M)).run Tryz.prog w = .ok (.slice (some ⟨w.heap.size, 0, none⟩) 0 M) w' ∧ w'.ownsRow w.heap.size 29 1 (.slice (some ⟨w.heap.size, 0, none⟩) 0 M) 0 [] ∧ Below w.heap.size w w' := by
  obtain ⟨i0, hi, hz0, hz1, hz2⟩ := info_parts infoRow
  obtain ⟨w', h1, h2, h3⟩ := run_make_own w w.heap.size 30 29 i0 (.slice none 0 0) 1 Tryz.underlying30 hi hz0 hz1 .i64 .i64 M (by rw [hz2]; omega) (by unfold maxLen; omega) (Nat.le_refl _)
  exact ⟨w', h1, h2, (Below.refl _ _).grown h3 (Nat.le_refl _) (fun k hk => by cases hk)⟩

/-- Append of one row of bytes to a row of rows of the call's own. -/
theorem wp_appRow {w : World} {ops : Array Oper} {rest : List Oper} {o : Oper} {a : Act} {Q : Exit → Act → World → Prop} (hgd : o.guard = none) (s x : Operand)
    (ho : o.op = .call { callee := .builtin .append, args := #[s, x], argTypes := #[30, 30] })
    (base : Nat) (v : Value) (n : Nat) (xs : List Value) (hs : a.eval s = v) (hown : w.ownsRow base 29 1 v n xs) (ao : Option Addr) (m c : Nat)
    (hx : a.eval x = .slice (some ⟨w.heap.size, 0, none⟩) 1 1) (hn : n ≤ 1000000) (hbase : base ≤ w.heap.size)
    (h : ∀ v' w', w'.ownsRow base 29 1 v' (n + 1) (xs ++ [.slice ao m c]) → Keep (fun k => v.ownBlock = some k) w w' → (v'.ownBlock = v.ownBlock ∨ ∃ g, v'.ownBlock = some g ∧ w.heap.size ≤ g) → wpList Tryz.prog ops Q rest (a.put o.dst v') w') : wpList Tryz.prog ops Q (o :: rest) a (w.alloc (.cells #[.slice ao m c] 29)) := by
  refine wpList_plain hgd fun K hK => ?_
  obtain ⟨v', w', hrun, h2, h3, h4⟩ := run_appW o.type hown ao m c hn hbase
  unfold Oper.wp
  simp only [execOp, ho, resolve, invoke, builtin, Sem.run_bind, Sem.run_pure, Result.andThen_ok, List.map_toArray, List.map_cons, List.map_nil, hs, hx, hrun]
  exact hK _ _ (h v' w' h2 h3 h4)
set_option maxHeartbeats 2000000 in
/-- Copies of records, in new memory. -/
theorem clones_any (a : Option Addr) (n c : Nat) (rs : List (List Int)) (w : World) (hR : RRd w a n rs) (hn : n ≤ 100000) (hrl : ∀ r ∈ rs, r.length ≤ 1048576) :
    Calls Tryz.prog 120 #[.slice a n c] w fun e w' => ∃ v, e = .returned v ∧ RcA w' (fun i => w.heap.size ≤ i ∧ i < w'.heap.size) v rs ∧ Below w.heap.size w w' := by
  obtain ⟨w1, hmk, ho1, hb1⟩ := mk0R w n (by omega)
  have Hn : Hid (rs.length = n) := hR.len
  have hnm := hR.most
  go_enter Tryz.func120, Tryz.ntmps120
  go_upto_region 3 with fail
  go_loopw [3, 5, 11] (fun s3 _ s11 wr => ∃ (j : Nat) (v : Value), s3 = v ∧ s11 = .int .i64 j ∧ j ≤ n ∧ Hid (RcA wr (fun i => w.heap.size ≤ i ∧ i < wr.heap.size) v (rs.take j)) ∧ Hid (Below w.heap.size w wr)) (fun _ _ s11 _ => n - (intOf s11).toNat)
  case atStart =>
    refine ⟨0, _, rfl, rfl, by omega, ?_, hb1⟩
    show RcA _ _ _ (rs.take 0)
    rw [List.take_zero]
    exact ⟨⟨[], own_weak ho1 (Nat.zero_le _), fun i r hr => by simp at hr⟩, fun g hg => by
      have := ho1.lt g hg
      exact ⟨this.1, this.2⟩⟩
  case round =>
    obtain ⟨j, v, rfl, rfl, hjn, HR, HB⟩ := hrel
    by_cases hlt : j < n
    · have hcl : (j : Int) < (n : Int) := by omega
      have hRr := hR.below HB.out
      obtain ⟨bb, off, rfl, hce⟩ := hRr.flat (by omega)
      obtain ⟨aj, nj, cj, hcj, hrj⟩ := hce j hlt
      clear hce hRr
      obtain ⟨r, hr⟩ : ∃ r, rs[j]? = some r := ⟨_, List.getElem?_eq_getElem (by rw [Hn.out]; exact hlt)⟩
      have hrd : rs.getD j [] = r := by rw [List.getD_eq_getElem?_getD, hr]; rfl
      rw [hrd] at hrj
      have hrm := hrl r (List.mem_of_getElem? hr)
      have htk : rs.take (j + 1) = rs.take j ++ [r] := by
        rw [List.take_add_one, hr]
        rfl
      have hbc := bcloneO aj nj cj r wr hrj (by rw [← hrj.len]; omega)
      obtain ⟨⟨vs, ov, hvs⟩, hvo⟩ := HR.out
      have hlj : (rs.take j).length = j := by rw [List.length_take, Hn.out]; omega
      have HLj : Hid ((rs.take j).length = j) := hlj
      have ovj := ov
      rw [hlj] at ovj
      obtain ⟨av, cv, hv⟩ := own_sl ovj
      subst hv
      have HTk : Hid (rs.take (j + 1) = rs.take j ++ [r]) := htk
      have hbd := hrj.bytes
      have hlen := hrj.len
      clear hrj hr hrd htk hlj
      go_wp2_with (first
        | (go_at_call 66; refine hbc.mono ?_; rintro e w5 ⟨u5, rfl, o5, hb5⟩; obtain ⟨a5, c5, rfl, _⟩ := Rd.ofOwn o5 hbd; have ov5 := own_keep (S := fun _ => False) ovj (Keep.ofBelow hb5) (fun _ _ h => h))
        | (at_builtin; refine wp_appRow rfl (.tmp 15) (.tmp 18) rfl 0 (.slice av j cv) j vs rfl ov5 a5 nj c5 rfl (by omega) (Nat.zero_le _) ?_; intro v6 w6 o6 hk6 hwh6; obtain ⟨a6, c6, rfl⟩ := own_sl o6))
      have h0s := HB.out.size
      have h5s := hb5.size
      have h6s := hk6.size
      have hB5 : Below w.heap.size w w5 := HB.out.trans (hb5.mono h0s)
      have hB6 : Below w.heap.size w w6 := hB5.trans (hk6.low hB5.size (fun i hi => (hvo i hi).1))
      have hR6 : RcA w6 (fun i => w.heap.size ≤ i ∧ i < w6.heap.size) (.slice a6 (j + 1) c6) (rs.take j ++ [r]) := by
        refine RcA.app (w := w5) (vs := vs) (v := .slice av j cv) (u := .slice a5 nj c5) (by rw [HLj.out]; exact ov5) (fun i r hr => ?_) (by rw [HLj.out]; exact o6) hk6 (by rw [hlen]; exact own_weak o5 (Nat.zero_le _)) (fun g hg => ?_) hbd (fun g hg => ?_)
        · obtain ⟨u2, m1, m2, m3, m4⟩ := hvs i r hr
          exact ⟨u2, m1, own_keep (S := fun _ => False) m2 (Keep.ofBelow hb5) (fun _ _ h => h), fun g hg => by have := m3 g hg; exact ⟨this.1, by omega⟩, m4⟩
        · have := o5.lt g hg
          exact ⟨by omega, by omega⟩
        · rcases hwh6 with h9 | ⟨g9, h9, h10⟩
          · have := hvo g (by rw [← h9]; exact hg)
            exact ⟨this.1, by omega⟩
          · rw [h9] at hg
            injection hg with hg
            subst hg
            refine ⟨by omega, ?_⟩
            obtain ⟨cur, e⟩ := own_blkT o6 h9
            exact (Array.getElem?_eq_some_iff.1 e).1
      exact ⟨⟨j + 1, _, rfl, by go_num, by omega, by show RcA _ _ _ _; rw [HTk.out]; exact hR6, hB6⟩, by simp [intOf]; omega⟩
    · have hcl : ¬ (j : Int) < (n : Int) := by omega
      have hR9 := HR.out
      rw [List.take_of_length_le (by rw [Hn.out]; omega)] at hR9
      go_wp2
      go_ret
      exact ⟨_, rfl, hR9, HB.out⟩

end Go.Proofs.YtikkieaokfailaaGreatDoor

/- seglog's Rebase: its closures. -/
namespace Go.Proofs.YtikkieaokfailaaGreatDoor
open Go.RowKit Go.Joins

/-- The segments of a chain are removed. -/
def remC (c : Ch) (dn : Bool) (k : Dk) : Nat × Bool × Dk := remAll (segs c.g 0 c.cnt) dn k
/-- The new base's file is removed, if it is there. -/
def remNewL (dn : Bool) (k : Dk) : Nat × Bool × Dk := if (readK k sNew).1 = 0 then stp dn k (removeK k sNew) else (0, dn, k)
def back2 (c : Ch) (dn : Bool) (k : Dk) : Nat × Bool × Dk := if (remC c dn k).1 ≠ 0 then remC c dn k else remNewL (remC c dn k).2.1 (remC c dn k).2.2
/-- The new base's file is written. -/
def wrB (c : Ch) (dn : Bool) (k : Dk) : Nat × Ch × Bool × Dk := ((stp dn k (appK k sNew (baseL c.g))).1, c, (stp dn k (appK k sNew (baseL c.g))).2)

theorem baseL_bd (g : Nat) : Bd (baseL g) := by
  unfold baseL
  exact (bigL_bd _ _).append (bigL_bd _ _)
theorem remNew_any (w : World) (F : Nat → Prop) (lb d most : Nat) (v : Value) (c : Ch) (dn : Bool) (k : Dk) (h : LD w F lb d most v c dn k) (hst : k.steps < 1000000) :
    Calls Tryz.prog 116 #[.pointer (some ⟨lb, 0, none⟩)] w fun e w' => Gs (remNewL dn k).1 e ∧ Lp w F lb d most v c (remNewL dn k).2.1 (remNewL dn k).2.2 w' := by
  have q0 := h.c0
  have hrd := read_any d F k sNew w h.D
  have hrm := fun w' (hb : Below w.heap.size w w') => sremove_any lb d most F v c dn k sNew hst w' (h.below hb)
  unfold remNewL
  unfold sNew at *
  obtain ⟨P, HP⟩ : ∃ P, Hid (readK k ⟨#[98, 97, 115, 101, 46, 110, 101, 119]⟩ = P) := ⟨_, rfl⟩
  rw [HP.out] at hrd ⊢
  obtain ⟨er, xs⟩ := P
  dsimp only at hrd ⊢
  by_cases h7 : er = 0
  · subst h7
    rw [if_pos rfl]
    obtain ⟨Q, HQ⟩ : ∃ Q, Hid (stp dn k (removeK k ⟨#[98, 97, 115, 101, 46, 110, 101, 119]⟩) = Q) := ⟨_, rfl⟩
    rw [HQ.out]
    simp only [HQ.out] at hrm
    obtain ⟨en, dn2, k2⟩ := Q
    dsimp only at hrm ⊢
    by_cases h0 : en = 0
    · subst h0
      go_enter Tryz.func116, Tryz.ntmps116
      go_wp2_with (first
        | (go_at_call 38; refine hrd.mono ?_; rintro e w1 ⟨v1, rfl, o1, hb1⟩)
        | (go_at_call 134; refine ((hrm w1 hb1).mono (fun e w' h => And.intro (h.1.elim (fun k => k.2) (fun k => absurd rfl k.1)) h.2 : ∀ e w', _ → (e = .returned (.tuple #[]) ∧ _))).mono ?_; rintro e w2 ⟨rfl, hp⟩))
      go_end0
      exact ⟨Or.inl ⟨rfl, rfl⟩, hp.from hb1⟩
    · go_enter Tryz.func116, Tryz.ntmps116
      go_wp2_with (first
        | (go_at_call 38; refine hrd.mono ?_; rintro e w1 ⟨v1, rfl, o1, hb1⟩)
        | (go_at_call 134; refine ((hrm w1 hb1).mono (fun e w' h => And.intro (h.1.elim (fun k => absurd k.1 h0) (fun k => k.2)) h.2 : ∀ e w', _ → (e = .panicked (gaveS en) ∧ _))).mono ?_; rintro e w2 ⟨rfl, hp⟩))
      exact ⟨rfl, gs_no h0 rfl, hp.from hb1⟩
  · rw [if_neg h7]
    have z0 : ((er : Int) == 0) = false := by rw [beq_eq_false_iff_ne]; omega
    clear hrm
    go_enter Tryz.func116, Tryz.ntmps116
    go_wp2_with (first
      | (go_at_call 38; refine hrd.mono ?_; rintro e w1 ⟨v1, rfl, o1, hb1⟩))
    go_end0
    exact ⟨Or.inl ⟨rfl, rfl⟩, Lp.ofBelow h hb1⟩

section
variable (w : World) (F : Nat → Prop) (lb d most : Nat) (v : Value) (dn : Bool) (k : Dk) (b p : Nat) (c0 c : Ch)

/-- The closure that lays all records. -/
theorem rb1_any (q : Nat) (h : LC w F lb d most v dn k b 0 c0 c) (hP : Pf w F lb) (hPb : 0 < b) (hp : w.heap[p]? = some (.cells #[.pointer (some ⟨lb, 0, none⟩)] 48 (0, 0))) (hg : c.g < 18446744073709551616) (hi : c.cnt ≤ 1000000000) (hz : c.size ≤ 1000000000) (hmo : most ≤ 1000000000)
    (a : Option Addr) (n cc : Nat) (rs : List (List Int)) (hq : w.heap[q]? = some (.cells #[.slice a n cc] 30 (0, 0))) (hR : RRd w a n rs) (hnS : RNot w a n (fun i => F i ∨ i = lb ∨ i = b)) (hn : n ≤ 10000) (hrl : ∀ r ∈ rs, r.length ≤ 1048576) (hst : k.steps + 2 * n < 999990) (hfl : k.fs.length + 2 * n < 999990) :
    Calls Tryz.prog 109 #[.pointer (some ⟨p, 0, none⟩), .pointer (some ⟨b, 0, none⟩), .pointer (some ⟨q, 0, none⟩)] w fun e w' => Gs (layAllL most rs c dn k).1 e ∧ Lcp w F lb d most v (layAllL most rs c dn k).2.2.1 (layAllL most rs c dn k).2.2.2 b 0 c0 (layAllL most rs c dn k).2.1 w' := by
  have hla := layAll_any w F lb d most v dn k b c0 c h hP hPb hg hi hz hmo a n cc rs hR hnS hn hrl hst hfl
  obtain ⟨P, HP⟩ : ∃ P, layAllL most rs c dn k = P := ⟨_, rfl⟩
  rw [HP] at hla ⊢
  clear HP
  obtain ⟨en, c2, dn2, k2⟩ := P
  dsimp only at hla ⊢
  have q1 := box_cell hp
  have q2 := box_cell hq
  by_cases h0 : en = 0
  · subst h0
    go_enter Tryz.func109, Tryz.ntmps109
    go_wp2_with (first
      | (go_at_call 110; refine (hla.mono (fun e w' h => And.intro (h.1.elim (fun k => k.2) (fun k => absurd rfl k.1)) h.2 : ∀ e w', _ → (e = .returned (.tuple #[]) ∧ _))).mono ?_; rintro e w6 ⟨rfl, hp⟩))
    go_end0
    exact ⟨Or.inl ⟨rfl, rfl⟩, hp⟩
  · go_enter Tryz.func109, Tryz.ntmps109
    go_wp2_with (first
      | (go_at_call 110; refine (hla.mono (fun e w' h => And.intro (h.1.elim (fun k => absurd k.1 h0) (fun k => k.2)) h.2 : ∀ e w', _ → (e = .panicked (gaveS en) ∧ _))).mono ?_; rintro e w6 ⟨rfl, hp⟩))
    exact ⟨rfl, gs_no h0 rfl, hp⟩
theorem LC.ld (h : LC w F lb d most v dn k b 0 c0 c) (hb : b ≠ lb) : LD w F lb d most v c0 dn k := by
  have := h.L
  rw [if_neg hb] at this
  exact this
theorem LC.lp {w' : World} {dn' : Bool} {k' : Dk} (h : LC w F lb d most v dn k b 0 c0 c) (hb : b ≠ lb) (hp : Lp w F lb d most v c0 dn' k' w') : Lcp w F lb d most v dn' k' b 0 c0 c w' := h.step (by rw [if_neg hb]; exact hp)
/-- The closure that removes what was laid. -/
theorem rb2_any (h : LC w F lb d most v dn k b 0 c0 c) (hb : b ≠ lb) (hP : Pf w F lb) (hp : w.heap[p]? = some (.cells #[.pointer (some ⟨lb, 0, none⟩)] 48 (0, 0))) (hg : c.g < 18446744073709551616) (hi : c.cnt ≤ 100000) (hst : k.steps + c.cnt < 1000000) :
    Calls Tryz.prog 111 #[.pointer (some ⟨p, 0, none⟩), .pointer (some ⟨b, 0, none⟩)] w fun e w' => Gs (remC c dn k).1 e ∧ Lcp w F lb d most v (remC c dn k).2.1 (remC c dn k).2.2 b 0 c0 c w' := by
  have hrs := remSegs_any w F lb d most v c0 dn k c 0 (h.ld _ _ _ _ _ _ _ _ _ _ _ hb) hP hg hi hst
  rw [Nat.sub_zero] at hrs
  unfold remC
  obtain ⟨P, HP⟩ : ∃ P, remAll (segs c.g 0 c.cnt) dn k = P := ⟨_, rfl⟩
  rw [HP] at hrs ⊢
  clear HP
  obtain ⟨en, dn2, k2⟩ := P
  dsimp only at hrs ⊢
  have q1 := box_cell hp
  have x0 : w.cell? ⟨b, 0, none⟩ = some (.int .u64 (c.g : Int)) := h.cell 0 (by omega)
  have x1 : w.cell? ⟨b, 1, none⟩ = some (.int .i64 (c.cnt : Int)) := h.cell 1 (by omega)
  have x2 : w.cell? ⟨b, 2, none⟩ = some (.int .i64 (c.size : Int)) := h.cell 2 (by omega)
  have x3 : w.cell? ⟨b, 3, none⟩ = some (.bool c.loose) := h.cell 3 (by omega)
  unfold chs at hrs
  have z1 : ((0 + 1 : Nat) : Int) = 1 := rfl
  rw [z1] at hrs
  by_cases h0 : en = 0
  · subst h0
    go_enter Tryz.func111, Tryz.ntmps111
    go_wp2_with (first
      | (go_at_call 112; refine (hrs.mono (fun e w' h => And.intro (h.1.elim (fun k => k.2) (fun k => absurd rfl k.1)) h.2 : ∀ e w', _ → (e = .returned (.tuple #[]) ∧ _))).mono ?_; rintro e w6 ⟨rfl, hp6⟩))
    go_end0
    exact ⟨Or.inl ⟨rfl, rfl⟩, h.lp _ _ _ _ _ _ _ _ _ _ _ hb hp6⟩
  · go_enter Tryz.func111, Tryz.ntmps111
    go_wp2_with (first
      | (go_at_call 112; refine (hrs.mono (fun e w' h => And.intro (h.1.elim (fun k => absurd k.1 h0) (fun k => k.2)) h.2 : ∀ e w', _ → (e = .panicked (gaveS en) ∧ _))).mono ?_; rintro e w6 ⟨rfl, hp6⟩))
    exact ⟨rfl, gs_no h0 rfl, h.lp _ _ _ _ _ _ _ _ _ _ _ hb hp6⟩
set_option maxHeartbeats 1000000 in
/-- The closure that writes the new base's file. -/
theorem rb3_any (h : LC w F lb d most v dn k b 0 c0 c) (hb : b ≠ lb) (hp : w.heap[p]? = some (.cells #[.pointer (some ⟨lb, 0, none⟩)] 48 (0, 0))) (np : ¬ F p ∧ p ≠ lb) (hst : k.steps < 999999) (hfl : k.fs.length < 999999) :
    Calls Tryz.prog 113 #[.pointer (some ⟨p, 0, none⟩), .pointer (some ⟨b, 0, none⟩)] w fun e w' => Gs (wrB c dn k).1 e ∧ Lcp w F lb d most v (wrB c dn k).2.2.1 (wrB c dn k).2.2.2 b 0 c0 (wrB c dn k).2.1 w' := by
  have hbX : Below w.heap.size w w.drew := (Below.refl _ _).drew
  have x0 : w.cell? ⟨b, 0, none⟩ = some (.int .u64 (c.g : Int)) := h.cell 0 (by omega)
  have HS0 : w.drew.cell? ⟨p, 0, none⟩ = some (.pointer (some ⟨lb, 0, none⟩)) ∧ w.drew.cell? ⟨b, 0, none⟩ = some (.int .u64 (c.g : Int)) := ⟨box_cell hp, x0⟩
  have hLD := h.ld _ _ _ _ _ _ _ _ _ _ _ hb
  have hwr := fun w' (hb : Below w.heap.size w w') a e hR => swrite_any lb d most F v c0 dn k sNew a 12 e (baseL c.g) (by omega) (by omega) (by omega) w' (hLD.below hb) hR
  have hfin : ∀ w', Lp w F lb d most v c0 (wrB c dn k).2.2.1 (wrB c dn k).2.2.2 w' → Lcp w F lb d most v (wrB c dn k).2.2.1 (wrB c dn k).2.2.2 b 0 c0 (wrB c dn k).2.1 w' := fun w' h9 => h.lp _ _ _ _ _ _ _ _ _ _ _ hb h9
  unfold wrB at hfin ⊢
  dsimp only at hfin ⊢
  unfold sNew at hwr hfin ⊢
  obtain ⟨P, HP⟩ : ∃ P, stp dn k (appK k ⟨#[98, 97, 115, 101, 46, 110, 101, 119]⟩ (baseL c.g)) = P := ⟨_, rfl⟩
  rw [HP] at hfin ⊢
  simp only [HP] at hwr
  clear HP
  obtain ⟨en, dn2, k2⟩ := P
  dsimp only at hwr hfin ⊢
  have hbf := baseForm_any c.g w.drew
  by_cases h0 : en = 0
  · subst h0
    go_enter Tryz.func113, Tryz.ntmps113
    go_upto_region 0 with fail
    refine wp_region_lx (fun w' => w'.cell? ⟨p, 0, none⟩ = some (.pointer (some ⟨lb, 0, none⟩)) ∧ w'.cell? ⟨b, 0, none⟩ = some (.int .u64 (c.g : Int))) [] 5 (by kernel_rfl) (by kernel_rfl) ?_
    generalize w.drew = X at *
    refine lx_rd 0 (.pointer (some ⟨lb, 0, none⟩)) (by kernel_rfl) (fun _ _ d _ _ h => by cases d <;> exact h) (by kernel_rfl) HS0 rfl rfl rfl (fun w' hS => ?ha0) ?_
    case ha0 => have q := hS.1; first | (go_simp; rfl) | go_simp
    simp only [List.setIfInBounds_toArray, List.set_cons_zero, List.set_cons_succ]
    refine lx_rd 1 (.pointer (some ⟨b, 0, none⟩)) (by kernel_rfl) (fun _ _ d _ _ h => by cases d <;> exact h) (by kernel_rfl) HS0 rfl rfl rfl (fun w' hS => ?ha1) ?_
    case ha1 => first | (go_simp; rfl) | go_simp
    simp only [List.setIfInBounds_toArray, List.set_cons_zero, List.set_cons_succ]
    refine lx_rd 2 (.int .u64 (c.g : Int)) (by kernel_rfl) (fun _ _ d _ _ h => by cases d <;> exact h) (by kernel_rfl) HS0 rfl rfl rfl (fun w' hS => ?ha2) ?_
    case ha2 => have q := hS.2; first | (go_simp; rfl) | go_simp
    simp only [List.setIfInBounds_toArray, List.set_cons_zero, List.set_cons_succ]
    refine lx_one 3 (by kernel_rfl) (stepT_call 114 ?a3 rfl rfl rfl ?r3 ?_)
    case r3 => first | (go_simp; rfl) | go_simp
    refine hbf.mono ?_
    rintro e w3 ⟨v3, rfl, o3, hb3⟩
    obtain ⟨a3, c3, rfl, r3⟩ := Rd.ofOwn o3 (baseL_bd c.g)
    have t3 : ∀ p x, X.cell? p = some x → w3.cell? p = some x := fun p x hx => (hb3.cell (World.block_lt_of_cell? _ _ hx)).trans hx
    refine ⟨_, rfl, fun _ => ⟨t3 _ _ HS0.1, t3 _ _ HS0.2⟩, ?_⟩
    simp only [List.setIfInBounds_toArray, List.set_cons_zero, List.set_cons_succ]
    have hB3 : Below w.heap.size w w3 := hbX.trans (hb3.mono hbX.size)
    refine lx_one 4 (by kernel_rfl) (stepT_call 102 ?a4 rfl rfl rfl ?r4 ?_)
    case r4 => first | (go_simp; rfl) | go_simp
    refine ((hwr w3 hB3 a3 c3 r3).mono (fun e w' h => And.intro (h.1.elim (fun k => k.2) (fun k => absurd rfl k.1)) h.2 : ∀ e w', _ → (e = .returned (.tuple #[]) ∧ _))).mono ?_
    rintro e w4 ⟨rfl, hp4⟩
    have HS4 : w4.cell? ⟨p, 0, none⟩ = some (.pointer (some ⟨lb, 0, none⟩)) ∧ w4.cell? ⟨b, 0, none⟩ = some (.int .u64 (c.g : Int)) := by
      obtain ⟨_, _, hk4, _⟩ := hp4
      exact ⟨hk4.cell (p := ⟨p, 0, none⟩) (t3 _ _ HS0.1) (fun h9 => h9.elim np.1 np.2), hk4.cell (p := ⟨b, 0, none⟩) (t3 _ _ HS0.2) (fun h9 => h9.elim h.nfb hb)⟩
    refine ⟨_, rfl, fun _ => HS4, ?_⟩
    simp only [List.setIfInBounds_toArray, List.set_cons_zero, List.set_cons_succ]
    refine lx_nil (by kernel_rfl) ?_
    go_wp2
    go_end0
    exact ⟨Or.inl ⟨rfl, rfl⟩, hfin w4 (hp4.from hB3)⟩
  · go_enter Tryz.func113, Tryz.ntmps113
    go_upto_region 0 with fail
    refine wp_region_lx (fun w' => w'.cell? ⟨p, 0, none⟩ = some (.pointer (some ⟨lb, 0, none⟩)) ∧ w'.cell? ⟨b, 0, none⟩ = some (.int .u64 (c.g : Int))) [] 5 (by kernel_rfl) (by kernel_rfl) ?_
    generalize w.drew = X at *
    refine lx_rd 0 (.pointer (some ⟨lb, 0, none⟩)) (by kernel_rfl) (fun _ _ d _ _ h => by cases d <;> exact h) (by kernel_rfl) HS0 rfl rfl rfl (fun w' hS => ?hb0) ?_
    case hb0 => have q := hS.1; first | (go_simp; rfl) | go_simp
    simp only [List.setIfInBounds_toArray, List.set_cons_zero, List.set_cons_succ]
    refine lx_rd 1 (.pointer (some ⟨b, 0, none⟩)) (by kernel_rfl) (fun _ _ d _ _ h => by cases d <;> exact h) (by kernel_rfl) HS0 rfl rfl rfl (fun w' hS => ?hb1) ?_
    case hb1 => first | (go_simp; rfl) | go_simp
    simp only [List.setIfInBounds_toArray, List.set_cons_zero, List.set_cons_succ]
    refine lx_rd 2 (.int .u64 (c.g : Int)) (by kernel_rfl) (fun _ _ d _ _ h => by cases d <;> exact h) (by kernel_rfl) HS0 rfl rfl rfl (fun w' hS => ?hb2) ?_
    case hb2 => have q := hS.2; first | (go_simp; rfl) | go_simp
    simp only [List.setIfInBounds_toArray, List.set_cons_zero, List.set_cons_succ]
    refine lx_one 3 (by kernel_rfl) (stepT_call 114 ?b3 rfl rfl rfl ?s3 ?_)
    case s3 => first | (go_simp; rfl) | go_simp
    refine hbf.mono ?_
    rintro e w3 ⟨v3, rfl, o3, hb3⟩
    obtain ⟨a3, c3, rfl, r3⟩ := Rd.ofOwn o3 (baseL_bd c.g)
    have t3 : ∀ p x, X.cell? p = some x → w3.cell? p = some x := fun p x hx => (hb3.cell (World.block_lt_of_cell? _ _ hx)).trans hx
    refine ⟨_, rfl, fun _ => ⟨t3 _ _ HS0.1, t3 _ _ HS0.2⟩, ?_⟩
    simp only [List.setIfInBounds_toArray, List.set_cons_zero, List.set_cons_succ]
    have hB3 : Below w.heap.size w w3 := hbX.trans (hb3.mono hbX.size)
    refine lx_one 4 (by kernel_rfl) (stepT_callP 102 ?b4 rfl rfl rfl ?s4 ?_)
    case s4 => first | (go_simp; rfl) | go_simp
    refine ((hwr w3 hB3 a3 c3 r3).mono (fun e w' h => And.intro (h.1.elim (fun k => absurd k.1 h0) (fun k => k.2)) h.2 : ∀ e w', _ → (e = .panicked (gaveS en) ∧ _))).mono ?_
    rintro e w4 ⟨rfl, hp4⟩
    refine Or.inr ⟨_, rfl, ?_⟩
    exact ⟨rfl, gs_no h0 rfl, hfin w4 (hp4.from hB3)⟩
set_option maxHeartbeats 1000000 in
/-- The closure that takes back all. -/
theorem rb4_any (h : LC w F lb d most v dn k b 0 c0 c) (hb : b ≠ lb) (hP : Pf w F lb) (hp : w.heap[p]? = some (.cells #[.pointer (some ⟨lb, 0, none⟩)] 48 (0, 0))) (np : ¬ F p ∧ p ≠ lb) (hg : c.g < 18446744073709551616) (hi : c.cnt ≤ 100000) (hst : k.steps + c.cnt < 999999) :
    Calls Tryz.prog 115 #[.pointer (some ⟨p, 0, none⟩), .pointer (some ⟨b, 0, none⟩)] w fun e w' => Gs (back2 c dn k).1 e ∧ Lcp w F lb d most v (back2 c dn k).2.1 (back2 c dn k).2.2 b 0 c0 c w' := by
  have hLD := h.ld _ _ _ _ _ _ _ _ _ _ _ hb
  have hrs := remSegs_any w F lb d most v c0 dn k c 0 hLD hP hg hi (by omega)
  rw [Nat.sub_zero] at hrs
  have hgr := (remAll_gr (segs c.g 0 c.cnt) dn k).1
  rw [segs_len] at hgr
  unfold back2 remC
  obtain ⟨P, HP⟩ : ∃ P, remAll (segs c.g 0 c.cnt) dn k = P := ⟨_, rfl⟩
  rw [HP] at hrs hgr ⊢
  clear HP
  obtain ⟨en, dn2, k2⟩ := P
  dsimp only at hrs hgr ⊢
  have q1 := box_cell hp
  have x0 : w.cell? ⟨b, 0, none⟩ = some (.int .u64 (c.g : Int)) := h.cell 0 (by omega)
  have x1 : w.cell? ⟨b, 1, none⟩ = some (.int .i64 (c.cnt : Int)) := h.cell 1 (by omega)
  have x2 : w.cell? ⟨b, 2, none⟩ = some (.int .i64 (c.size : Int)) := h.cell 2 (by omega)
  have x3 : w.cell? ⟨b, 3, none⟩ = some (.bool c.loose) := h.cell 3 (by omega)
  unfold chs at hrs
  have z1 : ((0 + 1 : Nat) : Int) = 1 := rfl
  rw [z1] at hrs
  by_cases h0 : en = 0
  · subst h0
    rw [if_neg (by simp)]
    have hrn := fun w' F' (hL : LD w' F' lb d most v c0 dn2 k2) => remNew_any w' F' lb d most v c0 dn2 k2 hL (by omega)
    obtain ⟨Q, HQ⟩ : ∃ Q, remNewL dn2 k2 = Q := ⟨_, rfl⟩
    rw [HQ]
    simp only [HQ] at hrn
    clear HQ
    obtain ⟨en3, dn3, k3⟩ := Q
    dsimp only at hrn ⊢
    by_cases h03 : en3 = 0
    · subst h03
      go_enter Tryz.func115, Tryz.ntmps115
      go_upto_region 1 with (first
        | (go_at_call 112; refine (hrs.mono (fun e w' h => And.intro (h.1.elim (fun k => k.2) (fun k => absurd rfl k.1)) h.2 : ∀ e w', _ → (e = .returned (.tuple #[]) ∧ _))).mono ?_; rintro e w6 ⟨rfl, F6, hL6, hk6, hF6⟩))
      have q6 := hk6.cell (p := ⟨p, 0, none⟩) q1 (fun h9 => h9.elim np.1 np.2)
      clear q1 x0 x1 x2 x3
      go_wp2_with (first
        | (go_at_call 116; refine ((hrn w6 F6 hL6).mono (fun e w' h => And.intro (h.1.elim (fun k => k.2) (fun k => absurd rfl k.1)) h.2 : ∀ e w', _ → (e = .returned (.tuple #[]) ∧ _))).mono ?_; rintro e w7 ⟨rfl, hp7⟩))
      go_end0
      exact ⟨Or.inl ⟨rfl, rfl⟩, h.lp _ _ _ _ _ _ _ _ _ _ _ hb (Lp.next hk6 hF6 hp7)⟩
    · go_enter Tryz.func115, Tryz.ntmps115
      go_upto_region 1 with (first
        | (go_at_call 112; refine (hrs.mono (fun e w' h => And.intro (h.1.elim (fun k => k.2) (fun k => absurd rfl k.1)) h.2 : ∀ e w', _ → (e = .returned (.tuple #[]) ∧ _))).mono ?_; rintro e w6 ⟨rfl, F6, hL6, hk6, hF6⟩))
      have q6 := hk6.cell (p := ⟨p, 0, none⟩) q1 (fun h9 => h9.elim np.1 np.2)
      clear q1 x0 x1 x2 x3
      go_wp2_with (first
        | (go_at_call 116; refine ((hrn w6 F6 hL6).mono (fun e w' h => And.intro (h.1.elim (fun k => absurd k.1 h03) (fun k => k.2)) h.2 : ∀ e w', _ → (e = .panicked (gaveS en3) ∧ _))).mono ?_; rintro e w7 ⟨rfl, hp7⟩))
      exact ⟨rfl, gs_no h03 rfl, h.lp _ _ _ _ _ _ _ _ _ _ _ hb (Lp.next hk6 hF6 hp7)⟩
  · rw [if_pos h0]
    go_enter Tryz.func115, Tryz.ntmps115
    go_wp2_with (first
      | (go_at_call 112; refine (hrs.mono (fun e w' h => And.intro (h.1.elim (fun k => absurd k.1 h0) (fun k => k.2)) h.2 : ∀ e w', _ → (e = .panicked (gaveS en) ∧ _))).mono ?_; rintro e w6 ⟨rfl, hp6⟩))
    exact ⟨rfl, gs_no h0 rfl, h.lp _ _ _ _ _ _ _ _ _ _ _ hb hp6⟩
/-- The closure that renames. -/
theorem rb5_any (h : LD w F lb d most v c0 dn k) (hp : w.heap[p]? = some (.cells #[.pointer (some ⟨lb, 0, none⟩)] 48 (0, 0))) (hst : k.steps < 1000000) (hfl : k.fs.length < 1000000) :
    Calls Tryz.prog 118 #[.pointer (some ⟨p, 0, none⟩)] w fun e w' => e = .returned (.int .i64 (renameK k sNew sBase).1) ∧ Dp w F d (renameK k sNew sBase).2 w' := by
  have hrn := rename_any d F k sNew sBase hst hfl w h.D
  have q0 := box_cell hp
  have q1 := h.c0
  unfold sNew sBase at *
  obtain ⟨P, HP⟩ : ∃ P, renameK k ⟨#[98, 97, 115, 101, 46, 110, 101, 119]⟩ ⟨#[98, 97, 115, 101]⟩ = P := ⟨_, rfl⟩
  rw [HP] at hrn ⊢
  clear HP
  go_enter Tryz.func118, Tryz.ntmps118
  go_wp2_with (first
    | (go_at_call 119; refine hrn.mono ?_; rintro e w1 ⟨rfl, hp1⟩))
  go_ret
  exact ⟨rfl, hp1⟩
end

end Go.Proofs.YtikkieaokfailaaGreatDoor

/- seglog's rebase. -/
namespace Go.Proofs.YtikkieaokfailaaGreatDoor
open Go.RowKit Go.Joins

/-- What was done, or what taking it back for want of room leaves. -/
def ifRoomL (x : Nat × Ch × Bool × Dk) (r : Nat × Bool × Dk) : Nat × Ch × Bool × Dk := if x.1 = 8 then ((if r.1 ≠ 0 then r.1 else 8), x.2.1, r.2) else x
def room1 (x : Nat × Ch × Bool × Dk) : Nat × Ch × Bool × Dk := ifRoomL x (remC x.2.1 x.2.2.1 x.2.2.2)
def room2 (x : Nat × Ch × Bool × Dk) : Nat × Ch × Bool × Dk := ifRoomL x (back2 x.2.1 x.2.2.1 x.2.2.2)
/-- Behind the renaming. -/
def rb4L (l : Lg) (rs : List (List Int)) (c : Ch) (x : Nat × Bool × Dk) : Nat × Lg × Dk :=
  if x.1 ≠ 0 then (x.1, ⟨l.most, l.recs, l.ch, x.2.1⟩, x.2.2) else ((remC l.ch x.2.1 x.2.2).1, ⟨l.most, rs, c, (remC l.ch x.2.1 x.2.2).2.1⟩, (remC l.ch x.2.1 x.2.2).2.2)
/-- Behind the sync. -/
def rb3L (l : Lg) (rs : List (List Int)) (c : Ch) (x : Nat × Bool × Dk) : Nat × Lg × Dk :=
  if x.1 ≠ 0 then (x.1, ⟨l.most, l.recs, l.ch, x.2.1⟩, x.2.2) else rb4L l rs c (stp x.2.1 x.2.2 (renameK x.2.2 sNew sBase))
/-- Behind the new base's writing. -/
def rb2L (l : Lg) (rs : List (List Int)) (x : Nat × Ch × Bool × Dk) : Nat × Lg × Dk :=
  if x.1 ≠ 0 then (x.1, ⟨l.most, l.recs, l.ch, x.2.2.1⟩, x.2.2.2) else rb3L l rs x.2.1 (stp x.2.2.1 x.2.2.2 (syncK x.2.2.2 sNew))
/-- Behind the laying. -/
def rb1L (l : Lg) (rs : List (List Int)) (x : Nat × Ch × Bool × Dk) : Nat × Lg × Dk :=
  if x.1 ≠ 0 then (x.1, ⟨l.most, l.recs, l.ch, x.2.2.1⟩, x.2.2.2) else rb2L l rs (room2 (wrB x.2.1 x.2.2.1 x.2.2.2))
def rebaseL (l : Lg) (k : Dk) (rs : List (List Int)) : Nat × Lg × Dk := rb1L l rs (room1 (layAllL l.most rs ⟨l.ch.g + 1, 0, 0, false⟩ l.dn k))

section
variable (w : World) (F : Nat → Prop) (lb d most : Nat) (v : Value) (dn : Bool) (k : Dk) (b p : Nat) (c0 c : Ch)
/-- All records are laid, or taken back. -/
theorem room1_any (q : Nat) (h : LC w F lb d most v dn k b 0 c0 c) (hb : b ≠ lb) (hP : Pf w F lb) (hPb : 0 < b) (hp : w.heap[p]? = some (.cells #[.pointer (some ⟨lb, 0, none⟩)] 48 (0, 0))) (np : ¬ F p ∧ p ≠ lb ∧ p ≠ b) (hg : c.g < 18446744073709551616) (hi : c.cnt ≤ 10000) (hz : c.size ≤ 1000000000) (hmo : most ≤ 1000000000)
    (a : Option Addr) (n cc : Nat) (rs : List (List Int)) (hq : w.heap[q]? = some (.cells #[.slice a n cc] 30 (0, 0))) (hR : RRd w a n rs) (hnS : RNot w a n (fun i => F i ∨ i = lb ∨ i = b)) (hn : n ≤ 10000) (hrl : ∀ r ∈ rs, r.length ≤ 1048576) (hst : k.steps + 3 * n + c.cnt < 999980) (hfl : k.fs.length + 2 * n < 999980) :
    Calls Tryz.prog 108 #[.pointer (some ⟨lb, 0, none⟩), .func (.func 109) #[] #[.pointer (some ⟨p, 0, none⟩), .pointer (some ⟨b, 0, none⟩), .pointer (some ⟨q, 0, none⟩)], .func (.func 111) #[] #[.pointer (some ⟨p, 0, none⟩), .pointer (some ⟨b, 0, none⟩)]] w fun e w' => Gs (room1 (layAllL most rs c dn k)).1 e ∧ Lcp w F lb d most v (room1 (layAllL most rs c dn k)).2.2.1 (room1 (layAllL most rs c dn k)).2.2.2 b 0 c0 (room1 (layAllL most rs c dn k)).2.1 w' := by
  obtain ⟨g1, g2, g3, g4⟩ := layAll_gr most rs c dn k
  have hlen := hR.len
  rw [hlen] at g1 g2 g4
  have h1 := attempt_C 109 #[.pointer (some ⟨p, 0, none⟩), .pointer (some ⟨b, 0, none⟩), .pointer (some ⟨q, 0, none⟩)] (layAllL most rs c dn k).1 w F lb d most v dn (layAllL most rs c dn k).2.2.1 k (layAllL most rs c dn k).2.2.2 b c0 c (layAllL most rs c dn k).2.1 h (enters_of Tryz.func109 (by kernel_rfl) rfl) (fun hL hb0 => rb1_any _ F lb d most v dn k b p c0 c q hL (hP.below hb0) hPb (box_below hp hb0) hg (by omega) hz hmo a n cc rs (box_below hq hb0) (hR.below hb0) (hnS.keep hR (Keep.ofBelow (S := fun _ => False) hb0) ⟨fun _ _ h => h, fun _ _ _ _ _ _ _ _ _ _ _ h => h⟩) hn hrl (by omega) (by omega))
  generalize layAllL most rs c dn k = x at *
  obtain ⟨e1, c1, dn1, k1⟩ := x
  dsimp only at g1 g2 g3 g4 h1
  have h2 := ifRoom_any (.pointer (some ⟨lb, 0, none⟩)) 109 111 _ #[.pointer (some ⟨p, 0, none⟩), .pointer (some ⟨b, 0, none⟩)] e1 (remC c1 dn1 k1).1 _ (fun w' => Lcp w F lb d most v (remC c1 dn1 k1).2.1 (remC c1 dn1 k1).2.2 b 0 c0 c1 w') w (enters_of Tryz.func111 (by kernel_rfl) rfl) h1 (fun _ w1 hP1 => by
    obtain ⟨F1, hL1, hk1, hF1⟩ := hP1
    have hk1' : Keep (fun i => F i ∨ i = lb ∨ i = b) w w1 := hk1
    refine (rb2_any w1 F1 lb d most v dn1 k1 b p c0 c1 hL1 hb (hP.next3 hPb hk1 hF1) (box_keep hp hk1 (fun h9 => by
      rcases h9 with h9 | h9 | h9
      · exact np.1 h9
      · exact np.2.1 h9
      · exact np.2.2 h9)) (by omega) (by omega) (by omega)).mono ?_
    rintro e w2 ⟨h3, h4⟩
    exact ⟨h3, Lcp.next hk1 hF1 h4⟩)
  refine h2.mono ?_
  rintro e w' ⟨h3, h4⟩
  unfold room1 ifRoomL
  dsimp only
  by_cases h8 : e1 = 8
  · rw [if_pos h8] at h3 h4 ⊢
    exact ⟨h3, h4⟩
  · rw [if_neg h8] at h3 h4 ⊢
    exact ⟨h3, h4⟩
/-- The new base's file is written, or all is taken back. -/
theorem room2_any (h : LC w F lb d most v dn k b 0 c0 c) (hb : b ≠ lb) (hP : Pf w F lb) (hPb : 0 < b) (hp : w.heap[p]? = some (.cells #[.pointer (some ⟨lb, 0, none⟩)] 48 (0, 0))) (np : ¬ F p ∧ p ≠ lb ∧ p ≠ b) (hpl : p < w.heap.size) (hg : c.g < 18446744073709551616) (hi : c.cnt ≤ 100000) (hst : k.steps + c.cnt < 999980) (hfl : k.fs.length < 999980) :
    Calls Tryz.prog 108 #[.pointer (some ⟨lb, 0, none⟩), .func (.func 113) #[] #[.pointer (some ⟨p, 0, none⟩), .pointer (some ⟨b, 0, none⟩)], .func (.func 115) #[] #[.pointer (some ⟨p, 0, none⟩), .pointer (some ⟨b, 0, none⟩)]] w fun e w' => Gs (room2 (wrB c dn k)).1 e ∧ Lcp w F lb d most v (room2 (wrB c dn k)).2.2.1 (room2 (wrB c dn k)).2.2.2 b 0 c0 (room2 (wrB c dn k)).2.1 w' := by
  have g1 : (wrB c dn k).2.2.2.steps ≤ k.steps + 1 := stp_gr dn k _ (app_gr k _ _).1
  have g3 : (wrB c dn k).2.1 = c := rfl
  have h1 := attempt_C 113 #[.pointer (some ⟨p, 0, none⟩), .pointer (some ⟨b, 0, none⟩)] (wrB c dn k).1 w F lb d most v dn (wrB c dn k).2.2.1 k (wrB c dn k).2.2.2 b c0 c (wrB c dn k).2.1 h (enters_of Tryz.func113 (by kernel_rfl) rfl) (fun hL hb0 => rb3_any _ F lb d most v dn k b p c0 c hL hb (box_below hp hb0) ⟨np.1, np.2.1⟩ (by omega) (by omega))
  generalize wrB c dn k = x at *
  obtain ⟨e1, c1, dn1, k1⟩ := x
  dsimp only at g1 g3 h1
  subst g3
  have h2 := ifRoom_any (.pointer (some ⟨lb, 0, none⟩)) 113 115 _ #[.pointer (some ⟨p, 0, none⟩), .pointer (some ⟨b, 0, none⟩)] e1 (back2 c1 dn1 k1).1 _ (fun w' => Lcp w F lb d most v (back2 c1 dn1 k1).2.1 (back2 c1 dn1 k1).2.2 b 0 c0 c1 w') w (enters_of Tryz.func115 (by kernel_rfl) rfl) h1 (fun _ w1 hP1 => by
    obtain ⟨F1, hL1, hk1, hF1⟩ := hP1
    refine (rb4_any w1 F1 lb d most v dn1 k1 b p c0 c1 hL1 hb (hP.next3 hPb hk1 hF1) (box_keep hp hk1 (fun h9 => by
      rcases h9 with h9 | h9 | h9
      · exact np.1 h9
      · exact np.2.1 h9
      · exact np.2.2 h9)) ⟨fun h9 => (hF1 p h9).elim np.1 (fun h9 => by omega), np.2.1⟩ (by omega) (by omega) (by omega)).mono ?_
    rintro e w2 ⟨h3, h4⟩
    exact ⟨h3, Lcp.next hk1 hF1 h4⟩)
  refine h2.mono ?_
  rintro e w' ⟨h3, h4⟩
  unfold room2 ifRoomL
  dsimp only
  by_cases h8 : e1 = 8
  · rw [if_pos h8] at h3 h4 ⊢
    exact ⟨h3, h4⟩
  · rw [if_neg h8] at h3 h4 ⊢
    exact ⟨h3, h4⟩
end

end Go.Proofs.YtikkieaokfailaaGreatDoor
