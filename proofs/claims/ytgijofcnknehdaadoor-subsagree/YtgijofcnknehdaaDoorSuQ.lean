/- SubsAgree: the letters on their way, in memory. -/
import Derived.Test.YtgijofcnknehdaaDoorSuP
import Derived.Test.YtgijofcnknehdaaDoorSuJ
import Derived.Deep.MidRow
import Derived.ArgAppend
import Derived.Deep.CutBlock
namespace Go.Proofs.YtgijofcnknehdaaDoor
open Go.RowKit Go.Joins

def qv (q : List Lt) : List Value := q.flatMap fun x => [.int .i64 x.1, .int .u64 x.2]
theorem qv_len (q : List Lt) : (qv q).length = q.length * 2 := by
  induction q with
  | nil => rfl
  | cons a q ih => show (qv q).length + 2 = _; rw [ih, List.length_cons]; omega
theorem qv_app (q : List Lt) (x : Lt) : qv (q ++ [x]) = qv q ++ [.int .i64 x.1, .int .u64 x.2] := by unfold qv; rw [List.flatMap_append]; rfl

/-- A slice of letters: its own block, at T or above. -/
structure Qu (w : World) (T : Nat) (v : Value) (q : List Lt) : Prop where
  ex : ∃ a cap, v = .slice a q.length cap ∧ q.length ≤ cap ∧ cap ≤ maxLen ∧ (a = none → cap = 0) ∧ (0 < cap → ∃ g off cur, a = some ⟨g, off, none⟩ ∧ w.heap[g]? = some (.cells cur 48 (0, 0)) ∧ off + cap * 2 ≤ cur.size ∧ ∀ j u, (qv q)[j]? = some u → cur[off + j]? = some u)
  own : ∀ g, v.ownBlock = some g → T ≤ g ∧ g < w.heap.size
theorem Qu.nil (w : World) (T : Nat) : Qu w T (.slice none 0 0) [] := ⟨⟨none, 0, rfl, Nat.le_refl _, by unfold maxLen; omega, fun _ => rfl, fun h => by omega⟩, fun g h => by cases h⟩
theorem Qu.keep {w w' : World} {T : Nat} {v : Value} {q : List Lt} {S : Nat → Prop} (Q : Qu w T v q) (hk : Keep S w w') (hs : ∀ g, v.ownBlock = some g → ¬ S g) : Qu w' T v q := by
  obtain ⟨a, cap, rfl, h1, h2, h2', h3⟩ := Q.ex
  refine ⟨⟨a, cap, rfl, h1, h2, h2', fun hc => ?_⟩, fun g hg => ⟨(Q.own g hg).1, Nat.lt_of_lt_of_le (Q.own g hg).2 hk.size⟩⟩
  obtain ⟨g, off, cur, rfl, h4, h5, h6⟩ := h3 hc
  exact ⟨g, off, cur, rfl, box_keep h4 hk (hs g rfl), h5, h6⟩
theorem Qu.below {w w' : World} {T : Nat} {v : Value} {q : List Lt} (Q : Qu w T v q) (hb : Below w.heap.size w w') : Qu w' T v q := Q.keep (S := fun _ => False) (Keep.ofBelow hb) (fun _ _ h => h)
/-- The first letter. -/
theorem Qu.head {w : World} {T : Nat} {v : Value} {x : Lt} {q : List Lt} (Q : Qu w T v (x :: q)) : ∃ g off cap, v = .slice (some ⟨g, off, none⟩) (q.length + 1) cap ∧ q.length + 1 ≤ cap ∧ cap ≤ maxLen ∧
    w.cell? ⟨g, off, none⟩ = some (.int .i64 x.1) ∧ w.cell? ⟨g, off + 1, none⟩ = some (.int .u64 x.2) ∧ ∀ w', Keep (fun k => k ≠ g) w w' → Qu w' T (.slice (if cap = 1 then some ⟨g, off, none⟩ else some ⟨g, off + 2, none⟩) q.length (cap - 1)) q := by
  obtain ⟨a, cap, rfl, h1, h2, h2', h3⟩ := Q.ex
  have h1 : q.length + 1 ≤ cap := by simpa using h1
  obtain ⟨g, off, cur, rfl, h4, h5, h6⟩ := h3 (by omega)
  have c0 : cur[off]? = some (.int .i64 x.1) := h6 0 _ rfl
  have c1 : cur[off + 1]? = some (.int .u64 x.2) := h6 1 _ rfl
  refine ⟨g, off, cap, rfl, h1, h2, by rw [cell_of_block h4]; exact c0, by rw [cell_of_block h4]; exact c1, fun w' hk => ⟨⟨_, cap - 1, rfl, by omega, by omega, fun e => ?_, fun hc => ?_⟩, fun g' hg' => ?_⟩⟩
  · split at e <;> cases e
  · rw [if_neg (by omega)]
    refine ⟨g, off + 2, cur, rfl, box_keep h4 hk (fun k => k rfl), by omega, fun j u hj => ?_⟩
    have := h6 (j + 2) u (by exact hj)
    rw [show off + 2 + j = off + (j + 2) by omega]
    exact this
  · have e : g' = g := by
      split at hg' <;> exact (Option.some.inj hg').symm
    subst e
    have := Q.own g' rfl
    exact ⟨this.1, Nat.lt_of_lt_of_le this.2 hk.size⟩

theorem infoLetter : (Tryd.prog.info? 48).map (fun i => (i.zero, i.size, i.bytes)) = some (some (.agg #[.int .i64 0, .int .u64 0]), 2, 16) := by kernel_rfl
theorem run_appQ {w : World} {T : Nat} {v : Value} {q : List Lt} (Q : Qu w T v q) (ty : TypeId) (x : Lt) (hT : T ≤ w.heap.size) (hq : q.length ≤ 100000) :
    ∃ v' w', (Builtin.append_ #[42, 42] ty #[v, .slice (some ⟨w.heap.size, 0, none⟩) 1 1]).run Tryd.prog (w.alloc (.cells #[.int .i64 x.1, .int .u64 x.2] 48)) = .ok v' w' ∧ Qu w' T v' (q ++ [x]) ∧ Keep (fun k => v.ownBlock = some k) w w' ∧ (v'.ownBlock = v.ownBlock ∨ ∃ g, v'.ownBlock = some g ∧ w.heap.size ≤ g) := by
  obtain ⟨i0, hi, hz0, hz1, hz2⟩ : ∃ i, Tryd.prog.info? 48 = some i ∧ i.zero = some (.agg #[.int .i64 0, .int .u64 0]) ∧ i.size = 2 ∧ i.bytes = 16 := by
    have h := infoLetter
    cases hq : Tryd.prog.info? 48 with
    | none => simp [hq] at h
    | some i => simp [hq] at h; exact ⟨i, rfl, h.1, h.2.1, h.2.2⟩
  have hk0 : Keep (fun k => v.ownBlock = some k) w (w.alloc (.cells #[.int .i64 x.1, .int .u64 x.2] 48)) := (Keep.refl _ _).alloc _
  have Q1 := Q.below (below1 w (.cells #[.int .i64 x.1, .int .u64 x.2] 48))
  have hsz : (w.alloc (.cells #[.int .i64 x.1, .int .u64 x.2] 48)).heap.size = w.heap.size + 1 := by simp
  have hnw : ∀ j u, [Value.int .i64 x.1, .int .u64 x.2][j]? = some u → (w.alloc (.cells #[.int .i64 x.1, .int .u64 x.2] 48)).cell? ((⟨w.heap.size, 0, none⟩ : Addr).add j) = some u := fun j u hu => by
    rw [add_flat, Nat.zero_add, cell_of_block (alloc_at w _)]
    simpa using hu
  have one : ∀ u ∈ [Value.int .i64 x.1, .int .u64 x.2], u.oneCell' = true := by simp [Value.oneCell']
  generalize w.alloc (.cells #[.int .i64 x.1, .int .u64 x.2] 48) = W at *
  obtain ⟨a, cap, rfl, h1, h2, h2', h3⟩ := Q1.ex
  -- what a growing append leaves
  have grown : ∀ v' w', w'.ownsRow W.heap.size 48 2 v' (q.length + 1) (qv q ++ [.int .i64 x.1, .int .u64 x.2]) → W.grownBy w' none → Qu w' T v' (q ++ [x]) ∧ Keep (fun k => (Value.slice a q.length cap).ownBlock = some k) w w' ∧ (v'.ownBlock = (Value.slice a q.length cap).ownBlock ∨ ∃ g, v'.ownBlock = some g ∧ w.heap.size ≤ g) := by
    intro v' w' ho hgb
    have hkk : Keep (fun k => (Value.slice a q.length cap).ownBlock = some k) w w' := hk0.trans ((Keep.ofGrown hgb).mono (fun i e => by cases e))
    obtain ⟨_, ⟨_, e0⟩ | ⟨g, cap', cur, rfl, hg, hbk, hn, hc, hcs, htk⟩⟩ := ho
    · omega
    · refine ⟨⟨⟨_, cap', by rw [List.length_append]; rfl, by rw [List.length_append]; exact hn, hc, (fun e => by cases e), fun _ => ⟨g, 0, cur, rfl, hbk, by omega, fun j u hj => ?_⟩⟩, fun g' hg' => ?_⟩, hkk, Or.inr ⟨g, rfl, by omega⟩⟩
      · rw [qv_app, ← htk] at hj
        rw [Nat.zero_add, ← Array.getElem?_toList]
        rw [List.getElem?_take] at hj
        split at hj
        · exact hj
        · cases hj
      · have e : g' = g := (Option.some.inj hg').symm
        subst e
        exact ⟨by omega, (Array.getElem?_eq_some_iff.1 hbk).1⟩
  by_cases hroom : q.length + 1 ≤ cap
  · obtain ⟨g, off, cur, rfl, h4, h5, h6⟩ := h3 (by omega)
    have hgo := Q.own g rfl
    have hsome : ∀ j, j < 2 → (W.cell? ⟨g, off + q.length * i0.size + j, none⟩).isSome = true := fun j hj => by
      rw [cell_of_block h4, hz1, Array.getElem?_eq_getElem (by omega)]; rfl
    have hrun := run_append_room_cells (P := Tryd.prog) W 42 ty 48 i0 Tryd.underlying42 hi g off q.length cap ⟨w.heap.size, 0, none⟩ 1 1 [.int .i64 x.1, .int .u64 x.2] (by rw [hz1]; rfl) hnw one hroom hsome (fun j hj => unfrozen_of_block h4 _)
    rw [hz1] at hrun
    refine ⟨_, _, hrun, ?_, ?_, Or.inl rfl⟩
    · have hb1 := block_setCell (i := off + q.length * 2) h4 (.int .i64 x.1)
      have hb2 := block_setCell (i := off + q.length * 2 + 1) hb1 (.int .u64 x.2)
      refine ⟨⟨_, cap, by rw [List.length_append]; rfl, by rw [List.length_append]; exact hroom, h2, (fun e => by cases e), fun _ => ⟨g, off, _, rfl, hb2, by simp; omega, fun j u hj => ?_⟩⟩, fun g' hg' => ?_⟩
      · rw [qv_app] at hj
        by_cases hl : j < (qv q).length
        · rw [List.getElem?_append_left hl] at hj
          rw [qv_len] at hl
          rw [Array.getElem?_setIfInBounds_ne (by omega), Array.getElem?_setIfInBounds_ne (by omega)]
          exact h6 j u hj
        · rw [List.getElem?_append_right (by omega), qv_len] at hj
          rw [qv_len] at hl
          obtain ⟨j', hj'⟩ : ∃ j', j = q.length * 2 + j' := ⟨j - q.length * 2, by omega⟩
          subst hj'
          rw [Nat.add_sub_cancel_left] at hj
          rcases j' with _ | _ | j'
          · have : u = .int .i64 x.1 := by simpa using hj.symm
            subst this
            rw [Array.getElem?_setIfInBounds_ne (by omega), Nat.add_zero]
            exact Array.getElem?_setIfInBounds_self_of_lt (by omega)
          · have : u = .int .u64 x.2 := by simpa using hj.symm
            subst this
            exact Array.getElem?_setIfInBounds_self_of_lt (by simp; omega)
          · simp at hj
      · have e : g' = g := (Option.some.inj hg').symm
        subst e
        exact ⟨hgo.1, (Array.getElem?_eq_some_iff.1 hb2).1⟩
    · refine hk0.trans ?_
      show Keep _ W ((W.setCell ⟨g, off + q.length * 2, none⟩ (.int .i64 x.1)).setCell ⟨g, off + q.length * 2 + 1, none⟩ (.int .u64 x.2))
      exact ((Keep.refl (fun k => (Value.slice (some ⟨g, off, none⟩) q.length cap).ownBlock = some k) W).setCell (p := ⟨g, off + q.length * 2, none⟩) rfl _).setCell (p := ⟨g, off + q.length * 2 + 1, none⟩) rfl _
  · have hcap : cap = q.length := by omega
    cases a with
    | none =>
      have h0 := h2' rfl
      obtain ⟨v', w', hrun, ho, hgb, _⟩ := run_append_own (P := Tryd.prog) W W.heap.size 42 ty 48 i0 (.agg #[.int .i64 0, .int .u64 0]) 2 16 Tryd.underlying42 hi hz0 hz1 hz2 rfl (by decide) (.slice none 0 0) 0 [] ⟨rfl, Or.inl ⟨rfl, rfl⟩⟩ ⟨w.heap.size, 0, none⟩ 1 1 [.int .i64 x.1, .int .u64 x.2] rfl hnw one (by unfold maxLen; omega) (by decide) (Nat.le_refl _)
      have hq0 : q = [] := List.length_eq_zero_iff.1 (by omega)
      subst hq0
      subst h0
      obtain ⟨a1, a2, a3⟩ := grown v' w' ho hgb
      exact ⟨v', w', hrun, a1, a2, a3⟩
    | some ad =>
      have holds : ∀ j u, (qv q)[j]? = some u → W.cell? (ad.add j) = some u := fun j u hj => by
        have hjl : j < (qv q).length := (List.getElem?_eq_some_iff.1 hj).1
        rw [qv_len] at hjl
        obtain ⟨g, off, cur, e, h4, h5, h6⟩ := h3 (by omega)
        have e := Option.some.inj e
        subst e
        rw [add_flat, cell_of_block h4]
        exact h6 j u hj
      obtain ⟨v', w', hrun, ho, hgb⟩ := run_append_arg_grows (P := Tryd.prog) W 42 ty 48 i0 (.agg #[.int .i64 0, .int .u64 0]) 2 16 Tryd.underlying42 hi hz0 hz1 hz2 rfl (by decide) ad q.length cap (qv q) (qv_len q) holds ⟨w.heap.size, 0, none⟩ 1 1 [.int .i64 x.1, .int .u64 x.2] rfl hnw (by omega) (by unfold maxLen; omega) (by omega)
      obtain ⟨a1, a2, a3⟩ := grown v' w' ho hgb
      exact ⟨v', w', hrun, a1, a2, a3⟩
end Go.Proofs.YtgijofcnknehdaaDoor
