/- privacy: the document's writing and its Text. -/
import Derived.Test.YtiplalbicibahaaDoorPvQ
import Derived.Test.YtiplalbicibahaaDoorPvR
set_option maxRecDepth 100000
namespace Go.Proofs.YtiplalbicibahaaDoor
open Go.RowKit Go.Joins Go.Shelf

/-! ### as text -/
def wayQ (r : Rul) : By := if r.i && r.o then wBoth ++ [32] else if r.i then wIn ++ [32] else if r.o then wOut ++ [32] else []
def headQ (r : Rul) : By := (if r.al then wAllow ++ [32] else wDeny ++ [32]) ++ wayQ r ++ r.k
def writeQ (r : Rul) : By := if (r.k == wAll) = true then headQ r else headQ r ++ [32] ++ r.v
theorem wayQ_len (r : Rul) : (wayQ r).length ≤ 5 := by unfold wayQ; split; · decide
                                                       · split; · decide
                                                         · split <;> decide
theorem writeQ_len (r : Rul) : (writeQ r).length ≤ 12 + r.k.length + r.v.length := by
  have := wayQ_len r
  have ha : (if r.al then wAllow ++ [32] else wDeny ++ [32] : By).length ≤ 6 := by split <;> decide
  unfold writeQ headQ
  split
  · simp only [List.length_append]; omega
  · simp only [List.length_append, List.length_cons, List.length_nil]; omega
theorem write_same {r : Rul} (h : (r.i || r.o) = true) : writeQ r = writtenR r := by
  have e : headQ r = headT r := by
    obtain ⟨al, i, o, k, v⟩ := r
    unfold headQ headT wayQ wayT verdictT
    cases al <;> cases i <;> cases o <;> first | rfl | (dsimp only at h; cases h)
  unfold writeQ writtenR
  rw [e]
theorem ways_ok {m : By} (h : (waysR m).2.2.2 = 0) : ((waysR m).1 || (waysR m).2.1) = true := by
  unfold waysR at h ⊢
  split at h
  · rename_i h1
    rw [if_pos h1]
    split at h
    · rename_i h2
      rw [if_pos h2]
      exact h2
    · cases h
  · cases h
theorem way_ok {l : By} (h : (parseR l).2 = 0) : ((parseR l).1.i || (parseR l).1.o) = true := by
  unfold parseR at h ⊢
  split at h
  · rename_i h1
    rw [if_pos h1]
    split at h
    · rename_i h2
      rw [if_pos h2]
      split at h
      · rename_i h3
        rw [if_pos h3]
        exact ways_ok h2
      · rename_i h3; exact absurd h h3
    · rename_i h2; exact absurd h h2
  · rename_i h1; exact absurd h h1
def okQ (r : Rul) : Bool := (parseR (writeQ r)).2 == 0 && eqRul (parseR (writeQ r)).1 r
theorem not_ways {l : By} {r : Rul} (h : (r.i || r.o) = false) : ((parseR l).2 == 0 && eqRul (parseR l).1 r) = false := by
  cases hE : ((parseR l).2 == 0 && eqRul (parseR l).1 r) with
  | false => rfl
  | true =>
    simp only [Bool.and_eq_true, beq_iff_eq] at hE
    have := way_ok hE.1
    rw [eqRul_true hE.2, h] at this
    cases this
theorem ok_same (r : Rul) : okQ r = okT r := by
  unfold okQ okT
  cases h : (r.i || r.o) with
  | true => rw [write_same h]
  | false => rw [not_ways h, not_ways h]
theorem write_ok {r : Rul} (h : okQ r = true) : writeQ r = writtenR r := by
  cases h2 : (r.i || r.o) with
  | true => exact write_same h2
  | false => unfold okQ at h; rw [not_ways h2] at h; cases h

set_option maxHeartbeats 1600000 in
theorem qwrite_any (r : Rul) (w : World) (hz : r.k.length + r.v.length ≤ 281474976710000) : Calls Tryd.prog 24 #[rv r] w fun e w' => e = .returned (.string (ba (writeQ r))) ∧ Below w.heap.size w w' := by
  obtain ⟨al, i, o, k, v⟩ := r
  have e1 : ((ba k).toList == [97, 108, 108]) = (k == wAll) := ba_eq _ _
  have HL : Hid (k.length + v.length ≤ 281474976710000) := hz
  obtain ⟨W, HW⟩ : ∃ W, Hid (writeQ ⟨al, i, o, k, v⟩ = W) := ⟨_, rfl⟩
  rw [HW.out]
  have HR : Hid (RuAt (w.alloc (.cells (rc ⟨al, i, o, k, v⟩) 23)) w.heap.size ⟨al, i, o, k, v⟩ ∧ Below w.heap.size w (w.alloc (.cells (rc ⟨al, i, o, k, v⟩) 23))) := ⟨push_at _ _ rfl, below1 _ _⟩
  clear hz
  have HW2 := HW.out
  unfold writeQ headQ wayQ at HW2
  replace HW2 : Hid _ := HW2
  clear HW
  show Calls _ _ #[.agg (rc _)] _ _
  unfold rc
  unfold rc at HR
  generalize hb : (k == wAll) = b at *
  clear hb
  cases al <;> cases i <;> cases o <;> cases b
  all_goals
    go_enter Tryd.func24, Tryd.ntmps24
    go_upto_region 1 with fail
    generalize w.alloc _ = X at HR ⊢
    have u0 := HR.out.1.c0
    have u1 := HR.out.1.c1
    have u2 := HR.out.1.c2
    have u3 := HR.out.1.c3
    have u4 := HR.out.1.c4
    go_wp2_with (refine wp_addB rfl rfl _ _ rfl rfl (by have := HL.out; simp only [List.length_append, List.length_cons, List.length_nil]; omega) ?_)
    go_ret
    refine ⟨?_, HR.out.2⟩
    rw [← HW2.out]
    simp [wAllow, wDeny, wBoth, wIn, wOut]
end Go.Proofs.YtiplalbicibahaaDoor
