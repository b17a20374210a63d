/- The document's Text, its ways. -/
import Derived.Test.YtikklhnkkfimfaaDoorNmRefPA
import Derived.Test.YtikklhnkkfimfaaDoorNmTextA
namespace Go.Proofs.YtikklhnkkfimfaaDoor
open Go.RowKit

theorem ret_strN {a b : ByteArray} {n : Int} (h : a.data = b.data) : Ending.returned (.tuple #[.string a, .int .i64 n]) = .returned (.tuple #[.string b, .int .i64 n]) := by
  cases a; cases b; cases h; rfl

set_option maxHeartbeats 1600000 in
theorem rtxt_hx (l h r : List UInt8) (pH : List UInt8 × Nat) (w : World) (RH : PartR 12 ⟨h.toArray⟩ pH) (kH : pH.2 ≠ 0)  :
    Calls Tryd.prog 19 #[.agg #[.string ⟨l.toArray⟩, .string ⟨h.toArray⟩, .string ⟨r.toArray⟩]] w fun e w' => e = .returned (.tuple #[noS, .int .i64 pH.2]) ∧ Below w.heap.size w w' := by
  have yH : ((pH.2 : Int) != 0) = true := by simpa using kH
  have h0 : St w (w.alloc (.cells #[.string ⟨l.toArray⟩, .string ⟨h.toArray⟩, .string ⟨r.toArray⟩] 31)) (.string ⟨l.toArray⟩) (.string ⟨h.toArray⟩) (.string ⟨r.toArray⟩) := St.box w _ _ _
  go_enter Tryd.func19, Tryd.ntmps19
  go_wp2_with (first
    | (go_at_call 12; refine (RH _).mono ?_; rintro e w1 ⟨rfl, hb1⟩; have h1 := h0.call hb1; have a0 := h1.c0; have a1 := h1.c1; have a2 := h1.c2))
  go_ret2
  exact ⟨rfl, h1.below⟩

set_option maxHeartbeats 1600000 in
theorem rtxt_ex (l h r : List UInt8) (pH pL : List UInt8 × Nat) (w : World) (RH : PartR 12 ⟨h.toArray⟩ pH) (kH : pH.2 = 0) (RL : PartR 10 ⟨l.toArray⟩ pL) (kL : pL.2 ≠ 0) (_nL : l.isEmpty = false)  :
    Calls Tryd.prog 19 #[.agg #[.string ⟨l.toArray⟩, .string ⟨h.toArray⟩, .string ⟨r.toArray⟩]] w fun e w' => e = .returned (.tuple #[noS, .int .i64 pL.2]) ∧ Below w.heap.size w w' := by
  have yL : ((pL.2 : Int) != 0) = true := by simpa using kL
  have yH : ((pH.2 : Int) != 0) = false := by simp [kH]
  have h0 : St w (w.alloc (.cells #[.string ⟨l.toArray⟩, .string ⟨h.toArray⟩, .string ⟨r.toArray⟩] 31)) (.string ⟨l.toArray⟩) (.string ⟨h.toArray⟩) (.string ⟨r.toArray⟩) := St.box w _ _ _
  go_enter Tryd.func19, Tryd.ntmps19
  go_wp2_with (first
    | (go_at_call 12; refine (RH _).mono ?_; rintro e w1 ⟨rfl, hb1⟩; have h1 := h0.call hb1; have a0 := h1.c0; have a1 := h1.c1; have a2 := h1.c2)
    | (go_at_call 10; refine (RL _).mono ?_; rintro e w2 ⟨rfl, hb2⟩; have h2 := h1.call hb2; have b0 := h2.c0; have b1 := h2.c1; have b2 := h2.c2))
  go_ret2
  exact ⟨rfl, h2.below⟩

set_option maxHeartbeats 1600000 in
theorem rtxt_nn (l h r : List UInt8) (pH : List UInt8 × Nat) (w : World) (RH : PartR 12 ⟨h.toArray⟩ pH) (kH : pH.2 = 0) (_nL : l.isEmpty = true) (_nR : r.isEmpty = true)  :
    Calls Tryd.prog 19 #[.agg #[.string ⟨l.toArray⟩, .string ⟨h.toArray⟩, .string ⟨r.toArray⟩]] w fun e w' => e = .returned (.tuple #[.string ⟨(pH.1).toArray⟩, .int .i64 0]) ∧ Below w.heap.size w w' := by
  have yH : ((pH.2 : Int) != 0) = false := by simp [kH]
  have h0 : St w (w.alloc (.cells #[.string ⟨l.toArray⟩, .string ⟨h.toArray⟩, .string ⟨r.toArray⟩] 31)) (.string ⟨l.toArray⟩) (.string ⟨h.toArray⟩) (.string ⟨r.toArray⟩) := St.box w _ _ _
  go_enter Tryd.func19, Tryd.ntmps19
  go_wp2_with (first
    | (go_at_call 12; refine (RH _).mono ?_; rintro e w1 ⟨rfl, hb1⟩; have h1 := h0.call hb1; have a0 := h1.c0; have a1 := h1.c1; have a2 := h1.c2))
  go_ret2
  exact ⟨ret_strN (by simp), h1.below⟩

set_option maxHeartbeats 1600000 in
theorem rtxt_ne (l h r : List UInt8) (pH pR : List UInt8 × Nat) (w : World) (RH : PartR 12 ⟨h.toArray⟩ pH) (kH : pH.2 = 0) (_nL : l.isEmpty = true) (RR : PartR 14 ⟨r.toArray⟩ pR) (kR : pR.2 ≠ 0) (_nR : r.isEmpty = false)  :
    Calls Tryd.prog 19 #[.agg #[.string ⟨l.toArray⟩, .string ⟨h.toArray⟩, .string ⟨r.toArray⟩]] w fun e w' => e = .returned (.tuple #[noS, .int .i64 pR.2]) ∧ Below w.heap.size w w' := by
  have yH : ((pH.2 : Int) != 0) = false := by simp [kH]
  have yR : ((pR.2 : Int) != 0) = true := by simpa using kR
  have h0 : St w (w.alloc (.cells #[.string ⟨l.toArray⟩, .string ⟨h.toArray⟩, .string ⟨r.toArray⟩] 31)) (.string ⟨l.toArray⟩) (.string ⟨h.toArray⟩) (.string ⟨r.toArray⟩) := St.box w _ _ _
  go_enter Tryd.func19, Tryd.ntmps19
  go_wp2_with (first
    | (go_at_call 12; refine (RH _).mono ?_; rintro e w1 ⟨rfl, hb1⟩; have h1 := h0.call hb1; have a0 := h1.c0; have a1 := h1.c1; have a2 := h1.c2)
    | (go_at_call 14; refine (RR _).mono ?_; rintro e w3 ⟨rfl, hb3⟩; have h3 := h1.call hb3))
  go_ret2
  exact ⟨rfl, h3.below⟩

set_option maxHeartbeats 1600000 in
theorem rtxt_no (l h r : List UInt8) (pH pR : List UInt8 × Nat) (w : World) (RH : PartR 12 ⟨h.toArray⟩ pH) (kH : pH.2 = 0) (_nL : l.isEmpty = true) (RR : PartR 14 ⟨r.toArray⟩ pR) (kR : pR.2 = 0) (_nR : r.isEmpty = false) (_zH : pH.1.length ≤ 256) (_zR : pR.1.length ≤ 256) :
    Calls Tryd.prog 19 #[.agg #[.string ⟨l.toArray⟩, .string ⟨h.toArray⟩, .string ⟨r.toArray⟩]] w fun e w' => e = .returned (.tuple #[.string ⟨(pH.1 ++ (47 :: pR.1)).toArray⟩, .int .i64 0]) ∧ Below w.heap.size w w' := by
  have yH : ((pH.2 : Int) != 0) = false := by simp [kH]
  have yR : ((pR.2 : Int) != 0) = false := by simp [kR]
  have h0 : St w (w.alloc (.cells #[.string ⟨l.toArray⟩, .string ⟨h.toArray⟩, .string ⟨r.toArray⟩] 31)) (.string ⟨l.toArray⟩) (.string ⟨h.toArray⟩) (.string ⟨r.toArray⟩) := St.box w _ _ _
  go_enter Tryd.func19, Tryd.ntmps19
  go_wp2_with (first
    | (go_at_call 12; refine (RH _).mono ?_; rintro e w1 ⟨rfl, hb1⟩; have h1 := h0.call hb1; have a0 := h1.c0; have a1 := h1.c1; have a2 := h1.c2)
    | (go_at_call 14; refine (RR _).mono ?_; rintro e w3 ⟨rfl, hb3⟩; have h3 := h1.call hb3))
  go_ret2
  exact ⟨ret_strN (by simp), h3.below⟩

set_option maxHeartbeats 1600000 in
theorem rtxt_on (l h r : List UInt8) (pH pL : List UInt8 × Nat) (w : World) (RH : PartR 12 ⟨h.toArray⟩ pH) (kH : pH.2 = 0) (RL : PartR 10 ⟨l.toArray⟩ pL) (kL : pL.2 = 0) (_nL : l.isEmpty = false) (_nR : r.isEmpty = true) (_zH : pH.1.length ≤ 256) (_zL : pL.1.length ≤ 256) :
    Calls Tryd.prog 19 #[.agg #[.string ⟨l.toArray⟩, .string ⟨h.toArray⟩, .string ⟨r.toArray⟩]] w fun e w' => e = .returned (.tuple #[.string ⟨(pL.1 ++ [64] ++ pH.1).toArray⟩, .int .i64 0]) ∧ Below w.heap.size w w' := by
  have yL : ((pL.2 : Int) != 0) = false := by simp [kL]
  have yH : ((pH.2 : Int) != 0) = false := by simp [kH]
  have h0 : St w (w.alloc (.cells #[.string ⟨l.toArray⟩, .string ⟨h.toArray⟩, .string ⟨r.toArray⟩] 31)) (.string ⟨l.toArray⟩) (.string ⟨h.toArray⟩) (.string ⟨r.toArray⟩) := St.box w _ _ _
  go_enter Tryd.func19, Tryd.ntmps19
  go_wp2_with (first
    | (go_at_call 12; refine (RH _).mono ?_; rintro e w1 ⟨rfl, hb1⟩; have h1 := h0.call hb1; have a0 := h1.c0; have a1 := h1.c1; have a2 := h1.c2)
    | (go_at_call 10; refine (RL _).mono ?_; rintro e w2 ⟨rfl, hb2⟩; have h2 := h1.call hb2; have b0 := h2.c0; have b1 := h2.c1; have b2 := h2.c2))
  go_ret2
  exact ⟨ret_strN (by simp), h2.below⟩

set_option maxHeartbeats 1600000 in
theorem rtxt_oe (l h r : List UInt8) (pH pL pR : List UInt8 × Nat) (w : World) (RH : PartR 12 ⟨h.toArray⟩ pH) (kH : pH.2 = 0) (RL : PartR 10 ⟨l.toArray⟩ pL) (kL : pL.2 = 0) (_nL : l.isEmpty = false) (RR : PartR 14 ⟨r.toArray⟩ pR) (kR : pR.2 ≠ 0) (_nR : r.isEmpty = false) (_zH : pH.1.length ≤ 256) (_zL : pL.1.length ≤ 256) :
    Calls Tryd.prog 19 #[.agg #[.string ⟨l.toArray⟩, .string ⟨h.toArray⟩, .string ⟨r.toArray⟩]] w fun e w' => e = .returned (.tuple #[noS, .int .i64 pR.2]) ∧ Below w.heap.size w w' := by
  have yL : ((pL.2 : Int) != 0) = false := by simp [kL]
  have yH : ((pH.2 : Int) != 0) = false := by simp [kH]
  have yR : ((pR.2 : Int) != 0) = true := by simpa using kR
  have h0 : St w (w.alloc (.cells #[.string ⟨l.toArray⟩, .string ⟨h.toArray⟩, .string ⟨r.toArray⟩] 31)) (.string ⟨l.toArray⟩) (.string ⟨h.toArray⟩) (.string ⟨r.toArray⟩) := St.box w _ _ _
  go_enter Tryd.func19, Tryd.ntmps19
  go_wp2_with (first
    | (go_at_call 12; refine (RH _).mono ?_; rintro e w1 ⟨rfl, hb1⟩; have h1 := h0.call hb1; have a0 := h1.c0; have a1 := h1.c1; have a2 := h1.c2)
    | (go_at_call 10; refine (RL _).mono ?_; rintro e w2 ⟨rfl, hb2⟩; have h2 := h1.call hb2; have b0 := h2.c0; have b1 := h2.c1; have b2 := h2.c2)
    | (go_at_call 14; refine (RR _).mono ?_; rintro e w3 ⟨rfl, hb3⟩; have h3 := h2.call hb3))
  go_ret2
  exact ⟨rfl, h3.below⟩

set_option maxHeartbeats 1600000 in
theorem rtxt_oo (l h r : List UInt8) (pH pL pR : List UInt8 × Nat) (w : World) (RH : PartR 12 ⟨h.toArray⟩ pH) (kH : pH.2 = 0) (RL : PartR 10 ⟨l.toArray⟩ pL) (kL : pL.2 = 0) (_nL : l.isEmpty = false) (RR : PartR 14 ⟨r.toArray⟩ pR) (kR : pR.2 = 0) (_nR : r.isEmpty = false) (_zH : pH.1.length ≤ 256) (_zL : pL.1.length ≤ 256) (_zR : pR.1.length ≤ 256) :
    Calls Tryd.prog 19 #[.agg #[.string ⟨l.toArray⟩, .string ⟨h.toArray⟩, .string ⟨r.toArray⟩]] w fun e w' => e = .returned (.tuple #[.string ⟨(pL.1 ++ [64] ++ pH.1 ++ (47 :: pR.1)).toArray⟩, .int .i64 0]) ∧ Below w.heap.size w w' := by
  have yL : ((pL.2 : Int) != 0) = false := by simp [kL]
  have yH : ((pH.2 : Int) != 0) = false := by simp [kH]
  have yR : ((pR.2 : Int) != 0) = false := by simp [kR]
  have h0 : St w (w.alloc (.cells #[.string ⟨l.toArray⟩, .string ⟨h.toArray⟩, .string ⟨r.toArray⟩] 31)) (.string ⟨l.toArray⟩) (.string ⟨h.toArray⟩) (.string ⟨r.toArray⟩) := St.box w _ _ _
  go_enter Tryd.func19, Tryd.ntmps19
  go_wp2_with (first
    | (go_at_call 12; refine (RH _).mono ?_; rintro e w1 ⟨rfl, hb1⟩; have h1 := h0.call hb1; have a0 := h1.c0; have a1 := h1.c1; have a2 := h1.c2)
    | (go_at_call 10; refine (RL _).mono ?_; rintro e w2 ⟨rfl, hb2⟩; have h2 := h1.call hb2; have b0 := h2.c0; have b1 := h2.c1; have b2 := h2.c2)
    | (go_at_call 14; refine (RR _).mono ?_; rintro e w3 ⟨rfl, hb3⟩; have h3 := h2.call hb3))
  go_ret2
  exact ⟨ret_strN (by simp), h3.below⟩

theorem refText_any (j : Jid) (w : World) (hl : j.l.length ≤ 9223372036854775807) (hh : j.h.length ≤ 9223372036854775807) (hr : j.r.length ≤ 9223372036854775807) :
    Calls Tryd.prog 19 #[.agg (cellsJ j)] w fun e w' => e = .returned (Told (textN j)) ∧ Below w.heap.size w w' := by
  obtain ⟨l, h, r⟩ := j
  have RL := partL_any l hl
  have RH := partH_any h hh
  have RR := partRes_any r hr
  have zL : (localN l).1.length ≤ 256 := prep_len _ _ _
  have zH : (hostN h).1.length ≤ 256 := prep_len _ _ _
  have zR : (resN r).1.length ≤ 256 := prep_len _ _ _
  unfold textN optL optR cellsJ Told
  simp only []
  generalize localN l = pL at RL zL ⊢
  generalize hostN h = pH at RH zH ⊢
  generalize resN r = pR at RR zR ⊢
  by_cases kH : pH.2 = 0
  · rw [if_neg (by simp [kH])]
    by_cases eL : l = []
    · rw [if_pos eL, if_neg (by simp)]
      by_cases eR : r = []
      · rw [if_pos eR, if_neg (by simp)]
        refine (rtxt_nn l h r pH w RH kH (emptyB eL) (emptyB eR)).mono fun _ _ k => ⟨?_, k.2⟩
        rw [k.1]; simp [eL, eR]
      · rw [if_neg eR]
        by_cases kR : pR.2 = 0
        · rw [if_neg (by simp [kR])]
          refine (rtxt_no l h r pH pR w RH kH (emptyB eL) RR kR (fullB eR) zH zR).mono fun _ _ k => ⟨?_, k.2⟩
          rw [k.1]; simp [eL, eR]
        · rw [if_pos kR]
          exact rtxt_ne l h r pH pR w RH kH (emptyB eL) RR kR (fullB eR)
    · rw [if_neg eL]
      by_cases kL : pL.2 = 0
      · rw [if_neg (by simp [kL])]
        by_cases eR : r = []
        · rw [if_pos eR, if_neg (by simp)]
          refine (rtxt_on l h r pH pL w RH kH RL kL (fullB eL) (emptyB eR) zH zL).mono fun _ _ k => ⟨?_, k.2⟩
          rw [k.1]; simp [eL, eR]
        · rw [if_neg eR]
          by_cases kR : pR.2 = 0
          · rw [if_neg (by simp [kR])]
            refine (rtxt_oo l h r pH pL pR w RH kH RL kL (fullB eL) RR kR (fullB eR) zH zL zR).mono fun _ _ k => ⟨?_, k.2⟩
            rw [k.1]; simp [eL, eR]
          · rw [if_pos kR]
            exact rtxt_oe l h r pH pL pR w RH kH RL kL (fullB eL) RR kR (fullB eR) zH zL
      · rw [if_pos kL]
        exact rtxt_ex l h r pH pL w RH kH RL kL (fullB eL)
  · rw [if_pos kH]
    exact rtxt_hx l h r pH w RH kH
end Go.Proofs.YtikklhnkkfimfaaDoor
