/- SubsTables: the tables, state by state (pure). -/
import Derived.Test.YtgijofcnknehdaaDoorSuK
namespace Go.Proofs.YtgijofcnknehdaaDoor
open Go.RowKit Go.Joins

/-- The names of the nine states, in the law's order. -/
def nmT : List ByteArray := [stT.getD 0 ⟨#[]⟩, stT.getD 3 ⟨#[]⟩, stT.getD 1 ⟨#[]⟩, stT.getD 4 ⟨#[]⟩, stT.getD 6 ⟨#[]⟩, stT.getD 7 ⟨#[]⟩, stT.getD 2 ⟨#[]⟩, stT.getD 5 ⟨#[]⟩, stT.getD 8 ⟨#[]⟩]
def kiT (i : Nat) : Int := [11, 13, 12, 14].getD i 0
def maT (i : Nat) : Int := [1, 2, 3, 4].getD i 0
def wnT (k s : Nat) : Int := (tbT.getD k []).getD s 0
def kOf (i : Nat) (n m : Int) : Int := if i = 0 then m + 1 else if i < 2 then m else n

theorem names_at (o i : Nat) (n m : Int) (h : okH ⟨o, n, i, m⟩ = true) : names ⟨o, n, i, m⟩ = stT.getD (3 * o + i) ⟨#[]⟩ := by unfold names; rw [if_pos h]; rfl
theorem okS {o i : Nat} {n m : Int} (h1 : okR o n = true) (h2 : okR i m = true) : okH ⟨o, n, i, m⟩ = true := okH_mk h1 h2
theorem hfS_ok (s : Nat) (hs : s < 9) (n m : Int) (hn : n ≠ 0) (hm : m ≠ 0) : okH (hfS s n m) = true ∧ names (hfS s n m) = nmT.getD s ⟨#[]⟩ := by
  rcases s with _ | _ | _ | _ | _ | _ | _ | _ | _ | s
  · exact ⟨okS (o := 0) (i := 0) okR_0 okR_0, names_at 0 0 0 0 (okS okR_0 okR_0)⟩
  · exact ⟨okS (o := 1) (i := 0) (okR_1 hn) okR_0, names_at 1 0 n 0 (okS (okR_1 hn) okR_0)⟩
  · exact ⟨okS (o := 0) (i := 1) okR_0 (okR_1 hm), names_at 0 1 0 m (okS okR_0 (okR_1 hm))⟩
  · exact ⟨okS (o := 1) (i := 1) (okR_1 hn) (okR_1 hm), names_at 1 1 n m (okS (okR_1 hn) (okR_1 hm))⟩
  · exact ⟨okS (o := 2) (i := 0) (okR_2 hn) okR_0, names_at 2 0 n 0 (okS (okR_2 hn) okR_0)⟩
  · exact ⟨okS (o := 2) (i := 1) (okR_2 hn) (okR_1 hm), names_at 2 1 n m (okS (okR_2 hn) (okR_1 hm))⟩
  · exact ⟨okS (o := 0) (i := 2) okR_0 (okR_2 hm), names_at 0 2 0 m (okS okR_0 (okR_2 hm))⟩
  · exact ⟨okS (o := 1) (i := 2) (okR_1 hn) (okR_2 hm), names_at 1 2 n m (okS (okR_1 hn) (okR_2 hm))⟩
  · exact ⟨okS (o := 2) (i := 2) (okR_2 hn) (okR_2 hm), names_at 2 2 n m (okS (okR_2 hn) (okR_2 hm))⟩
  · omega

/-- What an act must do. -/
def ActR (h : Hf) (i : Nat) (wt : Int) (r : (Hf × Int × Int) × Nat) : Prop := r.2 = 0 ∧ ((wt < 0 ∧ r.1.2.1 = 0 ∧ r.1.1 = h) ∨ (0 ≤ wt ∧ wt < 9 ∧ r.1.2.1 = maT i ∧ names r.1.1 = nmT.getD wt.toNat ⟨#[]⟩))
def HearR (h : Hf) (i : Nat) (wt : Int) (r : (Hf × Int) × Nat) : Prop := r.2 = 0 ∧ ((i = 0 ∧ wt < 0) ∨ (wt < 0 ∧ r.1.2 = 0 ∧ r.1.1 = h) ∨ (0 ≤ wt ∧ wt < 9 ∧ r.1.2 ≠ 0 ∧ names r.1.1 = nmT.getD wt.toNat ⟨#[]⟩))

theorem actA_ask {h : Hf} (hk : okH h = true) {x : Int} (hx : x ≠ 0) : actA h 11 x = (askH h x, 0) := by unfold actA; rw [if_pos hk]; unfold actH; rw [if_pos rfl, if_neg hx]
theorem actA_grant {h : Hf} (hk : okH h = true) (x : Int) : actA h 12 x = (grantH h, 0) := by unfold actA; rw [if_pos hk]; rfl
theorem actA_leave {h : Hf} (hk : okH h = true) (x : Int) : actA h 13 x = (leaveH h, 0) := by unfold actA; rw [if_pos hk]; rfl
theorem actA_deny {h : Hf} (hk : okH h = true) (x : Int) : actA h 14 x = (denyH h, 0) := by unfold actA; rw [if_pos hk]; rfl
theorem hearA_at {h : Hf} (hk : okH h = true) {x : Int} (hx : x ≠ 0) {mail : Int} {r : Hf × Int} (hr : hearH h mail x = some r) : hearA h mail x = (r, 0) := by unfold hearA; rw [if_pos hk, if_neg hx, hr]
theorem nm_of {h : Hf} (hk : okH h = true) {v : ByteArray} (e : stT.getD (3 * h.o.toNat + h.i.toNat) ⟨#[]⟩ = v) : names h = v := by unfold names; rw [if_pos hk]; exact e

theorem act_tab (s : Nat) (hs : s < 9) (i : Nat) (hi : i < 4) (n m : Int) (hn : n ≠ 0) (hm : m ≠ 0) (hn1 : n + 1 ≠ 0) : ActR (hfS s n m) i (wnT i s) (actA (hfS s n m) (kiT i) (n + 1)) := by
  have hk := (hfS_ok s hs n m hn hm).1
  rcases i with _ | _ | _ | _ | i
  · rw [show kiT 0 = 11 from rfl, actA_ask hk hn1]
    have hk' := ok_ask hk hn1
    rcases s with _ | _ | _ | _ | _ | _ | _ | _ | _ | s <;> first | omega | exact ⟨rfl, Or.inl ⟨by decide, rfl, rfl⟩⟩ | exact ⟨rfl, Or.inr ⟨by decide, by decide, rfl, nm_of hk' rfl⟩⟩
  · rw [show kiT 1 = 13 from rfl, actA_leave hk]
    have hk' := ok_leave hk
    rcases s with _ | _ | _ | _ | _ | _ | _ | _ | _ | s <;> first | omega | exact ⟨rfl, Or.inl ⟨by decide, rfl, rfl⟩⟩ | exact ⟨rfl, Or.inr ⟨by decide, by decide, rfl, nm_of hk' rfl⟩⟩
  · rw [show kiT 2 = 12 from rfl, actA_grant hk]
    have hk' := ok_grant hk
    rcases s with _ | _ | _ | _ | _ | _ | _ | _ | _ | s <;> first | omega | exact ⟨rfl, Or.inl ⟨by decide, rfl, rfl⟩⟩ | exact ⟨rfl, Or.inr ⟨by decide, by decide, rfl, nm_of hk' rfl⟩⟩
  · rw [show kiT 3 = 14 from rfl, actA_deny hk]
    have hk' := ok_deny hk
    rcases s with _ | _ | _ | _ | _ | _ | _ | _ | _ | s <;> first | omega | exact ⟨rfl, Or.inl ⟨by decide, rfl, rfl⟩⟩ | exact ⟨rfl, Or.inr ⟨by decide, by decide, rfl, nm_of hk' rfl⟩⟩
  · omega
theorem hLeave_yes {h : Hf} {x : Int} (h0 : ¬ h.i = 0) (h1 : h.m = x) : hLeaveH h x = ({ h with i := 0, m := 0 }, 44) := by unfold hLeaveH; rw [if_neg h0, if_pos h1]
theorem hGrant_yes {h : Hf} {x : Int} (h0 : h.o = 1) (h1 : h.n = x) : hGrantH h x = ({ h with o := 2 }, 43) := by unfold hGrantH; rw [if_pos h0, if_pos h1]
theorem hDeny_yes {h : Hf} {x : Int} (h0 : ¬ h.o = 0) (h1 : h.n = x) : hDenyH h x = ({ h with o := 0, n := 0 }, 45) := by unfold hDenyH; rw [if_neg h0, if_pos h1]
theorem one0 : ¬ (1 : Int) = 0 := by decide
theorem two0 : ¬ (2 : Int) = 0 := by decide
theorem hear_tab (s : Nat) (hs : s < 9) (i : Nat) (hi : i < 4) (n m : Int) (hn : n ≠ 0) (hm : m ≠ 0) (hm1 : m + 1 ≠ 0) : HearR (hfS s n m) i (wnT (4 + i) s) (hearA (hfS s n m) (maT i) (kOf i n m)) := by
  have hk := (hfS_ok s hs n m hn hm).1
  rcases i with _ | _ | _ | _ | i
  · rw [show maT 0 = 1 from rfl, show kOf 0 n m = m + 1 from rfl, hearA_at hk hm1 rfl]
    have hk' := ok_hear hk hm1 (mail := 1) rfl
    rcases s with _ | _ | _ | _ | _ | _ | _ | _ | _ | s <;> first | omega | exact ⟨rfl, Or.inl ⟨rfl, by decide⟩⟩ | exact ⟨rfl, Or.inr (Or.inr ⟨by decide, by decide, (show (42 : Int) ≠ 0 by decide), nm_of hk' rfl⟩)⟩
  · rw [show maT 1 = 2 from rfl, show kOf 1 n m = m from rfl, hearA_at hk hm rfl]
    have hk' := ok_hear hk hm (mail := 2) rfl
    rcases s with _ | _ | _ | _ | _ | _ | _ | _ | _ | s <;> first | omega | exact ⟨rfl, Or.inr (Or.inl ⟨by decide, rfl, rfl⟩)⟩ | (rw [hLeave_yes] at hk'; rw [hLeave_yes]; exact ⟨rfl, Or.inr (Or.inr ⟨by decide, by decide, (show (44 : Int) ≠ 0 by decide), nm_of hk' rfl⟩)⟩; all_goals first | rfl | exact one0 | exact two0)
  · rw [show maT 2 = 3 from rfl, show kOf 2 n m = n from rfl, hearA_at hk hn rfl]
    have hk' := ok_hear hk hn (mail := 3) rfl
    rcases s with _ | _ | _ | _ | _ | _ | _ | _ | _ | s <;> first | omega | exact ⟨rfl, Or.inr (Or.inl ⟨by decide, rfl, rfl⟩)⟩ | (rw [hGrant_yes] at hk'; rw [hGrant_yes]; exact ⟨rfl, Or.inr (Or.inr ⟨by decide, by decide, (show (43 : Int) ≠ 0 by decide), nm_of hk' rfl⟩)⟩; all_goals rfl)
  · rw [show maT 3 = 4 from rfl, show kOf 3 n m = n from rfl, hearA_at hk hn rfl]
    have hk' := ok_hear hk hn (mail := 4) rfl
    rcases s with _ | _ | _ | _ | _ | _ | _ | _ | _ | s <;> first | omega | exact ⟨rfl, Or.inr (Or.inl ⟨by decide, rfl, rfl⟩)⟩ | (rw [hDeny_yes] at hk'; rw [hDeny_yes]; exact ⟨rfl, Or.inr (Or.inr ⟨by decide, by decide, (show (45 : Int) ≠ 0 by decide), nm_of hk' rfl⟩)⟩; all_goals first | rfl | exact one0 | exact two0)
  · omega
end Go.Proofs.YtgijofcnknehdaaDoor
