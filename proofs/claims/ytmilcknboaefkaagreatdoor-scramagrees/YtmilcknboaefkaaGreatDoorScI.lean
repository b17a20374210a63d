/- scram.Begin: a first message written. -/
import Derived.Test.YtmilcknboaefkaaGreatDoorScM
namespace Go.Proofs.YtmilcknboaefkaaGreatDoor
open Go.RowKit Go.Shelf

theorem app_tx (a b : Tx) : (⟨a.toArray⟩ : ByteArray) ++ ⟨b.toArray⟩ = ⟨(a ++ b).toArray⟩ := by apply ByteArray.ext; simp [ByteArray.data_append]
def beginT (u n : Tx) : Tx := [110, 44, 44, 110, 61] ++ esc u ++ [44, 114, 61] ++ n
def beginE (u n : Tx) : Tx × Nat := if u = [] ∨ Lib.validD u = false ∨ nonceB 128 n = false then ([], 2) else if 1024 < (beginT u n).length then ([], 5) else (beginT u n, 0)
def ToldT (p : Tx × Nat) : Value := .tuple #[.string ⟨p.1.toArray⟩, .int .i64 p.2]

set_option maxHeartbeats 2000000 in
theorem begin_any (u n : Tx) (w : World) (hu : u.length ≤ 10000) (hn : n.length ≤ 10000) (hM : Mx w) (hT : Lib.Utf8Tabs 1 2 w) :
    Calls Tryz.prog 19 #[.string ⟨u.toArray⟩, .string ⟨n.toArray⟩] w fun e w' => e = .returned (ToldT (beginE u n)) ∧ Below w.heap.size w w' := by
  have hE := isEmpty_tx u
  have HM : Hid (Mx w) := hM
  have HT : Hid (Lib.Utf8Tabs 1 2 w) := hT
  clear hM hT
  by_cases h0 : u = []
  · have e : beginE u n = ([], 2) := by unfold beginE; rw [if_pos (.inl h0)]
    rw [e, ToldT]
    subst h0
    go_enter Tryz.func19, Tryz.ntmps19
    go_wp2
    go_ret2
    exact ⟨rfl, Below.refl _ _⟩
  rw [decide_eq_false h0] at hE
  have cV := validString_any u w (by omega) HT.out
  cases hV : Lib.validD u with
  | false =>
    have e : beginE u n = ([], 2) := by unfold beginE; rw [if_pos (.inr (.inl hV))]
    rw [e, ToldT]
    rw [hV] at cV
    obtain ⟨S, HS⟩ : ∃ S, Hid ((⟨u.toArray⟩ : ByteArray) = S) := ⟨_, rfl⟩
    rw [HS.out] at cV hE ⊢
    clear h0 hV e
    go_enter Tryz.func19, Tryz.ntmps19
    go_wp2_with (go_at_call 44; refine cV.mono ?_; rintro e w1 ⟨rfl, hb1⟩)
    go_ret2
    exact ⟨rfl, hb1⟩
  | true =>
    rw [hV] at cV
    have cN := fun w => isNonce_any n 128 w (by omega) (by omega)
    cases hN : nonceB 128 n with
    | false =>
      have e : beginE u n = ([], 2) := by unfold beginE; rw [if_pos (.inr (.inr hN))]
      rw [e, ToldT]
      rw [hN] at cN
      obtain ⟨S, HS⟩ : ∃ S, Hid ((⟨u.toArray⟩ : ByteArray) = S) := ⟨_, rfl⟩
      rw [HS.out] at cV hE ⊢
      clear h0 hV e hN
      go_enter Tryz.func19, Tryz.ntmps19
      go_wp2_with (first
        | (go_at_call 44; refine cV.mono ?_; rintro e w1 ⟨rfl, hb1⟩)
        | (go_at_call 31; refine (cN _).mono ?_; rintro e w2 ⟨rfl, hb2⟩))
      go_ret2
      exact ⟨rfl, hb1.trans (hb2.mono hb1.size)⟩
    | true =>
      rw [hN] at cN
      have hel := esc_len u
      have cF := fun w h => nameForm_any u w (by omega) h
      obtain ⟨x1, hx1⟩ : ∃ x : Tx, x = [110, 44, 44, 110, 61] ++ esc u := ⟨_, rfl⟩
      obtain ⟨x2, hx2⟩ : ∃ x : Tx, x = x1 ++ [44, 114, 61] := ⟨_, rfl⟩
      have hx3 : beginT u n = x2 ++ n := by rw [hx2, hx1]; rfl
      have e1 := app_tx [110, 44, 44, 110, 61] (esc u)
      rw [← hx1] at e1
      have e2 := app_tx x1 [44, 114, 61]
      rw [← hx2] at e2
      have e3 := app_tx x2 n
      rw [← hx3] at e3
      have z0 := size_tx (esc u)
      have z1 := size_tx x1
      have z2 := size_tx x2
      have z3 := size_tx (beginT u n)
      have z4 := size_tx n
      have y1 : (⟨#[110, 44, 44, 110, 61]⟩ : ByteArray).size = 5 := rfl
      have y2 : (⟨#[44, 114, 61]⟩ : ByteArray).size = 3 := rfl
      rw [show x1.length = 5 + (esc u).length by rw [hx1, List.length_append]; rfl] at z1
      rw [show x2.length = 8 + (esc u).length by rw [hx2, hx1, List.length_append, List.length_append]; simp; omega] at z2
      have hbe : beginE u n = if 1024 < (beginT u n).length then ([], 5) else (beginT u n, 0) := by
        unfold beginE; rw [if_neg (by simp [h0, hV, hN])]
      rw [hbe]
      obtain ⟨S, HS⟩ : ∃ S, Hid ((⟨u.toArray⟩ : ByteArray) = S) := ⟨_, rfl⟩
      obtain ⟨T0, H0⟩ : ∃ S, Hid ((⟨(esc u).toArray⟩ : ByteArray) = S) := ⟨_, rfl⟩
      obtain ⟨T1, H1⟩ : ∃ S, Hid ((⟨x1.toArray⟩ : ByteArray) = S) := ⟨_, rfl⟩
      obtain ⟨T2, H2⟩ : ∃ S, Hid ((⟨x2.toArray⟩ : ByteArray) = S) := ⟨_, rfl⟩
      obtain ⟨T3, H3⟩ : ∃ S, Hid ((⟨(beginT u n).toArray⟩ : ByteArray) = S) := ⟨_, rfl⟩
      obtain ⟨T4, H4⟩ : ∃ S, Hid ((⟨n.toArray⟩ : ByteArray) = S) := ⟨_, rfl⟩
      rw [HS.out] at cV hE cF ⊢
      rw [H0.out] at e1 z0 cF
      rw [H1.out] at e1 e2 z1
      rw [H2.out] at e2 e3 z2
      rw [H3.out] at z3 e3
      rw [H4.out] at e3 z4 cN ⊢
      have hl3 : (beginT u n).length = 8 + (esc u).length + n.length := by simp [beginT]; omega
      obtain ⟨m, Hm⟩ : ∃ m, Hid ((beginT u n).length = m) := ⟨_, rfl⟩
      rw [Hm.out] at z3 hl3 ⊢
      clear h0 hV hN hbe hx1 hx2 hx3
      by_cases hb : 1024 < m
      · rw [if_pos hb, ToldT]
        have hb' : (m : Int) > 1024 := by omega
        go_enter Tryz.func19, Tryz.ntmps19
        go_wp2_with (first
          | (go_at_call 44; refine cV.mono ?_; rintro e w1 ⟨rfl, hb1⟩)
          | (go_at_call 31; refine (cN _).mono ?_; rintro e w2 ⟨rfl, hb2⟩)
          | (go_at_call 45; refine (cF _ ((HM.out.below hb1).below hb2)).mono ?_; rintro e w3 ⟨rfl, hb3⟩))
        go_ret2
        exact ⟨rfl, (hb1.trans (hb2.mono hb1.size)).trans (hb3.mono (Nat.le_trans hb1.size hb2.size))⟩
      · rw [if_neg hb, ToldT, H3.out]
        have hb' : ¬ ((m : Int) > 1024) := by omega
        go_enter Tryz.func19, Tryz.ntmps19
        go_wp2_with (first
          | (go_at_call 44; refine cV.mono ?_; rintro e w1 ⟨rfl, hb1⟩)
          | (go_at_call 31; refine (cN _).mono ?_; rintro e w2 ⟨rfl, hb2⟩)
          | (go_at_call 45; refine (cF _ ((HM.out.below hb1).below hb2)).mono ?_; rintro e w3 ⟨rfl, hb3⟩))
        go_ret2
        exact ⟨rfl, (hb1.trans (hb2.mono hb1.size)).trans (hb3.mono (Nat.le_trans hb1.size hb2.size))⟩
end Go.Proofs.YtmilcknboaefkaaGreatDoor
