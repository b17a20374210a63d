/- The law's wakes: the document's run of a door. -/
import Derived.Test.YtiidjdedeenijaaDrB
namespace Go.Proofs.Ytiidjdedeenijaa
open Go.RowKit

theorem tr_put (m : ByteArray → Option Tr) (s : ByteArray) (t : Option Tr) : tr (mput m s t) s = t.getD (0, NI) := by unfold tr; rw [mput_same]
theorem tr_other (m : ByteArray → Option Tr) {u s : ByteArray} (t : Option Tr) (h : s ≠ u) : tr (mput m u t) s = tr m s := by unfold tr; rw [mput_other m t h]
theorem tr_none (s : ByteArray) : tr (fun _ => none) s = (0, NI) := rfl
theorem ask_NI {m : ByteArray → Option Tr} {s : ByteArray} {now : Nat} (h : Fl.nan now = false) (hu : (tr m s).2 = NI) : ask m s now = 0 := by unfold ask; rw [h, hu, flt_NI]; rfl
/-- A count that is not nought is kept. -/
theorem kp_some {c : Int} {u : Nat} (h : c ≠ 0) : kp (c, u) = some (c, u) := by unfold kp; rw [if_neg (fun g => h g.1)]

set_option maxHeartbeats 2000000 in
theorem wakes_any (w : World) : Calls Try.prog 9 #[] w fun e w' => e = .returned (.bool true) ∧ Below w.heap.size w w' := by
  obtain ⟨sa, hsa⟩ : ∃ sa : ByteArray, sa = ⟨#[97]⟩ := ⟨_, rfl⟩
  obtain ⟨sb, hsb⟩ : ∃ sb : ByteArray, sb = ⟨#[98]⟩ := ⟨_, rfl⟩
  have hab : sb ≠ sa := by rw [hsa, hsb]; intro h; injection h with h; simp at h
  have hza : sa.size ≤ 281474976710656 := by rw [hsa]; decide
  have hma : sa.size ≤ maxLen := by rw [hsa]; decide
  have hmb : sb.size ≤ maxLen := by rw [hsb]; decide
  obtain ⟨m0, hm0⟩ : ∃ m0 : ByteArray → Option Tr, m0 = fun _ => none := ⟨_, rfl⟩
  obtain ⟨m1, hm1⟩ : ∃ m1, m1 = mput m0 sa (some (1, NI)) := ⟨_, rfl⟩
  obtain ⟨m2, hm2⟩ : ∃ m2, m2 = mput m1 sa (some (0, 4625196817309499392)) := ⟨_, rfl⟩
  have t0 : tr m0 sa = (0, NI) := by rw [hm0]; rfl
  have t1 : tr m1 sa = (1, NI) := by rw [hm1, tr_put]; rfl
  have t2 : tr m2 sa = (0, 4625196817309499392) := by rw [hm2, tr_put]; rfl
  have t3 : tr m2 sb = (0, NI) := by rw [hm2, tr_other _ _ hab, hm1, tr_other _ _ hab, hm0]; rfl
  have f1 : failM m0 sa 4617315517961601024 2 4621819117588971520 = m1 := by
    unfold failM; rw [t0, if_neg (by decide), hm1]; rw [kp_some (by decide)]; rfl
  have f2 : failM m1 sa 4618441417868443648 2 4621819117588971520 = m2 := by
    unfold failM; rw [t1, if_pos (by decide), hm2]
    have : lock 4618441417868443648 4621819117588971520 = some (0, 4625196817309499392) := by kernel_rfl
    rw [this]
  have a0 : ask m0 sa 4617315517961601024 = 0 := ask_NI (by kernel_rfl) (by rw [t0])
  have a1 : ask m1 sa 4618441417868443648 = 0 := ask_NI (by kernel_rfl) (by rw [t1])
  have a2 : ask m2 sa 4624915342332788736 = 12 := by unfold ask; rw [t2]; kernel_rfl
  have a3 : ask m2 sa 4625196817309499392 = 0 := by unfold ask; rw [t2]; kernel_rfl
  have a4 : ask m2 sb 4618441417868443648 = 0 := ask_NI (by kernel_rfl) (by rw [t3])
  have F1 := fun d bm w h => fail_ok d bm 0 2 4621819117588971520 m0 sa hza (by omega) 4617315517961601024 a0 (by rw [t0]; decide) (by rw [t0]; decide) w h
  have F2 := fun d bm w h => fail_ok d bm 1 2 4621819117588971520 m1 sa hza (by omega) 4618441417868443648 a1 (by rw [t1]; decide) (by rw [t1]; decide) w h
  rw [f1] at F1
  rw [f2] at F2
  have A2 := fun d bm w h => ask_any d bm 2 2 4621819117588971520 m2 sa hma 4624915342332788736 w h
  have A3 := fun d bm w h => ask_any d bm 2 2 4621819117588971520 m2 sa hma 4625196817309499392 w h
  have A4 := fun d bm w h => ask_any d bm 2 2 4621819117588971520 m2 sb hmb 4618441417868443648 w h
  rw [a2] at A2
  rw [a3] at A3
  rw [a4] at A4
  clear t0 t1 t2 t3 f1 f2 a0 a1 a2 a3 a4 hab hza hma hmb hm1 hm2
  subst hsa hsb hm0
  have hN := new_ok 2 4621819117588971520 (by omega) (by kernel_rfl) (by kernel_rfl) w
  go_enter Try.func9, Try.ntmps9
  go_upto_region 4 with (first
    | (go_at_call 7; refine hN.mono ?_; rintro e w1 ⟨d, bm, rfl, hD1, hd1, hb1, hB1⟩))
  go_upto_region 5 with (first
    | (go_at_call 11; refine (F1 d bm _ hD1).mono ?_; rintro e w2 ⟨rfl, hD2, hk2⟩))
  go_upto_region 6 with (first
    | (go_at_call 11; refine (F2 d bm _ hD2).mono ?_; rintro e w3 ⟨rfl, hD3, hk3⟩))
  replace A2 := A2 d bm w3 hD3
  clear F1 F2 hN
  go_wp2_with (first
    | (go_at_call 15; refine A2.mono ?_; clear A2; rintro e w4 ⟨rfl, hb4⟩; have hD4 := hD3.below hb4; replace A3 := A3 d bm w4 hD4)
    | (go_at_call 15; refine A3.mono ?_; clear A3; rintro e w5 ⟨rfl, hb5⟩; have hD5 := hD4.below hb5; replace A4 := A4 d bm w5 hD5)
    | (go_at_call 15; refine A4.mono ?_; clear A4; rintro e w6 ⟨rfl, hb6⟩))
  go_ret
  refine ⟨rfl, ?_⟩
  have k3 := hk2.trans hk3
  have B3 : Below w.heap.size w w3 := hB1.trans (k3.below hB1.size (fun k e => by subst e; exact hb1))
  have B4 := B3.trans (hb4.mono B3.size)
  have B5 := B4.trans (hb5.mono B4.size)
  exact B5.trans (hb6.mono B5.size)

end Go.Proofs.Ytiidjdedeenijaa
