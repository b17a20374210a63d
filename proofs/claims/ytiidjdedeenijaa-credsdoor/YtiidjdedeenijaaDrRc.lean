/- The document's door: Fail. -/
import Derived.Test.YtiidjdedeenijaaDrRb
namespace Go.Proofs.Ytiidjdedeenijaa
open Go.RowKit

theorem RD.drewN {w : World} {B d : Nat} {v2 v3 v4 : Value} {most : Int} {sec : Nat} {us : List ByteArray} {cs : List Int} {ts : List Nat} (h : RD w B d v2 v3 v4 most sec us cs ts) (n : Nat) : RD (w.drewN n) B d v2 v3 v4 most sec us cs ts :=
  h.keep (S := fun _ => False) ((Keep.refl _ _).drewN n) (fun _ _ h => h)

set_option maxHeartbeats 800000 in
theorem refFail_bad (B d : Nat) (v2 v3 v4 : Value) (most : Int) (sec : Nat) (us : List ByteArray) (cs : List Int) (ts : List Nat) (s : ByteArray) (now : Nat) (w : World) (hL : us.length ≤ 1000) (hBw : B ≤ w.heap.size) (hD : RD w B d v2 v3 v4 most sec us cs ts) (ha : askT (rt us cs ts s) now ≠ 0) :
    Calls Try.prog 12 #[.pointer (some ⟨d, 0, none⟩), .string s, .float .f64 now] w fun e w' => e = .returned (.int .i64 (askT (rt us cs ts s) now)) ∧ RStep w w' B d v2 v3 v4 most sec (us.length + 1) (rt us cs ts) := by
  have hne : (askT (rt us cs ts s) now != 0) = true := by simpa using ha
  have HA := refAsk_any B d v2 v3 v4 most sec us cs ts s now w hL hBw hD
  clear ha
  generalize askT (rt us cs ts s) now = z at *
  go_enter Try.func12, Try.ntmps12
  go_wp2_with (first
    | (go_at_call 16; refine HA.mono ?_; rintro e w1 ⟨rfl, hR⟩))
  go_ret
  exact ⟨rfl, hR⟩

set_option maxRecDepth 100000 in
set_option maxHeartbeats 1600000 in
theorem refFail_ok (B d : Nat) (v2 v3 v4 : Value) (most : Int) (sec : Nat) (us : List ByteArray) (cs : List Int) (ts : List Nat) (s : ByteArray) (now : Nat) (w : World) (hL : us.length ≤ 900) (hBw : B ≤ w.heap.size) (hD : RD w B d v2 v3 v4 most sec us cs ts) (ha : askT (rt us cs ts s) now = 0) (hc0 : 0 ≤ (rt us cs ts s).1) (hc1 : (rt us cs ts s).1 < 9223372036854775807) :
    Calls Try.prog 12 #[.pointer (some ⟨d, 0, none⟩), .string s, .float .f64 now] w fun e w' => e = .returned (.int .i64 0) ∧ ∃ r, IsSum now sec r ∧ RStep w w' B d v2 v3 v4 most sec (us.length + 2) (fun x => if x = s then (if (rt us cs ts s).1 + 1 = most then (0, r) else ((rt us cs ts s).1 + 1, (rt us cs ts s).2)) else rt us cs ts x) := by
  have HA := refAsk_any B d v2 v3 v4 most sec us cs ts s now w (by omega) hBw hD
  have hsf := run_store_float
  rw [ha] at HA
  obtain ⟨F, HF⟩ : ∃ F : ByteArray → Tr, Hid (rt us cs ts = F) := ⟨_, rfl⟩
  rw [HF.out] at HA hc0 hc1 ⊢
  clear ha
  obtain ⟨t, ht⟩ : ∃ t, Hid (F s = t) := ⟨_, rfl⟩
  obtain ⟨c, u⟩ := t
  rw [ht.out] at hc0 hc1 ⊢
  dsimp only at hc0 hc1 ⊢
  go_enter Try.func12, Try.ntmps12
  go_upto_region 4 with (first
    | (go_at_call 16; refine HA.mono ?_; rintro e w1 ⟨rfl, hR⟩))
  obtain ⟨x2, x3, x4, us1, cs1, ts1, hD1, hr1, hl1, hk1, hf1⟩ := hR
  have hB1 : B ≤ w1.heap.size := Nat.le_trans hBw hk1.size
  have HT := at_any B d x2 x3 x4 most sec us1 cs1 ts1 s w1 (by omega) hB1 hD1
  obtain ⟨hi1, hi2⟩ := uApp_ix us1 s
  have hrt := rt_app hD1.lenc hD1.lent s
  have hul := uApp_len us1 s
  clear HA hD
  go_upto_region 5 with (first
    | (go_at_call 21; refine HT.mono ?_; rintro e w2 ⟨rfl, y2, y3, y4, hD2, hk2, hf2⟩))
  obtain ⟨g3, c3, g4, c4, rfl, rfl, q3, z3, q4, z4, n34, n3d, n4d⟩ := hD2.rows hi2
  have hFs : ∀ x, rt (uApp us1 s) (cApp us1 cs1 s) (tApp us1 ts1 s) x = F x := fun x => (hrt x).trans (hr1 x)
  have hix : ix us1 s < (uApp us1 s).length := hi2
  have hcv : (cApp us1 cs1 s).getD (ix us1 s) 0 = (F s).1 := by rw [← hFs s]; unfold rt; rw [hi1]
  have hk12 : Keep (RF d v2 v3 v4) w w2 := hk1.andThen hk2 (fun k hk h => (hf1 k h).resolve_right (by omega))
  have hf12 : ∀ k, RF d y2 (.slice (some ⟨g3, 0, none⟩) (uApp us1 s).length c3) (.slice (some ⟨g4, 0, none⟩) (uApp us1 s).length c4) k → RF d v2 v3 v4 k ∨ w.heap.size ≤ k := fun k h => by
    rcases hf2 k h with h | h
    · exact hf1 k h
    · exact Or.inr (Nat.le_trans hk1.size h)
  have hul2 : (uApp us1 s).length ≤ us.length + 2 := by omega
  clear hk1 hk2 hf1 hf2 HT hrt hr1 hul hl1 hD1 hB1
  obtain ⟨US, HU⟩ : ∃ US, Hid (uApp us1 s = US) := ⟨_, rfl⟩
  rw [HU.out] at hi1 hi2 hD2 hf12 hul2 hFs hix
  generalize hcs : cApp us1 cs1 s = CS at *
  generalize hts : tApp us1 ts1 s = TS at *
  generalize hii : ix us1 s = i at *
  clear HU hcs hts hii
  rw [hcv, ht.out] at q3
  have qd : w2.cell? ⟨d, 3, none⟩ = some (.slice (some ⟨g3, 0, none⟩) US.length c3) := hD2.cell 3
  have hiz : (i : Int) < (US.length : Int) := by omega
  have hwr : wrap64 (c + 1) = c + 1 := by unfold wrap64; omega
  have hus : ix US s < US.length := by rw [hi1]; exact hi2
  have HI : Hid (ix US s = i) := hi1
  have HC : Hid (CS.getD i 0 = (F s).1) := hcv
  have HX : Hid (∀ x, rt US CS TS x = F x) := hFs
  have Hus : Hid (US.length ≤ us.length + 2) := hul2
  clear hi1 hcv hFs hul2
  have hD3 := hD2.setc i (c + 1)
  obtain ⟨h3, d3, h4, d4, e3, e4, p3, r3, p4, r4, _, _, _⟩ := hD3.rows hix
  have hgv : (CS.set i (c + 1)).getD i 0 = c + 1 := by
    have : i < CS.length := by rw [hD2.lenc]; exact hix
    simp [List.getD, this]
  rw [hgv] at p3
  cases e3
  cases e4
  have hk3 : Keep (RF d v2 v3 v4) w (w2.setCell ⟨g3, i, none⟩ (.int .i64 (c + 1))) := hk12.andThen (keep_set _ _ _ _) (fun k hk e => (hf12 k (Or.inr (Or.inr (Or.inl (by rw [e]; rfl))))).resolve_right (by omega))
  have hr3 : ∀ x, rt US (CS.set i (c + 1)) TS x = if x = s then (c + 1, u) else F x := fun x => by
    have := rt_setc (ts := TS) hD2.lenc hus (c + 1) x
    rw [HI.out] at this
    rw [this, HX.out, HX.out, ht.out]
  go_upto_region 6 with fail
  clear q3 z3 q4 z4 qd
  generalize w2.setCell ⟨g3, i, none⟩ (.int .i64 (c + 1)) = W1 at *
  have qd : W1.cell? ⟨d, 3, none⟩ = some (.slice (some ⟨g3, 0, none⟩) US.length c3) := hD3.cell 3
  have q0 : W1.cell? ⟨d, 0, none⟩ = some (.int .i64 most) := hD3.cell 0
  by_cases hm : c + 1 = most
  · have hme : (c + 1 == most) = true := by simpa using hm
    go_quiet (fail)
    have hD3q := hD3.drewN nq
    have hk3q := hk3.drewN nq
    clear hD3 hk3
    have qdq : (W1.drewN nq).cell? ⟨d, 3, none⟩ = some (.slice (some ⟨g3, 0, none⟩) US.length c3) := hD3q.cell 3
    have hD4 := hD3q.setc i 0
    have hk4 : Keep (RF d v2 v3 v4) w ((W1.drewN nq).setCell ⟨g3, i, none⟩ (.int .i64 0)) := hk3q.andThen (keep_set _ _ _ _) (fun k hk e => (hf12 k (Or.inr (Or.inr (Or.inl (by rw [e]; rfl))))).resolve_right (by omega))
    rw [List.set_set] at hD4
    have hr4 : ∀ x, rt US (CS.set i 0) TS x = if x = s then (0, u) else F x := fun x => by
      have := rt_setc (ts := TS) hD2.lenc hus 0 x
      rw [HI.out] at this
      rw [this, HX.out, HX.out, ht.out]
    go_upto_region 8 with fail
    generalize (W1.drewN nq).setCell ⟨g3, i, none⟩ (.int .i64 0) = W2 at hD4 hk4 ⊢
    clear hD3q hk3q qdq qd q0 p3 r3 p4 r4 hr3 hgv
    refine wp_region_lx (fun w' => w'.cell? ⟨d, 4, none⟩ = some (.slice (some ⟨g4, 0, none⟩) US.length c4) ∧ w'.cell? ⟨d, 1, none⟩ = some (.float .f64 sec)) [12] 13 (by kernel_rfl) (by kernel_rfl) ?_
    have hD5 : RD W2.drew B d y2 (.slice (some ⟨g3, 0, none⟩) US.length c3) (.slice (some ⟨g4, 0, none⟩) US.length c4) most sec US (CS.set i 0) TS := hD4.drewN 1
    have hk5 := hk4.drew
    clear hD4 hk4
    generalize W2.drew = W at hD5 hk5 ⊢
    have HS : W.cell? ⟨d, 4, none⟩ = some (.slice (some ⟨g4, 0, none⟩) US.length c4) ∧ W.cell? ⟨d, 1, none⟩ = some (.float .f64 sec) := ⟨hD5.cell 4, hD5.cell 1⟩
    refine lx_rd 0 ?vR0 (by kernel_rfl) (fun _ _ d _ _ h => by cases d <;> exact h) (by kernel_rfl) HS rfl rfl rfl (fun w' hS => ?hR0) ?_
    case hR0 => first | (go_simp; rfl) | go_simp
    simp only [List.setIfInBounds_toArray, List.set_cons_zero, List.set_cons_succ]
    refine lx_rd 1 ?vR1 (by kernel_rfl) (fun _ _ d _ _ h => by cases d <;> exact h) (by kernel_rfl) HS rfl rfl rfl (fun w' hS => ?hR1) ?_
    case hR1 => first | (go_simp; rfl) | go_simp
    simp only [List.setIfInBounds_toArray, List.set_cons_zero, List.set_cons_succ]
    refine lx_rd 2 ?vR2 (by kernel_rfl) (fun _ _ d _ _ h => by cases d <;> exact h) (by kernel_rfl) HS rfl rfl rfl (fun w' hS => ?hR2) ?_
    case hR2 => first | (go_simp; rfl) | go_simp
    simp only [List.setIfInBounds_toArray, List.set_cons_zero, List.set_cons_succ]
    refine lx_rd 3 (.slice (some ⟨g4, 0, none⟩) US.length c4) (by kernel_rfl) (fun _ _ d _ _ h => by cases d <;> exact h) (by kernel_rfl) HS rfl rfl rfl (fun w' hS => ?hR3) ?_
    case hR3 => have q := hS.1; first | (go_simp; rfl) | go_simp
    simp only [List.setIfInBounds_toArray, List.set_cons_zero, List.set_cons_succ]
    refine lx_rd 4 ?vR4 (by kernel_rfl) (fun _ _ d _ _ h => by cases d <;> exact h) (by kernel_rfl) HS rfl rfl rfl (fun w' hS => ?hR4) ?_
    case hR4 => first | (go_simp; rfl) | go_simp
    simp only [List.setIfInBounds_toArray, List.set_cons_zero, List.set_cons_succ]
    refine lx_rd 5 ?vR5 (by kernel_rfl) (fun _ _ d _ _ h => by cases d <;> exact h) (by kernel_rfl) HS rfl rfl rfl (fun w' hS => ?hR5) ?_
    case hR5 => first | (go_simp; rfl) | go_simp
    simp only [List.setIfInBounds_toArray, List.set_cons_zero, List.set_cons_succ]
    refine lx_rd 6 ?vR6 (by kernel_rfl) (fun _ _ d _ _ h => by cases d <;> exact h) (by kernel_rfl) HS rfl rfl rfl (fun w' hS => ?hR6) ?_
    case hR6 => first | (go_simp; rfl) | go_simp
    simp only [List.setIfInBounds_toArray, List.set_cons_zero, List.set_cons_succ]
    refine lx_rd 7 ?vR7 (by kernel_rfl) (fun _ _ d _ _ h => by cases d <;> exact h) (by kernel_rfl) HS rfl rfl rfl (fun w' hS => ?hR7) ?_
    case hR7 => first | (go_simp; rfl) | go_simp
    simp only [List.setIfInBounds_toArray, List.set_cons_zero, List.set_cons_succ]
    refine lx_rd 8 ?vR8 (by kernel_rfl) (fun _ _ d _ _ h => by cases d <;> exact h) (by kernel_rfl) HS rfl rfl rfl (fun w' hS => ?hR8) ?_
    case hR8 => first | (go_simp; rfl) | go_simp
    simp only [List.setIfInBounds_toArray, List.set_cons_zero, List.set_cons_succ]
    refine lx_rd 9 (.float .f64 sec) (by kernel_rfl) (fun _ _ d _ _ h => by cases d <;> exact h) (by kernel_rfl) HS rfl rfl rfl (fun w' hS => ?hR9) ?_
    case hR9 => have q := hS.2; first | (go_simp; rfl) | go_simp
    simp only [List.setIfInBounds_toArray, List.set_cons_zero, List.set_cons_succ]
    obtain ⟨r, W', hrun, hw, hsum⟩ := run_fadd 24 now sec W
    obtain ⟨q, rfl⟩ : ∃ q, W' = W.drewN q := by
      rcases hw with rfl | rfl
      · exact ⟨0, rfl⟩
      · exact ⟨1, rfl⟩
    have hD6 := hD5.drewN q
    have hk6 := hk5.drewN q
    have HS6 : (W.drewN q).cell? ⟨d, 4, none⟩ = some (.slice (some ⟨g4, 0, none⟩) US.length c4) ∧ (W.drewN q).cell? ⟨d, 1, none⟩ = some (.float .f64 sec) := ⟨hD6.cell 4, hD6.cell 1⟩
    refine lx_one 10 (by kernel_rfl) (stepT_val (w' := W.drewN q) (.float .f64 r) rfl rfl rfl ?rR10 (fun _ => HS6) ?_)
    case rR10 => first | (go_simp; done) | (go_simp; rfl)
    simp only [List.setIfInBounds_toArray, List.set_cons_zero, List.set_cons_succ]
    refine lx_one 11 (by kernel_rfl) (stepT_val (w' := W.drewN q) (.pointer (some ⟨g4, i, none⟩)) rfl rfl rfl ?rR11 (fun _ => HS6) ?_)
    case rR11 => first | (go_simp; done) | (go_simp; rfl)
    simp only [List.setIfInBounds_toArray, List.set_cons_zero, List.set_cons_succ]
    obtain ⟨h3, d3, h4, d4, e3, e4, p3, r3, p4, r4, _, _, _⟩ := hD6.rows hix
    cases e3
    cases e4
    refine lx_one 12 (by kernel_rfl) (stepT_store (w' := (W.drewN q).setCell ⟨g4, i, none⟩ (.float .f64 r)) rfl rfl rfl ?rR12 (fun h => by simp at h) ?_)
    case rR12 => first | (go_simp; done) | (go_simp; rfl)
    refine lx_nil (by kernel_rfl) ?_
    have hD7 := hD6.sett i r
    have hk7 : Keep (RF d v2 v3 v4) w ((W.drewN q).setCell ⟨g4, i, none⟩ (.float .f64 r)) := hk6.andThen (keep_set _ _ _ _) (fun k hk e => (hf12 k (Or.inr (Or.inr (Or.inr (by rw [e]; rfl))))).resolve_right (by omega))
    have hr7 : ∀ x, rt US (CS.set i 0) (TS.set i r) x = if x = s then (0, r) else F x := fun x => by
      have := rt_sett (cs := CS.set i 0) (by rw [hD2.lent]) hus r x
      rw [HI.out] at this
      rw [this, hr4, hr4, if_pos rfl]
      split <;> rfl
    clear hrun
    generalize (W.drewN q).setCell ⟨g4, i, none⟩ (.float .f64 r) = W7 at hD7 hk7 ⊢
    go_wp2
    go_ret
    exact ⟨rfl, r, hsum, _, _, _, _, _, _, hD7, hr7, Hus.out, hk7, hf12⟩
  · have hme : (c + 1 == most) = false := by simpa using hm
    have Hm : Hid (¬ c + 1 = most) := hm
    clear hm
    go_quiet (fail)
    go_wp2
    go_ret
    obtain ⟨r, _, _, _, hsum⟩ := run_fadd 24 now sec w
    exact ⟨rfl, ⟨r, hsum⟩, _, _, _, _, _, _, hD3.drewN nq, hr3, Hus.out, hk3.drewN nq, hf12⟩

end Go.Proofs.Ytiidjdedeenijaa
