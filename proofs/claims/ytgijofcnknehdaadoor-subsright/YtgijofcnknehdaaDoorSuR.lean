/- SubsRight: whatever is done and heard, a half stays right. -/
import Derived.Test.YtgijofcnknehdaaDoorSuJ
import Derived.Deep.CutBlock
namespace Go.Proofs.YtgijofcnknehdaaDoor
open Go.RowKit Go.Joins

/-- The half at the head of a round. -/
structure Rt (w : World) (h : Hf) (wr : World) : Prop where
  at' : HfAt wr w.heap.size h
  ok : okH h = true
  bl : Below w.heap.size w wr
theorem Rt.below {w : World} {h : Hf} {w1 w2 : World} (R : Rt w h w1) (hb : Below w1.heap.size w1 w2) : Rt w h w2 := ⟨R.at'.below hb R.at'.lt, R.ok, R.bl.trans (hb.mono R.bl.size)⟩
theorem Rt.set {w : World} {h t : Hf} {w1 : World} (R : Rt w h w1) (hk : okH t = true) : Rt w t (w1.setRow w.heap.size (hfc t)) := ⟨R.at'.set t, hk, R.at'.setB R.bl (Nat.le_refl _) t⟩

set_option maxRecDepth 100000 in
set_option maxHeartbeats 4000000 in
theorem subsRight_any (a : Option Addr) (n c : Nat) (f : Nat → Int × Int × Int) (w : World) (hE : ERd w a n c f) (hS : Ts w) (hU : Tu w) :
    Calls Tryd.prog 5 #[.slice a n c] w fun e w' => e = .returned (.bool true) ∧ Below w.heap.size w w' := by
  have HE : Hid (ERd w a n c f) := hE
  have HT : Hid (Ts w ∧ Tu w) := ⟨hS, hU⟩
  have H0 : Hid (Rt w ⟨0, 0, 0, 0⟩ (w.alloc (.cells #[.int .i64 0, .int .u64 0, .int .i64 0, .int .u64 0] 24))) := ⟨push_at _ _ rfl, rfl, below1 _ _⟩
  have hZ : (n : Int) ≤ 9223372036854775807 := by have := hE.cap; have := hE.most; unfold maxLen at this; omega
  clear hE hS hU
  go_enter Tryd.func5, Tryd.ntmps5
  go_wp2_with fail
  go_loopg [4, 5, 6, 7, 8, 9, 10, 11, 12, 13] 200 (fun kx s4 s5 _ _ _ _ _ _ _ _ wr => ∃ (i : Nat) (h : Hf), s4 = .int .u64 i ∧ s5 = .int .i64 i ∧ i + kx = 200 ∧ Hid (Rt w h wr))
  case atStart => exact ⟨0, ⟨0, 0, 0, 0⟩, rfl, rfl, rfl, H0⟩
  case round =>
    clear H0
    obtain ⟨i, h, rfl, rfl, hik, HR⟩ := hrel
    by_cases h1 : i < n
    · have h1z : (i : Int) < (n : Int) := by omega
      by_cases h2 : i < 200
      · have h2z : (i : Int) < 200 := by omega
        obtain ⟨b, off, rfl, hce⟩ := HE.out.flat (by omega)
        have HO : Hid (EvAt w b (off + i * 7) (f i).1 (f i).2.1 (f i).2.2) := hce i h1
        clear hce
        have q6 := (HO.out.below HR.out.bl).c6
        generalize (f i).1 = kd at *
        generalize (f i).2.1 = ml at *
        generalize (f i).2.2 = x at *
        obtain ⟨K, hK⟩ : ∃ K, bits .and .u64 x 1 = K := ⟨_, rfl⟩
        go_upto_if 33 with fail
        go_cut [6, 7, 8, 9, 10, 11, 12] from 15 to 135 (fun _ _ _ _ _ _ _ wx => ∃ h' : Hf, Hid (Rt w h' wx))
        case first =>
          by_cases hK0 : K = 0
          · have hK1 : (K == 0) = true := by simpa using hK0
            have cA := fun w => Act_any h kd ((i : Int) + 1) w
            have hok : (actA h kd ((i : Int) + 1)).2 = 0 → okH (actA h kd ((i : Int) + 1)).1.1 = true := ok_actA HR.out.ok
            generalize actA h kd ((i : Int) + 1) = r at cA hok
            obtain ⟨⟨t, mm, nn⟩, en⟩ := r
            unfold actV hfv hfc at cA
            simp only at hok cA
            go_upto_region 8 with fail
            clear hK hK0 hK1 q6
            refine wp_region_lx (fun w' => HfAt w' w.heap.size h ∧ EvAt w' b (off + i * 7) kd ml x) [] 18 (by kernel_rfl) (by kernel_rfl) ?_
            have RW : Rt w h wr.drew := HR.out.below ((Below.refl _ _).drew)
            generalize wr.drew = W at RW ⊢
            have HW : HfAt W w.heap.size h ∧ EvAt W b (off + i * 7) kd ml x := ⟨RW.at', HO.out.below RW.bl⟩
            refine lx_rd 0 (.agg #[.int .i64 h.o, .int .u64 h.n, .int .i64 h.i, .int .u64 h.m]) (by kernel_rfl) (fun _ _ d _ _ h => by cases d <;> exact h) (by kernel_rfl) HW rfl rfl rfl (fun w' hS => ?hA0) ?_
            case hA0 => have z0 := hS.1.c0; have z1 := hS.1.c1; have z2 := hS.1.c2; have z3 := hS.1.c3; first | (go_simp; rfl) | go_simp
            simp only [List.setIfInBounds_toArray, List.set_cons_zero, List.set_cons_succ]
            refine lx_rd 1 ?vA1 (by kernel_rfl) (fun _ _ d _ _ h => by cases d <;> exact h) (by kernel_rfl) HW rfl rfl rfl (fun w' hS => ?hA1) ?_
            case hA1 => first | (go_simp; rfl) | go_simp
            simp only [List.setIfInBounds_toArray, List.set_cons_zero, List.set_cons_succ]
            refine lx_rd 2 ?vA2 (by kernel_rfl) (fun _ _ d _ _ h => by cases d <;> exact h) (by kernel_rfl) HW rfl rfl rfl (fun w' hS => ?hA2) ?_
            case hA2 => first | (go_simp; rfl) | go_simp
            simp only [List.setIfInBounds_toArray, List.set_cons_zero, List.set_cons_succ]
            refine lx_rd 3 (.pointer (some ⟨b, off + i * 7, none⟩)) (by kernel_rfl) (fun _ _ d _ _ h => by cases d <;> exact h) (by kernel_rfl) HW rfl rfl rfl (fun w' hS => ?hA3) ?_
            case hA3 => first | (go_simp; rfl) | go_simp
            simp only [List.setIfInBounds_toArray, List.set_cons_zero, List.set_cons_succ]
            refine lx_rd 4 ?vA4 (by kernel_rfl) (fun _ _ d _ _ h => by cases d <;> exact h) (by kernel_rfl) HW rfl rfl rfl (fun w' hS => ?hA4) ?_
            case hA4 => first | (go_simp; rfl) | go_simp
            simp only [List.setIfInBounds_toArray, List.set_cons_zero, List.set_cons_succ]
            refine lx_rd 5 (.int .i64 kd) (by kernel_rfl) (fun _ _ d _ _ h => by cases d <;> exact h) (by kernel_rfl) HW rfl rfl rfl (fun w' hS => ?hA5) ?_
            case hA5 => have z0 := hS.2.c4; first | (go_simp; rfl) | go_simp
            simp only [List.setIfInBounds_toArray, List.set_cons_zero, List.set_cons_succ]
            refine lx_rd 6 ?vA6 (by kernel_rfl) (fun _ _ d _ _ h => by cases d <;> exact h) (by kernel_rfl) HW rfl rfl rfl (fun w' hS => ?hA6) ?_
            case hA6 => first | (go_simp; rfl) | go_simp
            simp only [List.setIfInBounds_toArray, List.set_cons_zero, List.set_cons_succ]
            refine lx_two 7 13 (by kernel_rfl) ?_ ?_
            · refine stepT_call 8 ?cA1 rfl rfl rfl ?dA1 ?_
              case dA1 => first | (go_simp; rfl) | go_simp
              refine (cA W).mono ?_
              rintro e w5 ⟨rfl, hb1⟩
              have RWc := RW.below hb1
              refine ⟨_, rfl, fun _ => ⟨RWc.at', HO.out.below RWc.bl⟩, ?_⟩
              simp only [List.setIfInBounds_toArray, List.set_cons_zero, List.set_cons_succ]
              have HV : HfAt w5 w.heap.size h ∧ EvAt w5 b (off + i * 7) kd ml x := ⟨RWc.at', HO.out.below RWc.bl⟩
              refine lx_rd 8 ?vAa8 (by kernel_rfl) (fun _ _ d _ _ h => by cases d <;> exact h) (by kernel_rfl) HV rfl rfl rfl (fun w' hS => ?hAa8) ?_
              case hAa8 => first | (go_simp; rfl) | go_simp
              simp only [List.setIfInBounds_toArray, List.set_cons_zero, List.set_cons_succ]
              refine lx_rd 9 ?vAa9 (by kernel_rfl) (fun _ _ d _ _ h => by cases d <;> exact h) (by kernel_rfl) HV rfl rfl rfl (fun w' hS => ?hAa9) ?_
              case hAa9 => first | (go_simp; rfl) | go_simp
              simp only [List.setIfInBounds_toArray, List.set_cons_zero, List.set_cons_succ]
              refine lx_rd 10 ?vAa10 (by kernel_rfl) (fun _ _ d _ _ h => by cases d <;> exact h) (by kernel_rfl) HV rfl rfl rfl (fun w' hS => ?hAa10) ?_
              case hAa10 => first | (go_simp; rfl) | go_simp
              simp only [List.setIfInBounds_toArray, List.set_cons_zero, List.set_cons_succ]
              refine lx_rd 11 ?vAa11 (by kernel_rfl) (fun _ _ d _ _ h => by cases d <;> exact h) (by kernel_rfl) HV rfl rfl rfl (fun w' hS => ?hAa11) ?_
              case hAa11 => first | (go_simp; rfl) | go_simp
              simp only [List.setIfInBounds_toArray, List.set_cons_zero, List.set_cons_succ]
              refine lx_rd 12 ?vAa12 (by kernel_rfl) (fun _ _ d _ _ h => by cases d <;> exact h) (by kernel_rfl) HV rfl rfl rfl (fun w' hS => ?hAa12) ?_
              case hAa12 => first | (go_simp; rfl) | go_simp
              simp only [List.setIfInBounds_toArray, List.set_cons_zero, List.set_cons_succ]
              refine lx_one 13 (by kernel_rfl) ?_
              have hb2 := below1 w5 (.cells #[.int .i64 0, .int .u64 0, .int .i64 0, .int .u64 0] 24)
              have RWca := RWc.below hb2
              have G2 : HfAt (w5.alloc (.cells #[.int .i64 0, .int .u64 0, .int .i64 0, .int .u64 0] 24)) w5.heap.size ⟨0, 0, 0, 0⟩ := push_at _ _ rfl
              have gl : w.heap.size < w5.heap.size := RWc.at'.lt
              refine stepT_val (w' := w5.alloc (.cells #[.int .i64 0, .int .u64 0, .int .i64 0, .int .u64 0] 24)) (.pointer (some ⟨w5.heap.size, 0, none⟩)) rfl rfl rfl ?dA2 (fun _ => ⟨RWca.at', HO.out.below RWca.bl⟩) ?_
              case dA2 => first | (go_simp; rfl) | go_simp
              simp only [List.setIfInBounds_toArray, List.set_cons_zero, List.set_cons_succ]
              have R2 : Rt w h ((w5.alloc (.cells #[.int .i64 0, .int .u64 0, .int .i64 0, .int .u64 0] 24)).setRow w5.heap.size (hfc t)) := ⟨RWca.at'.row _ (by omega), RWca.ok, G2.setB RWca.bl (by omega) t⟩
              have G9 : HfAt ((w5.alloc (.cells #[.int .i64 0, .int .u64 0, .int .i64 0, .int .u64 0] 24)).setRow w5.heap.size (hfc t)) w5.heap.size t := G2.set t
              refine lx_one 14 (by kernel_rfl) (stepT_store (w' := (w5.alloc (.cells #[.int .i64 0, .int .u64 0, .int .i64 0, .int .u64 0] 24)).setRow w5.heap.size (hfc t)) rfl rfl rfl ?sA1 (fun _ => ⟨R2.at', HO.out.below R2.bl⟩) ?_)
              case sA1 => exact exec_store_half (.tmp 6) (.tmp 43) rfl w5.heap.size rfl t rfl _ G2
              generalize (w5.alloc (.cells #[.int .i64 0, .int .u64 0, .int .i64 0, .int .u64 0] 24)).setRow w5.heap.size (hfc t) = WY at R2 G9 ⊢
              refine lx_one 15 (by kernel_rfl) (stepT_val (w' := WY) (.int .i64 mm) rfl rfl rfl ?vA10 (fun _ => ⟨R2.at', HO.out.below R2.bl⟩) ?_)
              case vA10 => first | (go_simp; rfl) | (go_simp; done)
              simp only [List.setIfInBounds_toArray, List.set_cons_zero, List.set_cons_succ]
              refine lx_one 16 (by kernel_rfl) (stepT_val (w' := WY) (.int .u64 nn) rfl rfl rfl ?vA11 (fun _ => ⟨R2.at', HO.out.below R2.bl⟩) ?_)
              case vA11 => first | (go_simp; rfl) | (go_simp; done)
              simp only [List.setIfInBounds_toArray, List.set_cons_zero, List.set_cons_succ]
              refine lx_one 17 (by kernel_rfl) (stepT_val (w' := WY) (.int .i64 en) rfl rfl rfl ?vA12 (fun _ => ⟨R2.at', HO.out.below R2.bl⟩) ?_)
              case vA12 => first | (go_simp; rfl) | (go_simp; done)
              simp only [List.setIfInBounds_toArray, List.set_cons_zero, List.set_cons_succ]
              refine lx_nil (by kernel_rfl) ?_
              have g0 := G9.c0
              have g1 := G9.c1
              have g2 := G9.c2
              have g3 := G9.c3
              rcases Nat.eq_zero_or_pos en with e0 | e0
              · subst e0
                go_wp2_with (first
                  | (refine wp_store_half rfl (.tmp 3) (.tmp 49) rfl w.heap.size rfl t rfl _ R2.at' ?_))
                go_meet
                exact ⟨t, R2.set (hok (by first | trivial | rfl))⟩
              · have e1 : ((en : Int) == 0) = false := by simpa using (by omega : ¬ en = 0)
                go_wp2_with fail
                go_meet
                exact ⟨h, R2⟩
            · have hb3 := below1 W (.cells #[.int .i64 0, .int .u64 0, .int .i64 0, .int .u64 0] 24)
              have RWa := RW.below hb3
              have G3 : HfAt (W.alloc (.cells #[.int .i64 0, .int .u64 0, .int .i64 0, .int .u64 0] 24)) W.heap.size ⟨0, 0, 0, 0⟩ := push_at _ _ rfl
              have gl : w.heap.size < W.heap.size := RW.at'.lt
              refine stepT_val (w' := W.alloc (.cells #[.int .i64 0, .int .u64 0, .int .i64 0, .int .u64 0] 24)) (.pointer (some ⟨W.heap.size, 0, none⟩)) rfl rfl rfl ?dA3 (fun _ => ⟨RWa.at', HO.out.below RWa.bl⟩) ?_
              case dA3 => first | (go_simp; rfl) | go_simp
              simp only [List.setIfInBounds_toArray, List.set_cons_zero, List.set_cons_succ]
              refine lx_one 7 (by kernel_rfl) ?_
              refine stepT_call 8 ?cA4 rfl rfl rfl ?dA4 ?_
              case dA4 => first | (go_simp; rfl) | go_simp
              refine (cA (W.alloc (.cells #[.int .i64 0, .int .u64 0, .int .i64 0, .int .u64 0] 24))).mono ?_
              rintro e w6 ⟨rfl, hb4⟩
              have RWac := RWa.below hb4
              refine ⟨_, rfl, fun _ => ⟨RWac.at', HO.out.below RWac.bl⟩, ?_⟩
              simp only [List.setIfInBounds_toArray, List.set_cons_zero, List.set_cons_succ]
              have G4 : HfAt w6 W.heap.size ⟨0, 0, 0, 0⟩ := G3.below hb4 G3.lt
              have HX : HfAt w6 w.heap.size h ∧ EvAt w6 b (off + i * 7) kd ml x := ⟨RWac.at', HO.out.below RWac.bl⟩
              refine lx_rd 8 ?vAx28 (by kernel_rfl) (fun _ _ d _ _ h => by cases d <;> exact h) (by kernel_rfl) HX rfl rfl rfl (fun w' hS => ?hAx28) ?_
              case hAx28 => first | (go_simp; rfl) | go_simp
              simp only [List.setIfInBounds_toArray, List.set_cons_zero, List.set_cons_succ]
              refine lx_rd 9 ?vAx29 (by kernel_rfl) (fun _ _ d _ _ h => by cases d <;> exact h) (by kernel_rfl) HX rfl rfl rfl (fun w' hS => ?hAx29) ?_
              case hAx29 => first | (go_simp; rfl) | go_simp
              simp only [List.setIfInBounds_toArray, List.set_cons_zero, List.set_cons_succ]
              refine lx_rd 10 ?vAx210 (by kernel_rfl) (fun _ _ d _ _ h => by cases d <;> exact h) (by kernel_rfl) HX rfl rfl rfl (fun w' hS => ?hAx210) ?_
              case hAx210 => first | (go_simp; rfl) | go_simp
              simp only [List.setIfInBounds_toArray, List.set_cons_zero, List.set_cons_succ]
              refine lx_rd 11 ?vAx211 (by kernel_rfl) (fun _ _ d _ _ h => by cases d <;> exact h) (by kernel_rfl) HX rfl rfl rfl (fun w' hS => ?hAx211) ?_
              case hAx211 => first | (go_simp; rfl) | go_simp
              simp only [List.setIfInBounds_toArray, List.set_cons_zero, List.set_cons_succ]
              refine lx_rd 12 ?vAx212 (by kernel_rfl) (fun _ _ d _ _ h => by cases d <;> exact h) (by kernel_rfl) HX rfl rfl rfl (fun w' hS => ?hAx212) ?_
              case hAx212 => first | (go_simp; rfl) | go_simp
              simp only [List.setIfInBounds_toArray, List.set_cons_zero, List.set_cons_succ]
              have R2 : Rt w h (w6.setRow W.heap.size (hfc t)) := ⟨RWac.at'.row _ (by omega), RWac.ok, G4.setB RWac.bl (by omega) t⟩
              have G9 : HfAt (w6.setRow W.heap.size (hfc t)) W.heap.size t := G4.set t
              refine lx_one 14 (by kernel_rfl) (stepT_store (w' := w6.setRow W.heap.size (hfc t)) rfl rfl rfl ?sA2 (fun _ => ⟨R2.at', HO.out.below R2.bl⟩) ?_)
              case sA2 => exact exec_store_half (.tmp 6) (.tmp 43) rfl W.heap.size rfl t rfl _ G4
              generalize w6.setRow W.heap.size (hfc t) = WY at R2 G9 ⊢
              refine lx_one 15 (by kernel_rfl) (stepT_val (w' := WY) (.int .i64 mm) rfl rfl rfl ?vA20 (fun _ => ⟨R2.at', HO.out.below R2.bl⟩) ?_)
              case vA20 => first | (go_simp; rfl) | (go_simp; done)
              simp only [List.setIfInBounds_toArray, List.set_cons_zero, List.set_cons_succ]
              refine lx_one 16 (by kernel_rfl) (stepT_val (w' := WY) (.int .u64 nn) rfl rfl rfl ?vA21 (fun _ => ⟨R2.at', HO.out.below R2.bl⟩) ?_)
              case vA21 => first | (go_simp; rfl) | (go_simp; done)
              simp only [List.setIfInBounds_toArray, List.set_cons_zero, List.set_cons_succ]
              refine lx_one 17 (by kernel_rfl) (stepT_val (w' := WY) (.int .i64 en) rfl rfl rfl ?vA22 (fun _ => ⟨R2.at', HO.out.below R2.bl⟩) ?_)
              case vA22 => first | (go_simp; rfl) | (go_simp; done)
              simp only [List.setIfInBounds_toArray, List.set_cons_zero, List.set_cons_succ]
              refine lx_nil (by kernel_rfl) ?_
              have g0 := G9.c0
              have g1 := G9.c1
              have g2 := G9.c2
              have g3 := G9.c3
              rcases Nat.eq_zero_or_pos en with e0 | e0
              · subst e0
                go_wp2_with (first
                  | (refine wp_store_half rfl (.tmp 3) (.tmp 49) rfl w.heap.size rfl t rfl _ R2.at' ?_))
                go_meet
                exact ⟨t, R2.set (hok (by first | trivial | rfl))⟩
              · have e1 : ((en : Int) == 0) = false := by simpa using (by omega : ¬ en = 0)
                go_wp2_with fail
                go_meet
                exact ⟨h, R2⟩
          · have hK1 : (K == 0) = false := by simpa using hK0
            have cH := fun w => Hear_any h ml x w
            have hok : (hearA h ml x).2 = 0 → okH (hearA h ml x).1.1 = true := ok_hearA HR.out.ok
            generalize hearA h ml x = r at cH hok
            obtain ⟨⟨t, mm⟩, en⟩ := r
            unfold hearV hfv hfc at cH
            simp only at hok cH
            go_upto_region 11 with fail
            clear hK hK0 hK1 q6
            refine wp_region_lx (fun w' => HfAt w' w.heap.size h ∧ EvAt w' b (off + i * 7) kd ml x) [] 20 (by kernel_rfl) (by kernel_rfl) ?_
            have RW : Rt w h wr.drew := HR.out.below ((Below.refl _ _).drew)
            generalize wr.drew = W at RW ⊢
            have HW : HfAt W w.heap.size h ∧ EvAt W b (off + i * 7) kd ml x := ⟨RW.at', HO.out.below RW.bl⟩
            refine lx_rd 0 (.agg #[.int .i64 h.o, .int .u64 h.n, .int .i64 h.i, .int .u64 h.m]) (by kernel_rfl) (fun _ _ d _ _ h => by cases d <;> exact h) (by kernel_rfl) HW rfl rfl rfl (fun w' hS => ?hB0) ?_
            case hB0 => have z0 := hS.1.c0; have z1 := hS.1.c1; have z2 := hS.1.c2; have z3 := hS.1.c3; first | (go_simp; rfl) | go_simp
            simp only [List.setIfInBounds_toArray, List.set_cons_zero, List.set_cons_succ]
            refine lx_rd 1 ?vB1 (by kernel_rfl) (fun _ _ d _ _ h => by cases d <;> exact h) (by kernel_rfl) HW rfl rfl rfl (fun w' hS => ?hB1) ?_
            case hB1 => first | (go_simp; rfl) | go_simp
            simp only [List.setIfInBounds_toArray, List.set_cons_zero, List.set_cons_succ]
            refine lx_rd 2 ?vB2 (by kernel_rfl) (fun _ _ d _ _ h => by cases d <;> exact h) (by kernel_rfl) HW rfl rfl rfl (fun w' hS => ?hB2) ?_
            case hB2 => first | (go_simp; rfl) | go_simp
            simp only [List.setIfInBounds_toArray, List.set_cons_zero, List.set_cons_succ]
            refine lx_rd 3 (.pointer (some ⟨b, off + i * 7, none⟩)) (by kernel_rfl) (fun _ _ d _ _ h => by cases d <;> exact h) (by kernel_rfl) HW rfl rfl rfl (fun w' hS => ?hB3) ?_
            case hB3 => first | (go_simp; rfl) | go_simp
            simp only [List.setIfInBounds_toArray, List.set_cons_zero, List.set_cons_succ]
            refine lx_rd 4 ?vB4 (by kernel_rfl) (fun _ _ d _ _ h => by cases d <;> exact h) (by kernel_rfl) HW rfl rfl rfl (fun w' hS => ?hB4) ?_
            case hB4 => first | (go_simp; rfl) | go_simp
            simp only [List.setIfInBounds_toArray, List.set_cons_zero, List.set_cons_succ]
            refine lx_rd 5 (.int .i64 ml) (by kernel_rfl) (fun _ _ d _ _ h => by cases d <;> exact h) (by kernel_rfl) HW rfl rfl rfl (fun w' hS => ?hB5) ?_
            case hB5 => have z0 := hS.2.c5; first | (go_simp; rfl) | go_simp
            simp only [List.setIfInBounds_toArray, List.set_cons_zero, List.set_cons_succ]
            refine lx_rd 6 ?vB6 (by kernel_rfl) (fun _ _ d _ _ h => by cases d <;> exact h) (by kernel_rfl) HW rfl rfl rfl (fun w' hS => ?hB6) ?_
            case hB6 => first | (go_simp; rfl) | go_simp
            simp only [List.setIfInBounds_toArray, List.set_cons_zero, List.set_cons_succ]
            refine lx_rd 7 ?vB7 (by kernel_rfl) (fun _ _ d _ _ h => by cases d <;> exact h) (by kernel_rfl) HW rfl rfl rfl (fun w' hS => ?hB7) ?_
            case hB7 => first | (go_simp; rfl) | go_simp
            simp only [List.setIfInBounds_toArray, List.set_cons_zero, List.set_cons_succ]
            refine lx_rd 8 (.pointer (some ⟨b, off + i * 7, none⟩)) (by kernel_rfl) (fun _ _ d _ _ h => by cases d <;> exact h) (by kernel_rfl) HW rfl rfl rfl (fun w' hS => ?hB8) ?_
            case hB8 => first | (go_simp; rfl) | go_simp
            simp only [List.setIfInBounds_toArray, List.set_cons_zero, List.set_cons_succ]
            refine lx_rd 9 ?vB9 (by kernel_rfl) (fun _ _ d _ _ h => by cases d <;> exact h) (by kernel_rfl) HW rfl rfl rfl (fun w' hS => ?hB9) ?_
            case hB9 => first | (go_simp; rfl) | go_simp
            simp only [List.setIfInBounds_toArray, List.set_cons_zero, List.set_cons_succ]
            refine lx_rd 10 (.int .u64 x) (by kernel_rfl) (fun _ _ d _ _ h => by cases d <;> exact h) (by kernel_rfl) HW rfl rfl rfl (fun w' hS => ?hB10) ?_
            case hB10 => have z0 := hS.2.c6; first | (go_simp; rfl) | go_simp
            simp only [List.setIfInBounds_toArray, List.set_cons_zero, List.set_cons_succ]
            refine lx_two 11 16 (by kernel_rfl) ?_ ?_
            · refine stepT_call 11 ?cB1 rfl rfl rfl ?dB1 ?_
              case dB1 => first | (go_simp; rfl) | go_simp
              refine (cH W).mono ?_
              rintro e w5 ⟨rfl, hb1⟩
              have RWc := RW.below hb1
              refine ⟨_, rfl, fun _ => ⟨RWc.at', HO.out.below RWc.bl⟩, ?_⟩
              simp only [List.setIfInBounds_toArray, List.set_cons_zero, List.set_cons_succ]
              have HV : HfAt w5 w.heap.size h ∧ EvAt w5 b (off + i * 7) kd ml x := ⟨RWc.at', HO.out.below RWc.bl⟩
              refine lx_rd 12 ?vBa12 (by kernel_rfl) (fun _ _ d _ _ h => by cases d <;> exact h) (by kernel_rfl) HV rfl rfl rfl (fun w' hS => ?hBa12) ?_
              case hBa12 => first | (go_simp; rfl) | go_simp
              simp only [List.setIfInBounds_toArray, List.set_cons_zero, List.set_cons_succ]
              refine lx_rd 13 ?vBa13 (by kernel_rfl) (fun _ _ d _ _ h => by cases d <;> exact h) (by kernel_rfl) HV rfl rfl rfl (fun w' hS => ?hBa13) ?_
              case hBa13 => first | (go_simp; rfl) | go_simp
              simp only [List.setIfInBounds_toArray, List.set_cons_zero, List.set_cons_succ]
              refine lx_rd 14 ?vBa14 (by kernel_rfl) (fun _ _ d _ _ h => by cases d <;> exact h) (by kernel_rfl) HV rfl rfl rfl (fun w' hS => ?hBa14) ?_
              case hBa14 => first | (go_simp; rfl) | go_simp
              simp only [List.setIfInBounds_toArray, List.set_cons_zero, List.set_cons_succ]
              refine lx_rd 15 ?vBa15 (by kernel_rfl) (fun _ _ d _ _ h => by cases d <;> exact h) (by kernel_rfl) HV rfl rfl rfl (fun w' hS => ?hBa15) ?_
              case hBa15 => first | (go_simp; rfl) | go_simp
              simp only [List.setIfInBounds_toArray, List.set_cons_zero, List.set_cons_succ]
              refine lx_one 16 (by kernel_rfl) ?_
              have hb2 := below1 w5 (.cells #[.int .i64 0, .int .u64 0, .int .i64 0, .int .u64 0] 24)
              have RWca := RWc.below hb2
              have G2 : HfAt (w5.alloc (.cells #[.int .i64 0, .int .u64 0, .int .i64 0, .int .u64 0] 24)) w5.heap.size ⟨0, 0, 0, 0⟩ := push_at _ _ rfl
              have gl : w.heap.size < w5.heap.size := RWc.at'.lt
              refine stepT_val (w' := w5.alloc (.cells #[.int .i64 0, .int .u64 0, .int .i64 0, .int .u64 0] 24)) (.pointer (some ⟨w5.heap.size, 0, none⟩)) rfl rfl rfl ?dB2 (fun _ => ⟨RWca.at', HO.out.below RWca.bl⟩) ?_
              case dB2 => first | (go_simp; rfl) | go_simp
              simp only [List.setIfInBounds_toArray, List.set_cons_zero, List.set_cons_succ]
              have R2 : Rt w h ((w5.alloc (.cells #[.int .i64 0, .int .u64 0, .int .i64 0, .int .u64 0] 24)).setRow w5.heap.size (hfc t)) := ⟨RWca.at'.row _ (by omega), RWca.ok, G2.setB RWca.bl (by omega) t⟩
              have G9 : HfAt ((w5.alloc (.cells #[.int .i64 0, .int .u64 0, .int .i64 0, .int .u64 0] 24)).setRow w5.heap.size (hfc t)) w5.heap.size t := G2.set t
              refine lx_one 17 (by kernel_rfl) (stepT_store (w' := (w5.alloc (.cells #[.int .i64 0, .int .u64 0, .int .i64 0, .int .u64 0] 24)).setRow w5.heap.size (hfc t)) rfl rfl rfl ?sB1 (fun _ => ⟨R2.at', HO.out.below R2.bl⟩) ?_)
              case sB1 => exact exec_store_half (.tmp 10) (.tmp 63) rfl w5.heap.size rfl t rfl _ G2
              generalize (w5.alloc (.cells #[.int .i64 0, .int .u64 0, .int .i64 0, .int .u64 0] 24)).setRow w5.heap.size (hfc t) = WY at R2 G9 ⊢
              refine lx_one 18 (by kernel_rfl) (stepT_val (w' := WY) (.int .i64 mm) rfl rfl rfl ?vB10 (fun _ => ⟨R2.at', HO.out.below R2.bl⟩) ?_)
              case vB10 => first | (go_simp; rfl) | (go_simp; done)
              simp only [List.setIfInBounds_toArray, List.set_cons_zero, List.set_cons_succ]
              refine lx_one 19 (by kernel_rfl) (stepT_val (w' := WY) (.int .i64 en) rfl rfl rfl ?vB11 (fun _ => ⟨R2.at', HO.out.below R2.bl⟩) ?_)
              case vB11 => first | (go_simp; rfl) | (go_simp; done)
              simp only [List.setIfInBounds_toArray, List.set_cons_zero, List.set_cons_succ]
              refine lx_nil (by kernel_rfl) ?_
              have g0 := G9.c0
              have g1 := G9.c1
              have g2 := G9.c2
              have g3 := G9.c3
              rcases Nat.eq_zero_or_pos en with e0 | e0
              · subst e0
                go_wp2_with (first
                  | (refine wp_store_half rfl (.tmp 3) (.tmp 68) rfl w.heap.size rfl t rfl _ R2.at' ?_))
                go_meet
                exact ⟨t, R2.set (hok (by first | trivial | rfl))⟩
              · have e1 : ((en : Int) == 0) = false := by simpa using (by omega : ¬ en = 0)
                go_wp2_with fail
                go_meet
                exact ⟨h, R2⟩
            · have hb3 := below1 W (.cells #[.int .i64 0, .int .u64 0, .int .i64 0, .int .u64 0] 24)
              have RWa := RW.below hb3
              have G3 : HfAt (W.alloc (.cells #[.int .i64 0, .int .u64 0, .int .i64 0, .int .u64 0] 24)) W.heap.size ⟨0, 0, 0, 0⟩ := push_at _ _ rfl
              have gl : w.heap.size < W.heap.size := RW.at'.lt
              refine stepT_val (w' := W.alloc (.cells #[.int .i64 0, .int .u64 0, .int .i64 0, .int .u64 0] 24)) (.pointer (some ⟨W.heap.size, 0, none⟩)) rfl rfl rfl ?dB3 (fun _ => ⟨RWa.at', HO.out.below RWa.bl⟩) ?_
              case dB3 => first | (go_simp; rfl) | go_simp
              simp only [List.setIfInBounds_toArray, List.set_cons_zero, List.set_cons_succ]
              refine lx_one 11 (by kernel_rfl) ?_
              refine stepT_call 11 ?cB4 rfl rfl rfl ?dB4 ?_
              case dB4 => first | (go_simp; rfl) | go_simp
              refine (cH (W.alloc (.cells #[.int .i64 0, .int .u64 0, .int .i64 0, .int .u64 0] 24))).mono ?_
              rintro e w6 ⟨rfl, hb4⟩
              have RWac := RWa.below hb4
              refine ⟨_, rfl, fun _ => ⟨RWac.at', HO.out.below RWac.bl⟩, ?_⟩
              simp only [List.setIfInBounds_toArray, List.set_cons_zero, List.set_cons_succ]
              have G4 : HfAt w6 W.heap.size ⟨0, 0, 0, 0⟩ := G3.below hb4 G3.lt
              have HX : HfAt w6 w.heap.size h ∧ EvAt w6 b (off + i * 7) kd ml x := ⟨RWac.at', HO.out.below RWac.bl⟩
              refine lx_rd 12 ?vBx212 (by kernel_rfl) (fun _ _ d _ _ h => by cases d <;> exact h) (by kernel_rfl) HX rfl rfl rfl (fun w' hS => ?hBx212) ?_
              case hBx212 => first | (go_simp; rfl) | go_simp
              simp only [List.setIfInBounds_toArray, List.set_cons_zero, List.set_cons_succ]
              refine lx_rd 13 ?vBx213 (by kernel_rfl) (fun _ _ d _ _ h => by cases d <;> exact h) (by kernel_rfl) HX rfl rfl rfl (fun w' hS => ?hBx213) ?_
              case hBx213 => first | (go_simp; rfl) | go_simp
              simp only [List.setIfInBounds_toArray, List.set_cons_zero, List.set_cons_succ]
              refine lx_rd 14 ?vBx214 (by kernel_rfl) (fun _ _ d _ _ h => by cases d <;> exact h) (by kernel_rfl) HX rfl rfl rfl (fun w' hS => ?hBx214) ?_
              case hBx214 => first | (go_simp; rfl) | go_simp
              simp only [List.setIfInBounds_toArray, List.set_cons_zero, List.set_cons_succ]
              refine lx_rd 15 ?vBx215 (by kernel_rfl) (fun _ _ d _ _ h => by cases d <;> exact h) (by kernel_rfl) HX rfl rfl rfl (fun w' hS => ?hBx215) ?_
              case hBx215 => first | (go_simp; rfl) | go_simp
              simp only [List.setIfInBounds_toArray, List.set_cons_zero, List.set_cons_succ]
              have R2 : Rt w h (w6.setRow W.heap.size (hfc t)) := ⟨RWac.at'.row _ (by omega), RWac.ok, G4.setB RWac.bl (by omega) t⟩
              have G9 : HfAt (w6.setRow W.heap.size (hfc t)) W.heap.size t := G4.set t
              refine lx_one 17 (by kernel_rfl) (stepT_store (w' := w6.setRow W.heap.size (hfc t)) rfl rfl rfl ?sB2 (fun _ => ⟨R2.at', HO.out.below R2.bl⟩) ?_)
              case sB2 => exact exec_store_half (.tmp 10) (.tmp 63) rfl W.heap.size rfl t rfl _ G4
              generalize w6.setRow W.heap.size (hfc t) = WY at R2 G9 ⊢
              refine lx_one 18 (by kernel_rfl) (stepT_val (w' := WY) (.int .i64 mm) rfl rfl rfl ?vB20 (fun _ => ⟨R2.at', HO.out.below R2.bl⟩) ?_)
              case vB20 => first | (go_simp; rfl) | (go_simp; done)
              simp only [List.setIfInBounds_toArray, List.set_cons_zero, List.set_cons_succ]
              refine lx_one 19 (by kernel_rfl) (stepT_val (w' := WY) (.int .i64 en) rfl rfl rfl ?vB21 (fun _ => ⟨R2.at', HO.out.below R2.bl⟩) ?_)
              case vB21 => first | (go_simp; rfl) | (go_simp; done)
              simp only [List.setIfInBounds_toArray, List.set_cons_zero, List.set_cons_succ]
              refine lx_nil (by kernel_rfl) ?_
              have g0 := G9.c0
              have g1 := G9.c1
              have g2 := G9.c2
              have g3 := G9.c3
              rcases Nat.eq_zero_or_pos en with e0 | e0
              · subst e0
                go_wp2_with (first
                  | (refine wp_store_half rfl (.tmp 3) (.tmp 68) rfl w.heap.size rfl t rfl _ R2.at' ?_))
                go_meet
                exact ⟨t, R2.set (hok (by first | trivial | rfl))⟩
              · have e1 : ((en : Int) == 0) = false := by simpa using (by omega : ¬ en = 0)
                go_wp2_with fail
                go_meet
                exact ⟨h, R2⟩
        case rest =>
          clear HR q6 hK
          obtain ⟨h, HR⟩ := hcut
          obtain ⟨ho, hn, hi, hm⟩ := h
          have hk := HR.out.ok
          have TS := HT.out.1.below HR.out.bl
          have cS := fState_any ⟨ho, hn, hi, hm⟩ wc TS
          have cU := fun wz hz => fSub_any ⟨ho, hn, hi, hm⟩ wz hz
          have e1 : names ⟨ho, hn, hi, hm⟩ = stT.getD (3 * ho.toNat + hi.toNat) ⟨#[]⟩ := by unfold names; rw [if_pos hk]
          have e2 : nameu ⟨ho, hn, hi, hm⟩ = sbT.getD (3 * ho.toNat + hi.toNat) ⟨#[]⟩ := by unfold nameu; rw [if_pos hk]
          rw [e1] at cS
          simp only [e2] at cU
          unfold hfv hfc at cS cU
          have c0 := HR.out.at'.c0
          have c1 := HR.out.at'.c1
          have c2 := HR.out.at'.c2
          have c3 := HR.out.at'.c3
          simp only at c0 c1 c2 c3
          clear e1 e2 TS
          rcases okR_cases (okH_1 hk) with ⟨q1, q2⟩ | ⟨q1, q2⟩ | ⟨q1, q2⟩ <;> rcases okR_cases (okH_2 hk) with ⟨q3, q4⟩ | ⟨q3, q4⟩ | ⟨q3, q4⟩ <;> simp only at q1 q2 q3 q4
          · subst q1 q2 q3 q4
            have cS' : Calls Tryd.prog 7 #[.agg #[.int .i64 0, .int .u64 0, .int .i64 0, .int .u64 0]] wc fun e w' => e = .returned (.string ⟨#[78, 111, 110, 101]⟩) ∧ Below wc.heap.size wc w' := cS
            have cU' : ∀ wz, Tu wz → Calls Tryd.prog 13 #[.agg #[.int .i64 0, .int .u64 0, .int .i64 0, .int .u64 0]] wz fun e w' => e = .returned (.string ⟨#[110, 111, 110, 101]⟩) ∧ Below wz.heap.size wz w' := cU
            clear cS cU hk
            go_wp2_with (first
              | (go_at_call 7; refine cS'.mono ?_; clear cS'; rintro e w6 ⟨rfl, hb6⟩; have R6 : Hid (Rt w _ w6) := HR.out.below hb6; have T6 := HT.out.2.below R6.out.bl; have d0 := R6.out.at'.c0; have d1 := R6.out.at'.c1; have d2 := R6.out.at'.c2; have d3 := R6.out.at'.c3; simp only at d0 d1 d2 d3)
              | (go_at_call 13; refine (cU' _ T6).mono ?_; clear cU'; rintro e w7 ⟨rfl, hb7⟩; have R7 : Hid (Rt w _ w7) := R6.out.below hb7))
            go_roundg (gk - 1)
            case measure => omega
            case rel => exact ⟨i + 1, _, by go_num, by go_num, by omega, R7⟩
          · subst q1 q2 q3
            have cS' : Calls Tryd.prog 7 #[.agg #[.int .i64 0, .int .u64 0, .int .i64 1, .int .u64 hm]] wc fun e w' => e = .returned (.string ⟨#[78, 111, 110, 101, 32, 43, 32, 80, 101, 110, 100, 105, 110, 103, 32, 73, 110]⟩) ∧ Below wc.heap.size wc w' := cS
            have cU' : ∀ wz, Tu wz → Calls Tryd.prog 13 #[.agg #[.int .i64 0, .int .u64 0, .int .i64 1, .int .u64 hm]] wz fun e w' => e = .returned (.string ⟨#[110, 111, 110, 101]⟩) ∧ Below wz.heap.size wz w' := cU
            clear cS cU hk
            have y2 : (hm == 0) = false := by simpa using q4
            go_wp2_with (first
              | (go_at_call 7; refine cS'.mono ?_; clear cS'; rintro e w6 ⟨rfl, hb6⟩; have R6 : Hid (Rt w _ w6) := HR.out.below hb6; have T6 := HT.out.2.below R6.out.bl; have d0 := R6.out.at'.c0; have d1 := R6.out.at'.c1; have d2 := R6.out.at'.c2; have d3 := R6.out.at'.c3; simp only at d0 d1 d2 d3)
              | (go_at_call 13; refine (cU' _ T6).mono ?_; clear cU'; rintro e w7 ⟨rfl, hb7⟩; have R7 : Hid (Rt w _ w7) := R6.out.below hb7))
            go_roundg (gk - 1)
            case measure => omega
            case rel => exact ⟨i + 1, _, by go_num, by go_num, by omega, R7⟩
          · subst q1 q2 q3
            have cS' : Calls Tryd.prog 7 #[.agg #[.int .i64 0, .int .u64 0, .int .i64 2, .int .u64 hm]] wc fun e w' => e = .returned (.string ⟨#[70, 114, 111, 109]⟩) ∧ Below wc.heap.size wc w' := cS
            have cU' : ∀ wz, Tu wz → Calls Tryd.prog 13 #[.agg #[.int .i64 0, .int .u64 0, .int .i64 2, .int .u64 hm]] wz fun e w' => e = .returned (.string ⟨#[102, 114, 111, 109]⟩) ∧ Below wz.heap.size wz w' := cU
            clear cS cU hk
            have y2 : (hm == 0) = false := by simpa using q4
            go_wp2_with (first
              | (go_at_call 7; refine cS'.mono ?_; clear cS'; rintro e w6 ⟨rfl, hb6⟩; have R6 : Hid (Rt w _ w6) := HR.out.below hb6; have T6 := HT.out.2.below R6.out.bl; have d0 := R6.out.at'.c0; have d1 := R6.out.at'.c1; have d2 := R6.out.at'.c2; have d3 := R6.out.at'.c3; simp only at d0 d1 d2 d3)
              | (go_at_call 13; refine (cU' _ T6).mono ?_; clear cU'; rintro e w7 ⟨rfl, hb7⟩; have R7 : Hid (Rt w _ w7) := R6.out.below hb7))
            go_roundg (gk - 1)
            case measure => omega
            case rel => exact ⟨i + 1, _, by go_num, by go_num, by omega, R7⟩
          · subst q1 q3 q4
            have cS' : Calls Tryd.prog 7 #[.agg #[.int .i64 1, .int .u64 hn, .int .i64 0, .int .u64 0]] wc fun e w' => e = .returned (.string ⟨#[78, 111, 110, 101, 32, 43, 32, 80, 101, 110, 100, 105, 110, 103, 32, 79, 117, 116]⟩) ∧ Below wc.heap.size wc w' := cS
            have cU' : ∀ wz, Tu wz → Calls Tryd.prog 13 #[.agg #[.int .i64 1, .int .u64 hn, .int .i64 0, .int .u64 0]] wz fun e w' => e = .returned (.string ⟨#[110, 111, 110, 101, 44, 97, 115, 107]⟩) ∧ Below wz.heap.size wz w' := cU
            clear cS cU hk
            have ap : (⟨#[110, 111, 110, 101]⟩ : ByteArray) ++ ⟨#[44, 97, 115, 107]⟩ = ⟨#[110, 111, 110, 101, 44, 97, 115, 107]⟩ := by kernel_rfl
            have y1 : (hn == 0) = false := by simpa using q2
            go_wp2_with (first
              | (go_at_call 7; refine cS'.mono ?_; clear cS'; rintro e w6 ⟨rfl, hb6⟩; have R6 : Hid (Rt w _ w6) := HR.out.below hb6; have T6 := HT.out.2.below R6.out.bl; have d0 := R6.out.at'.c0; have d1 := R6.out.at'.c1; have d2 := R6.out.at'.c2; have d3 := R6.out.at'.c3; simp only at d0 d1 d2 d3)
              | (go_at_call 13; refine (cU' _ T6).mono ?_; clear cU'; rintro e w7 ⟨rfl, hb7⟩; have R7 : Hid (Rt w _ w7) := R6.out.below hb7))
            go_roundg (gk - 1)
            case measure => omega
            case rel => exact ⟨i + 1, _, by go_num, by go_num, by omega, R7⟩
          · subst q1 q3
            have cS' : Calls Tryd.prog 7 #[.agg #[.int .i64 1, .int .u64 hn, .int .i64 1, .int .u64 hm]] wc fun e w' => e = .returned (.string ⟨#[78, 111, 110, 101, 32, 43, 32, 80, 101, 110, 100, 105, 110, 103, 32, 79, 117, 116, 43, 73, 110]⟩) ∧ Below wc.heap.size wc w' := cS
            have cU' : ∀ wz, Tu wz → Calls Tryd.prog 13 #[.agg #[.int .i64 1, .int .u64 hn, .int .i64 1, .int .u64 hm]] wz fun e w' => e = .returned (.string ⟨#[110, 111, 110, 101, 44, 97, 115, 107]⟩) ∧ Below wz.heap.size wz w' := cU
            clear cS cU hk
            have ap : (⟨#[110, 111, 110, 101]⟩ : ByteArray) ++ ⟨#[44, 97, 115, 107]⟩ = ⟨#[110, 111, 110, 101, 44, 97, 115, 107]⟩ := by kernel_rfl
            have y1 : (hn == 0) = false := by simpa using q2
            have y2 : (hm == 0) = false := by simpa using q4
            go_wp2_with (first
              | (go_at_call 7; refine cS'.mono ?_; clear cS'; rintro e w6 ⟨rfl, hb6⟩; have R6 : Hid (Rt w _ w6) := HR.out.below hb6; have T6 := HT.out.2.below R6.out.bl; have d0 := R6.out.at'.c0; have d1 := R6.out.at'.c1; have d2 := R6.out.at'.c2; have d3 := R6.out.at'.c3; simp only at d0 d1 d2 d3)
              | (go_at_call 13; refine (cU' _ T6).mono ?_; clear cU'; rintro e w7 ⟨rfl, hb7⟩; have R7 : Hid (Rt w _ w7) := R6.out.below hb7))
            go_roundg (gk - 1)
            case measure => omega
            case rel => exact ⟨i + 1, _, by go_num, by go_num, by omega, R7⟩
          · subst q1 q3
            have cS' : Calls Tryd.prog 7 #[.agg #[.int .i64 1, .int .u64 hn, .int .i64 2, .int .u64 hm]] wc fun e w' => e = .returned (.string ⟨#[70, 114, 111, 109, 32, 43, 32, 80, 101, 110, 100, 105, 110, 103, 32, 79, 117, 116]⟩) ∧ Below wc.heap.size wc w' := cS
            have cU' : ∀ wz, Tu wz → Calls Tryd.prog 13 #[.agg #[.int .i64 1, .int .u64 hn, .int .i64 2, .int .u64 hm]] wz fun e w' => e = .returned (.string ⟨#[102, 114, 111, 109, 44, 97, 115, 107]⟩) ∧ Below wz.heap.size wz w' := cU
            clear cS cU hk
            have ap : (⟨#[102, 114, 111, 109]⟩ : ByteArray) ++ ⟨#[44, 97, 115, 107]⟩ = ⟨#[102, 114, 111, 109, 44, 97, 115, 107]⟩ := by kernel_rfl
            have y1 : (hn == 0) = false := by simpa using q2
            have y2 : (hm == 0) = false := by simpa using q4
            go_wp2_with (first
              | (go_at_call 7; refine cS'.mono ?_; clear cS'; rintro e w6 ⟨rfl, hb6⟩; have R6 : Hid (Rt w _ w6) := HR.out.below hb6; have T6 := HT.out.2.below R6.out.bl; have d0 := R6.out.at'.c0; have d1 := R6.out.at'.c1; have d2 := R6.out.at'.c2; have d3 := R6.out.at'.c3; simp only at d0 d1 d2 d3)
              | (go_at_call 13; refine (cU' _ T6).mono ?_; clear cU'; rintro e w7 ⟨rfl, hb7⟩; have R7 : Hid (Rt w _ w7) := R6.out.below hb7))
            go_roundg (gk - 1)
            case measure => omega
            case rel => exact ⟨i + 1, _, by go_num, by go_num, by omega, R7⟩
          · subst q1 q3 q4
            have cS' : Calls Tryd.prog 7 #[.agg #[.int .i64 2, .int .u64 hn, .int .i64 0, .int .u64 0]] wc fun e w' => e = .returned (.string ⟨#[84, 111]⟩) ∧ Below wc.heap.size wc w' := cS
            have cU' : ∀ wz, Tu wz → Calls Tryd.prog 13 #[.agg #[.int .i64 2, .int .u64 hn, .int .i64 0, .int .u64 0]] wz fun e w' => e = .returned (.string ⟨#[116, 111]⟩) ∧ Below wz.heap.size wz w' := cU
            clear cS cU hk
            have y1 : (hn == 0) = false := by simpa using q2
            go_wp2_with (first
              | (go_at_call 7; refine cS'.mono ?_; clear cS'; rintro e w6 ⟨rfl, hb6⟩; have R6 : Hid (Rt w _ w6) := HR.out.below hb6; have T6 := HT.out.2.below R6.out.bl; have d0 := R6.out.at'.c0; have d1 := R6.out.at'.c1; have d2 := R6.out.at'.c2; have d3 := R6.out.at'.c3; simp only at d0 d1 d2 d3)
              | (go_at_call 13; refine (cU' _ T6).mono ?_; clear cU'; rintro e w7 ⟨rfl, hb7⟩; have R7 : Hid (Rt w _ w7) := R6.out.below hb7))
            go_roundg (gk - 1)
            case measure => omega
            case rel => exact ⟨i + 1, _, by go_num, by go_num, by omega, R7⟩
          · subst q1 q3
            have cS' : Calls Tryd.prog 7 #[.agg #[.int .i64 2, .int .u64 hn, .int .i64 1, .int .u64 hm]] wc fun e w' => e = .returned (.string ⟨#[84, 111, 32, 43, 32, 80, 101, 110, 100, 105, 110, 103, 32, 73, 110]⟩) ∧ Below wc.heap.size wc w' := cS
            have cU' : ∀ wz, Tu wz → Calls Tryd.prog 13 #[.agg #[.int .i64 2, .int .u64 hn, .int .i64 1, .int .u64 hm]] wz fun e w' => e = .returned (.string ⟨#[116, 111]⟩) ∧ Below wz.heap.size wz w' := cU
            clear cS cU hk
            have y1 : (hn == 0) = false := by simpa using q2
            have y2 : (hm == 0) = false := by simpa using q4
            go_wp2_with (first
              | (go_at_call 7; refine cS'.mono ?_; clear cS'; rintro e w6 ⟨rfl, hb6⟩; have R6 : Hid (Rt w _ w6) := HR.out.below hb6; have T6 := HT.out.2.below R6.out.bl; have d0 := R6.out.at'.c0; have d1 := R6.out.at'.c1; have d2 := R6.out.at'.c2; have d3 := R6.out.at'.c3; simp only at d0 d1 d2 d3)
              | (go_at_call 13; refine (cU' _ T6).mono ?_; clear cU'; rintro e w7 ⟨rfl, hb7⟩; have R7 : Hid (Rt w _ w7) := R6.out.below hb7))
            go_roundg (gk - 1)
            case measure => omega
            case rel => exact ⟨i + 1, _, by go_num, by go_num, by omega, R7⟩
          · subst q1 q3
            have cS' : Calls Tryd.prog 7 #[.agg #[.int .i64 2, .int .u64 hn, .int .i64 2, .int .u64 hm]] wc fun e w' => e = .returned (.string ⟨#[66, 111, 116, 104]⟩) ∧ Below wc.heap.size wc w' := cS
            have cU' : ∀ wz, Tu wz → Calls Tryd.prog 13 #[.agg #[.int .i64 2, .int .u64 hn, .int .i64 2, .int .u64 hm]] wz fun e w' => e = .returned (.string ⟨#[98, 111, 116, 104]⟩) ∧ Below wz.heap.size wz w' := cU
            clear cS cU hk
            have y1 : (hn == 0) = false := by simpa using q2
            have y2 : (hm == 0) = false := by simpa using q4
            go_wp2_with (first
              | (go_at_call 7; refine cS'.mono ?_; clear cS'; rintro e w6 ⟨rfl, hb6⟩; have R6 : Hid (Rt w _ w6) := HR.out.below hb6; have T6 := HT.out.2.below R6.out.bl; have d0 := R6.out.at'.c0; have d1 := R6.out.at'.c1; have d2 := R6.out.at'.c2; have d3 := R6.out.at'.c3; simp only at d0 d1 d2 d3)
              | (go_at_call 13; refine (cU' _ T6).mono ?_; clear cU'; rintro e w7 ⟨rfl, hb7⟩; have R7 : Hid (Rt w _ w7) := R6.out.below hb7))
            go_roundg (gk - 1)
            case measure => omega
            case rel => exact ⟨i + 1, _, by go_num, by go_num, by omega, R7⟩
      · have h2z : ¬ ((i : Int) < 200) := by omega
        have cW := wakes_any wr (HT.out.2.below HR.out.bl)
        go_wp2_with (first
          | (go_at_call 12; refine cW.mono ?_; clear cW; rintro e w5 ⟨rfl, hb5⟩; have b5 := HR.out.bl.trans (hb5.mono HR.out.bl.size)))
        simp [bodyPost, results, Tryd.results5, go_sem]
        exact b5
    · have h1z : ¬ ((i : Int) < (n : Int)) := by omega
      have cW := wakes_any wr (HT.out.2.below HR.out.bl)
      go_wp2_with (first
        | (go_at_call 12; refine cW.mono ?_; clear cW; rintro e w5 ⟨rfl, hb5⟩; have b5 := HR.out.bl.trans (hb5.mono HR.out.bl.size)))
      simp [bodyPost, results, Tryd.results5, go_sem]
      exact b5
end Go.Proofs.YtgijofcnknehdaaDoor
