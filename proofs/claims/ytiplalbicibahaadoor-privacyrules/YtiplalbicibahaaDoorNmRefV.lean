/- The document's Valid: is a text UTF-8, byte by byte? -/
import Derived.Test.YtiplalbicibahaaDoorNmVld
namespace Go.Proofs.YtiplalbicibahaaDoor.Nm
open Go.RowKit

theorem idx (s : ByteArray) (i : Int) (j : Nat) (w : World) (e : i = (j : Int)) (h : j < s.size) : (Instr.index 9 (.string s) (.int .i64 i)).run Tryd.prog w = .ok (.int .u8 ((nums s).getD j 0)) w := by
  subst e
  rw [run_index_string w 9 s .i64 (j : Int) Tryd.underlying9, dif_pos ⟨by omega, by omega⟩]
  have h1 : j < s.data.size := h
  have e1 : (nums s).getD j 0 = ((s.data[j]).toNat : Int) := by
    simp [nums, List.getD, Array.getElem?_eq_getElem h1]
  rw [e1]
  rfl

theorem ok1 {ys : List Int} {z : Int} (hd : ys = z :: ys.drop 1) (ha : z < 128) : vld ys = vld (ys.drop 1) := by conv => lhs; rw [hd, vld_ascii ha]
theorem dropAt (l : List Int) (k j : Nat) : (l.drop k).getD j 0 = l.getD (k + j) 0 := by simp [List.getD]

set_option maxHeartbeats 40000000 in
set_option maxRecDepth 100000 in
theorem refValid_any (s : ByteArray) (w : World) (hs : s.size ≤ 1000000) :
    Calls Tryd.prog 38 #[.string s] w fun e w' => e = .returned (.bool (vld (nums s))) ∧ w' = w := by
  have hl := nums_len s
  have hbd := nums_bd s
  go_enter Tryd.func38, Tryd.ntmps38
  go_wp2
  go_loop [3] (fun i => ∃ k : Nat, k ≤ s.size ∧ i = .int .i64 k ∧ vld ((nums s).drop k) = vld (nums s)) (fun i => s.size - (intOf i).toNat)
  case atStart => exact ⟨0, by omega, rfl, rfl⟩
  case round =>
    obtain ⟨k, hk, rfl, hv⟩ := hrel
    by_cases hlt : k < s.size
    · have hq0 := idx s (k : Int) k w rfl hlt
      have hb := hbd.get k
      have hd := drop_cons (xs := nums s) (k := k) (by omega)
      have hlen : ((nums s).drop k).length = s.size - k := by rw [List.length_drop, hl]
      have hD1 : ((nums s).drop k).drop 1 = (nums s).drop (k + 1) := by rw [List.drop_drop]
      have hD2 : ((nums s).drop k).drop 2 = (nums s).drop (k + 2) := by rw [List.drop_drop]
      have hD3 : ((nums s).drop k).drop 3 = (nums s).drop (k + 3) := by rw [List.drop_drop]
      have hD4 : ((nums s).drop k).drop 4 = (nums s).drop (k + 4) := by rw [List.drop_drop]
      rw [← hD1] at hd
      have hA1 := dropAt (nums s) k 1
      have hA2 := dropAt (nums s) k 2
      have hA3 := dropAt (nums s) k 3
      obtain ⟨z, hz⟩ : ∃ z, z = (nums s).getD k 0 := ⟨_, rfl⟩
      rw [← hz] at hq0 hb hd
      clear hz
      obtain ⟨hb0, hb1⟩ := hb
      have HV : Hid (vld ((nums s).drop k) = vld (nums s)) := hv
      have HD : Hid ((nums s).drop k = z :: ((nums s).drop k).drop 1) := hd
      have HL : Hid (((nums s).drop k).length = s.size - k) := hlen
      have H1 : Hid (((nums s).drop k).drop 1 = (nums s).drop (k + 1)) := hD1
      have H2 : Hid (((nums s).drop k).drop 2 = (nums s).drop (k + 2)) := hD2
      have H3 : Hid (((nums s).drop k).drop 3 = (nums s).drop (k + 3)) := hD3
      have H4 : Hid (((nums s).drop k).drop 4 = (nums s).drop (k + 4)) := hD4
      have A1 : Hid (((nums s).drop k).getD 1 0 = (nums s).getD (k + 1) 0) := hA1
      have A2 : Hid (((nums s).drop k).getD 2 0 = (nums s).getD (k + 2) 0) := hA2
      have A3 : Hid (((nums s).drop k).getD 3 0 = (nums s).getD (k + 3) 0) := hA3
      clear hv hd hlen hD1 hD2 hD3 hD4 hA1 hA2 hA3
      by_cases r1 : z < 128
      · skip
        as_aux_lemma =>
          go_wp2
          refine wp_loop_rounds 1 ?_
          rw [rounds_succ]
          go_wp2
          go_round
          case rel => exact ⟨k + 1, by omega, by go_num, by rw [← HV.out, ← H1.out]; exact (ok1 HD.out r1).symm⟩
          case measure => simp [intOf]; omega
      · by_cases r2 : z < 194
        · have hu : usz z = 1 := by unfold usz; rw [if_neg (by omega), if_neg (by omega), if_neg (by omega)]
          have ca : ¬ z < 128 := by omega
          have cb : ¬ 194 ≤ z := by omega
          have cc : z ≤ 223 := by omega
          have cd : ¬ 224 ≤ z := by omega
          have ce : z ≤ 239 := by omega
          have cf : ¬ 240 ≤ z := by omega
          have cg : z ≤ 244 := by omega
          go_wp2
          go_ret
          exact ⟨ret_bool (by rw [← HV.out]; exact (bad1 HD.out (by omega) hu).symm), rfl⟩
        · by_cases r3 : z ≤ 223
          · have hu : usz z = 2 := by unfold usz; rw [if_pos (by omega)]
            have hlo : ulo z = 128 := by unfold ulo; rw [if_neg (by omega), if_neg (by omega)]
            have hhi : uhi z = 191 := by unfold uhi; rw [if_neg (by omega), if_neg (by omega)]
            have ca : ¬ z < 128 := by omega
            have cb : 194 ≤ z := by omega
            have cc : z ≤ 223 := by omega
            have cd : ¬ 224 ≤ z := by omega
            have ce : z ≤ 239 := by omega
            have cf : ¬ 240 ≤ z := by omega
            have cg : z ≤ 244 := by omega
            as_aux_lemma =>
              go_wp2
              refine wp_loop_rounds 2 ?_
              by_cases n1 : k + 1 < s.size
              · have hq1 := idx s ((k : Int) + 1) (k + 1) w (by omega) n1
                have m1 : ¬ ((s.size : Int) ≤ (k : Int) + 1) := by omega
                obtain ⟨z1, hz1⟩ : ∃ z, z = (nums s).getD (k + 1) 0 := ⟨_, rfl⟩
                rw [← hz1] at hq1
                have HZ1 : Hid (z1 = (nums s).getD (k + 1) 0) := hz1
                have A1' := A1.out
                rw [← hz1] at A1'
                replace A1 : Hid (((nums s).drop k).getD 1 0 = z1) := A1'
                clear A1' hz1
                by_cases o1 : z1 < 128
                · rw [rounds_succ]
                  go_wp2
                  go_ret
                  exact ⟨ret_bool (by rw [← HV.out]; exact (bad2 HD.out (by omega) hu (by rw [HL.out, A1.out, hlo, hhi]; omega)).symm), rfl⟩
                · by_cases p1 : 191 < z1
                  · rw [rounds_succ]
                    go_wp2
                    go_ret
                    exact ⟨ret_bool (by rw [← HV.out]; exact (bad2 HD.out (by omega) hu (by rw [HL.out, A1.out, hlo, hhi]; omega)).symm), rfl⟩
                  · rw [rounds_succ]
                    go_wp2
                    rw [rounds_succ]
                    go_wp2
                    go_round
                    case rel => exact ⟨k + 2, by omega, by go_num, by rw [← HV.out, ← H2.out]; exact (ok2 HD.out (by omega) hu (by rw [HL.out]; omega) (by rw [A1.out]; rw [hlo]; omega) (by rw [A1.out]; rw [hhi]; omega)).symm⟩
                    case measure => simp [intOf]; omega
              · have m1 : (s.size : Int) ≤ (k : Int) + 1 := by omega
                rw [rounds_succ]
                go_wp2
                go_ret
                exact ⟨ret_bool (by rw [← HV.out]; exact (bad2 HD.out (by omega) hu (by rw [HL.out, A1.out, hlo, hhi]; omega)).symm), rfl⟩
          · by_cases r4 : z ≤ 239
            · have hu : usz z = 3 := by unfold usz; rw [if_neg (by omega), if_pos (by omega)]
              by_cases g1 : z = 224
              · subst g1
                have hlo : ulo 224 = 160 := by decide
                have hhi : uhi 224 = 191 := by decide
                as_aux_lemma =>
                  go_wp2
                  refine wp_loop_rounds 3 ?_
                  by_cases n1 : k + 1 < s.size
                  · have hq1 := idx s ((k : Int) + 1) (k + 1) w (by omega) n1
                    have m1 : ¬ ((s.size : Int) ≤ (k : Int) + 1) := by omega
                    obtain ⟨z1, hz1⟩ : ∃ z, z = (nums s).getD (k + 1) 0 := ⟨_, rfl⟩
                    rw [← hz1] at hq1
                    have HZ1 : Hid (z1 = (nums s).getD (k + 1) 0) := hz1
                    have A1' := A1.out
                    rw [← hz1] at A1'
                    replace A1 : Hid (((nums s).drop k).getD 1 0 = z1) := A1'
                    clear A1' hz1
                    by_cases o1 : z1 < 160
                    · rw [rounds_succ]
                      go_wp2
                      go_ret
                      exact ⟨ret_bool (by rw [← HV.out]; exact (bad3 HD.out (by omega) hu (by rw [HL.out, A1.out, hlo, hhi, A2.out]; omega)).symm), rfl⟩
                    · by_cases p1 : 191 < z1
                      · rw [rounds_succ]
                        go_wp2
                        go_ret
                        exact ⟨ret_bool (by rw [← HV.out]; exact (bad3 HD.out (by omega) hu (by rw [HL.out, A1.out, hlo, hhi, A2.out]; omega)).symm), rfl⟩
                      · rw [rounds_succ]
                        go_wp2
                        by_cases n2 : k + 2 < s.size
                        · have hq2 := idx s ((k : Int) + 2) (k + 2) w (by omega) n2
                          have m2 : ¬ ((s.size : Int) ≤ (k : Int) + 2) := by omega
                          obtain ⟨z2, hz2⟩ : ∃ z, z = (nums s).getD (k + 2) 0 := ⟨_, rfl⟩
                          rw [← hz2] at hq2
                          have HZ2 : Hid (z2 = (nums s).getD (k + 2) 0) := hz2
                          have A2' := A2.out
                          rw [← hz2] at A2'
                          replace A2 : Hid (((nums s).drop k).getD 2 0 = z2) := A2'
                          clear A2' hz2
                          by_cases o2 : z2 < 128
                          · rw [rounds_succ]
                            go_wp2
                            go_ret
                            exact ⟨ret_bool (by rw [← HV.out]; exact (bad3 HD.out (by omega) hu (by rw [HL.out, A1.out, hlo, hhi, A2.out]; omega)).symm), rfl⟩
                          · by_cases p2 : 191 < z2
                            · rw [rounds_succ]
                              go_wp2
                              go_ret
                              exact ⟨ret_bool (by rw [← HV.out]; exact (bad3 HD.out (by omega) hu (by rw [HL.out, A1.out, hlo, hhi, A2.out]; omega)).symm), rfl⟩
                            · rw [rounds_succ]
                              go_wp2
                              rw [rounds_succ]
                              go_wp2
                              go_round
                              case rel => exact ⟨k + 3, by omega, by go_num, by rw [← HV.out, ← H3.out]; exact (ok3 HD.out (by omega) hu (by rw [HL.out]; omega) (by rw [A1.out]; rw [hlo]; omega) (by rw [A1.out]; rw [hhi]; omega) (by rw [A2.out]; omega) (by rw [A2.out]; omega)).symm⟩
                              case measure => simp [intOf]; omega
                        · have m2 : (s.size : Int) ≤ (k : Int) + 2 := by omega
                          rw [rounds_succ]
                          go_wp2
                          go_ret
                          exact ⟨ret_bool (by rw [← HV.out]; exact (bad3 HD.out (by omega) hu (by rw [HL.out, A1.out, hlo, hhi, A2.out]; omega)).symm), rfl⟩
                  · have m1 : (s.size : Int) ≤ (k : Int) + 1 := by omega
                    rw [rounds_succ]
                    go_wp2
                    go_ret
                    exact ⟨ret_bool (by rw [← HV.out]; exact (bad3 HD.out (by omega) hu (by rw [HL.out, A1.out, hlo, hhi, A2.out]; omega)).symm), rfl⟩
              · by_cases g2 : z = 237
                · subst g2
                  have hlo : ulo 237 = 128 := by decide
                  have hhi : uhi 237 = 159 := by decide
                  as_aux_lemma =>
                    go_wp2
                    refine wp_loop_rounds 3 ?_
                    by_cases n1 : k + 1 < s.size
                    · have hq1 := idx s ((k : Int) + 1) (k + 1) w (by omega) n1
                      have m1 : ¬ ((s.size : Int) ≤ (k : Int) + 1) := by omega
                      obtain ⟨z1, hz1⟩ : ∃ z, z = (nums s).getD (k + 1) 0 := ⟨_, rfl⟩
                      rw [← hz1] at hq1
                      have HZ1 : Hid (z1 = (nums s).getD (k + 1) 0) := hz1
                      have A1' := A1.out
                      rw [← hz1] at A1'
                      replace A1 : Hid (((nums s).drop k).getD 1 0 = z1) := A1'
                      clear A1' hz1
                      by_cases o1 : z1 < 128
                      · rw [rounds_succ]
                        go_wp2
                        go_ret
                        exact ⟨ret_bool (by rw [← HV.out]; exact (bad3 HD.out (by omega) hu (by rw [HL.out, A1.out, hlo, hhi, A2.out]; omega)).symm), rfl⟩
                      · by_cases p1 : 159 < z1
                        · rw [rounds_succ]
                          go_wp2
                          go_ret
                          exact ⟨ret_bool (by rw [← HV.out]; exact (bad3 HD.out (by omega) hu (by rw [HL.out, A1.out, hlo, hhi, A2.out]; omega)).symm), rfl⟩
                        · rw [rounds_succ]
                          go_wp2
                          by_cases n2 : k + 2 < s.size
                          · have hq2 := idx s ((k : Int) + 2) (k + 2) w (by omega) n2
                            have m2 : ¬ ((s.size : Int) ≤ (k : Int) + 2) := by omega
                            obtain ⟨z2, hz2⟩ : ∃ z, z = (nums s).getD (k + 2) 0 := ⟨_, rfl⟩
                            rw [← hz2] at hq2
                            have HZ2 : Hid (z2 = (nums s).getD (k + 2) 0) := hz2
                            have A2' := A2.out
                            rw [← hz2] at A2'
                            replace A2 : Hid (((nums s).drop k).getD 2 0 = z2) := A2'
                            clear A2' hz2
                            by_cases o2 : z2 < 128
                            · rw [rounds_succ]
                              go_wp2
                              go_ret
                              exact ⟨ret_bool (by rw [← HV.out]; exact (bad3 HD.out (by omega) hu (by rw [HL.out, A1.out, hlo, hhi, A2.out]; omega)).symm), rfl⟩
                            · by_cases p2 : 191 < z2
                              · rw [rounds_succ]
                                go_wp2
                                go_ret
                                exact ⟨ret_bool (by rw [← HV.out]; exact (bad3 HD.out (by omega) hu (by rw [HL.out, A1.out, hlo, hhi, A2.out]; omega)).symm), rfl⟩
                              · rw [rounds_succ]
                                go_wp2
                                rw [rounds_succ]
                                go_wp2
                                go_round
                                case rel => exact ⟨k + 3, by omega, by go_num, by rw [← HV.out, ← H3.out]; exact (ok3 HD.out (by omega) hu (by rw [HL.out]; omega) (by rw [A1.out]; rw [hlo]; omega) (by rw [A1.out]; rw [hhi]; omega) (by rw [A2.out]; omega) (by rw [A2.out]; omega)).symm⟩
                                case measure => simp [intOf]; omega
                          · have m2 : (s.size : Int) ≤ (k : Int) + 2 := by omega
                            rw [rounds_succ]
                            go_wp2
                            go_ret
                            exact ⟨ret_bool (by rw [← HV.out]; exact (bad3 HD.out (by omega) hu (by rw [HL.out, A1.out, hlo, hhi, A2.out]; omega)).symm), rfl⟩
                    · have m1 : (s.size : Int) ≤ (k : Int) + 1 := by omega
                      rw [rounds_succ]
                      go_wp2
                      go_ret
                      exact ⟨ret_bool (by rw [← HV.out]; exact (bad3 HD.out (by omega) hu (by rw [HL.out, A1.out, hlo, hhi, A2.out]; omega)).symm), rfl⟩
                · have hlo : ulo z = 128 := by unfold ulo; rw [if_neg (by omega), if_neg (by omega)]
                  have hhi : uhi z = 191 := by unfold uhi; rw [if_neg (by omega), if_neg (by omega)]
                  have ca : ¬ z < 128 := by omega
                  have cb : 194 ≤ z := by omega
                  have cc : ¬ z ≤ 223 := by omega
                  have cd : 224 ≤ z := by omega
                  have ce : z ≤ 239 := by omega
                  have cf : ¬ 240 ≤ z := by omega
                  have cg : z ≤ 244 := by omega
                  have g1' : (z == 224) = false := by simpa using g1
                  have g2' : (z == 237) = false := by simpa using g2
                  as_aux_lemma =>
                    go_wp2
                    refine wp_loop_rounds 3 ?_
                    by_cases n1 : k + 1 < s.size
                    · have hq1 := idx s ((k : Int) + 1) (k + 1) w (by omega) n1
                      have m1 : ¬ ((s.size : Int) ≤ (k : Int) + 1) := by omega
                      obtain ⟨z1, hz1⟩ : ∃ z, z = (nums s).getD (k + 1) 0 := ⟨_, rfl⟩
                      rw [← hz1] at hq1
                      have HZ1 : Hid (z1 = (nums s).getD (k + 1) 0) := hz1
                      have A1' := A1.out
                      rw [← hz1] at A1'
                      replace A1 : Hid (((nums s).drop k).getD 1 0 = z1) := A1'
                      clear A1' hz1
                      by_cases o1 : z1 < 128
                      · rw [rounds_succ]
                        go_wp2
                        go_ret
                        exact ⟨ret_bool (by rw [← HV.out]; exact (bad3 HD.out (by omega) hu (by rw [HL.out, A1.out, hlo, hhi, A2.out]; omega)).symm), rfl⟩
                      · by_cases p1 : 191 < z1
                        · rw [rounds_succ]
                          go_wp2
                          go_ret
                          exact ⟨ret_bool (by rw [← HV.out]; exact (bad3 HD.out (by omega) hu (by rw [HL.out, A1.out, hlo, hhi, A2.out]; omega)).symm), rfl⟩
                        · rw [rounds_succ]
                          go_wp2
                          by_cases n2 : k + 2 < s.size
                          · have hq2 := idx s ((k : Int) + 2) (k + 2) w (by omega) n2
                            have m2 : ¬ ((s.size : Int) ≤ (k : Int) + 2) := by omega
                            obtain ⟨z2, hz2⟩ : ∃ z, z = (nums s).getD (k + 2) 0 := ⟨_, rfl⟩
                            rw [← hz2] at hq2
                            have HZ2 : Hid (z2 = (nums s).getD (k + 2) 0) := hz2
                            have A2' := A2.out
                            rw [← hz2] at A2'
                            replace A2 : Hid (((nums s).drop k).getD 2 0 = z2) := A2'
                            clear A2' hz2
                            by_cases o2 : z2 < 128
                            · rw [rounds_succ]
                              go_wp2
                              go_ret
                              exact ⟨ret_bool (by rw [← HV.out]; exact (bad3 HD.out (by omega) hu (by rw [HL.out, A1.out, hlo, hhi, A2.out]; omega)).symm), rfl⟩
                            · by_cases p2 : 191 < z2
                              · rw [rounds_succ]
                                go_wp2
                                go_ret
                                exact ⟨ret_bool (by rw [← HV.out]; exact (bad3 HD.out (by omega) hu (by rw [HL.out, A1.out, hlo, hhi, A2.out]; omega)).symm), rfl⟩
                              · rw [rounds_succ]
                                go_wp2
                                rw [rounds_succ]
                                go_wp2
                                go_round
                                case rel => exact ⟨k + 3, by omega, by go_num, by rw [← HV.out, ← H3.out]; exact (ok3 HD.out (by omega) hu (by rw [HL.out]; omega) (by rw [A1.out]; rw [hlo]; omega) (by rw [A1.out]; rw [hhi]; omega) (by rw [A2.out]; omega) (by rw [A2.out]; omega)).symm⟩
                                case measure => simp [intOf]; omega
                          · have m2 : (s.size : Int) ≤ (k : Int) + 2 := by omega
                            rw [rounds_succ]
                            go_wp2
                            go_ret
                            exact ⟨ret_bool (by rw [← HV.out]; exact (bad3 HD.out (by omega) hu (by rw [HL.out, A1.out, hlo, hhi, A2.out]; omega)).symm), rfl⟩
                    · have m1 : (s.size : Int) ≤ (k : Int) + 1 := by omega
                      rw [rounds_succ]
                      go_wp2
                      go_ret
                      exact ⟨ret_bool (by rw [← HV.out]; exact (bad3 HD.out (by omega) hu (by rw [HL.out, A1.out, hlo, hhi, A2.out]; omega)).symm), rfl⟩
            · by_cases r5 : z ≤ 244
              · have hu : usz z = 4 := by unfold usz; rw [if_neg (by omega), if_neg (by omega), if_pos (by omega)]
                by_cases g1 : z = 240
                · subst g1
                  have hlo : ulo 240 = 144 := by decide
                  have hhi : uhi 240 = 191 := by decide
                  as_aux_lemma =>
                    go_wp2
                    refine wp_loop_rounds 4 ?_
                    by_cases n1 : k + 1 < s.size
                    · have hq1 := idx s ((k : Int) + 1) (k + 1) w (by omega) n1
                      have m1 : ¬ ((s.size : Int) ≤ (k : Int) + 1) := by omega
                      obtain ⟨z1, hz1⟩ : ∃ z, z = (nums s).getD (k + 1) 0 := ⟨_, rfl⟩
                      rw [← hz1] at hq1
                      have HZ1 : Hid (z1 = (nums s).getD (k + 1) 0) := hz1
                      have A1' := A1.out
                      rw [← hz1] at A1'
                      replace A1 : Hid (((nums s).drop k).getD 1 0 = z1) := A1'
                      clear A1' hz1
                      by_cases o1 : z1 < 144
                      · rw [rounds_succ]
                        go_wp2
                        go_ret
                        exact ⟨ret_bool (by rw [← HV.out]; exact (bad4 HD.out (by omega) hu (by rw [HL.out, A1.out, hlo, hhi, A2.out, A3.out]; omega)).symm), rfl⟩
                      · by_cases p1 : 191 < z1
                        · rw [rounds_succ]
                          go_wp2
                          go_ret
                          exact ⟨ret_bool (by rw [← HV.out]; exact (bad4 HD.out (by omega) hu (by rw [HL.out, A1.out, hlo, hhi, A2.out, A3.out]; omega)).symm), rfl⟩
                        · rw [rounds_succ]
                          go_wp2
                          by_cases n2 : k + 2 < s.size
                          · have hq2 := idx s ((k : Int) + 2) (k + 2) w (by omega) n2
                            have m2 : ¬ ((s.size : Int) ≤ (k : Int) + 2) := by omega
                            obtain ⟨z2, hz2⟩ : ∃ z, z = (nums s).getD (k + 2) 0 := ⟨_, rfl⟩
                            rw [← hz2] at hq2
                            have HZ2 : Hid (z2 = (nums s).getD (k + 2) 0) := hz2
                            have A2' := A2.out
                            rw [← hz2] at A2'
                            replace A2 : Hid (((nums s).drop k).getD 2 0 = z2) := A2'
                            clear A2' hz2
                            by_cases o2 : z2 < 128
                            · rw [rounds_succ]
                              go_wp2
                              go_ret
                              exact ⟨ret_bool (by rw [← HV.out]; exact (bad4 HD.out (by omega) hu (by rw [HL.out, A1.out, hlo, hhi, A2.out, A3.out]; omega)).symm), rfl⟩
                            · by_cases p2 : 191 < z2
                              · rw [rounds_succ]
                                go_wp2
                                go_ret
                                exact ⟨ret_bool (by rw [← HV.out]; exact (bad4 HD.out (by omega) hu (by rw [HL.out, A1.out, hlo, hhi, A2.out, A3.out]; omega)).symm), rfl⟩
                              · rw [rounds_succ]
                                go_wp2
                                by_cases n3 : k + 3 < s.size
                                · have hq3 := idx s ((k : Int) + 3) (k + 3) w (by omega) n3
                                  have m3 : ¬ ((s.size : Int) ≤ (k : Int) + 3) := by omega
                                  obtain ⟨z3, hz3⟩ : ∃ z, z = (nums s).getD (k + 3) 0 := ⟨_, rfl⟩
                                  rw [← hz3] at hq3
                                  have HZ3 : Hid (z3 = (nums s).getD (k + 3) 0) := hz3
                                  have A3' := A3.out
                                  rw [← hz3] at A3'
                                  replace A3 : Hid (((nums s).drop k).getD 3 0 = z3) := A3'
                                  clear A3' hz3
                                  by_cases o3 : z3 < 128
                                  · rw [rounds_succ]
                                    go_wp2
                                    go_ret
                                    exact ⟨ret_bool (by rw [← HV.out]; exact (bad4 HD.out (by omega) hu (by rw [HL.out, A1.out, hlo, hhi, A2.out, A3.out]; omega)).symm), rfl⟩
                                  · by_cases p3 : 191 < z3
                                    · rw [rounds_succ]
                                      go_wp2
                                      go_ret
                                      exact ⟨ret_bool (by rw [← HV.out]; exact (bad4 HD.out (by omega) hu (by rw [HL.out, A1.out, hlo, hhi, A2.out, A3.out]; omega)).symm), rfl⟩
                                    · rw [rounds_succ]
                                      go_wp2
                                      rw [rounds_succ]
                                      go_wp2
                                      go_round
                                      case rel => exact ⟨k + 4, by omega, by go_num, by rw [← HV.out, ← H4.out]; exact (ok4 HD.out (by omega) hu (by rw [HL.out]; omega) (by rw [A1.out]; rw [hlo]; omega) (by rw [A1.out]; rw [hhi]; omega) (by rw [A2.out]; omega) (by rw [A2.out]; omega) (by rw [A3.out]; omega) (by rw [A3.out]; omega)).symm⟩
                                      case measure => simp [intOf]; omega
                                · have m3 : (s.size : Int) ≤ (k : Int) + 3 := by omega
                                  rw [rounds_succ]
                                  go_wp2
                                  go_ret
                                  exact ⟨ret_bool (by rw [← HV.out]; exact (bad4 HD.out (by omega) hu (by rw [HL.out, A1.out, hlo, hhi, A2.out, A3.out]; omega)).symm), rfl⟩
                          · have m2 : (s.size : Int) ≤ (k : Int) + 2 := by omega
                            rw [rounds_succ]
                            go_wp2
                            go_ret
                            exact ⟨ret_bool (by rw [← HV.out]; exact (bad4 HD.out (by omega) hu (by rw [HL.out, A1.out, hlo, hhi, A2.out, A3.out]; omega)).symm), rfl⟩
                    · have m1 : (s.size : Int) ≤ (k : Int) + 1 := by omega
                      rw [rounds_succ]
                      go_wp2
                      go_ret
                      exact ⟨ret_bool (by rw [← HV.out]; exact (bad4 HD.out (by omega) hu (by rw [HL.out, A1.out, hlo, hhi, A2.out, A3.out]; omega)).symm), rfl⟩
                · by_cases g2 : z = 244
                  · subst g2
                    have hlo : ulo 244 = 128 := by decide
                    have hhi : uhi 244 = 143 := by decide
                    as_aux_lemma =>
                      go_wp2
                      refine wp_loop_rounds 4 ?_
                      by_cases n1 : k + 1 < s.size
                      · have hq1 := idx s ((k : Int) + 1) (k + 1) w (by omega) n1
                        have m1 : ¬ ((s.size : Int) ≤ (k : Int) + 1) := by omega
                        obtain ⟨z1, hz1⟩ : ∃ z, z = (nums s).getD (k + 1) 0 := ⟨_, rfl⟩
                        rw [← hz1] at hq1
                        have HZ1 : Hid (z1 = (nums s).getD (k + 1) 0) := hz1
                        have A1' := A1.out
                        rw [← hz1] at A1'
                        replace A1 : Hid (((nums s).drop k).getD 1 0 = z1) := A1'
                        clear A1' hz1
                        by_cases o1 : z1 < 128
                        · rw [rounds_succ]
                          go_wp2
                          go_ret
                          exact ⟨ret_bool (by rw [← HV.out]; exact (bad4 HD.out (by omega) hu (by rw [HL.out, A1.out, hlo, hhi, A2.out, A3.out]; omega)).symm), rfl⟩
                        · by_cases p1 : 143 < z1
                          · rw [rounds_succ]
                            go_wp2
                            go_ret
                            exact ⟨ret_bool (by rw [← HV.out]; exact (bad4 HD.out (by omega) hu (by rw [HL.out, A1.out, hlo, hhi, A2.out, A3.out]; omega)).symm), rfl⟩
                          · rw [rounds_succ]
                            go_wp2
                            by_cases n2 : k + 2 < s.size
                            · have hq2 := idx s ((k : Int) + 2) (k + 2) w (by omega) n2
                              have m2 : ¬ ((s.size : Int) ≤ (k : Int) + 2) := by omega
                              obtain ⟨z2, hz2⟩ : ∃ z, z = (nums s).getD (k + 2) 0 := ⟨_, rfl⟩
                              rw [← hz2] at hq2
                              have HZ2 : Hid (z2 = (nums s).getD (k + 2) 0) := hz2
                              have A2' := A2.out
                              rw [← hz2] at A2'
                              replace A2 : Hid (((nums s).drop k).getD 2 0 = z2) := A2'
                              clear A2' hz2
                              by_cases o2 : z2 < 128
                              · rw [rounds_succ]
                                go_wp2
                                go_ret
                                exact ⟨ret_bool (by rw [← HV.out]; exact (bad4 HD.out (by omega) hu (by rw [HL.out, A1.out, hlo, hhi, A2.out, A3.out]; omega)).symm), rfl⟩
                              · by_cases p2 : 191 < z2
                                · rw [rounds_succ]
                                  go_wp2
                                  go_ret
                                  exact ⟨ret_bool (by rw [← HV.out]; exact (bad4 HD.out (by omega) hu (by rw [HL.out, A1.out, hlo, hhi, A2.out, A3.out]; omega)).symm), rfl⟩
                                · rw [rounds_succ]
                                  go_wp2
                                  by_cases n3 : k + 3 < s.size
                                  · have hq3 := idx s ((k : Int) + 3) (k + 3) w (by omega) n3
                                    have m3 : ¬ ((s.size : Int) ≤ (k : Int) + 3) := by omega
                                    obtain ⟨z3, hz3⟩ : ∃ z, z = (nums s).getD (k + 3) 0 := ⟨_, rfl⟩
                                    rw [← hz3] at hq3
                                    have HZ3 : Hid (z3 = (nums s).getD (k + 3) 0) := hz3
                                    have A3' := A3.out
                                    rw [← hz3] at A3'
                                    replace A3 : Hid (((nums s).drop k).getD 3 0 = z3) := A3'
                                    clear A3' hz3
                                    by_cases o3 : z3 < 128
                                    · rw [rounds_succ]
                                      go_wp2
                                      go_ret
                                      exact ⟨ret_bool (by rw [← HV.out]; exact (bad4 HD.out (by omega) hu (by rw [HL.out, A1.out, hlo, hhi, A2.out, A3.out]; omega)).symm), rfl⟩
                                    · by_cases p3 : 191 < z3
                                      · rw [rounds_succ]
                                        go_wp2
                                        go_ret
                                        exact ⟨ret_bool (by rw [← HV.out]; exact (bad4 HD.out (by omega) hu (by rw [HL.out, A1.out, hlo, hhi, A2.out, A3.out]; omega)).symm), rfl⟩
                                      · rw [rounds_succ]
                                        go_wp2
                                        rw [rounds_succ]
                                        go_wp2
                                        go_round
                                        case rel => exact ⟨k + 4, by omega, by go_num, by rw [← HV.out, ← H4.out]; exact (ok4 HD.out (by omega) hu (by rw [HL.out]; omega) (by rw [A1.out]; rw [hlo]; omega) (by rw [A1.out]; rw [hhi]; omega) (by rw [A2.out]; omega) (by rw [A2.out]; omega) (by rw [A3.out]; omega) (by rw [A3.out]; omega)).symm⟩
                                        case measure => simp [intOf]; omega
                                  · have m3 : (s.size : Int) ≤ (k : Int) + 3 := by omega
                                    rw [rounds_succ]
                                    go_wp2
                                    go_ret
                                    exact ⟨ret_bool (by rw [← HV.out]; exact (bad4 HD.out (by omega) hu (by rw [HL.out, A1.out, hlo, hhi, A2.out, A3.out]; omega)).symm), rfl⟩
                            · have m2 : (s.size : Int) ≤ (k : Int) + 2 := by omega
                              rw [rounds_succ]
                              go_wp2
                              go_ret
                              exact ⟨ret_bool (by rw [← HV.out]; exact (bad4 HD.out (by omega) hu (by rw [HL.out, A1.out, hlo, hhi, A2.out, A3.out]; omega)).symm), rfl⟩
                      · have m1 : (s.size : Int) ≤ (k : Int) + 1 := by omega
                        rw [rounds_succ]
                        go_wp2
                        go_ret
                        exact ⟨ret_bool (by rw [← HV.out]; exact (bad4 HD.out (by omega) hu (by rw [HL.out, A1.out, hlo, hhi, A2.out, A3.out]; omega)).symm), rfl⟩
                  · have hlo : ulo z = 128 := by unfold ulo; rw [if_neg (by omega), if_neg (by omega)]
                    have hhi : uhi z = 191 := by unfold uhi; rw [if_neg (by omega), if_neg (by omega)]
                    have ca : ¬ z < 128 := by omega
                    have cb : 194 ≤ z := by omega
                    have cc : ¬ z ≤ 223 := by omega
                    have cd : 224 ≤ z := by omega
                    have ce : ¬ z ≤ 239 := by omega
                    have cf : 240 ≤ z := by omega
                    have cg : z ≤ 244 := by omega
                    have g1' : (z == 240) = false := by simpa using g1
                    have g2' : (z == 244) = false := by simpa using g2
                    as_aux_lemma =>
                      go_wp2
                      refine wp_loop_rounds 4 ?_
                      by_cases n1 : k + 1 < s.size
                      · have hq1 := idx s ((k : Int) + 1) (k + 1) w (by omega) n1
                        have m1 : ¬ ((s.size : Int) ≤ (k : Int) + 1) := by omega
                        obtain ⟨z1, hz1⟩ : ∃ z, z = (nums s).getD (k + 1) 0 := ⟨_, rfl⟩
                        rw [← hz1] at hq1
                        have HZ1 : Hid (z1 = (nums s).getD (k + 1) 0) := hz1
                        have A1' := A1.out
                        rw [← hz1] at A1'
                        replace A1 : Hid (((nums s).drop k).getD 1 0 = z1) := A1'
                        clear A1' hz1
                        by_cases o1 : z1 < 128
                        · rw [rounds_succ]
                          go_wp2
                          go_ret
                          exact ⟨ret_bool (by rw [← HV.out]; exact (bad4 HD.out (by omega) hu (by rw [HL.out, A1.out, hlo, hhi, A2.out, A3.out]; omega)).symm), rfl⟩
                        · by_cases p1 : 191 < z1
                          · rw [rounds_succ]
                            go_wp2
                            go_ret
                            exact ⟨ret_bool (by rw [← HV.out]; exact (bad4 HD.out (by omega) hu (by rw [HL.out, A1.out, hlo, hhi, A2.out, A3.out]; omega)).symm), rfl⟩
                          · rw [rounds_succ]
                            go_wp2
                            by_cases n2 : k + 2 < s.size
                            · have hq2 := idx s ((k : Int) + 2) (k + 2) w (by omega) n2
                              have m2 : ¬ ((s.size : Int) ≤ (k : Int) + 2) := by omega
                              obtain ⟨z2, hz2⟩ : ∃ z, z = (nums s).getD (k + 2) 0 := ⟨_, rfl⟩
                              rw [← hz2] at hq2
                              have HZ2 : Hid (z2 = (nums s).getD (k + 2) 0) := hz2
                              have A2' := A2.out
                              rw [← hz2] at A2'
                              replace A2 : Hid (((nums s).drop k).getD 2 0 = z2) := A2'
                              clear A2' hz2
                              by_cases o2 : z2 < 128
                              · rw [rounds_succ]
                                go_wp2
                                go_ret
                                exact ⟨ret_bool (by rw [← HV.out]; exact (bad4 HD.out (by omega) hu (by rw [HL.out, A1.out, hlo, hhi, A2.out, A3.out]; omega)).symm), rfl⟩
                              · by_cases p2 : 191 < z2
                                · rw [rounds_succ]
                                  go_wp2
                                  go_ret
                                  exact ⟨ret_bool (by rw [← HV.out]; exact (bad4 HD.out (by omega) hu (by rw [HL.out, A1.out, hlo, hhi, A2.out, A3.out]; omega)).symm), rfl⟩
                                · rw [rounds_succ]
                                  go_wp2
                                  by_cases n3 : k + 3 < s.size
                                  · have hq3 := idx s ((k : Int) + 3) (k + 3) w (by omega) n3
                                    have m3 : ¬ ((s.size : Int) ≤ (k : Int) + 3) := by omega
                                    obtain ⟨z3, hz3⟩ : ∃ z, z = (nums s).getD (k + 3) 0 := ⟨_, rfl⟩
                                    rw [← hz3] at hq3
                                    have HZ3 : Hid (z3 = (nums s).getD (k + 3) 0) := hz3
                                    have A3' := A3.out
                                    rw [← hz3] at A3'
                                    replace A3 : Hid (((nums s).drop k).getD 3 0 = z3) := A3'
                                    clear A3' hz3
                                    by_cases o3 : z3 < 128
                                    · rw [rounds_succ]
                                      go_wp2
                                      go_ret
                                      exact ⟨ret_bool (by rw [← HV.out]; exact (bad4 HD.out (by omega) hu (by rw [HL.out, A1.out, hlo, hhi, A2.out, A3.out]; omega)).symm), rfl⟩
                                    · by_cases p3 : 191 < z3
                                      · rw [rounds_succ]
                                        go_wp2
                                        go_ret
                                        exact ⟨ret_bool (by rw [← HV.out]; exact (bad4 HD.out (by omega) hu (by rw [HL.out, A1.out, hlo, hhi, A2.out, A3.out]; omega)).symm), rfl⟩
                                      · rw [rounds_succ]
                                        go_wp2
                                        rw [rounds_succ]
                                        go_wp2
                                        go_round
                                        case rel => exact ⟨k + 4, by omega, by go_num, by rw [← HV.out, ← H4.out]; exact (ok4 HD.out (by omega) hu (by rw [HL.out]; omega) (by rw [A1.out]; rw [hlo]; omega) (by rw [A1.out]; rw [hhi]; omega) (by rw [A2.out]; omega) (by rw [A2.out]; omega) (by rw [A3.out]; omega) (by rw [A3.out]; omega)).symm⟩
                                        case measure => simp [intOf]; omega
                                  · have m3 : (s.size : Int) ≤ (k : Int) + 3 := by omega
                                    rw [rounds_succ]
                                    go_wp2
                                    go_ret
                                    exact ⟨ret_bool (by rw [← HV.out]; exact (bad4 HD.out (by omega) hu (by rw [HL.out, A1.out, hlo, hhi, A2.out, A3.out]; omega)).symm), rfl⟩
                            · have m2 : (s.size : Int) ≤ (k : Int) + 2 := by omega
                              rw [rounds_succ]
                              go_wp2
                              go_ret
                              exact ⟨ret_bool (by rw [← HV.out]; exact (bad4 HD.out (by omega) hu (by rw [HL.out, A1.out, hlo, hhi, A2.out, A3.out]; omega)).symm), rfl⟩
                      · have m1 : (s.size : Int) ≤ (k : Int) + 1 := by omega
                        rw [rounds_succ]
                        go_wp2
                        go_ret
                        exact ⟨ret_bool (by rw [← HV.out]; exact (bad4 HD.out (by omega) hu (by rw [HL.out, A1.out, hlo, hhi, A2.out, A3.out]; omega)).symm), rfl⟩
              · have hu : usz z = 1 := by unfold usz; rw [if_neg (by omega), if_neg (by omega), if_neg (by omega)]
                have ca : ¬ z < 128 := by omega
                have cb : 194 ≤ z := by omega
                have cc : ¬ z ≤ 223 := by omega
                have cd : 224 ≤ z := by omega
                have ce : ¬ z ≤ 239 := by omega
                have cf : 240 ≤ z := by omega
                have cg : ¬ z ≤ 244 := by omega
                go_wp2
                go_ret
                exact ⟨ret_bool (by rw [← HV.out]; exact (bad1 HD.out (by omega) hu).symm), rfl⟩
    · have hkn : k = s.size := by omega
      rw [List.drop_of_length_le (by omega), vld_nil] at hv
      have HV : Hid (true = vld (nums s)) := hv
      clear hv
      go_wp2
      go_ret
      exact ⟨ret_bool HV.out, rfl⟩

end Go.Proofs.YtiplalbicibahaaDoor.Nm
