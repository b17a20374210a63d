/- unicode/utf8.Valid: is it UTF-8? -/
import Derived.Test.YtiidjdedeenijaaDoorValidA
namespace Go.Proofs.YtiidjdedeenijaaDoor
open Go.RowKit

set_option maxHeartbeats 40000000 in
set_option maxRecDepth 100000 in
theorem valid_any (a : Option Addr) (n c : Nat) (xs : List Int) (w : World) (hR : Rd w a n c xs) (hT : Tabs w) :
    Calls Tryd.prog 94 #[.slice a n c] w fun e w' => e = .returned (.bool (vld xs)) ∧ Ext w w' := by
  have hl := hR.len
  have hcap := hR.cap
  have hmost : c ≤ 9223372036854775807 := hR.most
  have hR0 : Rd w a n n xs := ⟨hR.len, Nat.le_refl _, by have := hR.most; omega, fun h => by have := hR.nil h; omega, hR.bytes, hR.cells⟩
  go_enter Tryd.func94, Tryd.ntmps94
  go_wp2
  go_loopw [0] (fun t wr => ∃ (a' : Option Addr) (m : Nat) (ys : List Int), t = .slice a' m m ∧ Rd wr a' m m ys ∧ vld ys = vld xs ∧ Ext w wr) (fun t _ => slen t)
  case atStart => exact ⟨a, n, xs, rfl, hR0, rfl, Ext.refl _⟩
  case round =>
    obtain ⟨a', m, ys, rfl, hr, hv, hx⟩ := hrel
    clear hR hR0 hl hcap hmost
    have hm := hr.len
    have hmx : m ≤ 9223372036854775807 := hr.most
    by_cases h0 : m = 0
    ·
      subst h0
      have hy : ys = [] := List.eq_nil_of_length_eq_zero hm
      subst hy
      rw [vld_nil] at hv
      as_aux_lemma =>
        go_wp2
        go_ret
        exact ⟨ret_bool hv, hx⟩
    ·
      obtain ⟨b, off, rfl, hcell⟩ := hr.flat (by omega)
      have hc0 := hcell 0 (by omega)
      rw [Nat.add_zero] at hc0
      have hb0 := hr.bytes.get 0
      have hd := drop_cons (xs := ys) (k := 0) (by omega)
      rw [List.drop_zero] at hd
      obtain ⟨z, hz⟩ : ∃ z, z = ys.getD 0 0 := ⟨_, rfl⟩
      rw [← hz] at hc0 hb0 hd
      obtain ⟨d0, e0⟩ := hb0
      have HC : Hid (∀ j, j < m → wr.cell? ⟨b, off + j, none⟩ = some (.int .u8 (ys.getD j 0))) := hcell
      have HZ : Hid (z = ys.getD 0 0) := hz
      have HD : Hid (ys = z :: ys.drop 1) := hd
      have HV : Hid (vld ys = vld xs) := hv
      clear hz hd hv hcell
      have hm0 : 0 < m := by omega
      by_cases ha : z < 128
      ·
        have hp1 : vld (ys.drop 1) = vld xs := pass HV.out (by omega) (fun j hj => by have : j = 0 := by omega
                                                                                      subst this; rw [← HZ.out]; exact ha)
        by_cases h1 : m = 1
        ·
          subst h1
          as_aux_lemma =>
            go_wp2
            go_roundw
            case rel => exact ⟨_, 0, ys.drop 1, rfl, (by have := hr.cutAll; rw [List.drop_of_length_le (by omega)]; exact this), hp1, hx⟩
            case measure => simp [slen] <;> omega
        ·
          obtain ⟨m1, rfl⟩ : ∃ m1, m = m1 + 1 := ⟨m - 1, by omega⟩
          have hr1 := hr.cut8
          have hlen1 := hr1.len
          obtain ⟨l1, hl1⟩ : ∃ l, l = ys.drop 1 := ⟨_, rfl⟩
          rw [← hl1] at hr1 hp1 hlen1
          clear hl1
          by_cases h8 : (8 : Int) < (m1 : Int)
          ·
            obtain ⟨m2, rfl⟩ : ∃ m2, m1 = m2 + 8 := ⟨m1 - 8, by omega⟩
            have hr2 := hr1.cut8
            have hw1 := wv_lt hr1.bytes
            have P8 : Hid (wv l1 &&& 9259542123273814144 = 0 → vld (l1.drop 8) = vld xs) := pass8 hr1.bytes hp1 (by omega)
            obtain ⟨l2, hl2⟩ : ∃ l, l = l1.drop 8 := ⟨_, rfl⟩
            rw [← hl2] at hr2 P8
            clear hl2
            by_cases h16 : (16 : Int) < (m2 : Int)
            ·
              obtain ⟨m3, rfl⟩ : ∃ m3, m2 = m3 + 16 := ⟨m2 - 16, by omega⟩
              have hd16 : decide ((16 : Int) < (m3 : Int) + 16) = true := decide_eq_true (by omega)
              have h16' : (16 : Int) < (m3 : Int) + 16 := by omega
              have hr3 := hr2.cut8
              have hr2' : Rd wr (some ⟨b, off + 1 + 8, none⟩) (m3 + 8 + 8) (m3 + 8 + 8) l2 := hr2
              have hr2b := hr2'.cut8
              clear hr2'
              have hw2 := wv_lt hr2.bytes
              have hw2b := wv_lt hr2b.bytes
              have hlen2 := hr2.len
              have hlen2b := hr2b.len
              have P16 : Hid (vld l2 = vld xs → wv l2 &&& 9259542123273814144 = 0 → wv (l2.drop 8) &&& 9259542123273814144 = 0 → vld (l2.drop 16) = vld xs) := fun g1 g2 g3 => by
                have q1 := pass8 hr2.bytes g1 (by omega) g2
                have q2 := pass8 hr2b.bytes q1 (by omega) g3
                rwa [List.drop_drop] at q2
              as_aux_lemma =>
                go_wp2_with (go_at_call 104; refine (word_ext _ _ _ _ _ hr1 (by omega)).mono ?_; rintro e w1 ⟨rfl, hx1⟩)
                ·
                  have ht : (bits .and .u64 ((wv l1 : Nat) : Int) 9259542123273814144 == 0) = true := by assumption
                  have hp2 := P8.out (and_hi hw1 ht)
                  clear ht
                  have hr2w := hr2.ext hx1
                  have hr2bw := hr2b.ext hx1
                  have hr3w := hr3.ext hx1
                  have hxw := hx.trans hx1
                  clear hr hr1 hr2 hr2b hr3 hx hx1
                  refine wp_region_quiet_lit (by kernel_rfl) (by kernel_rfl) ?_
                  repeat (go_big_quiet_step (fail))
                  (go_big_quiet_want; go_big_quiet_op; go_big_quiet_call (exact Calls.quiet_of (word_any _ _ _ _ _ (hr2w.drewN _) (by omega))))
                  repeat (go_big_quiet_step (fail))
                  (go_big_quiet_want; go_big_quiet_op; go_big_quiet_call (exact Calls.quiet_of (word_any _ _ _ _ _ (hr2bw.drewN _) (by omega))))
                  repeat (go_big_quiet_step (fail))
                  refine wpQuiet_nil ?_
                  intro _ hw'
                  obtain ⟨nq, hw''⟩ := hw'
                  subst hw''
                  have hr2q := hr2w.drewN nq
                  have hr3q := hr3w.drewN nq
                  have hxq := hxw.drewN nq
                  clear hr2w hr2bw hr3w hxw
                  generalize w1.drewN nq = w2 at hr2q hr3q hxq ⊢
                  as_aux_lemma =>
                    go_wp2
                    ·
                      have ht : (bits .and .u64 (bits .or .u64 ((wv l2 : Nat) : Int) ((wv (l2.drop 8) : Nat) : Int)) 9259542123273814144 == 0) = true := by assumption
                      have hz := or2_hi hw2 hw2b ht
                      have hp3 := P16.out hp2 hz.1 hz.2
                      clear ht hz hr2q hw2 hw2b hlen2 hlen2b P16 P8 hd16 h16'
                      go_loopw [0] (fun t wr => ∃ (a' : Option Addr) (m : Nat) (l : List Int), t = .slice a' m m ∧ m ≤ m3 ∧ Rd wr a' m m l ∧ vld l = vld xs ∧ Ext w wr) (fun t _ => slen t)
                      case atStart => exact ⟨_, m3, _, rfl, Nat.le_refl _, hr3q, hp3, hxq⟩
                      case round =>
                        obtain ⟨a4, m4, l4, rfl, hm4, hr4, hv4, hx4⟩ := hrel
                        clear hr3q hp3 hxq
                        have hlen4 := hr4.len
                        have hmx4 : m4 ≤ 9223372036854775807 := hr4.most
                        by_cases h32 : (32 : Int) < (m4 : Int)
                        ·
                          obtain ⟨b4, o4, rfl, _⟩ := hr4.flat (by omega)
                          obtain ⟨m5, rfl⟩ : ∃ m5, m4 = m5 + 32 := ⟨m4 - 32, by omega⟩
                          have hd32 : decide ((32 : Int) < (m5 : Int) + 32) = true := decide_eq_true (by omega)
                          have h32' : (32 : Int) < (m5 : Int) + 32 := by omega
                          have hr8 : Rd wr (some ⟨b4, o4 + 8, none⟩) (m5 + 24) (m5 + 24) (l4.drop 8) := Rd.cut8 (m := m5 + 24) (k := 8) hr4
                          have hr16 : Rd wr (some ⟨b4, o4 + 16, none⟩) (m5 + 16) (m5 + 16) (l4.drop 16) := Rd.cut8 (m := m5 + 16) (k := 16) hr4
                          have hr24 : Rd wr (some ⟨b4, o4 + 24, none⟩) (m5 + 8) (m5 + 8) (l4.drop 24) := Rd.cut8 (m := m5 + 8) (k := 24) hr4
                          have hr32 : Rd wr (some ⟨b4, o4 + 32, none⟩) m5 m5 (l4.drop 32) := Rd.cut8 (m := m5) (k := 32) hr4
                          have hP32 : Hid ((bits .and .u64 (bits .or .u64 (bits .or .u64 ((wv l4 : Nat) : Int) ((wv (l4.drop 8) : Nat) : Int)) (bits .or .u64 ((wv (l4.drop 16) : Nat) : Int) ((wv (l4.drop 24) : Nat) : Int))) 9259542123273814144 == 0) = true → vld (l4.drop 32) = vld xs) := pass32 hr4.bytes hv4 (by omega)
                          go_wp2
                          refine wp_region_quiet_lit (by kernel_rfl) (by kernel_rfl) ?_
                          repeat (go_big_quiet_step (fail))
                          (go_big_quiet_want; go_big_quiet_op; go_big_quiet_call (exact Calls.quiet_of (word_any _ _ _ _ _ (hr4.drewN _) (by omega))))
                          repeat (go_big_quiet_step (fail))
                          (go_big_quiet_want; go_big_quiet_op; go_big_quiet_call (exact Calls.quiet_of (word_any _ _ _ _ _ (hr8.drewN _) (by omega))))
                          repeat (go_big_quiet_step (fail))
                          (go_big_quiet_want; go_big_quiet_op; go_big_quiet_call (exact Calls.quiet_of (word_any _ _ _ _ _ (hr16.drewN _) (by omega))))
                          repeat (go_big_quiet_step (fail))
                          (go_big_quiet_want; go_big_quiet_op; go_big_quiet_call (exact Calls.quiet_of (word_any _ _ _ _ _ (hr24.drewN _) (by omega))))
                          repeat (go_big_quiet_step (fail))
                          refine wpQuiet_nil ?_
                          intro _ hw'
                          obtain ⟨nq, hw''⟩ := hw'
                          subst hw''
                          have hr4q := hr4.drewN nq
                          have hr32q := hr32.drewN nq
                          have hxq := hx4.drewN nq
                          clear hr4 hr8 hr16 hr24 hr32 hx4
                          generalize wr.drewN nq = w4 at hr4q hr32q hxq ⊢
                          go_wp2
                          ·
                            go_roundw
                            case rel => exact ⟨_, m5, _, rfl, by omega, hr32q, hP32.out (by assumption), hxq⟩
                            case measure => simp [slen] <;> omega
                          ·
                            go_roundw
                            case rel => exact ⟨_, m5 + 32, l4, rfl, hr4q, hv4, hxq⟩
                            case measure => simp [slen] <;> omega
                        ·
                          have hd32 : decide ((32 : Int) < (m4 : Int)) = false := decide_eq_false h32
                          go_wp2
                          go_quiet (fail)
                          go_wp2
                          go_roundw
                          case rel => exact ⟨_, m4, l4, rfl, hr4.drewN _, hv4, hx4.drewN _⟩
                          case measure => simp [slen] <;> omega
                    ·
                      go_roundw
                      case rel => exact ⟨_, m3 + 16, l2, rfl, hr2q, hp2, hxq⟩
                      case measure => simp [slen] <;> omega
                ·
                  go_roundw
                  case rel => exact ⟨_, m3 + 16 + 8, l1, rfl, hr1.ext hx1, hp1, hx.trans hx1⟩
                  case measure => simp [slen] <;> omega
            ·
              have hd16 : decide ((16 : Int) < (m2 : Int)) = false := decide_eq_false h16
              as_aux_lemma =>
                go_wp2_with (go_at_call 104; refine (word_ext _ _ _ _ _ hr1 (by omega)).mono ?_; rintro e w1 ⟨rfl, hx1⟩)
                ·
                  have ht : (bits .and .u64 ((wv l1 : Nat) : Int) 9259542123273814144 == 0) = true := by assumption
                  have hp2 := P8.out (and_hi hw1 ht)
                  clear ht
                  go_quiet (fail)
                  as_aux_lemma =>
                    go_wp2
                    go_roundw
                    case rel => exact ⟨_, m2, l2, rfl, (hr2.ext hx1).drewN _, hp2, (hx.trans hx1).drewN _⟩
                    case measure => simp [slen] <;> omega
                ·
                  go_roundw
                  case rel => exact ⟨_, m2 + 8, l1, rfl, hr1.ext hx1, hp1, hx.trans hx1⟩
                  case measure => simp [slen] <;> omega
          ·
            as_aux_lemma =>
              go_wp2
              go_roundw
              case rel => exact ⟨_, m1, l1, rfl, hr1, hp1, hx⟩
              case measure => simp [slen] <;> omega
      ·
        obtain ⟨X, i, lo, hi, hfirst, hX8, hXi, hi5, hlo, hhi, hlo0, hhi0, HU⟩ := tab_parts (hT.carry hx) z ha e0
        rcases usz_1234 z with k1 | k2 | k3 | k4
        ·
          have hxa : bits .and .u8 (X : Int) 7 = 1 := by rw [hX8, k1]; rfl
          have HF : Hid (vld xs = false) := (by rw [← HV.out]; exact bad1 HD.out ha k1 : vld xs = false)
          clear hX8 HU
          as_aux_lemma =>
            go_wp2
            go_ret
            exact ⟨ret_bool (by rw [HF.out]), hx.trans (Below.alloc (Below.refl _ _) (Nat.le_refl _) _)⟩
        ·
          have hxa : bits .and .u8 (X : Int) 7 = 2 := by rw [hX8, k2]; rfl
          obtain ⟨el, eh⟩ := HU (.inl k2)
          have EL : Hid (lo = ulo z) := el
          have EH : Hid (hi = uhi z) := eh
          clear el eh hX8 HU
          have b1 := hr.bytes.get 1
          obtain ⟨p1, hp1⟩ : ∃ p, p = ys.getD 1 0 := ⟨_, rfl⟩
          rw [← hp1] at b1
          have HP1 : Hid (p1 = ys.getD 1 0) := hp1
          obtain ⟨b1l, b1h⟩ := b1
          clear hp1
          by_cases t0 : (m : Int) < 2
          ·
            have g0 : decide ((m : Int) < 2) = true := decide_eq_true t0
            have HF : Hid (vld xs = false) := (by rw [← HV.out]; exact bad2 HD.out ha k2 (by rw [hm, ← EL.out, ← EH.out, ← HP1.out]; omega) : vld xs = false)
            as_aux_lemma =>
              go_wp2
              go_quiet (fail)
              go_wp2
              go_ret
              exact ⟨ret_bool (by rw [HF.out]), hx.trans (Ext.new _ _ _)⟩
          ·
            have g0 : decide ((m : Int) < 2) = false := decide_eq_false t0
            by_cases t1 : p1 < lo
            ·
              have g1 : decide (p1 < lo) = true := decide_eq_true t1
              have q1 : (wr.alloc (.cells #[.int .u8 lo, .int .u8 hi] 109)).cell? ⟨b, off + 1, none⟩ = some (.int .u8 p1) := by rw [HP1.out]; exact keep_cell (HC.out 1 (by omega)) _
              have HF : Hid (vld xs = false) := (by rw [← HV.out]; exact bad2 HD.out ha k2 (by rw [hm, ← EL.out, ← EH.out, ← HP1.out]; omega) : vld xs = false)
              as_aux_lemma =>
                go_wp2
                go_quiet (fail)
                go_wp2
                go_ret
                exact ⟨ret_bool (by rw [HF.out]), hx.trans (Ext.new _ _ _)⟩
            ·
              have g1 : decide (p1 < lo) = false := decide_eq_false t1
              by_cases t2 : hi < p1
              ·
                have g2 : decide (hi < p1) = true := decide_eq_true t2
                have q1 : (wr.alloc (.cells #[.int .u8 lo, .int .u8 hi] 109)).cell? ⟨b, off + 1, none⟩ = some (.int .u8 p1) := by rw [HP1.out]; exact keep_cell (HC.out 1 (by omega)) _
                have HF : Hid (vld xs = false) := (by rw [← HV.out]; exact bad2 HD.out ha k2 (by rw [hm, ← EL.out, ← EH.out, ← HP1.out]; omega) : vld xs = false)
                as_aux_lemma =>
                  go_wp2
                  go_quiet (fail)
                  go_wp2
                  go_ret
                  exact ⟨ret_bool (by rw [HF.out]), hx.trans (Ext.new _ _ _)⟩
              ·
                have g2 : decide (hi < p1) = false := decide_eq_false t2
                have q1 : (wr.alloc (.cells #[.int .u8 lo, .int .u8 hi] 109)).cell? ⟨b, off + 1, none⟩ = some (.int .u8 p1) := by rw [HP1.out]; exact keep_cell (HC.out 1 (by omega)) _
                have HF : Hid (vld (ys.drop 2) = vld xs) := (by rw [← HV.out]; exact (ok2 HD.out ha k2 (by omega) (by rw [← EL.out, ← HP1.out]; omega) (by rw [← EH.out, ← HP1.out]; omega)).symm : vld (ys.drop 2) = vld xs)
                by_cases hmk : m = 2
                ·
                  subst hmk
                  as_aux_lemma =>
                    go_wp2
                    go_quiet (fail)
                    go_wp2
                    go_roundw
                    case rel => exact ⟨_, 0, ys.drop 2, rfl, (by rw [List.drop_of_length_le (by omega)]; exact rd_empty _ _), HF.out, hx.trans (Ext.new _ _ _)⟩
                    case measure => simp [slen]
                ·
                  as_aux_lemma =>
                    go_wp2
                    go_quiet (fail)
                    go_wp2
                    go_roundw
                    case rel => exact ⟨_, m - 2, ys.drop 2, rfl, (hr.cutF 2).ext (Ext.new _ _ _), HF.out, hx.trans (Ext.new _ _ _)⟩
                    case measure => simp [slen] <;> omega
        ·
          have hxa : bits .and .u8 (X : Int) 7 = 3 := by rw [hX8, k3]; rfl
          obtain ⟨el, eh⟩ := HU (.inr (.inl k3))
          have EL : Hid (lo = ulo z) := el
          have EH : Hid (hi = uhi z) := eh
          clear el eh hX8 HU
          have b1 := hr.bytes.get 1
          obtain ⟨p1, hp1⟩ : ∃ p, p = ys.getD 1 0 := ⟨_, rfl⟩
          rw [← hp1] at b1
          have HP1 : Hid (p1 = ys.getD 1 0) := hp1
          obtain ⟨b1l, b1h⟩ := b1
          clear hp1
          have b2 := hr.bytes.get 2
          obtain ⟨p2, hp2⟩ : ∃ p, p = ys.getD 2 0 := ⟨_, rfl⟩
          rw [← hp2] at b2
          have HP2 : Hid (p2 = ys.getD 2 0) := hp2
          obtain ⟨b2l, b2h⟩ := b2
          clear hp2
          by_cases t0 : (m : Int) < 3
          ·
            have g0 : decide ((m : Int) < 3) = true := decide_eq_true t0
            have HF : Hid (vld xs = false) := (by rw [← HV.out]; exact bad3 HD.out ha k3 (by rw [hm, ← EL.out, ← EH.out, ← HP1.out, ← HP2.out]; omega) : vld xs = false)
            as_aux_lemma =>
              go_wp2
              go_quiet (fail)
              go_wp2
              go_ret
              exact ⟨ret_bool (by rw [HF.out]), hx.trans (Ext.new _ _ _)⟩
          ·
            have g0 : decide ((m : Int) < 3) = false := decide_eq_false t0
            by_cases t1 : p1 < lo
            ·
              have g1 : decide (p1 < lo) = true := decide_eq_true t1
              have q1 : (wr.alloc (.cells #[.int .u8 lo, .int .u8 hi] 109)).cell? ⟨b, off + 1, none⟩ = some (.int .u8 p1) := by rw [HP1.out]; exact keep_cell (HC.out 1 (by omega)) _
              have q2 : (wr.alloc (.cells #[.int .u8 lo, .int .u8 hi] 109)).cell? ⟨b, off + 2, none⟩ = some (.int .u8 p2) := by rw [HP2.out]; exact keep_cell (HC.out 2 (by omega)) _
              have HF : Hid (vld xs = false) := (by rw [← HV.out]; exact bad3 HD.out ha k3 (by rw [hm, ← EL.out, ← EH.out, ← HP1.out, ← HP2.out]; omega) : vld xs = false)
              as_aux_lemma =>
                go_wp2
                go_quiet (fail)
                go_wp2
                go_ret
                exact ⟨ret_bool (by rw [HF.out]), hx.trans (Ext.new _ _ _)⟩
            ·
              have g1 : decide (p1 < lo) = false := decide_eq_false t1
              by_cases t2 : hi < p1
              ·
                have g2 : decide (hi < p1) = true := decide_eq_true t2
                have q1 : (wr.alloc (.cells #[.int .u8 lo, .int .u8 hi] 109)).cell? ⟨b, off + 1, none⟩ = some (.int .u8 p1) := by rw [HP1.out]; exact keep_cell (HC.out 1 (by omega)) _
                have q2 : (wr.alloc (.cells #[.int .u8 lo, .int .u8 hi] 109)).cell? ⟨b, off + 2, none⟩ = some (.int .u8 p2) := by rw [HP2.out]; exact keep_cell (HC.out 2 (by omega)) _
                have HF : Hid (vld xs = false) := (by rw [← HV.out]; exact bad3 HD.out ha k3 (by rw [hm, ← EL.out, ← EH.out, ← HP1.out, ← HP2.out]; omega) : vld xs = false)
                as_aux_lemma =>
                  go_wp2
                  go_quiet (fail)
                  go_wp2
                  go_ret
                  exact ⟨ret_bool (by rw [HF.out]), hx.trans (Ext.new _ _ _)⟩
              ·
                have g2 : decide (hi < p1) = false := decide_eq_false t2
                by_cases t3 : p2 < 128
                ·
                  have g3 : decide (p2 < 128) = true := decide_eq_true t3
                  have q1 : (wr.alloc (.cells #[.int .u8 lo, .int .u8 hi] 109)).cell? ⟨b, off + 1, none⟩ = some (.int .u8 p1) := by rw [HP1.out]; exact keep_cell (HC.out 1 (by omega)) _
                  have q2 : (wr.alloc (.cells #[.int .u8 lo, .int .u8 hi] 109)).cell? ⟨b, off + 2, none⟩ = some (.int .u8 p2) := by rw [HP2.out]; exact keep_cell (HC.out 2 (by omega)) _
                  have HF : Hid (vld xs = false) := (by rw [← HV.out]; exact bad3 HD.out ha k3 (by rw [hm, ← EL.out, ← EH.out, ← HP1.out, ← HP2.out]; omega) : vld xs = false)
                  as_aux_lemma =>
                    go_wp2
                    go_quiet (fail)
                    go_wp2
                    go_ret
                    exact ⟨ret_bool (by rw [HF.out]), hx.trans (Ext.new _ _ _)⟩
                ·
                  have g3 : decide (p2 < 128) = false := decide_eq_false t3
                  by_cases t4 : 191 < p2
                  ·
                    have g4 : decide (191 < p2) = true := decide_eq_true t4
                    have q1 : (wr.alloc (.cells #[.int .u8 lo, .int .u8 hi] 109)).cell? ⟨b, off + 1, none⟩ = some (.int .u8 p1) := by rw [HP1.out]; exact keep_cell (HC.out 1 (by omega)) _
                    have q2 : (wr.alloc (.cells #[.int .u8 lo, .int .u8 hi] 109)).cell? ⟨b, off + 2, none⟩ = some (.int .u8 p2) := by rw [HP2.out]; exact keep_cell (HC.out 2 (by omega)) _
                    have HF : Hid (vld xs = false) := (by rw [← HV.out]; exact bad3 HD.out ha k3 (by rw [hm, ← EL.out, ← EH.out, ← HP1.out, ← HP2.out]; omega) : vld xs = false)
                    as_aux_lemma =>
                      go_wp2
                      go_quiet (fail)
                      go_wp2
                      go_ret
                      exact ⟨ret_bool (by rw [HF.out]), hx.trans (Ext.new _ _ _)⟩
                  ·
                    have g4 : decide (191 < p2) = false := decide_eq_false t4
                    have q1 : (wr.alloc (.cells #[.int .u8 lo, .int .u8 hi] 109)).cell? ⟨b, off + 1, none⟩ = some (.int .u8 p1) := by rw [HP1.out]; exact keep_cell (HC.out 1 (by omega)) _
                    have q2 : (wr.alloc (.cells #[.int .u8 lo, .int .u8 hi] 109)).cell? ⟨b, off + 2, none⟩ = some (.int .u8 p2) := by rw [HP2.out]; exact keep_cell (HC.out 2 (by omega)) _
                    have HF : Hid (vld (ys.drop 3) = vld xs) := (by rw [← HV.out]; exact (ok3 HD.out ha k3 (by omega) (by rw [← EL.out, ← HP1.out]; omega) (by rw [← EH.out, ← HP1.out]; omega) (by rw [← HP2.out]; omega) (by rw [← HP2.out]; omega)).symm : vld (ys.drop 3) = vld xs)
                    by_cases hmk : m = 3
                    ·
                      subst hmk
                      as_aux_lemma =>
                        go_wp2
                        go_quiet (fail)
                        go_wp2
                        go_roundw
                        case rel => exact ⟨_, 0, ys.drop 3, rfl, (by rw [List.drop_of_length_le (by omega)]; exact rd_empty _ _), HF.out, hx.trans (Ext.new _ _ _)⟩
                        case measure => simp [slen]
                    ·
                      as_aux_lemma =>
                        go_wp2
                        go_quiet (fail)
                        go_wp2
                        go_roundw
                        case rel => exact ⟨_, m - 3, ys.drop 3, rfl, (hr.cutF 3).ext (Ext.new _ _ _), HF.out, hx.trans (Ext.new _ _ _)⟩
                        case measure => simp [slen] <;> omega
        ·
          have hxa : bits .and .u8 (X : Int) 7 = 4 := by rw [hX8, k4]; rfl
          obtain ⟨el, eh⟩ := HU (.inr (.inr k4))
          have EL : Hid (lo = ulo z) := el
          have EH : Hid (hi = uhi z) := eh
          clear el eh hX8 HU
          have b1 := hr.bytes.get 1
          obtain ⟨p1, hp1⟩ : ∃ p, p = ys.getD 1 0 := ⟨_, rfl⟩
          rw [← hp1] at b1
          have HP1 : Hid (p1 = ys.getD 1 0) := hp1
          obtain ⟨b1l, b1h⟩ := b1
          clear hp1
          have b2 := hr.bytes.get 2
          obtain ⟨p2, hp2⟩ : ∃ p, p = ys.getD 2 0 := ⟨_, rfl⟩
          rw [← hp2] at b2
          have HP2 : Hid (p2 = ys.getD 2 0) := hp2
          obtain ⟨b2l, b2h⟩ := b2
          clear hp2
          have b3 := hr.bytes.get 3
          obtain ⟨p3, hp3⟩ : ∃ p, p = ys.getD 3 0 := ⟨_, rfl⟩
          rw [← hp3] at b3
          have HP3 : Hid (p3 = ys.getD 3 0) := hp3
          obtain ⟨b3l, b3h⟩ := b3
          clear hp3
          by_cases t0 : (m : Int) < 4
          ·
            have g0 : decide ((m : Int) < 4) = true := decide_eq_true t0
            have HF : Hid (vld xs = false) := (by rw [← HV.out]; exact bad4 HD.out ha k4 (by rw [hm, ← EL.out, ← EH.out, ← HP1.out, ← HP2.out, ← HP3.out]; omega) : vld xs = false)
            as_aux_lemma =>
              go_wp2
              go_quiet (fail)
              go_wp2
              go_ret
              exact ⟨ret_bool (by rw [HF.out]), hx.trans (Ext.new _ _ _)⟩
          ·
            have g0 : decide ((m : Int) < 4) = false := decide_eq_false t0
            by_cases t1 : p1 < lo
            ·
              have g1 : decide (p1 < lo) = true := decide_eq_true t1
              have q1 : (wr.alloc (.cells #[.int .u8 lo, .int .u8 hi] 109)).cell? ⟨b, off + 1, none⟩ = some (.int .u8 p1) := by rw [HP1.out]; exact keep_cell (HC.out 1 (by omega)) _
              have q2 : (wr.alloc (.cells #[.int .u8 lo, .int .u8 hi] 109)).cell? ⟨b, off + 2, none⟩ = some (.int .u8 p2) := by rw [HP2.out]; exact keep_cell (HC.out 2 (by omega)) _
              have q3 : (wr.alloc (.cells #[.int .u8 lo, .int .u8 hi] 109)).cell? ⟨b, off + 3, none⟩ = some (.int .u8 p3) := by rw [HP3.out]; exact keep_cell (HC.out 3 (by omega)) _
              have HF : Hid (vld xs = false) := (by rw [← HV.out]; exact bad4 HD.out ha k4 (by rw [hm, ← EL.out, ← EH.out, ← HP1.out, ← HP2.out, ← HP3.out]; omega) : vld xs = false)
              as_aux_lemma =>
                go_wp2
                go_quiet (fail)
                go_wp2
                go_ret
                exact ⟨ret_bool (by rw [HF.out]), hx.trans (Ext.new _ _ _)⟩
            ·
              have g1 : decide (p1 < lo) = false := decide_eq_false t1
              by_cases t2 : hi < p1
              ·
                have g2 : decide (hi < p1) = true := decide_eq_true t2
                have q1 : (wr.alloc (.cells #[.int .u8 lo, .int .u8 hi] 109)).cell? ⟨b, off + 1, none⟩ = some (.int .u8 p1) := by rw [HP1.out]; exact keep_cell (HC.out 1 (by omega)) _
                have q2 : (wr.alloc (.cells #[.int .u8 lo, .int .u8 hi] 109)).cell? ⟨b, off + 2, none⟩ = some (.int .u8 p2) := by rw [HP2.out]; exact keep_cell (HC.out 2 (by omega)) _
                have q3 : (wr.alloc (.cells #[.int .u8 lo, .int .u8 hi] 109)).cell? ⟨b, off + 3, none⟩ = some (.int .u8 p3) := by rw [HP3.out]; exact keep_cell (HC.out 3 (by omega)) _
                have HF : Hid (vld xs = false) := (by rw [← HV.out]; exact bad4 HD.out ha k4 (by rw [hm, ← EL.out, ← EH.out, ← HP1.out, ← HP2.out, ← HP3.out]; omega) : vld xs = false)
                as_aux_lemma =>
                  go_wp2
                  go_quiet (fail)
                  go_wp2
                  go_ret
                  exact ⟨ret_bool (by rw [HF.out]), hx.trans (Ext.new _ _ _)⟩
              ·
                have g2 : decide (hi < p1) = false := decide_eq_false t2
                by_cases t3 : p2 < 128
                ·
                  have g3 : decide (p2 < 128) = true := decide_eq_true t3
                  have q1 : (wr.alloc (.cells #[.int .u8 lo, .int .u8 hi] 109)).cell? ⟨b, off + 1, none⟩ = some (.int .u8 p1) := by rw [HP1.out]; exact keep_cell (HC.out 1 (by omega)) _
                  have q2 : (wr.alloc (.cells #[.int .u8 lo, .int .u8 hi] 109)).cell? ⟨b, off + 2, none⟩ = some (.int .u8 p2) := by rw [HP2.out]; exact keep_cell (HC.out 2 (by omega)) _
                  have q3 : (wr.alloc (.cells #[.int .u8 lo, .int .u8 hi] 109)).cell? ⟨b, off + 3, none⟩ = some (.int .u8 p3) := by rw [HP3.out]; exact keep_cell (HC.out 3 (by omega)) _
                  have HF : Hid (vld xs = false) := (by rw [← HV.out]; exact bad4 HD.out ha k4 (by rw [hm, ← EL.out, ← EH.out, ← HP1.out, ← HP2.out, ← HP3.out]; omega) : vld xs = false)
                  as_aux_lemma =>
                    go_wp2
                    go_quiet (fail)
                    go_wp2
                    go_ret
                    exact ⟨ret_bool (by rw [HF.out]), hx.trans (Ext.new _ _ _)⟩
                ·
                  have g3 : decide (p2 < 128) = false := decide_eq_false t3
                  by_cases t4 : 191 < p2
                  ·
                    have g4 : decide (191 < p2) = true := decide_eq_true t4
                    have q1 : (wr.alloc (.cells #[.int .u8 lo, .int .u8 hi] 109)).cell? ⟨b, off + 1, none⟩ = some (.int .u8 p1) := by rw [HP1.out]; exact keep_cell (HC.out 1 (by omega)) _
                    have q2 : (wr.alloc (.cells #[.int .u8 lo, .int .u8 hi] 109)).cell? ⟨b, off + 2, none⟩ = some (.int .u8 p2) := by rw [HP2.out]; exact keep_cell (HC.out 2 (by omega)) _
                    have q3 : (wr.alloc (.cells #[.int .u8 lo, .int .u8 hi] 109)).cell? ⟨b, off + 3, none⟩ = some (.int .u8 p3) := by rw [HP3.out]; exact keep_cell (HC.out 3 (by omega)) _
                    have HF : Hid (vld xs = false) := (by rw [← HV.out]; exact bad4 HD.out ha k4 (by rw [hm, ← EL.out, ← EH.out, ← HP1.out, ← HP2.out, ← HP3.out]; omega) : vld xs = false)
                    as_aux_lemma =>
                      go_wp2
                      go_quiet (fail)
                      go_wp2
                      go_ret
                      exact ⟨ret_bool (by rw [HF.out]), hx.trans (Ext.new _ _ _)⟩
                  ·
                    have g4 : decide (191 < p2) = false := decide_eq_false t4
                    by_cases t5 : p3 < 128
                    ·
                      have g5 : decide (p3 < 128) = true := decide_eq_true t5
                      have q1 : (wr.alloc (.cells #[.int .u8 lo, .int .u8 hi] 109)).cell? ⟨b, off + 1, none⟩ = some (.int .u8 p1) := by rw [HP1.out]; exact keep_cell (HC.out 1 (by omega)) _
                      have q2 : (wr.alloc (.cells #[.int .u8 lo, .int .u8 hi] 109)).cell? ⟨b, off + 2, none⟩ = some (.int .u8 p2) := by rw [HP2.out]; exact keep_cell (HC.out 2 (by omega)) _
                      have q3 : (wr.alloc (.cells #[.int .u8 lo, .int .u8 hi] 109)).cell? ⟨b, off + 3, none⟩ = some (.int .u8 p3) := by rw [HP3.out]; exact keep_cell (HC.out 3 (by omega)) _
                      have HF : Hid (vld xs = false) := (by rw [← HV.out]; exact bad4 HD.out ha k4 (by rw [hm, ← EL.out, ← EH.out, ← HP1.out, ← HP2.out, ← HP3.out]; omega) : vld xs = false)
                      as_aux_lemma =>
                        go_wp2
                        go_quiet (fail)
                        go_wp2
                        go_ret
                        exact ⟨ret_bool (by rw [HF.out]), hx.trans (Ext.new _ _ _)⟩
                    ·
                      have g5 : decide (p3 < 128) = false := decide_eq_false t5
                      by_cases t6 : 191 < p3
                      ·
                        have g6 : decide (191 < p3) = true := decide_eq_true t6
                        have q1 : (wr.alloc (.cells #[.int .u8 lo, .int .u8 hi] 109)).cell? ⟨b, off + 1, none⟩ = some (.int .u8 p1) := by rw [HP1.out]; exact keep_cell (HC.out 1 (by omega)) _
                        have q2 : (wr.alloc (.cells #[.int .u8 lo, .int .u8 hi] 109)).cell? ⟨b, off + 2, none⟩ = some (.int .u8 p2) := by rw [HP2.out]; exact keep_cell (HC.out 2 (by omega)) _
                        have q3 : (wr.alloc (.cells #[.int .u8 lo, .int .u8 hi] 109)).cell? ⟨b, off + 3, none⟩ = some (.int .u8 p3) := by rw [HP3.out]; exact keep_cell (HC.out 3 (by omega)) _
                        have HF : Hid (vld xs = false) := (by rw [← HV.out]; exact bad4 HD.out ha k4 (by rw [hm, ← EL.out, ← EH.out, ← HP1.out, ← HP2.out, ← HP3.out]; omega) : vld xs = false)
                        as_aux_lemma =>
                          go_wp2
                          go_quiet (fail)
                          go_wp2
                          go_ret
                          exact ⟨ret_bool (by rw [HF.out]), hx.trans (Ext.new _ _ _)⟩
                      ·
                        have g6 : decide (191 < p3) = false := decide_eq_false t6
                        have q1 : (wr.alloc (.cells #[.int .u8 lo, .int .u8 hi] 109)).cell? ⟨b, off + 1, none⟩ = some (.int .u8 p1) := by rw [HP1.out]; exact keep_cell (HC.out 1 (by omega)) _
                        have q2 : (wr.alloc (.cells #[.int .u8 lo, .int .u8 hi] 109)).cell? ⟨b, off + 2, none⟩ = some (.int .u8 p2) := by rw [HP2.out]; exact keep_cell (HC.out 2 (by omega)) _
                        have q3 : (wr.alloc (.cells #[.int .u8 lo, .int .u8 hi] 109)).cell? ⟨b, off + 3, none⟩ = some (.int .u8 p3) := by rw [HP3.out]; exact keep_cell (HC.out 3 (by omega)) _
                        have HF : Hid (vld (ys.drop 4) = vld xs) := (by rw [← HV.out]; exact (ok4 HD.out ha k4 (by omega) (by rw [← EL.out, ← HP1.out]; omega) (by rw [← EH.out, ← HP1.out]; omega) (by rw [← HP2.out]; omega) (by rw [← HP2.out]; omega) (by rw [← HP3.out]; omega) (by rw [← HP3.out]; omega)).symm : vld (ys.drop 4) = vld xs)
                        by_cases hmk : m = 4
                        ·
                          subst hmk
                          as_aux_lemma =>
                            go_wp2
                            go_quiet (fail)
                            go_wp2
                            go_roundw
                            case rel => exact ⟨_, 0, ys.drop 4, rfl, (by rw [List.drop_of_length_le (by omega)]; exact rd_empty _ _), HF.out, hx.trans (Ext.new _ _ _)⟩
                            case measure => simp [slen]
                        ·
                          as_aux_lemma =>
                            go_wp2
                            go_quiet (fail)
                            go_wp2
                            go_roundw
                            case rel => exact ⟨_, m - 4, ys.drop 4, rfl, (hr.cutF 4).ext (Ext.new _ _ _), HF.out, hx.trans (Ext.new _ _ _)⟩
                            case measure => simp [slen] <;> omega

end Go.Proofs.YtiidjdedeenijaaDoor
