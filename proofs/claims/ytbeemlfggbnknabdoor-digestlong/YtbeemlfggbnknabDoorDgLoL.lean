/- DigestLong's walk. -/
import Derived.Test.YtbeemlfggbnknabDoorDgN
import Derived.Test.YtbeemlfggbnknabDoorDgQ
import Derived.Test.YtbeemlfggbnknabDoorAnyP
namespace Go.Proofs.YtbeemlfggbnknabDoor
open Go.RowKit

theorem hmac_long {K : List Int} (X : List Int) (h : 64 < K.length) : hmac K X = hmac (sha K) X := by
  have hs : (sha K).length = 32 := shaB_len _ _ _
  have e : kroom K = kroom (sha K) := by unfold kroom; rw [if_pos h, if_neg (by omega)]
  unfold hmac sIn sOut; rw [e]

set_option maxRecDepth 100000 in
set_option maxHeartbeats 1000000 in
theorem digestLong_any (a : Option Addr) (n c : Nat) (xs : List Int) (a' : Option Addr) (n' c' : Nat) (ys : List Int) (w : World) (hR : Rd w a n c xs) (hR' : Rd w a' n' c' ys) (hK : Kt w) :
    Calls Tryd.prog 3 #[.slice a n c, .slice a' n' c'] w fun e w' => e = .returned (.bool true) ∧ Below w.heap.size w w' := by
  have hi23 := (size_of Tryd.u23).2
  go_enter Tryd.func3, Tryd.ntmps3
  go_wp2_with (go_at_call 4; refine (fewN a n c xs _ hR).mono ?_; rintro e w1 ⟨a1, n1, c1, rfl, hn1, hr1, hN1, hb1⟩)
  have hl1 := hr1.len
  have ho1 := hN1.1
  rw [hl1] at ho1
  have hbd1 := hN1.2
  clear hN1 hr1
  go_loopw [5] (fun sl wr => ∃ (L : List Int) (a5 : Option Addr) (n5 c5 : Nat), sl = .slice a5 n5 c5 ∧ n5 ≤ 1000 ∧ Hid (L.length = n5) ∧ Bd L ∧ wr.ownsRow w.heap.size 5 1 (.slice a5 n5 c5) n5 (bc L) ∧ Below w.heap.size w wr) (fun sl _ => 1000 - lenV sl)
  case atStart => exact ⟨_, _, _, _, rfl, hn1, hl1, hbd1, ho1, hb1⟩
  case round =>
    clear hl1 ho1 hbd1 hb1
    obtain ⟨L, a5, n5, c5, rfl, hn5, HL, hbd, hown, hb⟩ := hrel
    by_cases h64 : n5 ≤ 64
    · have hcl : (n5 : Int) ≤ 64 := by omega
      have HB : Hid (Below w.heap.size w wr) := hb
      go_wp2_with (at_builtin; refine wp_app1K rfl (.tmp 12) (.tmp 16) rfl w.heap.size _ n5 L rfl hown (n5 : Int) (by omega) (by omega) rfl (by omega) HB.out.size ?_; intro v2 w2 ho2 hb2)
      obtain ⟨a6, c6, rfl, hr6⟩ := Rd.ofOwn ho2 (hbd.append (bd_cons (by omega) (by omega) Bd.nil))
      refine ⟨⟨_, a6, n5 + 1, c6, rfl, by omega, ?_, hbd.append (bd_cons (by omega) (by omega) Bd.nil), ho2, HB.out.trans hb2⟩, by simp only [lenV]; omega⟩
      show (L ++ [(n5 : Int)]).length = n5 + 1
      rw [List.length_append, HL.out]; rfl
    · have hcl : ¬ (n5 : Int) ≤ 64 := by omega
      have hL : Rd wr a5 n5 c5 L := by obtain ⟨_, _, he, h⟩ := Rd.ofOwn hown hbd; cases he; exact h
      have hll := HL.out
      have hsl : (sha L).length = 32 := shaB_len _ _ _
      have hsb : Bd (sha L) := shaB_bd _ _ _
      have HE : Hid (decide (hmac L (ys.take 1000) = hmac (sha L) (ys.take 1000)) = true) := by show _ = _; rw [decide_eq_true_eq]; exact hmac_long _ (by omega)
      obtain ⟨Y, HY⟩ : ∃ Y, Hid (ys.take 1000 = Y) := ⟨_, rfl⟩
      rw [HY.out] at HE
      have hKr := hK.below (Nat.le_refl _) hb
      have hYr := hR'.carry (Nat.le_refl _) hb
      clear hll hown
      go_wp2_with (first
        | (at_builtin; refine wp_app0K rfl _ _ rfl rfl _ n5 c5 L rfl hL (by omega) ?_; intro v7 w7 ho7 hb7 _; obtain ⟨a7, c7, rfl, hr7⟩ := Rd.ofOwn ho7 hbd)
        | (go_at_call 5; refine (sha_any _ n5 c7 L _ hr7 (by omega) (hKr.below (Nat.le_refl _) hb7)).mono ?_; rintro e w8 ⟨rfl, hb8⟩)
        | (refine wp_alloc_ar rfl 24 rfl .u8 (List.replicate 32 0) 32 Tryd.z23 ?_; intro gH w9 A9 hg9 hb9)
        | (refine wp_store_ar rfl 24 (.tmp 6) (.tmp 21) rfl gH rfl .u8 (sha L) rfl 24 _ A9 (by rw [hsl]; rfl) (by rw [hsl]; exact hi23) ?_; intro w10 A10 hk10 hs10; clear hs10))
      have e7 := hb.trans (hb7.mono hb.size)
      have e8 := e7.trans (hb8.mono e7.size)
      have e9 := e8.trans (hb9.mono e8.size)
      have e10 : Below w.heap.size w w10 := e9.trans (hk10.below e9.size (fun q hq => by have := e8.size; omega))
      have b79 := hb7.trans (hb8.mono hb7.size)
      have b99 := b79.trans (hb9.mono b79.size)
      have b10 : Below wr.heap.size wr w10 := b99.trans (hk10.below b99.size (fun q hq => by have := b79.size; omega))
      have hL' := rd_drewN (hL.carry (Nat.le_refl _) b10) 1
      have hY := rd_drewN (hYr.carry (Nat.le_refl _) b10) 1
      have hKW := (hKr.below (Nat.le_refl _) b10).drewN 1
      have hH' := rd_row A10 hsb (by rw [hsl]; unfold maxLen; omega)
      rw [hsl] at hH'
      have hH := rd_drewN hH' 1
      have HB : Hid (Below w.heap.size w w10) := e10
      clear e7 e8 e9 e10 b79 b99 b10 hk10 A10 A9 hb9 hb8 hb7 ho7 hr7 hL hYr hKr hR hR' hK hb hH' hcl hsl
      replace hL := hL'
      clear hL'
      go_wp2_with fail
      refine wp_region_facts [0, 1, 2, 3, 4, 5, 6, 7, 8, 9, 10, 11, 12, 13, 14, 15] (Gl [fEmp, (fEq (.slice a5 n5 c5)), (fRd L 1000), (fEq (.slice a' n' c')), (fRd Y 1000), (fEq (.agg (ic .u8 (hmac L Y)).toArray)), fEmp, (fEq (.slice (some ⟨gH, 0, none⟩) 32 32)), (fRd (sha L) 1000), (fEq (.slice a' n' c')), (fRd Y 1000), (fEq (.agg (ic .u8 (hmac (sha L) Y)).toArray)), (fEq (.bool true)), (fEq (.bool true)), (fEq (.bool true)), (fEq (.bool true))]) 17 1 (by kernel_rfl) (by kernel_rfl) rfl (by kernel_rfl) (lasts_list ?olst) ?oob ?_
      case olst =>
        intro g hg
        simp only [List.mem_cons, List.not_mem_nil, or_false] at hg
        rcases hg with rfl | rfl | rfl | rfl | rfl | rfl | rfl | rfl | rfl | rfl | rfl | rfl | rfl | rfl | rfl | rfl
        · exact lasts_emp
        · exact lasts_eq _
        · exact lasts_rd _ _
        · exact lasts_eq _
        · exact lasts_rd _ _
        · exact lasts_eq _
        · exact lasts_emp
        · exact lasts_eq _
        · exact lasts_rd _ _
        · exact lasts_eq _
        · exact lasts_rd _ _
        · exact lasts_eq _
        · exact lasts_eq _
        · exact lasts_eq _
        · exact lasts_eq _
        · exact lasts_eq _
      case oob =>
        refine (allIn_cons ?o0 (allIn_cons ?o1 (allIn_cons ?o2 (allIn_cons ?o3 (allIn_cons ?o4 (allIn_cons ?o5 (allIn_cons ?o6 (allIn_cons ?o7 (allIn_cons ?o8 (allIn_cons ?o9 (allIn_cons ?o10 (allIn_cons ?o11 (allIn_cons ?o12 (allIn_cons ?o13 (allIn_cons ?o14 (allIn_cons ?o15 allIn_nil))))))))))))))))
        case o0 =>
          refine ob_val 0 rfl rfl (by simp) (fun tm u h => ⟨?ow0, ?_⟩)
          case ow0 => exact wanted_none rfl
          exact ⟨_, _, exec_emp rfl, ⟨u.heap.size, rfl, World.alloc_heap_new _ _⟩, (Below.refl _ _).alloc (Nat.le_refl _) _⟩
        case o1 =>
          refine ob_val 1 rfl rfl (by simp) (fun tm u h => ⟨?ow1, ?_⟩)
          case ow1 => exact wanted_none rfl
          have s5 : tm.getD 5 undef = .slice a5 n5 c5 := h.same 5 (of_decide_eq_true (by kernel_rfl))
          exact ⟨.slice a5 n5 c5, u, by first | (go_simp; done) | (go_simp; rfl), rfl, Below.refl _ _⟩
        case o2 =>
          refine ob_val 2 rfl rfl (by simp) (fun tm u h => ⟨?ow2, ?_⟩)
          case ow2 => exact wanted_none rfl
          obtain ⟨g0, f0, hg0⟩ : fEmp (tm.getD 22 undef) u := h.dep 0 _ _ (by simp) rfl rfl ⟨_, rfl, by kernel_rfl⟩
          have f1 : tm.getD 23 undef = .slice a5 n5 c5 := h.dep 1 _ _ (by simp) rfl rfl ⟨_, rfl, by kernel_rfl⟩
          obtain ⟨a2, c2, u2, hrun, hr2, hb2⟩ := run_appE u _ g0 hg0 a5 n5 c5 L (hL.carry (Nat.le_refl _) h.s) (by omega)
          exact ⟨_, u2, exec_app rfl f0 f1 hrun, ⟨a2, n5, c2, rfl, hn5, hr2⟩, hb2⟩
        case o3 =>
          refine ob_val 3 rfl rfl (by simp) (fun tm u h => ⟨?ow3, ?_⟩)
          case ow3 => exact wanted_none rfl
          have s1 : tm.getD 1 undef = .slice a' n' c' := h.same 1 (of_decide_eq_true (by kernel_rfl))
          exact ⟨.slice a' n' c', u, by first | (go_simp; done) | (go_simp; rfl), rfl, Below.refl _ _⟩
        case o4 =>
          refine ob_call 4 rfl rfl (by simp) (fun tm u h => ⟨?ow4, ?_⟩)
          case ow4 => exact wanted_none rfl
          have f3 : tm.getD 25 undef = .slice a' n' c' := h.dep 3 _ _ (by simp) rfl rfl ⟨_, rfl, by kernel_rfl⟩
          refine ⟨4, #[.slice a' n' c'], by first | (go_simp; done) | (go_simp; rfl), ?_⟩
          refine (fewR a' n' c' ys u (hY.carry (Nat.le_refl _) h.s)).mono ?_
          rintro e u2 ⟨p, q, s, rfl, hq, hr2, hb2⟩
          rw [HY.out] at hr2
          exact ⟨_, rfl, ⟨p, q, s, rfl, hq, hr2⟩, hb2⟩
        case o5 =>
          refine ob_call 5 rfl rfl (by simp) (fun tm u h => ⟨?ow5, ?_⟩)
          case ow5 => exact wanted_none rfl
          obtain ⟨a2, n2, c2, f2, hn2, hr2⟩ : fRd L 1000 (tm.getD 24 undef) u := h.dep 2 _ _ (by simp) rfl rfl ⟨_, rfl, by kernel_rfl⟩
          obtain ⟨a4, n4, c4, f4, hn4, hr4⟩ : fRd Y 1000 (tm.getD 26 undef) u := h.dep 4 _ _ (by simp) rfl rfl ⟨_, rfl, by kernel_rfl⟩
          refine ⟨6, #[.slice a2 n2 c2, .slice a4 n4 c4], by first | (go_simp; done) | (go_simp; rfl), ?_⟩
          refine (hmac_any a2 n2 c2 L a4 n4 c4 Y u hr2 (by omega) hr4 (by omega) (hKW.below (Nat.le_refl _) h.s)).mono ?_
          rintro e u2 ⟨rfl, hb2⟩
          exact ⟨_, rfl, rfl, hb2⟩
        case o6 =>
          refine ob_val 6 rfl rfl (by simp) (fun tm u h => ⟨?ow6, ?_⟩)
          case ow6 => exact wanted_none rfl
          exact ⟨_, _, exec_emp rfl, ⟨u.heap.size, rfl, World.alloc_heap_new _ _⟩, (Below.refl _ _).alloc (Nat.le_refl _) _⟩
        case o7 =>
          refine ob_val 7 rfl rfl (by simp) (fun tm u h => ⟨?ow7, ?_⟩)
          case ow7 => exact wanted_none rfl
          have s6 : tm.getD 6 undef = .pointer (some ⟨gH, 0, none⟩) := h.same 6 (of_decide_eq_true (by kernel_rfl))
          refine ⟨.slice (some ⟨gH, 0, none⟩) 32 32, u, ?_, rfl, Below.refl _ _⟩
          first | (go_simp; done) | (go_simp; rfl)
        case o8 =>
          refine ob_val 8 rfl rfl (by simp) (fun tm u h => ⟨?ow8, ?_⟩)
          case ow8 => exact wanted_none rfl
          obtain ⟨g6, f6, hg6⟩ : fEmp (tm.getD 28 undef) u := h.dep 6 _ _ (by simp) rfl rfl ⟨_, rfl, by kernel_rfl⟩
          have f7 : tm.getD 29 undef = .slice (some ⟨gH, 0, none⟩) 32 32 := h.dep 7 _ _ (by simp) rfl rfl ⟨_, rfl, by kernel_rfl⟩
          obtain ⟨a8, c8, u2, hrun, hr2, hb2⟩ := run_appE u _ g6 hg6 _ 32 32 (sha L) (hH.carry (Nat.le_refl _) h.s) (by omega)
          exact ⟨_, u2, exec_app rfl f6 f7 hrun, ⟨a8, 32, c8, rfl, by omega, hr2⟩, hb2⟩
        case o9 =>
          refine ob_val 9 rfl rfl (by simp) (fun tm u h => ⟨?ow9, ?_⟩)
          case ow9 => exact wanted_none rfl
          have s1 : tm.getD 1 undef = .slice a' n' c' := h.same 1 (of_decide_eq_true (by kernel_rfl))
          exact ⟨.slice a' n' c', u, by first | (go_simp; done) | (go_simp; rfl), rfl, Below.refl _ _⟩
        case o10 =>
          refine ob_call 10 rfl rfl (by simp) (fun tm u h => ⟨?ow10, ?_⟩)
          case ow10 => exact wanted_none rfl
          have f9 : tm.getD 31 undef = .slice a' n' c' := h.dep 9 _ _ (by simp) rfl rfl ⟨_, rfl, by kernel_rfl⟩
          refine ⟨4, #[.slice a' n' c'], by first | (go_simp; done) | (go_simp; rfl), ?_⟩
          refine (fewR a' n' c' ys u (hY.carry (Nat.le_refl _) h.s)).mono ?_
          rintro e u2 ⟨p, q, s, rfl, hq, hr2, hb2⟩
          rw [HY.out] at hr2
          exact ⟨_, rfl, ⟨p, q, s, rfl, hq, hr2⟩, hb2⟩
        case o11 =>
          refine ob_call 11 rfl rfl (by simp) (fun tm u h => ⟨?ow11, ?_⟩)
          case ow11 => exact wanted_none rfl
          obtain ⟨a8, n8, c8, f8, hn8, hr8⟩ : fRd (sha L) 1000 (tm.getD 30 undef) u := h.dep 8 _ _ (by simp) rfl rfl ⟨_, rfl, by kernel_rfl⟩
          obtain ⟨a10, n10, c10, f10, hn10, hr10⟩ : fRd Y 1000 (tm.getD 32 undef) u := h.dep 10 _ _ (by simp) rfl rfl ⟨_, rfl, by kernel_rfl⟩
          refine ⟨6, #[.slice a8 n8 c8, .slice a10 n10 c10], by first | (go_simp; done) | (go_simp; rfl), ?_⟩
          refine (hmac_any a8 n8 c8 (sha L) a10 n10 c10 Y u hr8 (by omega) hr10 (by omega) (hKW.below (Nat.le_refl _) h.s)).mono ?_
          rintro e u2 ⟨rfl, hb2⟩
          exact ⟨_, rfl, rfl, hb2⟩
        case o12 =>
          refine ob_val 12 rfl rfl (by simp) (fun tm u h => ⟨?ow12, ?_⟩)
          case ow12 => exact wanted_none rfl
          have f5 : tm.getD 27 undef = .agg (ic .u8 (hmac L Y)).toArray := h.dep 5 _ _ (by simp) rfl rfl ⟨_, rfl, by kernel_rfl⟩
          have f11 : tm.getD 33 undef = .agg (ic .u8 (hmac (sha L) Y)).toArray := h.dep 11 _ _ (by simp) rfl rfl ⟨_, rfl, by kernel_rfl⟩
          have heq := Tryd.eql23 u (hmac L Y) (hmac (sha L) Y) (hmac_len _ _) (hmac_len _ _)
          rw [HE.out] at heq
          exact ⟨_, u, exec_binOp .eql 24 (.tmp 27) (.tmp 33) _ rfl _ _ _ f5 f11 (Tryd.guard23 u .eql _ _ _ _) heq, rfl, Below.refl _ _⟩
        case o13 =>
          refine ob_val 13 rfl rfl (by simp) (fun tm u h => ⟨?ow13, ?_⟩)
          case ow13 => exact wanted_none rfl
          have f12 : tm.getD 34 undef = .bool true := h.dep 12 _ _ (by simp) rfl rfl ⟨_, rfl, by kernel_rfl⟩
          refine ⟨.bool true, u, ?_, rfl, Below.refl _ _⟩
          first | (go_simp; done) | (go_simp; rfl)
        case o14 =>
          refine ob_call 14 rfl rfl (by simp) (fun tm u h => ⟨?ow14, ?_⟩)
          case ow14 => exact wanted_of rfl rfl rfl (by rw [h.sz]; simp) (h.dep 13 _ _ (by simp) rfl rfl ⟨_, rfl, by kernel_rfl⟩)
          refine ⟨7, #[], by first | (go_simp; done) | (go_simp; rfl), ?_⟩
          refine (wakes_any u (hKW.below (Nat.le_refl _) h.s)).mono ?_
          rintro e u2 ⟨rfl, hb2⟩
          exact ⟨_, rfl, rfl, hb2⟩
        case o15 =>
          refine ob_val 15 rfl rfl (by simp) (fun tm u h => ⟨?ow15, ?_⟩)
          case ow15 => exact wanted_none rfl
          have f13 : tm.getD 35 undef = .bool true := h.dep 13 _ _ (by simp) rfl rfl ⟨_, rfl, by kernel_rfl⟩
          have f14 : tm.getD 36 undef = .bool true := h.dep 14 _ _ (by simp) rfl rfl ⟨_, rfl, by kernel_rfl⟩
          refine ⟨.bool true, u, ?_, rfl, Below.refl _ _⟩
          first | (go_simp; done) | (go_simp; rfl)
      intro af wf hAO
      have hv : af.tmps.getD 37 undef = .bool true := hAO.got 15 _ _ rfl (by simp) rfl rfl
      have hs := hAO.s
      obtain ⟨tm, dfx⟩ := af
      obtain rfl : dfx = [] := hAO.df
      have hsz : tm.size = 38 := hAO.sz
      refine lx_one 16 (by kernel_rfl) (stepT_val (w' := wf) (.bool true) rfl rfl rfl ?_ (fun _ => trivial) ?_)
      · first | (go_simp; done) | (go_simp; rfl)
      refine lx_nil (by kernel_rfl) ?_
      have e9 : Below w.heap.size w wf := HB.out.drew.trans (hs.mono HB.out.drew.size)
      have hr : (tm.setIfInBounds 4 (Value.bool true)).getD 4 undef = .bool true := by rw [Array.getD_eq_getD_getElem?, Array.getElem?_setIfInBounds_self_of_lt (by omega)]; rfl
      generalize tm.setIfInBounds 4 (Value.bool true) = tf at hr
      clear hAO hv hs hsz
      go_wp2_with fail
      refine bodyPost_ret (results_tmp (t := 4) Tryd.results3 _ _ _) rfl ⟨?_, e9⟩
      exact congrArg Ending.returned hr
end Go.Proofs.YtbeemlfggbnknabDoor
