/- Texts of one seat, one behind the other: PvPi. -/
import Derived.Test.YtiplalbicibahaaGreatDoorM8
/- PrivacyOwn: what is handed in stays as it was and is not kept; what is told is the caller's own. -/
set_option maxRecDepth 100000
namespace Go.Proofs.YtiplalbicibahaaGreatDoor
open Go.RowKit Go.Joins Go.Shelf

theorem exec_load_sh {o : Oper} {ρ : Operand → Value} {w : World} (x : Operand) (ho : o.op = .load 38 x) (g : Nat) (hx : ρ x = .pointer (some ⟨g, 0, none⟩)) (c : Array Value) (hc : c.size = 5) (hg : ShAt w g c) : (execOp ρ o).run Tryz.prog w = .ok (.value (.agg c)) w := by
  unfold execOp
  simp only [ho, hx, Instr.loadAt, Instr.sureAddr, Sem.run_bind, Sem.run_pure, Result.andThen_ok, run_load_sh hc hg]
theorem Tw.madeZ {B T : Nat} {w0 w1 w2 : World} {p q : Nat} {P : Pl} {F G : Nat → Prop} {Z : Nat → Prop} (hL : LsAt w1 F p P) (hF : ∀ i, F i → T ≤ i) (hT : B ≤ T) (hTw : T ≤ w1.heap.size) (hb : Below B w0 w1) (hQ : QAt w2 G q P) (hG : ∀ i, G i → w1.heap.size ≤ i) (hb2 : Below w1.heap.size w1 w2) (hZ : ∀ i, Z i → i < T) : Tw B w0 w2 p q P P Z :=
  ⟨⟨F, G, hL.below hb2, hQ, fun i hi => ⟨by have := hF i hi; omega, fun z => by have := hF i hi; have := hZ i z; omega⟩, fun i hi => ⟨by have := hG i hi; omega, fun z => by have := hG i hi; have := hZ i z; omega⟩, fun i hi hg => by have := hL.lt i hi; have := hG i hg; omega⟩, hb.trans (hb2.mono (by omega)), by have := hb2.size; omega, fun i z => by have := hZ i z; have := hb2.size; omega⟩
def wZed : By := [122, 101, 100]
set_option maxHeartbeats 6400000 in
theorem ownL_none (a1 : Option Addr) (n1 c1 : Nat) (x2 : Option Addr) (m2 d2 : Nat) (a : Option Addr) (n c : Nat) (us' : List By) (w : World) (li ru : Int) (us : By) (ns : List By) (tss : List (List By)) (hN : TRd w a1 n1 c1 ns) (hT : TTd w x2 m2 d2 tss) (hu : us.length ≤ 9223372036854775807) (hO : TRd w a n c us') (hU : Lib.Utf8Tabs 0 1 w) (hLR : loadR li ru us (cutT ns 20 80) (cutTT tss) = none) :
    Calls Tryz.prog 5 #[.agg (shc li ru us (.slice a1 n1 c1) (.slice x2 m2 d2)), .slice a n c] w fun e w' => e = .returned (.bool true) ∧ Below w.heap.size w w' := by
  obtain ⟨B, HB⟩ : ∃ B, Hid (w.heap.size = B) := ⟨_, rfl⟩
  have HA : Hid (TRd w a1 n1 c1 ns ∧ TTd w x2 m2 d2 tss ∧ TRd w a n c us' ∧ Lib.Utf8Tabs 0 1 w) := ⟨hN, hT, hO, hU⟩
  have HS : Hid (Small us (cutT ns 20 80) (cutTT tss) ∧ (cutT ns 20 80).length ≤ 20 ∧ ∀ ts ∈ cutTT tss, ts.length ≤ 20) := ⟨cut_small us ns tss hu, cutT_len ns 20 80, fun ts hts => ((cut_small us ns tss hu).t ts hts).1⟩
  obtain ⟨NS, HNS⟩ : ∃ NS, Hid (cutT ns 20 80 = NS) := ⟨_, rfl⟩
  obtain ⟨TS, HTS⟩ : ∃ TS, Hid (cutTT tss = TS) := ⟨_, rfl⟩
  rw [HNS.out, HTS.out] at HS
  obtain ⟨A, HAl⟩ : ∃ A, Hid (cutT us' 20 120 = A) := ⟨_, rfl⟩
  obtain ⟨N, HNl⟩ : ∃ N, Hid (A.length = N) := ⟨_, rfl⟩
  have HA20 : Hid (N ≤ 20 ∧ ∀ t ∈ A, t.length ≤ 120) := by
    have h1 := cutT_len us' 20 120
    have h2 := cutT_size us' 20 120
    rw [HAl.out] at h1 h2
    rw [HNl.out] at h1
    exact ⟨h1, h2⟩
  have HLR : Hid (loadR li ru us NS TS = none) := by show loadR li ru us NS TS = _; rw [← HNS.out, ← HTS.out]; exact hLR
  have HX : Hid (ShAt (w.alloc (.cells (shc li ru us (.slice a1 n1 c1) (.slice x2 m2 d2)) 38)) B (shc li ru us (.slice a1 n1 c1) (.slice x2 m2 d2)) ∧ Below B w (w.alloc (.cells (shc li ru us (.slice a1 n1 c1) (.slice x2 m2 d2)) 38)) ∧ (w.alloc (.cells (shc li ru us (.slice a1 n1 c1) (.slice x2 m2 d2)) 38)).heap.size = B + 1) := by
    rw [← HB.out]
    exact ⟨push_at _ _ rfl, below1 _ _, by simp⟩
  have hSR : Hid (∀ W, Below B w W → ShR W (.agg (shc li ru us (.slice a1 n1 c1) (.slice x2 m2 d2))) li ru us ns tss) := fun W hb => ⟨a1, n1, c1, x2, m2, d2, rfl, HA.out.1.below (by rw [HB.out]; exact hb), HA.out.2.1.below (by rw [HB.out]; exact hb)⟩
  have cT : Hid (∀ W, Below B w W → Calls Tryz.prog 14 #[.agg (shc li ru us (.slice a1 n1 c1) (.slice x2 m2 d2))] W fun e w' => ∃ a5 n5 c5 x5 m5 d5, e = .returned (.agg (shc li ru us (.slice a5 n5 c5) (.slice x5 m5 d5))) ∧ Hid (ShR w' (.agg (shc li ru us (.slice a5 n5 c5) (.slice x5 m5 d5))) li ru us NS TS ∧ (∃ Z : Nat → Prop, SpZ w' Z (.agg (shc li ru us (.slice a5 n5 c5) (.slice x5 m5 d5))) ∧ ∀ i, Z i → W.heap.size ≤ i ∧ i < w'.heap.size) ∧ Below W.heap.size W w')) := fun W hb =>
    (twin_any _ W li ru us ns tss (hSR.out W hb)).mono (fun e w' hh => by
      rw [HNS.out, HTS.out] at hh
      obtain ⟨S', h1, h2, h3⟩ := hh
      have h4 := h2.read
      have h5 := h2.spz
      obtain ⟨a5, n5, c5, x5, m5, d5, rfl, h6⟩ := h4
      exact ⟨a5, n5, c5, x5, m5, d5, h1, ⟨a5, n5, c5, x5, m5, d5, rfl, h6⟩, h5, h3⟩)
  have cX : Hid (∀ W, Below B w W → Calls Tryz.prog 17 #[.slice a n c, .int .i64 20, .int .i64 120] W fun e W' => ∃ a c, e = .returned (.slice a N c) ∧ W'.ownsRow W.heap.size 9 1 (.slice a N c) N (tc A) ∧ Below W.heap.size W W') := fun W hb =>
    (texts_any a n c us' 20 120 W (HA.out.2.2.1.below (by rw [HB.out]; exact hb)) (by omega) (by omega)).mono (fun e W' hh => by
      rw [HAl.out, HNl.out] at hh
      obtain ⟨v, rfl, ho, hb⟩ := hh
      obtain ⟨a, c, rfl⟩ := ownR_sl ho
      exact ⟨a, c, rfl, ho, hb⟩)
  have hTab : Hid (∀ W, Below B w W → Lib.Utf8Tabs 0 1 W) := fun W hb => tabs_bel HA.out.2.2.2 (by rw [HB.out]; exact hb)
  clear hN hT hu hO hU
  go_enter Tryz.func5, Tryz.ntmps5
  go_upto_region 1 with fail
  rw [HB.out]
  generalize w.alloc _ = X at HX ⊢
  have cT1 := cT.out X HX.out.2.1
  go_upto_region 2 with (first
    | (refine wp_load_sh rfl (.tmp 2) rfl B rfl (shc li ru us (.slice a1 n1 c1) (.slice x2 m2 d2)) rfl HX.out.1 ?_)
    | (go_at_call 14; refine cT1.mono ?_; clear cT1; rintro e w1 ⟨a5, n5, c5, x5, m5, d5, rfl, hs1⟩)
    | (refine wp_store_sh rfl (.tmp 5) (.tmp 13) rfl w1.heap.size rfl (shc li ru us (.slice a5 n5 c5) (.slice x5 m5 d5)) rfl (by simp [shc, Value.oneCell']) rfl shZ rfl (push_at _ _ rfl) ?_))
  obtain ⟨Z1, HZ1⟩ := hs1.out.2.1
  have HW : Hid (ShAt ((w1.alloc (.cells shZ 38)).setRow w1.heap.size (shc li ru us (.slice a5 n5 c5) (.slice x5 m5 d5))) w1.heap.size (shc li ru us (.slice a5 n5 c5) (.slice x5 m5 d5)) ∧ Below w1.heap.size w1 ((w1.alloc (.cells shZ 38)).setRow w1.heap.size (shc li ru us (.slice a5 n5 c5) (.slice x5 m5 d5))) ∧ w1.heap.size + 1 ≤ ((w1.alloc (.cells shZ 38)).setRow w1.heap.size (shc li ru us (.slice a5 n5 c5) (.slice x5 m5 d5))).heap.size) := by
    have hk := rowK (w1.alloc (.cells shZ 38)) w1.heap.size (shc li ru us (.slice a5 n5 c5) (.slice x5 m5 d5))
    have h1 : ShAt ((w1.alloc (.cells shZ 38)).setRow w1.heap.size (shc li ru us (.slice a5 n5 c5) (.slice x5 m5 d5))) w1.heap.size (shc li ru us (.slice a5 n5 c5) (.slice x5 m5 d5)) := setRow_heap _ w1.heap.size _ _ 38 (0, 0) (push_at _ _ rfl)
    exact ⟨h1, (below1 w1 (.cells shZ 38)).trans (hk.below (by simp) (fun j e => by omega)), box_lt h1⟩
  unfold shZ at HW
  generalize World.setRow _ _ _ = W1 at HW ⊢
  obtain ⟨g5, Hg5⟩ : ∃ g5, Hid (w1.heap.size = g5) := ⟨_, rfl⟩
  rw [Hg5.out] at HW ⊢
  have H1 : Hid (ShAt W1 B (shc li ru us (.slice a1 n1 c1) (.slice x2 m2 d2)) ∧ ShAt W1 g5 (shc li ru us (.slice a5 n5 c5) (.slice x5 m5 d5)) ∧ Below B w W1 ∧ B + 1 ≤ W1.heap.size ∧ ShR W1 (.agg (shc li ru us (.slice a5 n5 c5) (.slice x5 m5 d5))) li ru us NS TS ∧ SpZ W1 Z1 (.agg (shc li ru us (.slice a5 n5 c5) (.slice x5 m5 d5))) ∧ ∀ i, Z1 i → B + 1 ≤ i ∧ i < W1.heap.size) := by
    have hb1 := hs1.out.2.2
    have hz0 := HX.out.2.2
    have hz1 := hb1.size
    have hz2 := HW.out.2.2
    have hg := Hg5.out
    have hbW : Below w1.heap.size w1 W1 := by rw [hg]; exact HW.out.2.1
    exact ⟨box_below (box_below HX.out.1 hb1) hbW, HW.out.1, (HX.out.2.1.trans (hb1.mono (by omega))).trans (hbW.mono (by omega)), by omega, hs1.out.1.below hbW, HZ1.1.below hbW, fun i hi => by have := HZ1.2 i hi; omega⟩
  clear hs1 HZ1 HW HX
  have cL := pvLoad_any _ W1 li ru us NS TS H1.out.2.2.2.2.1 HS.out.1 (hTab.out W1 H1.out.2.2.1)
  rw [HLR.out] at cL
  go_upto_region 3 with (first
    | (refine wp_load_sh rfl (.tmp 5) rfl g5 rfl (shc li ru us (.slice a5 n5 c5) (.slice x5 m5 d5)) rfl H1.out.2.1 ?_)
    | (go_at_call 13; refine cL.mono ?_; clear cL; rintro e w2 ⟨hl2, hb2⟩; replace hl2 : e = .returned (.tuple #[.pointer none, .int .i64 1]) := hl2; subst hl2))
  have H2 : Hid (ShAt w2 B (shc li ru us (.slice a1 n1 c1) (.slice x2 m2 d2)) ∧ ShAt w2 g5 (shc li ru us (.slice a5 n5 c5) (.slice x5 m5 d5)) ∧ Below B w w2 ∧ W1.heap.size ≤ w2.heap.size ∧ ShR w2 (.agg (shc li ru us (.slice a5 n5 c5) (.slice x5 m5 d5))) li ru us NS TS ∧ SpZ w2 Z1 (.agg (shc li ru us (.slice a5 n5 c5) (.slice x5 m5 d5)))) :=
    ⟨box_below H1.out.1 hb2, box_below H1.out.2.1 hb2, H1.out.2.2.1.trans (hb2.mono (by have := H1.out.2.2.2.1; omega)), hb2.size, H1.out.2.2.2.2.1.below hb2, H1.out.2.2.2.2.2.1.below hb2⟩
  have cT2 := cT.out w2 H2.out.2.2.1
  clear hb2
  go_upto_region 4 with (first
    | (refine wp_load_sh rfl (.tmp 2) rfl B rfl (shc li ru us (.slice a1 n1 c1) (.slice x2 m2 d2)) rfl H2.out.1 ?_)
    | (go_at_call 14; refine cT2.mono ?_; clear cT2; rintro e w3 ⟨a6, n6, c6, x6, m6, d6, rfl, hs3⟩; have cM := qLoad_any _ w3 li ru us NS TS hs3.out.1 HS.out.1; rw [HLR.out] at cM)
    | (go_at_call 15; refine cM.mono ?_; clear cM; rintro e w4 ⟨hl4, hb4⟩; replace hl4 : e = .returned (.tuple #[.pointer none, .bool false]) := hl4; subst hl4))
  have H4 : Hid (ShAt w4.drew B (shc li ru us (.slice a1 n1 c1) (.slice x2 m2 d2)) ∧ ShAt w4.drew g5 (shc li ru us (.slice a5 n5 c5) (.slice x5 m5 d5)) ∧ Below B w w4.drew ∧ W1.heap.size ≤ w4.drew.heap.size ∧ ShR w4.drew (.agg (shc li ru us (.slice a5 n5 c5) (.slice x5 m5 d5))) li ru us NS TS ∧ SpZ w4.drew Z1 (.agg (shc li ru us (.slice a5 n5 c5) (.slice x5 m5 d5)))) := by
    have hb3 := hs3.out.2.2
    have hz3 := hb3.size
    have hz4 := hb4.size
    have h1 := H1.out.2.2.2.1
    have h2 := H2.out.2.2.2.1
    have hbb : Below w2.heap.size w2 w4.drew := (hb3.trans (hb4.mono hz3)).drew
    exact ⟨box_below H2.out.1 hbb, box_below H2.out.2.1 hbb, H2.out.2.2.1.trans (hbb.mono (by omega)), Nat.le_trans h2 hbb.size, H2.out.2.2.2.2.1.below hbb, H2.out.2.2.2.2.2.below hbb⟩
  clear hb4 hs3 H2
  refine wp_region_lx (fun w' => ShAt w' B (shc li ru us (.slice a1 n1 c1) (.slice x2 m2 d2)) ∧ ShAt w' g5 (shc li ru us (.slice a5 n5 c5) (.slice x5 m5 d5))) [] 9 (by kernel_rfl) (by kernel_rfl) ?_
  generalize World.drew _ = Y at H4 ⊢
  have HS0 : ShAt Y B (shc li ru us (.slice a1 n1 c1) (.slice x2 m2 d2)) ∧ ShAt Y g5 (shc li ru us (.slice a5 n5 c5) (.slice x5 m5 d5)) := ⟨H4.out.1, H4.out.2.1⟩
  refine lx_rd 0 (.agg (shc li ru us (.slice a5 n5 c5) (.slice x5 m5 d5))) (by kernel_rfl) (fun _ _ d _ _ h => by cases d <;> exact h) (by kernel_rfl) HS0 rfl rfl rfl (fun w' hS => ?hA00) ?_
  case hA00 => exact exec_load_sh (.tmp 5) rfl g5 rfl (shc li ru us (.slice a5 n5 c5) (.slice x5 m5 d5)) rfl hS.2
  simp only [List.setIfInBounds_toArray, List.set_cons_zero, List.set_cons_succ]
  refine lx_rd 1 (.agg (shc li ru us (.slice a1 n1 c1) (.slice x2 m2 d2))) (by kernel_rfl) (fun _ _ d _ _ h => by cases d <;> exact h) (by kernel_rfl) HS0 rfl rfl rfl (fun w' hS => ?hA01) ?_
  case hA01 => exact exec_load_sh (.tmp 2) rfl B rfl (shc li ru us (.slice a1 n1 c1) (.slice x2 m2 d2)) rfl hS.1
  simp only [List.setIfInBounds_toArray, List.set_cons_zero, List.set_cons_succ]
  refine lx_one 2 (by kernel_rfl) (stepT_call 14 ?ac0 rfl rfl rfl ?rc0 ?_)
  case rc0 => first | (go_simp; rfl) | go_simp
  refine (cT.out Y H4.out.2.2.1).mono ?_
  rintro e Y1 ⟨a7, n7, c7, x7, m7, d7, rfl, hs5⟩
  have hb5 := hs5.out.2.2
  have HS1 : ShAt Y1 B (shc li ru us (.slice a1 n1 c1) (.slice x2 m2 d2)) ∧ ShAt Y1 g5 (shc li ru us (.slice a5 n5 c5) (.slice x5 m5 d5)) := ⟨box_below HS0.1 hb5, box_below HS0.2 hb5⟩
  refine ⟨_, rfl, fun _ => HS1, ?_⟩
  simp only [lxa, lxb, lxc]
  refine lx_one 3 (by kernel_rfl) (stepT_call 10 ?ad0 rfl rfl rfl ?rd0 ?_)
  case rd0 => first | (go_simp; rfl) | go_simp
  refine (sameShelf_any Y1 _ _ li ru us NS TS (H4.out.2.2.2.2.1.below hb5) hs5.out.1).mono ?_
  rintro e Y2 ⟨rfl, hb6⟩
  have HS2 : ShAt Y2 B (shc li ru us (.slice a1 n1 c1) (.slice x2 m2 d2)) ∧ ShAt Y2 g5 (shc li ru us (.slice a5 n5 c5) (.slice x5 m5 d5)) := ⟨box_below HS1.1 hb6, box_below HS1.2 hb6⟩
  refine ⟨_, rfl, fun _ => HS2, ?_⟩
  simp only [lxa, lxb, lxc]
  refine lx_rd 4 (.bool false) (by kernel_rfl) (fun _ _ d _ _ h => by cases d <;> exact h) (by kernel_rfl) HS2 rfl rfl rfl (fun w' hS => ?hB04) ?_
  case hB04 => first | (go_simp; rfl) | go_simp
  simp only [List.setIfInBounds_toArray, List.set_cons_zero, List.set_cons_succ]
  refine lx_rd 5 (.bool false) (by kernel_rfl) (fun _ _ d _ _ h => by cases d <;> exact h) (by kernel_rfl) HS2 rfl rfl rfl (fun w' hS => ?hB05) ?_
  case hB05 => first | (go_simp; rfl) | go_simp
  simp only [List.setIfInBounds_toArray, List.set_cons_zero, List.set_cons_succ]
  have hbY : Hid (Below B w Y2 ∧ W1.heap.size ≤ Y2.heap.size ∧ Below Y.heap.size Y Y2) := by
    have hz5 := hb5.size
    have hz6 := hb6.size
    have h1 := H4.out.2.2.2.1
    have h2 := H1.out.2.2.2.1
    have hbb : Below Y.heap.size Y Y2 := hb5.trans (hb6.mono hz5)
    exact ⟨H4.out.2.2.1.trans (hbb.mono (by omega)), by omega, hbb⟩
  refine lx_one 6 (by kernel_rfl) (stepT_call 8 ?ae0 rfl rfl rfl ?re0 ?_)
  case re0 => first | (go_simp; rfl) | go_simp
  refine (wakes_any Y2 (hTab.out Y2 hbY.out.1)).mono ?_
  rintro e Y3 ⟨rfl, hb7⟩
  have HS3 : ShAt Y3 B (shc li ru us (.slice a1 n1 c1) (.slice x2 m2 d2)) ∧ ShAt Y3 g5 (shc li ru us (.slice a5 n5 c5) (.slice x5 m5 d5)) := ⟨box_below HS2.1 hb7, box_below HS2.2 hb7⟩
  refine ⟨_, rfl, fun _ => HS3, ?_⟩
  simp only [lxa, lxb, lxc]
  refine lx_rd 7 (.bool false) (by kernel_rfl) (fun _ _ d _ _ h => by cases d <;> exact h) (by kernel_rfl) HS3 rfl rfl rfl (fun w' hS => ?hC07) ?_
  case hC07 => first | (go_simp; rfl) | go_simp
  simp only [List.setIfInBounds_toArray, List.set_cons_zero, List.set_cons_succ]
  refine lx_rd 8 (.bool false) (by kernel_rfl) (fun _ _ d _ _ h => by cases d <;> exact h) (by kernel_rfl) HS3 rfl rfl rfl (fun w' hS => ?hC08) ?_
  case hC08 => first | (go_simp; rfl) | go_simp
  simp only [List.setIfInBounds_toArray, List.set_cons_zero, List.set_cons_succ]
  refine lx_nil (by kernel_rfl) ?_
  have hbZ : Hid (Below B w Y3 ∧ Below Y.heap.size Y Y3) := ⟨hbY.out.1.trans (hb7.mono (by have := hbY.out.2.1; have := H1.out.2.2.2.1; omega)), hbY.out.2.2.trans (hb7.mono hbY.out.2.2.size)⟩
  clear HS0 HS1 HS2 HS3 hs5 hb5 hb6 hb7
  go_wp2
  go_ret
  exact ⟨rfl, by rw [HB.out]; exact hbZ.out.1⟩
set_option maxHeartbeats 6400000 in
theorem ownL_some (a1 : Option Addr) (n1 c1 : Nat) (x2 : Option Addr) (m2 d2 : Nat) (a : Option Addr) (n c : Nat) (us' : List By) (w : World) (li ru : Int) (us : By) (ns : List By) (tss : List (List By)) (hN : TRd w a1 n1 c1 ns) (hT : TTd w x2 m2 d2 tss) (hu : us.length ≤ 9223372036854775807) (hO : TRd w a n c us') (hU : Lib.Utf8Tabs 0 1 w) (P0 : Pl) (hLR : loadR li ru us (cutT ns 20 80) (cutTT tss) = some P0) :
    Calls Tryz.prog 5 #[.agg (shc li ru us (.slice a1 n1 c1) (.slice x2 m2 d2)), .slice a n c] w fun e w' => e = .returned (.bool true) ∧ Below w.heap.size w w' := by
  obtain ⟨B, HB⟩ : ∃ B, Hid (w.heap.size = B) := ⟨_, rfl⟩
  have HA : Hid (TRd w a1 n1 c1 ns ∧ TTd w x2 m2 d2 tss ∧ TRd w a n c us' ∧ Lib.Utf8Tabs 0 1 w) := ⟨hN, hT, hO, hU⟩
  have HS : Hid (Small us (cutT ns 20 80) (cutTT tss) ∧ (cutT ns 20 80).length ≤ 20 ∧ ∀ ts ∈ cutTT tss, ts.length ≤ 20) := ⟨cut_small us ns tss hu, cutT_len ns 20 80, fun ts hts => ((cut_small us ns tss hu).t ts hts).1⟩
  obtain ⟨NS, HNS⟩ : ∃ NS, Hid (cutT ns 20 80 = NS) := ⟨_, rfl⟩
  obtain ⟨TS, HTS⟩ : ∃ TS, Hid (cutTT tss = TS) := ⟨_, rfl⟩
  rw [HNS.out, HTS.out] at HS
  obtain ⟨A, HAl⟩ : ∃ A, Hid (cutT us' 20 120 = A) := ⟨_, rfl⟩
  obtain ⟨N, HNl⟩ : ∃ N, Hid (A.length = N) := ⟨_, rfl⟩
  have HA20 : Hid (N ≤ 20 ∧ ∀ t ∈ A, t.length ≤ 120) := by
    have h1 := cutT_len us' 20 120
    have h2 := cutT_size us' 20 120
    rw [HAl.out] at h1 h2
    rw [HNl.out] at h1
    exact ⟨h1, h2⟩
  have HLR : Hid (loadR li ru us NS TS = some P0) := by show loadR li ru us NS TS = _; rw [← HNS.out, ← HTS.out]; exact hLR
  have HX : Hid (ShAt (w.alloc (.cells (shc li ru us (.slice a1 n1 c1) (.slice x2 m2 d2)) 38)) B (shc li ru us (.slice a1 n1 c1) (.slice x2 m2 d2)) ∧ Below B w (w.alloc (.cells (shc li ru us (.slice a1 n1 c1) (.slice x2 m2 d2)) 38)) ∧ (w.alloc (.cells (shc li ru us (.slice a1 n1 c1) (.slice x2 m2 d2)) 38)).heap.size = B + 1) := by
    rw [← HB.out]
    exact ⟨push_at _ _ rfl, below1 _ _, by simp⟩
  have hSR : Hid (∀ W, Below B w W → ShR W (.agg (shc li ru us (.slice a1 n1 c1) (.slice x2 m2 d2))) li ru us ns tss) := fun W hb => ⟨a1, n1, c1, x2, m2, d2, rfl, HA.out.1.below (by rw [HB.out]; exact hb), HA.out.2.1.below (by rw [HB.out]; exact hb)⟩
  have cT : Hid (∀ W, Below B w W → Calls Tryz.prog 14 #[.agg (shc li ru us (.slice a1 n1 c1) (.slice x2 m2 d2))] W fun e w' => ∃ a5 n5 c5 x5 m5 d5, e = .returned (.agg (shc li ru us (.slice a5 n5 c5) (.slice x5 m5 d5))) ∧ Hid (ShR w' (.agg (shc li ru us (.slice a5 n5 c5) (.slice x5 m5 d5))) li ru us NS TS ∧ (∃ Z : Nat → Prop, SpZ w' Z (.agg (shc li ru us (.slice a5 n5 c5) (.slice x5 m5 d5))) ∧ ∀ i, Z i → W.heap.size ≤ i ∧ i < w'.heap.size) ∧ Below W.heap.size W w')) := fun W hb =>
    (twin_any _ W li ru us ns tss (hSR.out W hb)).mono (fun e w' hh => by
      rw [HNS.out, HTS.out] at hh
      obtain ⟨S', h1, h2, h3⟩ := hh
      have h4 := h2.read
      have h5 := h2.spz
      obtain ⟨a5, n5, c5, x5, m5, d5, rfl, h6⟩ := h4
      exact ⟨a5, n5, c5, x5, m5, d5, h1, ⟨a5, n5, c5, x5, m5, d5, rfl, h6⟩, h5, h3⟩)
  have cX : Hid (∀ W, Below B w W → Calls Tryz.prog 17 #[.slice a n c, .int .i64 20, .int .i64 120] W fun e W' => ∃ a c, e = .returned (.slice a N c) ∧ W'.ownsRow W.heap.size 9 1 (.slice a N c) N (tc A) ∧ Below W.heap.size W W') := fun W hb =>
    (texts_any a n c us' 20 120 W (HA.out.2.2.1.below (by rw [HB.out]; exact hb)) (by omega) (by omega)).mono (fun e W' hh => by
      rw [HAl.out, HNl.out] at hh
      obtain ⟨v, rfl, ho, hb⟩ := hh
      obtain ⟨a, c, rfl⟩ := ownR_sl ho
      exact ⟨a, c, rfl, ho, hb⟩)
  have hTab : Hid (∀ W, Below B w W → Lib.Utf8Tabs 0 1 W) := fun W hb => tabs_bel HA.out.2.2.2 (by rw [HB.out]; exact hb)
  clear hN hT hu hO hU
  have HK : Hid (Nice P0 20 ∧ Kept P0) := by
    have := load_nice HLR.out HS.out.1.nl HS.out.2.2
    exact ⟨this.1.mono HS.out.2.1, this.2⟩
  go_enter Tryz.func5, Tryz.ntmps5
  go_upto_region 1 with fail
  rw [HB.out]
  generalize w.alloc _ = X at HX ⊢
  have cT1 := cT.out X HX.out.2.1
  go_upto_region 2 with (first
    | (refine wp_load_sh rfl (.tmp 2) rfl B rfl (shc li ru us (.slice a1 n1 c1) (.slice x2 m2 d2)) rfl HX.out.1 ?_)
    | (go_at_call 14; refine cT1.mono ?_; clear cT1; rintro e w1 ⟨a5, n5, c5, x5, m5, d5, rfl, hs1⟩)
    | (refine wp_store_sh rfl (.tmp 5) (.tmp 13) rfl w1.heap.size rfl (shc li ru us (.slice a5 n5 c5) (.slice x5 m5 d5)) rfl (by simp [shc, Value.oneCell']) rfl shZ rfl (push_at _ _ rfl) ?_))
  obtain ⟨Z1, HZ1⟩ := hs1.out.2.1
  have HW : Hid (ShAt ((w1.alloc (.cells shZ 38)).setRow w1.heap.size (shc li ru us (.slice a5 n5 c5) (.slice x5 m5 d5))) w1.heap.size (shc li ru us (.slice a5 n5 c5) (.slice x5 m5 d5)) ∧ Below w1.heap.size w1 ((w1.alloc (.cells shZ 38)).setRow w1.heap.size (shc li ru us (.slice a5 n5 c5) (.slice x5 m5 d5))) ∧ w1.heap.size + 1 ≤ ((w1.alloc (.cells shZ 38)).setRow w1.heap.size (shc li ru us (.slice a5 n5 c5) (.slice x5 m5 d5))).heap.size) := by
    have hk := rowK (w1.alloc (.cells shZ 38)) w1.heap.size (shc li ru us (.slice a5 n5 c5) (.slice x5 m5 d5))
    have h1 : ShAt ((w1.alloc (.cells shZ 38)).setRow w1.heap.size (shc li ru us (.slice a5 n5 c5) (.slice x5 m5 d5))) w1.heap.size (shc li ru us (.slice a5 n5 c5) (.slice x5 m5 d5)) := setRow_heap _ w1.heap.size _ _ 38 (0, 0) (push_at _ _ rfl)
    exact ⟨h1, (below1 w1 (.cells shZ 38)).trans (hk.below (by simp) (fun j e => by omega)), box_lt h1⟩
  unfold shZ at HW
  generalize World.setRow _ _ _ = W1 at HW ⊢
  obtain ⟨g5, Hg5⟩ : ∃ g5, Hid (w1.heap.size = g5) := ⟨_, rfl⟩
  rw [Hg5.out] at HW ⊢
  have H1 : Hid (ShAt W1 B (shc li ru us (.slice a1 n1 c1) (.slice x2 m2 d2)) ∧ ShAt W1 g5 (shc li ru us (.slice a5 n5 c5) (.slice x5 m5 d5)) ∧ Below B w W1 ∧ B + 1 ≤ W1.heap.size ∧ ShR W1 (.agg (shc li ru us (.slice a5 n5 c5) (.slice x5 m5 d5))) li ru us NS TS ∧ SpZ W1 Z1 (.agg (shc li ru us (.slice a5 n5 c5) (.slice x5 m5 d5))) ∧ ∀ i, Z1 i → B + 1 ≤ i ∧ i < W1.heap.size) := by
    have hb1 := hs1.out.2.2
    have hz0 := HX.out.2.2
    have hz1 := hb1.size
    have hz2 := HW.out.2.2
    have hg := Hg5.out
    have hbW : Below w1.heap.size w1 W1 := by rw [hg]; exact HW.out.2.1
    exact ⟨box_below (box_below HX.out.1 hb1) hbW, HW.out.1, (HX.out.2.1.trans (hb1.mono (by omega))).trans (hbW.mono (by omega)), by omega, hs1.out.1.below hbW, HZ1.1.below hbW, fun i hi => by have := HZ1.2 i hi; omega⟩
  clear hs1 HZ1 HW HX
  have cL := pvLoad_any _ W1 li ru us NS TS H1.out.2.2.2.2.1 HS.out.1 (hTab.out W1 H1.out.2.2.1)
  rw [HLR.out] at cL
  go_upto_region 3 with (first
    | (refine wp_load_sh rfl (.tmp 5) rfl g5 rfl (shc li ru us (.slice a5 n5 c5) (.slice x5 m5 d5)) rfl H1.out.2.1 ?_)
    | (go_at_call 13; refine cL.mono ?_; clear cL; rintro e w2 ⟨⟨p, F, he, hL, hF⟩, hb2⟩; subst he))
  have H2 : Hid (ShAt w2 B (shc li ru us (.slice a1 n1 c1) (.slice x2 m2 d2)) ∧ ShAt w2 g5 (shc li ru us (.slice a5 n5 c5) (.slice x5 m5 d5)) ∧ Below B w w2 ∧ W1.heap.size ≤ w2.heap.size ∧ ShR w2 (.agg (shc li ru us (.slice a5 n5 c5) (.slice x5 m5 d5))) li ru us NS TS ∧ SpZ w2 Z1 (.agg (shc li ru us (.slice a5 n5 c5) (.slice x5 m5 d5)))) :=
    ⟨box_below H1.out.1 hb2, box_below H1.out.2.1 hb2, H1.out.2.2.1.trans (hb2.mono (by have := H1.out.2.2.2.1; omega)), hb2.size, H1.out.2.2.2.2.1.below hb2, H1.out.2.2.2.2.2.1.below hb2⟩
  have cT2 := cT.out w2 H2.out.2.2.1
  clear hb2
  go_upto_region 4 with (first
    | (refine wp_load_sh rfl (.tmp 2) rfl B rfl (shc li ru us (.slice a1 n1 c1) (.slice x2 m2 d2)) rfl H2.out.1 ?_)
    | (go_at_call 14; refine cT2.mono ?_; clear cT2; rintro e w3 ⟨a6, n6, c6, x6, m6, d6, rfl, hs3⟩; have cM := qLoad_any _ w3 li ru us NS TS hs3.out.1 HS.out.1; rw [HLR.out] at cM)
    | (go_at_call 15; refine cM.mono ?_; clear cM; rintro e w4 ⟨⟨q, G, he, hQ, hG⟩, hb4⟩; subst he))
  have H4 : Hid (ShAt w4.drew B (shc li ru us (.slice a1 n1 c1) (.slice x2 m2 d2)) ∧ ShAt w4.drew g5 (shc li ru us (.slice a5 n5 c5) (.slice x5 m5 d5)) ∧ Below B w w4.drew ∧ W1.heap.size ≤ w4.drew.heap.size ∧ ShR w4.drew (.agg (shc li ru us (.slice a5 n5 c5) (.slice x5 m5 d5))) li ru us NS TS ∧ SpZ w4.drew Z1 (.agg (shc li ru us (.slice a5 n5 c5) (.slice x5 m5 d5)))) := by
    have hb3 := hs3.out.2.2
    have hz3 := hb3.size
    have hz4 := hb4.size
    have h1 := H1.out.2.2.2.1
    have h2 := H2.out.2.2.2.1
    have hbb : Below w2.heap.size w2 w4.drew := (hb3.trans (hb4.mono hz3)).drew
    exact ⟨box_below H2.out.1 hbb, box_below H2.out.2.1 hbb, H2.out.2.2.1.trans (hbb.mono (by omega)), Nat.le_trans h2 hbb.size, H2.out.2.2.2.2.1.below hbb, H2.out.2.2.2.2.2.below hbb⟩
  have HT4 : Hid (Tw B w w4.drew p q P0 P0 (fun i => B + 1 ≤ i ∧ i < W1.heap.size)) := by
    have hb3 := hs3.out.2.2
    have hz3 := hb3.size
    have h1 := H1.out.2.2.2.1
    have h2 := H2.out.2.2.2.1
    exact (Tw.madeZ (T := W1.heap.size) (hL.below hb3) hF (by omega) (by omega) (H2.out.2.2.1.trans (hb3.mono (by omega))) hQ hG hb4 (fun i hi => hi.2)).below (Below.refl _ _).drew
  clear hb4 hs3 hL hF hQ hG H2
  refine wp_region_lx (fun w' => ShAt w' B (shc li ru us (.slice a1 n1 c1) (.slice x2 m2 d2)) ∧ ShAt w' g5 (shc li ru us (.slice a5 n5 c5) (.slice x5 m5 d5))) [] 9 (by kernel_rfl) (by kernel_rfl) ?_
  generalize World.drew _ = Y at H4 HT4 ⊢
  have HS0 : ShAt Y B (shc li ru us (.slice a1 n1 c1) (.slice x2 m2 d2)) ∧ ShAt Y g5 (shc li ru us (.slice a5 n5 c5) (.slice x5 m5 d5)) := ⟨H4.out.1, H4.out.2.1⟩
  refine lx_rd 0 (.agg (shc li ru us (.slice a5 n5 c5) (.slice x5 m5 d5))) (by kernel_rfl) (fun _ _ d _ _ h => by cases d <;> exact h) (by kernel_rfl) HS0 rfl rfl rfl (fun w' hS => ?hA10) ?_
  case hA10 => exact exec_load_sh (.tmp 5) rfl g5 rfl (shc li ru us (.slice a5 n5 c5) (.slice x5 m5 d5)) rfl hS.2
  simp only [List.setIfInBounds_toArray, List.set_cons_zero, List.set_cons_succ]
  refine lx_rd 1 (.agg (shc li ru us (.slice a1 n1 c1) (.slice x2 m2 d2))) (by kernel_rfl) (fun _ _ d _ _ h => by cases d <;> exact h) (by kernel_rfl) HS0 rfl rfl rfl (fun w' hS => ?hA11) ?_
  case hA11 => exact exec_load_sh (.tmp 2) rfl B rfl (shc li ru us (.slice a1 n1 c1) (.slice x2 m2 d2)) rfl hS.1
  simp only [List.setIfInBounds_toArray, List.set_cons_zero, List.set_cons_succ]
  refine lx_one 2 (by kernel_rfl) (stepT_call 14 ?ac1 rfl rfl rfl ?rc1 ?_)
  case rc1 => first | (go_simp; rfl) | go_simp
  refine (cT.out Y H4.out.2.2.1).mono ?_
  rintro e Y1 ⟨a7, n7, c7, x7, m7, d7, rfl, hs5⟩
  have hb5 := hs5.out.2.2
  have HS1 : ShAt Y1 B (shc li ru us (.slice a1 n1 c1) (.slice x2 m2 d2)) ∧ ShAt Y1 g5 (shc li ru us (.slice a5 n5 c5) (.slice x5 m5 d5)) := ⟨box_below HS0.1 hb5, box_below HS0.2 hb5⟩
  refine ⟨_, rfl, fun _ => HS1, ?_⟩
  simp only [lxa, lxb, lxc]
  refine lx_one 3 (by kernel_rfl) (stepT_call 10 ?ad1 rfl rfl rfl ?rd1 ?_)
  case rd1 => first | (go_simp; rfl) | go_simp
  refine (sameShelf_any Y1 _ _ li ru us NS TS (H4.out.2.2.2.2.1.below hb5) hs5.out.1).mono ?_
  rintro e Y2 ⟨rfl, hb6⟩
  have HS2 : ShAt Y2 B (shc li ru us (.slice a1 n1 c1) (.slice x2 m2 d2)) ∧ ShAt Y2 g5 (shc li ru us (.slice a5 n5 c5) (.slice x5 m5 d5)) := ⟨box_below HS1.1 hb6, box_below HS1.2 hb6⟩
  refine ⟨_, rfl, fun _ => HS2, ?_⟩
  simp only [lxa, lxb, lxc]
  refine lx_rd 4 (.bool false) (by kernel_rfl) (fun _ _ d _ _ h => by cases d <;> exact h) (by kernel_rfl) HS2 rfl rfl rfl (fun w' hS => ?hB14) ?_
  case hB14 => first | (go_simp; rfl) | go_simp
  simp only [List.setIfInBounds_toArray, List.set_cons_zero, List.set_cons_succ]
  refine lx_rd 5 (.bool false) (by kernel_rfl) (fun _ _ d _ _ h => by cases d <;> exact h) (by kernel_rfl) HS2 rfl rfl rfl (fun w' hS => ?hB15) ?_
  case hB15 => first | (go_simp; rfl) | go_simp
  simp only [List.setIfInBounds_toArray, List.set_cons_zero, List.set_cons_succ]
  have hbY : Hid (Below B w Y2 ∧ W1.heap.size ≤ Y2.heap.size ∧ Below Y.heap.size Y Y2) := by
    have hz5 := hb5.size
    have hz6 := hb6.size
    have h1 := H4.out.2.2.2.1
    have h2 := H1.out.2.2.2.1
    have hbb : Below Y.heap.size Y Y2 := hb5.trans (hb6.mono hz5)
    exact ⟨H4.out.2.2.1.trans (hbb.mono (by omega)), by omega, hbb⟩
  refine lx_one 6 (by kernel_rfl) (stepT_call 8 ?ae1 rfl rfl rfl ?re1 ?_)
  case re1 => first | (go_simp; rfl) | go_simp
  refine (wakes_any Y2 (hTab.out Y2 hbY.out.1)).mono ?_
  rintro e Y3 ⟨rfl, hb7⟩
  have HS3 : ShAt Y3 B (shc li ru us (.slice a1 n1 c1) (.slice x2 m2 d2)) ∧ ShAt Y3 g5 (shc li ru us (.slice a5 n5 c5) (.slice x5 m5 d5)) := ⟨box_below HS2.1 hb7, box_below HS2.2 hb7⟩
  refine ⟨_, rfl, fun _ => HS3, ?_⟩
  simp only [lxa, lxb, lxc]
  refine lx_rd 7 (.bool false) (by kernel_rfl) (fun _ _ d _ _ h => by cases d <;> exact h) (by kernel_rfl) HS3 rfl rfl rfl (fun w' hS => ?hC17) ?_
  case hC17 => first | (go_simp; rfl) | go_simp
  simp only [List.setIfInBounds_toArray, List.set_cons_zero, List.set_cons_succ]
  refine lx_rd 8 (.bool false) (by kernel_rfl) (fun _ _ d _ _ h => by cases d <;> exact h) (by kernel_rfl) HS3 rfl rfl rfl (fun w' hS => ?hC18) ?_
  case hC18 => first | (go_simp; rfl) | go_simp
  simp only [List.setIfInBounds_toArray, List.set_cons_zero, List.set_cons_succ]
  refine lx_nil (by kernel_rfl) ?_
  have hbZ : Hid (Below B w Y3 ∧ Below Y.heap.size Y Y3) := ⟨hbY.out.1.trans (hb7.mono (by have := hbY.out.2.1; have := H1.out.2.2.2.1; omega)), hbY.out.2.2.trans (hb7.mono hbY.out.2.2.size)⟩
  have H8 : Hid (ShAt Y3 g5 (shc li ru us (.slice a5 n5 c5) (.slice x5 m5 d5)) ∧ SpZ Y3 Z1 (.agg (shc li ru us (.slice a5 n5 c5) (.slice x5 m5 d5))) ∧ Tw B w Y3 p q P0 P0 (fun i => B + 1 ≤ i ∧ i < W1.heap.size) ∧ ∀ i, Z1 i → B + 1 ≤ i ∧ i < W1.heap.size) := ⟨HS3.2, H4.out.2.2.2.2.2.below hbZ.out.2, HT4.out.below hbZ.out.2, H1.out.2.2.2.2.2.2⟩
  clear HS0 HS1 HS2 HS3 hs5 hb5 hb6 hb7 HT4 H4 hbY hbZ H1
  have cP := spoil_any _ Y3 Z1 H8.out.2.1
  go_upto_region 9 with (first
    | (refine wp_load_sh rfl (.tmp 5) rfl g5 rfl (shc li ru us (.slice a5 n5 c5) (.slice x5 m5 d5)) rfl H8.out.1 ?_)
    | (go_at_call 16; refine cP.mono ?_; clear cP; rintro e w9 ⟨rfl, k9⟩))
  have T9 : Hid (Tw B w w9 p q P0 P0 (fun i => B + 1 ≤ i ∧ i < W1.heap.size)) := H8.out.2.2.1.own k9 (fun i hi => by have := H8.out.2.2.2 i hi; exact ⟨this, by omega⟩)
  clear k9 H8
  have cX1 := cX.out w9 T9.out.bl
  go_upto_region 10 with (go_at_call 17; refine cX1.mono ?_; clear cX1; rintro e wa ⟨la, lc', rfl, oa, hba⟩)
  obtain ⟨Z2, HZ2⟩ : ∃ Z2 : Nat → Prop, Hid ((fun i => (B + 1 ≤ i ∧ i < W1.heap.size) ∨ (w9.heap.size ≤ i ∧ i < wa.heap.size)) = Z2) := ⟨_, rfl⟩
  have Ta : Hid (Tw B w wa p q P0 P0 Z2) := by
    have := T9.out.grow hba
    rw [HZ2.out] at this
    exact this
  have Oa : Hid (wa.ownsRow w9.heap.size 9 1 (.slice la N lc') N (tc A) ∧ ∀ i, (Value.slice la N lc').ownBlock = some i → Z2 i ∧ B ≤ i) := ⟨oa, fun i e => by have h1 := oa.lt i e; have h2 := T9.out.sz; refine ⟨?_, by omega⟩; rw [← HZ2.out]; exact Or.inr h1⟩
  clear oa hba
  have tA : TRd wa la N lc' A := by
    obtain ⟨a', c', e', t⟩ := TRd.ofOwn Oa.out.1
    injection e' with e1 e2 e3
    subst e1 e3
    exact t
  have cS : Calls Tryz.prog 18 #[.pointer (some ⟨p, 0, none⟩), .string ⟨#[122, 101, 100]⟩, .slice la N lc'] wa _ := tw_set Ta.out wZed la N lc' A (by decide) tA HA20.out.1 HA20.out.2 (by have := HK.out.1.kn; omega) (hTab.out wa Ta.out.bl)
  clear tA
  go_upto_region 11 with (go_at_call 18; refine cS.mono ?_; clear cS; rintro e wb ⟨rfl, Tb⟩)
  have Ob : Hid (wb.ownsRow w9.heap.size 9 1 (.slice la N lc') N (tc A)) := own_keep Oa.out.1 Tb.out.2 (fun i e e2 => e2.2 (Oa.out.2 i e).1)
  have cX2 := cX.out wb Tb.out.1.bl
  go_upto_region 12 with (first
    | (go_at_call 17; refine cX2.mono ?_; clear cX2; rintro e wc ⟨lb, ld, rfl, oc', hbc⟩; have Oc : Hid (wc.ownsRow w9.heap.size 9 1 (.slice la N lc') N (tc A)) := own_keep (S := fun _ => False) Ob.out (Keep.ofBelow hbc) (fun _ _ e => e); have tB : TRd wc lb N ld A := (by obtain ⟨a', c', e', t⟩ := TRd.ofOwn oc'; injection e' with e1 e2 e3; subst e1 e3; exact t); have cS2 : Calls Tryz.prog 19 #[.pointer (some ⟨q, 0, none⟩), .string ⟨#[122, 101, 100]⟩, .slice lb N ld] wc _ := tw_qset (Tb.out.1.below hbc) wZed lb N ld A (by decide) tB HA20.out.1 HA20.out.2 (by have := HK.out.1.kn; omega); clear tB oc')
    | (go_at_call 19; refine cS2.mono ?_; clear cS2; rintro e wd ⟨rfl, Td⟩))
  have Od : Hid (wd.ownsRow w9.heap.size 9 1 (.slice la N lc') N (tc A)) := own_keep Oc.out Td.out.2 (fun i e e2 => e2.2 (Oa.out.2 i e).1)
  have HN2 : Hid (Nice (setR P0 wZed A).2 21) := HK.out.1.set wZed A (by decide) (by rw [HNl.out]; exact HA20.out.1)
  clear Tb Ob Oc hbc Ta
  have Td' : Hid (Tw B w wd p q (setR P0 wZed A).2 (setR P0 wZed A).2 Z2) := Td.out.1
  clear Td
  generalize (setR P0 wZed A).2 = P1 at HN2 Td'
  have cX3 := cX.out wd Td'.out.bl
  go_upto_region 14 with (first
    | (go_at_call 17; refine cX3.mono ?_; clear cX3; rintro e we ⟨le, lf, rfl, oe, hbe⟩; have tE : TRd we le N lf A := (by obtain ⟨a', c', e', t⟩ := TRd.ofOwn oe; injection e' with e1 e2 e3; subst e1 e3; exact t); have tD : TRd we la N lc' A := (by obtain ⟨a', c', e', t⟩ := TRd.ofOwn Od.out; injection e' with e1 e2 e3; subst e1 e3; exact t.below hbe); have cE := same_any la N lc' A le N lf A we tD tE; have hAA : (A == A) = true := beq_self_eq_true A; rw [hAA] at cE; clear tE tD oe hAA)
    | (go_at_call 20; refine cE.mono ?_; clear cE; rintro e wf ⟨rfl, hbf⟩))
  have Hf : Hid (Tw B w wf p q P1 P1 Z2 ∧ wf.ownsRow w9.heap.size 9 1 (.slice la N lc') N (tc A)) := ⟨(Td'.out.below hbe).below hbf, own_keep (S := fun _ => False) (own_keep (S := fun _ => False) Od.out (Keep.ofBelow hbe) (fun _ _ e => e)) (Keep.ofBelow hbf) (fun _ _ e => e)⟩
  clear hbe hbf Td' Od
  go_upto_region 15 with fail
  go_loopw [11] (fun s11 wr => ∃ (k : Nat) (xs : List Value), s11 = .int .i64 (k : Int) ∧ k ≤ N ∧ Hid (Tw B w wr p q P1 P1 Z2 ∧ wr.ownsRow w9.heap.size 9 1 (.slice la N lc') N xs)) (fun s11 _ => N - (intOf s11).toNat)
  case atStart => exact ⟨0, _, rfl, by omega, Hf⟩
  case round =>
    clear Hf
    obtain ⟨k, xs, rfl, hk, HR⟩ := hrel
    by_cases hlt : k < N
    · have hcl : (k : Int) < (N : Int) := by omega
      have hk0 : (0 : Int) ≤ (k : Int) := by omega
      have hN20 : N ≤ 20 := HA20.out.1
      obtain ⟨gl, cl, hvl⟩ := own_some HR.out.2 (by omega)
      injection hvl with e1 e2 e3
      subst e1 e3
      have hcell : ∃ u, wr.cell? ⟨gl, k, none⟩ = some u := by
        have h1 := HR.out.2.cellAt k (by omega)
        have h2 : k < xs.length := by have := HR.out.2.1; omega
        exact ⟨xs[k], by rw [h1]; exact List.getElem?_eq_getElem h2⟩
      obtain ⟨u0, hcell⟩ := hcell
      have hfz := HR.out.2.frozenAt k
      have HN3 : Hid (Tw B w (wr.setCell ⟨gl, k, none⟩ (.string ⟨#[99, 104, 97, 110, 103, 101, 100]⟩)) p q P1 P1 Z2 ∧ (wr.setCell ⟨gl, k, none⟩ (.string ⟨#[99, 104, 97, 110, 103, 101, 100]⟩)).ownsRow w9.heap.size 9 1 (.slice (some ⟨gl, 0, none⟩) N lc') N (xs.set k (.string ⟨#[99, 104, 97, 110, 103, 101, 100]⟩))) :=
        ⟨HR.out.1.own (setK wr gl k _) (fun i e => by rw [e]; exact Oa.out.2 gl rfl), (HR.out.2.stored k _).1⟩
      go_wp2
      exact ⟨⟨k + 1, _, by go_num, by omega, HN3⟩, by simp [intOf]; omega⟩
    · have hcl : ¬ (k : Int) < (N : Int) := by omega
      have cSh := tw_shelf HR.out.1 HN2.out (by omega)
      go_upto_region 19 with (first
        | (go_at_call 11; refine cSh.mono ?_; clear cSh; rintro e wg ⟨S9, rfl, hs9, hbg⟩; obtain ⟨Z9, hz9, hzl⟩ := hs9.spz; have Tg : Hid (Tw B w wg p q P1 P1 (fun i => Z2 i ∨ (wr.heap.size ≤ i ∧ i < wg.heap.size)) ∧ ∀ i, Z9 i → (wr.heap.size ≤ i ∧ i < wg.heap.size)) := ⟨HR.out.1.grow hbg, hzl⟩; have cP9 := spoil_any S9 wg Z9 hz9; clear hs9 hbg hz9 hzl)
        | (go_at_call 16; refine cP9.mono ?_; clear cP9; rintro e wh ⟨rfl, kh⟩))
      have Th : Hid (Tw B w wh p q P1 P1 (fun i => Z2 i ∨ (wr.heap.size ≤ i ∧ i < wg.heap.size))) := Tg.out.1.own kh (fun i hi => by have := Tg.out.2 i hi; have := HR.out.1.sz; exact ⟨Or.inr (Tg.out.2 i hi), by omega⟩)
      clear kh Tg
      have cS1 := tw_shelf Th.out HN2.out (by omega)
      go_wp2_with (first
        | (go_at_call 11; refine cS1.mono ?_; clear cS1; rintro e w6 ⟨S6, rfl, hs6, hb6⟩; have H6 : Hid (Tw B w w6 p q P1 P1 (fun i => Z2 i ∨ (wr.heap.size ≤ i ∧ i < wg.heap.size)) ∧ ShR w6 S6 P1.li P1.ru P1.us (sortK P1.ks) ((sortK P1.ks).map (textsK P1))) := ⟨Th.out.below hb6, hs6.read⟩; clear hs6 hb6; have cS2 := tw_qshelf H6.out.1 HN2.out (by omega))
        | (go_at_call 12; refine cS2.mono ?_; clear cS2; rintro e w7 ⟨S7, rfl, hs7, hb7⟩; have H7 : Hid (Tw B w w7 p q P1 P1 (fun i => Z2 i ∨ (wr.heap.size ≤ i ∧ i < wg.heap.size))) := H6.out.1.below hb7; have cE := sameShelf_any w7 S6 S7 P1.li P1.ru P1.us (sortK P1.ks) ((sortK P1.ks).map (textsK P1)) (H6.out.2.below hb7) hs7.read; clear hs7 hb7)
        | (go_at_call 10; refine cE.mono ?_; clear cE; rintro e w8 ⟨rfl, hb8⟩; have Hz : Hid (Below B w w8) := (H7.out.below hb8).bl; clear hb8))
      go_ret
      exact ⟨rfl, by rw [HB.out]; exact Hz.out⟩
theorem privacyOwn_any (S : Value) (a : Option Addr) (n c : Nat) (us' : List By) (w : World) (li ru : Int) (us : By) (ns : List By) (tss : List (List By)) (h : ShR w S li ru us ns tss) (hu : us.length ≤ 9223372036854775807) (hO : TRd w a n c us') (hU : Lib.Utf8Tabs 0 1 w) :
    Calls Tryz.prog 5 #[S, .slice a n c] w fun e w' => e = .returned (.bool true) ∧ Below w.heap.size w w' := by
  obtain ⟨a1, n1, c1, x2, m2, d2, rfl, hN, hT⟩ := h
  cases hLR : loadR li ru us (cutT ns 20 80) (cutTT tss) with
  | none => exact ownL_none a1 n1 c1 x2 m2 d2 a n c us' w li ru us ns tss hN hT hu hO hU hLR
  | some P0 => exact ownL_some a1 n1 c1 x2 m2 d2 a n c us' w li ru us ns tss hN hT hu hO hU P0 hLR
end Go.Proofs.YtiplalbicibahaaGreatDoor
