/- The document's Decode. -/
import Derived.Test.YtmilcknboaefkaaDoorB6R
import Derived.Test.YtmilcknboaefkaaDoorB6D
import Derived.Deep.QuietTactic
import Derived.BigQuiet
namespace Go.Proofs.YtmilcknboaefkaaDoor
open Go.RowKit

/-- The value of the first k signs of a group; how many of them are no digits. -/
def nvk (g : List Int) : Nat → Nat
  | 0 => 0
  | k + 1 => nvk g k * 64 + dz (g.getD k 0)
def pvk (g : List Int) : Nat → Nat
  | 0 => 0
  | k + 1 => pvk g k + pz (g.getD k 0)
theorem nvk_lt (g : List Int) : ∀ k, nvk g k < 64 ^ k
  | 0 => by simp [nvk]
  | k + 1 => by
    have := nvk_lt g k
    have := dz_lt (g.getD k 0)
    unfold nvk
    rw [Nat.pow_succ]
    omega
theorem pvk_le (g : List Int) : ∀ k, pvk g k ≤ k
  | 0 => by simp [pvk]
  | k + 1 => by
    have := pvk_le g k
    have := pz_le (g.getD k 0)
    unfold pvk
    omega
/-- What is found among the first j digits. -/
def dvp (c : Int) (j : Nat) : Nat := if dv c < j then dv c else 64
theorem dvp_zero (c : Int) : dvp c 0 = 64 := by unfold dvp; rw [if_neg (by omega)]
theorem dvp_hit {c : Int} {j : Nat} (hj : j < 64) (h : dg j = c) : dvp c (j + 1) = j := by
  unfold dvp; rw [← h, dv_dg hj, if_pos (by omega)]
theorem dvp_miss {c : Int} {j : Nat} (hj : j < 64) (h : dg j ≠ c) : dvp c (j + 1) = dvp c j := by
  unfold dvp
  by_cases h1 : dv c < j
  · rw [if_pos h1, if_pos (by omega)]
  · rw [if_neg h1]
    by_cases h2 : dv c = j
    · exfalso
      exact h (by rw [← h2]; exact dg_dv (by omega))
    · rw [if_neg (by omega)]
theorem dvp_all (c : Int) : dvp c 64 = dv c := by
  unfold dvp
  have := dv_le c
  by_cases h : dv c < 64
  · rw [if_pos h]
  · rw [if_neg h]; omega
theorem raw_len : ∀ s : List Int, (raw s).length ≤ s.length
  | p :: q :: r :: s :: l => by
    rw [raw, List.length_append]
    have := raw_len l
    have h : (rd4 p q r s).length ≤ 3 := by unfold rd4; rw [List.length_take]; simp only [List.length_cons, List.length_nil]; omega
    simp only [List.length_cons]
    omega
  | [] => Nat.le_refl _
  | [_] => by simp [raw]
  | [_, _] => by simp [raw]
  | [_, _, _] => by simp [raw]
theorem raw_none : raw [] = [] := rfl
theorem str_ne {xs ys : List Int} (hx : Bd xs) (hy : Bd ys) (h : xs ≠ ys) : ((strOfNums xs).toList == (strOfNums ys).toList) = false := by
  rw [beq_eq_false_iff_ne]
  intro e
  rw [Lib.toList_data, Lib.toList_data] at e
  refine h (str_inj hx hy ?_)
  exact congrArg ByteArray.mk (Array.toList_inj.1 e)
theorem ne64 {v : Nat} (h : ¬ v = 64) : (((v : Nat) : Int) == 64) = false := beq_eq_false_iff_ne.2 (by omega)
theorem or6i {a y : Nat} (h1 : a < 4398046511104) (hy : y < 64) : bits .or .i64 (wrap64 ((a : Int) * 64)) (y : Int) = ((a * 64 + y : Nat) : Int) := by
  have e : wrap64 ((a : Int) * 64) = ((a * 64 : Nat) : Int) := by unfold wrap64; omega
  rw [e, i64_or_nat _ _ (by omega) (by omega)]
  have : (a * 64 ||| y) = a * 64 + y := by
    rw [show a * 64 = a <<< 6 from by rw [Nat.shiftLeft_eq]]
    exact (Nat.shiftLeft_add_eq_or_of_lt (i := 6) (by omega) a).symm
  rw [this]

theorem own_newB {w : World} {B e sz n c : Nat} {a : Option Addr} {xs : List Value} (h : w.ownsRow B e sz (.slice a n c) n xs) : ∀ ad, a = some ad → B ≤ ad.block := by
  intro ad ha
  rcases h.2 with ⟨h1, _⟩ | ⟨g, cap, cur, h1, h2, _⟩
  · cases h1; cases ha
  · cases h1; cases ha; exact h2

set_option maxRecDepth 100000 in
set_option maxHeartbeats 16000000 in
theorem refDecode_any (S : List Int) (w : World) (hb : Bd S) (hn : S.length ≤ 1000000) :
    Calls Tryd.prog 24 #[.string (strOfNums S)] w fun e w' => ∃ a n c, e = .returned (.tuple #[.slice a n c, .int .i64 (errB (dec S))]) ∧ Rd w' a n c (gotB (dec S)) ∧ (∀ ad, a = some ad → w.heap.size ≤ ad.block) ∧ Below w.heap.size w w' := by
  have hsz := str_size S
  by_cases h4 : S.length % 4 = 0
  · have h4i : ((S.length : Int)).tmod 4 = 0 := by rw [Int.tmod_eq_emod_of_nonneg (by omega)]; omega
    have h4e : ((S.length : Int)) % 4 = 0 := by omega
    have HX : Hid (∀ {k : Nat}, k < S.length → ∀ u, (Instr.index 9 (.string (strOfNums S)) (.int .i64 k)).run Tryd.prog u = .ok (.int .u8 (S.getD k 0)) u) := fun h u => str_ix hb h u
    obtain ⟨R, HRa⟩ : ∃ R, Hid (raw S = R) := ⟨_, rfl⟩
    have HRl : Hid (R.length ≤ 1000000) := by show _ ≤ _; rw [← HRa.out]; have := raw_len S; omega
    have bR : Hid (Bd R) := by show Bd R; rw [← HRa.out]; exact raw_bd S
    have HD : Hid (dec S = if enc R = S then some R else none) := by
      show _ = _; unfold dec; rw [HRa.out]; by_cases q : enc R = S
      · rw [if_pos ⟨h4, q⟩, if_pos q]
      · rw [if_neg (fun k => q k.2), if_neg q]
    obtain ⟨T0, H0⟩ : ∃ T, Hid (strOfNums S = T) := ⟨_, rfl⟩
    obtain ⟨N, HN⟩ : ∃ N, Hid (S.length = N) := ⟨_, rfl⟩
    obtain ⟨D, HDD⟩ : ∃ D, Hid (dec S = D) := ⟨_, rfl⟩
    rw [HDD.out] at HD
    rw [H0.out] at hsz HX ⊢
    rw [HN.out] at hsz h4i h4e hn
    rw [HDD.out]
    have HbS : Hid (Bd S) := hb
    have H4 : Hid (N % 4 = 0) := by show _ = _; rw [← HN.out]; exact h4
    clear hb h4
    go_enter Tryd.func24, Tryd.ntmps24
    go_wp2
    go_loopw [4, 5] (fun st si wr => ∃ (i : Nat) (T : List Int), si = .int .i64 (i : Int) ∧ i ≤ N ∧ Hid (i % 4 = 0) ∧ Hid (T ++ raw (S.drop i) = R) ∧ wr.ownsRow w.heap.size 5 1 st T.length (bc T) ∧ Below w.heap.size w wr) (fun _ si _ => N - natV si)
    case atStart => exact ⟨0, [], rfl, by omega, rfl, by show [] ++ raw (S.drop 0) = R; rw [List.drop_zero]; exact HRa.out, ⟨rfl, .inl ⟨rfl, rfl⟩⟩, Below.refl _ _⟩
    case round =>
      obtain ⟨i, T, rfl, hi, Hi4, HT, hT, hbe⟩ := hrel
      clear HRa
      have hTl : T.length ≤ 1000000 := by have := congrArg List.length HT.out; rw [List.length_append] at this; have := HRl.out; omega
      rcases Nat.lt_or_ge i N with hlt | hge
      · have hli : (i : Int) < (N : Int) := by omega
        have hi3 : i + 4 ≤ N := by have := Hi4.out; have := H4.out; omega
        obtain ⟨G, HG⟩ : ∃ G, Hid ((S.drop i).take 4 = G) := ⟨_, rfl⟩
        have HS4 : Hid (T ++ rd4 (G.getD 0 0) (G.getD 1 0) (G.getD 2 0) (G.getD 3 0) ++ raw (S.drop (i + 4)) = R) := by
          show _ = _
          match hY : S.drop i with
          | [] => exfalso; have := congrArg List.length hY; rw [List.length_drop, HN.out] at this; simp at this; omega
          | [_] => exfalso; have := congrArg List.length hY; rw [List.length_drop, HN.out] at this; simp at this; omega
          | [_, _] => exfalso; have := congrArg List.length hY; rw [List.length_drop, HN.out] at this; simp at this; omega
          | [_, _, _] => exfalso; have := congrArg List.length hY; rw [List.length_drop, HN.out] at this; simp at this; omega
          | p :: q :: r :: s :: l =>
            have hl : S.drop (i + 4) = l := by rw [← List.drop_drop, hY]; rfl
            have hg : G = [p, q, r, s] := by rw [← HG.out, hY]; rfl
            rw [hl, hg, ← HT.out, hY, raw, List.append_assoc]
            rfl
        have HGet : Hid (∀ k, k < 4 → S.getD (i + k) 0 = G.getD k 0) := by
          intro k hk
          rw [← HG.out]
          simp [List.getD, hk]
        have HGb : Hid (Bd G) := by show Bd G; rw [← HG.out]; exact (HbS.out.drop i).take 4
        clear HT HG
        go_wp2
        go_loopw [6, 7, 8] (fun sn sp sk wr' => ∃ (k : Nat), sk = .int .i64 (k : Int) ∧ k ≤ 4 ∧ sn = .int .i64 ((nvk G k : Nat) : Int) ∧ sp = .int .i64 ((pvk G k : Nat) : Int) ∧ ∃ q, wr' = wr.drewN q) (fun _ _ sk _ => 4 - natV sk)
        case atStart => exact ⟨0, rfl, by omega, rfl, rfl, 0, rfl⟩
        case round =>
          obtain ⟨k, rfl, hk, rfl, rfl, q0, hw⟩ := hrel
          subst hw
          rcases Nat.lt_or_ge k 4 with hk4 | hk4
          · have hk4i : (k : Int) < 4 := by omega
            have hix := HX.out (k := i + k) (by rw [HN.out]; omega)
            rw [HGet.out k hk4, Int.natCast_add] at hix
            have hcb := HGb.out.get k
            have Hnv : Hid (nvk G (k + 1) = nvk G k * 64 + dz (G.getD k 0)) := rfl
            have Hpv : Hid (pvk G (k + 1) = pvk G k + pz (G.getD k 0)) := rfl
            have hnl := nvk_lt G k
            have hnl2 : nvk G k < 16777216 := Nat.lt_of_lt_of_le hnl (Nat.pow_le_pow_right (n := 64) (by omega) (show k ≤ 4 by omega))
            have hpl := pvk_le G k
            obtain ⟨c, Hc⟩ : ∃ c, Hid (G.getD k 0 = c) := ⟨_, rfl⟩
            rw [Hc.out] at hix hcb Hnv Hpv
            generalize nvk G k = nn at Hnv hnl2
            generalize pvk G k = pp at Hpv hpl
            have hj0 := dvp_zero c
            clear hnl
            go_wp2
            go_loopw [9, 10] (fun sd sj wr'' => ∃ (j : Nat), sj = .int .i64 (j : Int) ∧ j ≤ 64 ∧ sd = .int .i64 ((dvp c j : Nat) : Int) ∧ ∃ q, wr'' = wr.drewN q) (fun _ sj _ => 64 - natV sj)
            case atStart => exact ⟨0, rfl, by omega, by rw [hj0]; rfl, q0, rfl⟩
            case round =>
              obtain ⟨j, rfl, hj, rfl, q1, hw⟩ := hrel
              subst hw
              clear hj0
              rcases Nat.lt_or_ge j 64 with hj6 | hj6
              · have hj6i : (j : Int) < 64 := by omega
                have hdj : ∀ u, (Instr.index 9 (.string ⟨(65 :: 66 :: 67 :: 68 :: 69 :: 70 :: 71 :: 72 :: 73 :: 74 :: 75 :: 76 :: 77 :: 78 :: 79 :: 80 :: 81 :: 82 :: 83 :: 84 :: 85 :: 86 :: 87 :: 88 :: 89 :: 90 :: 97 :: 98 :: 99 :: 100 :: 101 :: 102 :: 103 :: 104 :: 105 :: 106 :: 107 :: 108 :: 109 :: 110 :: 111 :: 112 :: 113 :: 114 :: 115 :: 116 :: 117 :: 118 :: 119 :: 120 :: 121 :: 122 :: 48 :: 49 :: 50 :: 51 :: 52 :: 53 :: 54 :: 55 :: 56 :: 57 :: 43 :: 47 :: []).toArray⟩) (.int .i64 (j : Int))).run Tryd.prog u = .ok (.int .u8 (dg j)) u := fun u => by
                  have := dg_ix (j : Int) (by omega) (by omega) u .i64
                  rwa [show ((j : Int)).toNat = j from by omega] at this
                by_cases hh : dg j = c
                · have H1 : Hid (dvp c (j + 1) = j) := dvp_hit hj6 hh
                  rw [hh] at hdj
                  clear hh
                  generalize dvp c j = dj
                  go_wp2
                  go_quiet (fail)
                  go_wp2
                  refine ⟨⟨j + 1, rfl, by omega, by rw [H1.out], _, rfl⟩, by simp only [natV]; omega⟩
                · have H1 : Hid (dvp c (j + 1) = dvp c j) := dvp_miss hj6 hh
                  have hhb : (dg j == c) = false := by simpa using hh
                  clear hh
                  generalize dg j = e at hdj hhb
                  generalize dvp c j = dj at H1
                  go_wp2
                  go_quiet (fail)
                  go_wp2
                  refine ⟨⟨j + 1, rfl, by omega, by rw [H1.out], _, rfl⟩, by simp only [natV]; omega⟩
              · obtain rfl : j = 64 := by omega
                have H2 := dvp_all c
                rw [H2]
                clear H2 hj hj6 hix hcb
                by_cases h6 : dv c = 64
                · have H3 : Hid (nvk G (k + 1) = nn * 64) := by show _ = _; rw [Hnv.out]; unfold dz; rw [if_pos h6]; rfl
                  have H4 : Hid (pvk G (k + 1) = pp + 1) := by show _ = _; rw [Hpv.out]; unfold pz; rw [if_pos h6]
                  have hor : bits .or .i64 (wrap64 ((nn : Int) * 64)) 0 = ((nn * 64 : Nat) : Int) := by have := or6i (a := nn) (y := 0) (by omega) (by omega); simpa using this
                  rw [h6]
                  have Hl : Hid (nn < 16777216) := hnl2
                  clear Hnv Hpv h6 hnl2
                  go_wp2
                  refine ⟨⟨k + 1, rfl, by omega, by rw [H3.out, Int.natCast_mul]; rfl, by rw [H4.out]; rfl, _, rfl⟩, by simp only [natV]; omega⟩
                · have H3 : Hid (nvk G (k + 1) = nn * 64 + dv c) := by show _ = _; rw [Hnv.out, dz_of h6]
                  have H4 : Hid (pvk G (k + 1) = pp) := by show _ = _; rw [Hpv.out, pz_of h6]; rfl
                  have h64 := dv_lt h6
                  clear Hnv Hpv
                  generalize dv c = v at h6 h64 H3
                  have hne : (((v : Nat) : Int) == 64) = false := ne64 h6
                  have hor := or6i (a := nn) (y := v) (Nat.lt_trans hnl2 (by decide)) h64
                  have Hl : Hid (nn < 16777216) := hnl2
                  clear h6 hnl2 h64
                  go_wp2
                  refine ⟨⟨k + 1, rfl, by omega, by rw [H3.out, Int.natCast_add, Int.natCast_mul]; rfl, by rw [H4.out], _, rfl⟩, by simp only [natV]; omega⟩
          · obtain rfl : k = 4 := by omega
            have hnl := nvk_lt G 4
            have hnl2 : nvk G 4 < 16777216 := hnl
            have hpl := pvk_le G 4
            have HN4 : Hid (nvk G 4 = ((dz (G.getD 0 0) * 64 + dz (G.getD 1 0)) * 64 + dz (G.getD 2 0)) * 64 + dz (G.getD 3 0)) := by show _ = _; simp [nvk]
            have HP4 : Hid (pvk G 4 = pz (G.getD 0 0) + pz (G.getD 1 0) + pz (G.getD 2 0) + pz (G.getD 3 0)) := by show _ = _; simp [pvk]
            have Hb : Hid (rd4 (G.getD 0 0) (G.getD 1 0) (G.getD 2 0) (G.getD 3 0) = [((nvk G 4 / 65536 % 256 : Nat) : Int), ((nvk G 4 / 256 % 256 : Nat) : Int), ((nvk G 4 % 256 : Nat) : Int)].take (3 - pvk G 4)) := by
              show _ = _
              have h0 := dz_lt (G.getD 0 0)
              have h1 := dz_lt (G.getD 1 0)
              have h2 := dz_lt (G.getD 2 0)
              have h3 := dz_lt (G.getD 3 0)
              rw [HP4.out, HN4.out]
              unfold rd4
              congr 1
              generalize dz (G.getD 0 0) = d0 at *
              generalize dz (G.getD 1 0) = d1 at *
              generalize dz (G.getD 2 0) = d2 at *
              generalize dz (G.getD 3 0) = d3 at *
              simp only [List.cons.injEq, and_true]
              omega
            rw [Hb.out] at HS4
            have hNi : ((nvk G 4 : Nat) : Int) / 65536 % 256 = ((nvk G 4 / 65536 % 256 : Nat) : Int) := by omega
            have hNj : ((nvk G 4 : Nat) : Int) / 256 % 256 = ((nvk G 4 / 256 % 256 : Nat) : Int) := by omega
            have hNk : ((nvk G 4 : Nat) : Int) % 256 = ((nvk G 4 % 256 : Nat) : Int) := by omega
            have hy0 : nvk G 4 / 65536 % 256 < 256 := by omega
            have hy1 : nvk G 4 / 256 % 256 < 256 := by omega
            have hy2 : nvk G 4 % 256 < 256 := by omega
            generalize nvk G 4 / 65536 % 256 = y0 at *
            generalize nvk G 4 / 256 % 256 = y1 at *
            generalize nvk G 4 % 256 = y2 at *
            clear HN4 HP4 Hb hnl hnl2 HGet HGb
            generalize nvk G 4 = nn at *
            generalize pvk G 4 = pp at *
            have hTq : (wr.drewN q0).ownsRow w.heap.size 5 1 u4 T.length (bc T) := hT
            have hbq : Below w.heap.size w (wr.drewN q0) := ⟨hbe.os, hbe.tape, hbe.output, hbe.size, hbe.block⟩
            generalize wr.drewN q0 = wq at *
            rcases (by omega : pp = 0 ∨ pp = 1 ∨ pp = 2 ∨ 3 ≤ pp) with hp | hp | hp | hp
            · obtain rfl : pp = 0 := by omega
              have HS5 : Hid (T ++ [(y0 : Int)] ++ [(y1 : Int)] ++ [(y2 : Int)] ++ raw (S.drop (i + 4)) = R) := by show _ = _; rw [← HS4.out]; simp
              clear HS4
              go_wp2
              refine wp_loop_rounds 4 ?_
              rw [rounds_succ]
              go_wp2_with (at_builtin; refine wp_app1K rfl (.tmp 57) (.tmp 64) rfl w.heap.size _ (T.length) (T) rfl hTq (y0 : Int) (by omega) (by omega) rfl (by omega) hbq.size ?_; intro v0 w0 ho0 hb0)
              rw [rounds_succ]
              go_wp2_with (at_builtin; refine wp_app1K rfl (.tmp 57) (.tmp 64) rfl w.heap.size _ (T.length + 1) (T ++ [(y0 : Int)]) rfl ho0 (y1 : Int) (by omega) (by omega) rfl (by omega) (Nat.le_trans hbq.size hb0.size) ?_; intro v1 w1 ho1 hb1)
              replace hb1 := hb0.trans hb1
              rw [rounds_succ]
              go_wp2_with (at_builtin; refine wp_app1K rfl (.tmp 57) (.tmp 64) rfl w.heap.size _ (T.length + 1 + 1) (T ++ [(y0 : Int)] ++ [(y1 : Int)]) rfl ho1 (y2 : Int) (by omega) (by omega) rfl (by omega) (Nat.le_trans hbq.size hb1.size) ?_; intro v2 w2 ho2 hb2)
              replace hb2 := hb1.trans hb2
              rw [rounds_succ]
              go_wp2
              refine ⟨⟨i + 4, T ++ [(y0 : Int)] ++ [(y1 : Int)] ++ [(y2 : Int)], rfl, by omega, by show (i + 4) % 4 = 0; have := Hi4.out; omega, HS5, (by simpa using ho2), (hbq.trans hb2)⟩, by simp only [natV]; omega⟩
            · obtain rfl : pp = 1 := by omega
              have HS5 : Hid (T ++ [(y0 : Int)] ++ [(y1 : Int)] ++ raw (S.drop (i + 4)) = R) := by show _ = _; rw [← HS4.out]; simp
              clear HS4
              go_wp2
              refine wp_loop_rounds 3 ?_
              rw [rounds_succ]
              go_wp2_with (at_builtin; refine wp_app1K rfl (.tmp 57) (.tmp 64) rfl w.heap.size _ (T.length) (T) rfl hTq (y0 : Int) (by omega) (by omega) rfl (by omega) hbq.size ?_; intro v0 w0 ho0 hb0)
              rw [rounds_succ]
              go_wp2_with (at_builtin; refine wp_app1K rfl (.tmp 57) (.tmp 64) rfl w.heap.size _ (T.length + 1) (T ++ [(y0 : Int)]) rfl ho0 (y1 : Int) (by omega) (by omega) rfl (by omega) (Nat.le_trans hbq.size hb0.size) ?_; intro v1 w1 ho1 hb1)
              replace hb1 := hb0.trans hb1
              rw [rounds_succ]
              go_wp2
              refine ⟨⟨i + 4, T ++ [(y0 : Int)] ++ [(y1 : Int)], rfl, by omega, by show (i + 4) % 4 = 0; have := Hi4.out; omega, HS5, (by simpa using ho1), (hbq.trans hb1)⟩, by simp only [natV]; omega⟩
            · obtain rfl : pp = 2 := by omega
              have HS5 : Hid (T ++ [(y0 : Int)] ++ raw (S.drop (i + 4)) = R) := by show _ = _; rw [← HS4.out]; simp
              clear HS4
              go_wp2
              refine wp_loop_rounds 2 ?_
              rw [rounds_succ]
              go_wp2_with (at_builtin; refine wp_app1K rfl (.tmp 57) (.tmp 64) rfl w.heap.size _ (T.length) (T) rfl hTq (y0 : Int) (by omega) (by omega) rfl (by omega) hbq.size ?_; intro v0 w0 ho0 hb0)
              rw [rounds_succ]
              go_wp2
              refine ⟨⟨i + 4, T ++ [(y0 : Int)], rfl, by omega, by show (i + 4) % 4 = 0; have := Hi4.out; omega, HS5, (by simpa using ho0), (hbq.trans hb0)⟩, by simp only [natV]; omega⟩
            · have hp3 : 3 ≤ pp := by omega
              have hq0 : ¬ (0 : Int) < 3 - (pp : Int) := by omega
              have HS5 : Hid (T ++ raw (S.drop (i + 4)) = R) := by show _ = _; rw [← HS4.out, show 3 - pp = 0 from by omega]; simp
              clear HS4
              go_wp2
              refine wp_loop_rounds 1 ?_
              rw [rounds_succ]
              go_wp2
              refine ⟨⟨i + 4, T, rfl, by omega, by show (i + 4) % 4 = 0; have := Hi4.out; omega, HS5, hTq, hbq⟩, by simp only [natV]; omega⟩
      · have hge' : ¬ (i : Int) < (N : Int) := by omega
        have hE : T = R := by have := HT.out; rw [List.drop_of_length_le (by rw [HN.out]; exact hge), raw_none, List.append_nil] at this; exact this
        subst hE
        obtain ⟨a4, c4, rfl, hr4⟩ := Rd.ofOwn hT bR.out
        have HNw : Hid (∀ ad, a4 = some ad → w.heap.size ≤ ad.block) := own_newB hT
        have cE := refEncode_any a4 T.length c4 T wr hr4 (by omega)
        by_cases hq : enc T = S
        · have hD : D = some T := by rw [HD.out, if_pos hq]
          subst hD
          rw [hq, H0.out] at cE
          clear hq HD
          go_wp2_with (go_at_call 40; refine cE.mono ?_; rintro e w5 ⟨rfl, hb5⟩)
          go_ret2
          exact ⟨_, _, _, rfl, hr4.carry (Nat.le_refl _) hb5, HNw.out, hbe.trans (hb5.mono hbe.size)⟩
        · have hD : D = none := by rw [HD.out, if_neg hq]
          subst hD
          have hne := str_ne (enc_bd bR.out) HbS.out hq
          rw [H0.out] at hne
          generalize strOfNums (enc T) = sT at hne cE
          clear hq HD
          go_wp2_with (go_at_call 40; refine cE.mono ?_; rintro e w5 ⟨rfl, hb5⟩)
          go_ret2
          exact ⟨none, 0, 0, rfl, rd_nilK _, (fun _ h => by cases h), hbe.trans (hb5.mono hbe.size)⟩
  · have hD : dec S = none := by unfold dec; rw [if_neg (fun k => h4 k.1)]
    rw [hD]
    have h4i : (((S.length : Int)).tmod 4 == 0) = false := by rw [Int.tmod_eq_emod_of_nonneg (by omega)]; simp; omega
    have h4e : (((S.length : Int)) % 4 == 0) = false := by simp; omega
    obtain ⟨T0, H0⟩ : ∃ T, Hid (strOfNums S = T) := ⟨_, rfl⟩
    obtain ⟨N, HN⟩ : ∃ N, Hid (S.length = N) := ⟨_, rfl⟩
    rw [H0.out] at hsz ⊢
    rw [HN.out] at hsz h4i h4e hn
    clear hb h4 hD
    go_enter Tryd.func24, Tryd.ntmps24
    go_wp2
    go_ret2
    exact ⟨none, 0, 0, rfl, rd_nilK _, (fun _ h => by cases h), Below.refl _ _⟩
end Go.Proofs.YtmilcknboaefkaaDoor
