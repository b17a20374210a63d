/- octet.Text. -/
import Derived.Test.YtiidjdedeenijaaDoorValid
import Derived.Test.YtiidjdedeenijaaDoorReadI
import Derived.Test.YtiidjdedeenijaaDoorTwin
set_option maxRecDepth 100000
namespace Go.Proofs.YtiidjdedeenijaaDoor
open Go.RowKit

/-- The error of Text (0: none). -/
def terr (xs : List Int) (most : Int) : Nat :=
  if (scan xs 0 0).2.2 ≠ 0 then (scan xs 0 0).2.2
  else if max most 0 < ((scan xs 0 0).1 : Int) then 5
  else if xs.length - (scan xs 0 0).2.1 < (scan xs 0 0).1 then 2
  else if vld ((xs.drop (scan xs 0 0).2.1).take (scan xs 0 0).1) then 0 else 4

theorem Rd.cutEnd {w : World} {a : Option Addr} {n c : Nat} {xs : List Int} (h : Rd w a n c xs) : Rd w a (n - c) 0 (xs.drop c) := by
  have hc := h.cap
  refine ⟨by rw [List.length_drop, h.len], by omega, by unfold maxLen; omega, fun _ => rfl, h.bytes.drop c, fun ad _ j hj => by omega⟩

theorem ret_txt {s : ByteArray} {v : Value} {a b : Int} (h : a = b) : Ending.returned (.tuple #[.string s, v, .int .i64 a]) = .returned (.tuple #[.string s, v, .int .i64 b]) := by rw [h]

set_option maxHeartbeats 12800000 in
theorem text_read (a : Option Addr) (n c : Nat) (xs : List Int) (most : Int) (w : World) (hR : Rd w a n c xs) (hT : Tabs w) (hn : n ≤ 1000000) (hm0 : -9223372036854775808 ≤ most) (hm1 : most ≤ 9223372036854775807) :
    Calls Tryd.prog 77 #[.slice a n c, .int .i64 most] w fun e w' =>
      (terr xs most ≠ 0 ∧ e = .returned (.tuple #[.string ⟨#[]⟩, .slice none 0 0, .int .i64 (terr xs most)]) ∧ Ext w w') ∨
      (terr xs most = 0 ∧ ∃ v, e = .returned (.tuple #[.string (strOfNums ((xs.drop (scan xs 0 0).2.1).take (scan xs 0 0).1)), v, .int .i64 0]) ∧ w'.ownsRow w.heap.size 5 1 v (n - (scan xs 0 0).2.1 - (scan xs 0 0).1) (bc ((xs.drop (scan xs 0 0).2.1).drop (scan xs 0 0).1)) ∧ Ext w w') := by
  have hsl := (scan_le xs 0 0).1
  have hlt := scan_lt xs 0 0 hR.bytes (by omega) (by decide)
  have hl := hR.len
  have hcp := hR.cap
  have hmost : c ≤ 9223372036854775807 := hR.most
  have HN := number_any a n c xs w hR
  obtain ⟨E, hE0⟩ : ∃ E, E = terr xs most := ⟨_, rfl⟩
  rw [← hE0]
  unfold terr at hE0
  obtain ⟨p, s, e, hs⟩ : ∃ p s e, scan xs 0 0 = (p, s, e) := ⟨_, _, _, rfl⟩
  rw [hs] at hsl HN hlt hE0
  rw [hs]
  simp only at hsl HN hlt hE0 ⊢
  clear hs
  have hsn : s ≤ n := by omega
  by_cases he : e = 0
  · subst he
    rw [if_neg (by omega)] at hE0
    by_cases hneg : most < 0
    · have hmx : max most 0 = 0 := by omega
      rw [hmx] at hE0
      clear hmx
      by_cases hbig : 0 < (p : Int)
      · have HE : Hid (E = 5) := (by rw [hE0, if_pos hbig] : E = 5)
        clear hE0
        go_enter Tryd.func77, Tryd.ntmps77
        go_wp2_with (first | (go_at_call 93; refine HN.mono ?_; rintro e w' ⟨rfl, rfl⟩))
        go_ret3
        exact .inl ⟨by rw [HE.out]; decide, ret_txt (by rw [HE.out]; rfl), Ext.refl _⟩
      · rw [if_neg hbig] at hE0
        by_cases hcs : c = s
        · have hns : n = s := by omega
          subst hns
          subst hcs
          by_cases hp0 : p = 0
          · subst hp0
            have HE : Hid (E = 0) := (by rw [hE0, if_neg (by omega), List.take_zero, vld_nil]; rfl : E = 0)
            clear hE0
            have hRt : Rd w a 0 0 [] := rd_empty w a
            go_enter Tryd.func77, Tryd.ntmps77
            go_wp2_with (first | (go_at_call 93; refine HN.mono ?_; rintro e w' ⟨rfl, rfl⟩) | (go_at_call 94; refine (valid_any _ _ _ _ _ hRt hT).mono ?_; rintro e w1 ⟨rfl, hx1⟩; rw [vld_nil]; have hRt1 := hRt.carry (Nat.le_refl _) hx1))
            refine wp_region_seq [(0, true), (1, true), (2, true), (3, true), (4, true), (5, true), (6, true), (7, false), (8, true), (9, true), (10, true)] (by kernel_rfl) (by kernel_rfl) (by kernel_rfl) (by kernel_rfl) (fun _ _ d _ _ h => by cases d <;> exact h) ?_
            refine seqX_read ?vnc0 rfl rfl rfl (fun w'' hE => ?hnc0) ?_
            case hnc0 => first | (go_simp; rfl) | go_simp
            simp only [List.setIfInBounds_toArray, List.set_cons_zero, List.set_cons_succ]
            refine seqX_read ?vnc1 rfl rfl rfl (fun w'' hE => ?hnc1) ?_
            case hnc1 => first | (go_simp; rfl) | go_simp
            simp only [List.setIfInBounds_toArray, List.set_cons_zero, List.set_cons_succ]
            refine seqX_read ?vnc2 rfl rfl rfl (fun w'' hE => ?hnc2) ?_
            case hnc2 => first | (go_simp; rfl) | go_simp
            simp only [List.setIfInBounds_toArray, List.set_cons_zero, List.set_cons_succ]
            refine seqX_read ?vnc3 rfl rfl rfl (fun w'' hE => ?hnc3) ?_
            case hnc3 => have q := (hRt1.carry (Nat.le_refl _) (Ext.trans (Ext.refl _).drew hE)).string; first | (go_simp; rfl) | go_simp
            simp only [List.setIfInBounds_toArray, List.set_cons_zero, List.set_cons_succ]
            refine seqX_read ?vnc4 rfl rfl rfl (fun w'' hE => ?hnc4) ?_
            case hnc4 => first | (go_simp; rfl) | go_simp
            simp only [List.setIfInBounds_toArray, List.set_cons_zero, List.set_cons_succ]
            refine seqX_read ?vnc5 rfl rfl rfl (fun w'' hE => ?hnc5) ?_
            case hnc5 => first | (go_simp; rfl) | go_simp
            simp only [List.setIfInBounds_toArray, List.set_cons_zero, List.set_cons_succ]
            refine seqX_read ?vnc6 rfl rfl rfl (fun w'' hE => ?hnc6) ?_
            case hnc6 => first | (go_simp; rfl) | go_simp
            simp only [List.setIfInBounds_toArray, List.set_cons_zero, List.set_cons_succ]
            refine seqX_call 54 ?anc7 rfl rfl rfl ?rnc7 ?_
            case rnc7 => first | (go_simp; rfl) | go_simp
            refine (behind0_any _ _ _ _ _ ((hRt1.carry (Nat.le_refl _) (Ext.refl _).drew)) (by omega)).mono ?_
            rintro e w2 ⟨rfl, hown2, hb2⟩
            refine ⟨_, rfl, hb2, ?_⟩
            simp only [List.setIfInBounds_toArray, List.set_cons_zero, List.set_cons_succ]
            refine seqX_read ?vnc8 rfl rfl rfl (fun w'' hE => ?hnc8) ?_
            case hnc8 => first | (go_simp; rfl) | go_simp
            simp only [List.setIfInBounds_toArray, List.set_cons_zero, List.set_cons_succ]
            refine seqX_read ?vnc9 rfl rfl rfl (fun w'' hE => ?hnc9) ?_
            case hnc9 => first | (go_simp; rfl) | go_simp
            simp only [List.setIfInBounds_toArray, List.set_cons_zero, List.set_cons_succ]
            refine seqX_read ?vnc10 rfl rfl rfl (fun w'' hE => ?hnc10) ?_
            case hnc10 => first | (go_simp; rfl) | go_simp
            simp only [List.setIfInBounds_toArray, List.set_cons_zero, List.set_cons_succ]
            refine seqX_done ?_
            go_wp2
            go_ret3
            refine .inr ⟨HE.out, _, rfl, ?_, hx1.trans ((Ext.refl _).drew.trans hb2)⟩
            have e1 : List.drop 0 (List.drop c xs) = [] := by rw [List.drop_zero]; exact List.drop_of_length_le (by omega)
            rw [Nat.sub_self, e1]
            exact own_weaken hown2 hx1.size
          · exfalso; omega
        · have hL := hR.cut s
          have hLl := hL.len
          by_cases hshort : n - s < p
          · exfalso; omega
          · have hRt := hL.take (show p ≤ n - s by omega)
            have hLc := hL.cap
            rw [if_neg (by omega)] at hE0
            by_cases hv : vld ((xs.drop s).take p) = true
            · have HE : Hid (E = 0) := (by rw [hE0, if_pos hv] : E = 0)
              clear hE0
              by_cases hcp2 : c - s = p
              · exfalso; omega
              · go_enter Tryd.func77, Tryd.ntmps77
                go_wp2_with (first | (go_at_call 93; refine HN.mono ?_; rintro e w' ⟨rfl, rfl⟩) | (go_at_call 94; refine (valid_any _ _ _ _ _ hRt hT).mono ?_; rintro e w1 ⟨rfl, hx1⟩; have hRt1 := hRt.carry (Nat.le_refl _) hx1; have hL1 := hL.carry (Nat.le_refl _) hx1))
                have hpn : p ≤ n - s := by omega
                have hpc : p ≤ c - s := by omega
                generalize Option.map (fun x => x.add s) a = aL at hRt1 hL1 ⊢
                generalize hcL : c - s = cL at hRt1 hL1 hpc hcp2 ⊢
                generalize hnL : n - s = nL at hL1 hpn hLl ⊢
                refine wp_region_seq [(0, true), (1, true), (2, true), (3, true), (4, true), (5, true), (6, true), (7, false), (8, true), (9, true), (10, true)] (by kernel_rfl) (by kernel_rfl) (by kernel_rfl) (by kernel_rfl) (fun _ _ d _ _ h => by cases d <;> exact h) ?_
                refine seqX_read ?vne0 rfl rfl rfl (fun w'' hE => ?hne0) ?_
                case hne0 => first | (go_simp; rfl) | go_simp
                simp only [List.setIfInBounds_toArray, List.set_cons_zero, List.set_cons_succ]
                refine seqX_read ?vne1 rfl rfl rfl (fun w'' hE => ?hne1) ?_
                case hne1 => first | (go_simp; rfl) | go_simp
                simp only [List.setIfInBounds_toArray, List.set_cons_zero, List.set_cons_succ]
                refine seqX_read ?vne2 rfl rfl rfl (fun w'' hE => ?hne2) ?_
                case hne2 => first | (go_simp; rfl) | go_simp
                simp only [List.setIfInBounds_toArray, List.set_cons_zero, List.set_cons_succ]
                refine seqX_read ?vne3 rfl rfl rfl (fun w'' hE => ?hne3) ?_
                case hne3 => have q := (hRt1.carry (Nat.le_refl _) (Ext.trans (Ext.refl _).drew hE)).string; first | (go_simp; rfl) | go_simp
                simp only [List.setIfInBounds_toArray, List.set_cons_zero, List.set_cons_succ]
                refine seqX_read ?vne4 rfl rfl rfl (fun w'' hE => ?hne4) ?_
                case hne4 => first | (go_simp; rfl) | go_simp
                simp only [List.setIfInBounds_toArray, List.set_cons_zero, List.set_cons_succ]
                refine seqX_read ?vne5 rfl rfl rfl (fun w'' hE => ?hne5) ?_
                case hne5 => first | (go_simp; rfl) | go_simp
                simp only [List.setIfInBounds_toArray, List.set_cons_zero, List.set_cons_succ]
                refine seqX_read ?vne6 rfl rfl rfl (fun w'' hE => ?hne6) ?_
                case hne6 => first | (go_simp; rfl) | go_simp
                simp only [List.setIfInBounds_toArray, List.set_cons_zero, List.set_cons_succ]
                refine seqX_call 54 ?ane7 rfl rfl rfl ?rne7 ?_
                case rne7 => first | (go_simp; rfl) | go_simp
                refine (behind0_any _ _ _ _ _ ((hL1.carry (Nat.le_refl _) (Ext.refl _).drew).cut p) (by omega)).mono ?_
                rintro e w2 ⟨rfl, hown2, hb2⟩
                refine ⟨_, rfl, hb2, ?_⟩
                simp only [List.setIfInBounds_toArray, List.set_cons_zero, List.set_cons_succ]
                refine seqX_read ?vne8 rfl rfl rfl (fun w'' hE => ?hne8) ?_
                case hne8 => first | (go_simp; rfl) | go_simp
                simp only [List.setIfInBounds_toArray, List.set_cons_zero, List.set_cons_succ]
                refine seqX_read ?vne9 rfl rfl rfl (fun w'' hE => ?hne9) ?_
                case hne9 => first | (go_simp; rfl) | go_simp
                simp only [List.setIfInBounds_toArray, List.set_cons_zero, List.set_cons_succ]
                refine seqX_read ?vne10 rfl rfl rfl (fun w'' hE => ?hne10) ?_
                case hne10 => first | (go_simp; rfl) | go_simp
                simp only [List.setIfInBounds_toArray, List.set_cons_zero, List.set_cons_succ]
                refine seqX_done ?_
                go_wp2
                go_ret3
                refine .inr ⟨HE.out, _, rfl, ?_, hx1.trans ((Ext.refl _).drew.trans hb2)⟩
                rw [hnL]
                have hfin := own_weaken hown2 hx1.size
                exact hfin
            · have hv' : vld ((xs.drop s).take p) = false := by simpa using hv
              have HE : Hid (E = 4) := (by rw [hE0, if_neg hv] : E = 4)
              clear hE0
              go_enter Tryd.func77, Tryd.ntmps77
              go_wp2_with (first | (go_at_call 93; refine HN.mono ?_; rintro e w' ⟨rfl, rfl⟩) | (go_at_call 94; refine (valid_any _ _ _ _ _ hRt hT).mono ?_; rintro e w1 ⟨rfl, hx1⟩; have hRt1 := hRt.carry (Nat.le_refl _) hx1; have hL1 := hL.carry (Nat.le_refl _) hx1))
              go_ret3
              exact .inl ⟨by rw [HE.out]; decide, ret_txt (by rw [HE.out]; rfl), hx1⟩
    · have hmx : max most 0 = most := by omega
      rw [hmx] at hE0
      clear hmx
      by_cases hbig : most < (p : Int)
      · have HE : Hid (E = 5) := (by rw [hE0, if_pos hbig] : E = 5)
        clear hE0
        go_enter Tryd.func77, Tryd.ntmps77
        go_wp2_with (first | (go_at_call 93; refine HN.mono ?_; rintro e w' ⟨rfl, rfl⟩))
        go_ret3
        exact .inl ⟨by rw [HE.out]; decide, ret_txt (by rw [HE.out]; rfl), Ext.refl _⟩
      · rw [if_neg hbig] at hE0
        by_cases hcs : c = s
        · have hns : n = s := by omega
          subst hns
          subst hcs
          by_cases hp0 : p = 0
          · subst hp0
            have HE : Hid (E = 0) := (by rw [hE0, if_neg (by omega), List.take_zero, vld_nil]; rfl : E = 0)
            clear hE0
            have hRt : Rd w a 0 0 [] := rd_empty w a
            go_enter Tryd.func77, Tryd.ntmps77
            go_wp2_with (first | (go_at_call 93; refine HN.mono ?_; rintro e w' ⟨rfl, rfl⟩) | (go_at_call 94; refine (valid_any _ _ _ _ _ hRt hT).mono ?_; rintro e w1 ⟨rfl, hx1⟩; rw [vld_nil]; have hRt1 := hRt.carry (Nat.le_refl _) hx1))
            refine wp_region_seq [(0, true), (1, true), (2, true), (3, true), (4, true), (5, true), (6, true), (7, false), (8, true), (9, true), (10, true)] (by kernel_rfl) (by kernel_rfl) (by kernel_rfl) (by kernel_rfl) (fun _ _ d _ _ h => by cases d <;> exact h) ?_
            refine seqX_read ?vpc0 rfl rfl rfl (fun w'' hE => ?hpc0) ?_
            case hpc0 => first | (go_simp; rfl) | go_simp
            simp only [List.setIfInBounds_toArray, List.set_cons_zero, List.set_cons_succ]
            refine seqX_read ?vpc1 rfl rfl rfl (fun w'' hE => ?hpc1) ?_
            case hpc1 => first | (go_simp; rfl) | go_simp
            simp only [List.setIfInBounds_toArray, List.set_cons_zero, List.set_cons_succ]
            refine seqX_read ?vpc2 rfl rfl rfl (fun w'' hE => ?hpc2) ?_
            case hpc2 => first | (go_simp; rfl) | go_simp
            simp only [List.setIfInBounds_toArray, List.set_cons_zero, List.set_cons_succ]
            refine seqX_read ?vpc3 rfl rfl rfl (fun w'' hE => ?hpc3) ?_
            case hpc3 => have q := (hRt1.carry (Nat.le_refl _) (Ext.trans (Ext.refl _).drew hE)).string; first | (go_simp; rfl) | go_simp
            simp only [List.setIfInBounds_toArray, List.set_cons_zero, List.set_cons_succ]
            refine seqX_read ?vpc4 rfl rfl rfl (fun w'' hE => ?hpc4) ?_
            case hpc4 => first | (go_simp; rfl) | go_simp
            simp only [List.setIfInBounds_toArray, List.set_cons_zero, List.set_cons_succ]
            refine seqX_read ?vpc5 rfl rfl rfl (fun w'' hE => ?hpc5) ?_
            case hpc5 => first | (go_simp; rfl) | go_simp
            simp only [List.setIfInBounds_toArray, List.set_cons_zero, List.set_cons_succ]
            refine seqX_read ?vpc6 rfl rfl rfl (fun w'' hE => ?hpc6) ?_
            case hpc6 => first | (go_simp; rfl) | go_simp
            simp only [List.setIfInBounds_toArray, List.set_cons_zero, List.set_cons_succ]
            refine seqX_call 54 ?apc7 rfl rfl rfl ?rpc7 ?_
            case rpc7 => first | (go_simp; rfl) | go_simp
            refine (behind0_any _ _ _ _ _ ((hRt1.carry (Nat.le_refl _) (Ext.refl _).drew)) (by omega)).mono ?_
            rintro e w2 ⟨rfl, hown2, hb2⟩
            refine ⟨_, rfl, hb2, ?_⟩
            simp only [List.setIfInBounds_toArray, List.set_cons_zero, List.set_cons_succ]
            refine seqX_read ?vpc8 rfl rfl rfl (fun w'' hE => ?hpc8) ?_
            case hpc8 => first | (go_simp; rfl) | go_simp
            simp only [List.setIfInBounds_toArray, List.set_cons_zero, List.set_cons_succ]
            refine seqX_read ?vpc9 rfl rfl rfl (fun w'' hE => ?hpc9) ?_
            case hpc9 => first | (go_simp; rfl) | go_simp
            simp only [List.setIfInBounds_toArray, List.set_cons_zero, List.set_cons_succ]
            refine seqX_read ?vpc10 rfl rfl rfl (fun w'' hE => ?hpc10) ?_
            case hpc10 => first | (go_simp; rfl) | go_simp
            simp only [List.setIfInBounds_toArray, List.set_cons_zero, List.set_cons_succ]
            refine seqX_done ?_
            go_wp2
            go_ret3
            refine .inr ⟨HE.out, _, rfl, ?_, hx1.trans ((Ext.refl _).drew.trans hb2)⟩
            have e1 : List.drop 0 (List.drop c xs) = [] := by rw [List.drop_zero]; exact List.drop_of_length_le (by omega)
            rw [Nat.sub_self, e1]
            exact own_weaken hown2 hx1.size
          · have HE : Hid (E = 2) := (by rw [hE0, if_pos (by omega)] : E = 2)
            clear hE0
            go_enter Tryd.func77, Tryd.ntmps77
            go_wp2_with (first | (go_at_call 93; refine HN.mono ?_; rintro e w' ⟨rfl, rfl⟩))
            go_ret3
            exact .inl ⟨by rw [HE.out]; decide, ret_txt (by rw [HE.out]; rfl), Ext.refl _⟩
        · have hL := hR.cut s
          have hLl := hL.len
          by_cases hshort : n - s < p
          · have hshort' : xs.length - s < p := by omega
            have hsh : ((n : Int) - (s : Int)) < (p : Int) := by omega
            have HE : Hid (E = 2) := (by rw [hE0, if_pos hshort'] : E = 2)
            clear hE0
            go_enter Tryd.func77, Tryd.ntmps77
            go_wp2_with (first | (go_at_call 93; refine HN.mono ?_; rintro e w' ⟨rfl, rfl⟩))
            go_ret3
            exact .inl ⟨by rw [HE.out]; decide, ret_txt (by rw [HE.out]; rfl), Ext.refl _⟩
          · have hRt := hL.take (show p ≤ n - s by omega)
            have hLc := hL.cap
            rw [if_neg (by omega)] at hE0
            by_cases hv : vld ((xs.drop s).take p) = true
            · have HE : Hid (E = 0) := (by rw [hE0, if_pos hv] : E = 0)
              clear hE0
              by_cases hcp2 : c - s = p
              · have HC2 : Hid (c - s = p) := hcp2
                clear hcp2
                go_enter Tryd.func77, Tryd.ntmps77
                go_wp2_with (first | (go_at_call 93; refine HN.mono ?_; rintro e w' ⟨rfl, rfl⟩) | (go_at_call 94; refine (valid_any _ _ _ _ _ hRt hT).mono ?_; rintro e w1 ⟨rfl, hx1⟩; have hRt1 := hRt.carry (Nat.le_refl _) hx1; have hL1 := hL.carry (Nat.le_refl _) hx1))
                have hpn : p ≤ n - s := by omega
                have hpc : p ≤ c - s := by omega
                generalize Option.map (fun x => x.add s) a = aL at hRt1 hL1 ⊢
                generalize hcL : c - s = cL at hRt1 hL1 hpc ⊢
                have hpe : p = cL := by rw [← hcL]; exact HC2.out.symm
                clear hcL
                subst hpe
                generalize hnL : n - s = nL at hL1 hpn hLl ⊢
                refine wp_region_seq [(0, true), (1, true), (2, true), (3, true), (4, true), (5, true), (6, true), (7, false), (8, true), (9, true), (10, true)] (by kernel_rfl) (by kernel_rfl) (by kernel_rfl) (by kernel_rfl) (fun _ _ d _ _ h => by cases d <;> exact h) ?_
                refine seqX_read ?vpd0 rfl rfl rfl (fun w'' hE => ?hpd0) ?_
                case hpd0 => first | (go_simp; rfl) | go_simp
                simp only [List.setIfInBounds_toArray, List.set_cons_zero, List.set_cons_succ]
                refine seqX_read ?vpd1 rfl rfl rfl (fun w'' hE => ?hpd1) ?_
                case hpd1 => first | (go_simp; rfl) | go_simp
                simp only [List.setIfInBounds_toArray, List.set_cons_zero, List.set_cons_succ]
                refine seqX_read ?vpd2 rfl rfl rfl (fun w'' hE => ?hpd2) ?_
                case hpd2 => first | (go_simp; rfl) | go_simp
                simp only [List.setIfInBounds_toArray, List.set_cons_zero, List.set_cons_succ]
                refine seqX_read ?vpd3 rfl rfl rfl (fun w'' hE => ?hpd3) ?_
                case hpd3 => have q := (hRt1.carry (Nat.le_refl _) (Ext.trans (Ext.refl _).drew hE)).string; first | (go_simp; rfl) | go_simp
                simp only [List.setIfInBounds_toArray, List.set_cons_zero, List.set_cons_succ]
                refine seqX_read ?vpd4 rfl rfl rfl (fun w'' hE => ?hpd4) ?_
                case hpd4 => first | (go_simp; rfl) | go_simp
                simp only [List.setIfInBounds_toArray, List.set_cons_zero, List.set_cons_succ]
                refine seqX_read ?vpd5 rfl rfl rfl (fun w'' hE => ?hpd5) ?_
                case hpd5 => first | (go_simp; rfl) | go_simp
                simp only [List.setIfInBounds_toArray, List.set_cons_zero, List.set_cons_succ]
                refine seqX_read ?vpd6 rfl rfl rfl (fun w'' hE => ?hpd6) ?_
                case hpd6 => first | (go_simp; rfl) | go_simp
                simp only [List.setIfInBounds_toArray, List.set_cons_zero, List.set_cons_succ]
                refine seqX_call 54 ?apd7 rfl rfl rfl ?rpd7 ?_
                case rpd7 => first | (go_simp; rfl) | go_simp
                refine (behind0_any _ _ _ _ _ ((hL1.carry (Nat.le_refl _) (Ext.refl _).drew).cutEnd) (by omega)).mono ?_
                rintro e w2 ⟨rfl, hown2, hb2⟩
                refine ⟨_, rfl, hb2, ?_⟩
                simp only [List.setIfInBounds_toArray, List.set_cons_zero, List.set_cons_succ]
                refine seqX_read ?vpd8 rfl rfl rfl (fun w'' hE => ?hpd8) ?_
                case hpd8 => first | (go_simp; rfl) | go_simp
                simp only [List.setIfInBounds_toArray, List.set_cons_zero, List.set_cons_succ]
                refine seqX_read ?vpd9 rfl rfl rfl (fun w'' hE => ?hpd9) ?_
                case hpd9 => first | (go_simp; rfl) | go_simp
                simp only [List.setIfInBounds_toArray, List.set_cons_zero, List.set_cons_succ]
                refine seqX_read ?vpd10 rfl rfl rfl (fun w'' hE => ?hpd10) ?_
                case hpd10 => first | (go_simp; rfl) | go_simp
                simp only [List.setIfInBounds_toArray, List.set_cons_zero, List.set_cons_succ]
                refine seqX_done ?_
                go_wp2
                go_ret3
                refine .inr ⟨HE.out, _, rfl, ?_, hx1.trans ((Ext.refl _).drew.trans hb2)⟩
                rw [hnL]
                have hfin := own_weaken hown2 hx1.size
                exact hfin
              · go_enter Tryd.func77, Tryd.ntmps77
                go_wp2_with (first | (go_at_call 93; refine HN.mono ?_; rintro e w' ⟨rfl, rfl⟩) | (go_at_call 94; refine (valid_any _ _ _ _ _ hRt hT).mono ?_; rintro e w1 ⟨rfl, hx1⟩; have hRt1 := hRt.carry (Nat.le_refl _) hx1; have hL1 := hL.carry (Nat.le_refl _) hx1))
                have hpn : p ≤ n - s := by omega
                have hpc : p ≤ c - s := by omega
                generalize Option.map (fun x => x.add s) a = aL at hRt1 hL1 ⊢
                generalize hcL : c - s = cL at hRt1 hL1 hpc hcp2 ⊢
                generalize hnL : n - s = nL at hL1 hpn hLl ⊢
                refine wp_region_seq [(0, true), (1, true), (2, true), (3, true), (4, true), (5, true), (6, true), (7, false), (8, true), (9, true), (10, true)] (by kernel_rfl) (by kernel_rfl) (by kernel_rfl) (by kernel_rfl) (fun _ _ d _ _ h => by cases d <;> exact h) ?_
                refine seqX_read ?vpe0 rfl rfl rfl (fun w'' hE => ?hpe0) ?_
                case hpe0 => first | (go_simp; rfl) | go_simp
                simp only [List.setIfInBounds_toArray, List.set_cons_zero, List.set_cons_succ]
                refine seqX_read ?vpe1 rfl rfl rfl (fun w'' hE => ?hpe1) ?_
                case hpe1 => first | (go_simp; rfl) | go_simp
                simp only [List.setIfInBounds_toArray, List.set_cons_zero, List.set_cons_succ]
                refine seqX_read ?vpe2 rfl rfl rfl (fun w'' hE => ?hpe2) ?_
                case hpe2 => first | (go_simp; rfl) | go_simp
                simp only [List.setIfInBounds_toArray, List.set_cons_zero, List.set_cons_succ]
                refine seqX_read ?vpe3 rfl rfl rfl (fun w'' hE => ?hpe3) ?_
                case hpe3 => have q := (hRt1.carry (Nat.le_refl _) (Ext.trans (Ext.refl _).drew hE)).string; first | (go_simp; rfl) | go_simp
                simp only [List.setIfInBounds_toArray, List.set_cons_zero, List.set_cons_succ]
                refine seqX_read ?vpe4 rfl rfl rfl (fun w'' hE => ?hpe4) ?_
                case hpe4 => first | (go_simp; rfl) | go_simp
                simp only [List.setIfInBounds_toArray, List.set_cons_zero, List.set_cons_succ]
                refine seqX_read ?vpe5 rfl rfl rfl (fun w'' hE => ?hpe5) ?_
                case hpe5 => first | (go_simp; rfl) | go_simp
                simp only [List.setIfInBounds_toArray, List.set_cons_zero, List.set_cons_succ]
                refine seqX_read ?vpe6 rfl rfl rfl (fun w'' hE => ?hpe6) ?_
                case hpe6 => first | (go_simp; rfl) | go_simp
                simp only [List.setIfInBounds_toArray, List.set_cons_zero, List.set_cons_succ]
                refine seqX_call 54 ?ape7 rfl rfl rfl ?rpe7 ?_
                case rpe7 => first | (go_simp; rfl) | go_simp
                refine (behind0_any _ _ _ _ _ ((hL1.carry (Nat.le_refl _) (Ext.refl _).drew).cut p) (by omega)).mono ?_
                rintro e w2 ⟨rfl, hown2, hb2⟩
                refine ⟨_, rfl, hb2, ?_⟩
                simp only [List.setIfInBounds_toArray, List.set_cons_zero, List.set_cons_succ]
                refine seqX_read ?vpe8 rfl rfl rfl (fun w'' hE => ?hpe8) ?_
                case hpe8 => first | (go_simp; rfl) | go_simp
                simp only [List.setIfInBounds_toArray, List.set_cons_zero, List.set_cons_succ]
                refine seqX_read ?vpe9 rfl rfl rfl (fun w'' hE => ?hpe9) ?_
                case hpe9 => first | (go_simp; rfl) | go_simp
                simp only [List.setIfInBounds_toArray, List.set_cons_zero, List.set_cons_succ]
                refine seqX_read ?vpe10 rfl rfl rfl (fun w'' hE => ?hpe10) ?_
                case hpe10 => first | (go_simp; rfl) | go_simp
                simp only [List.setIfInBounds_toArray, List.set_cons_zero, List.set_cons_succ]
                refine seqX_done ?_
                go_wp2
                go_ret3
                refine .inr ⟨HE.out, _, rfl, ?_, hx1.trans ((Ext.refl _).drew.trans hb2)⟩
                rw [hnL]
                have hfin := own_weaken hown2 hx1.size
                exact hfin
            · have hv' : vld ((xs.drop s).take p) = false := by simpa using hv
              have HE : Hid (E = 4) := (by rw [hE0, if_neg hv] : E = 4)
              clear hE0
              go_enter Tryd.func77, Tryd.ntmps77
              go_wp2_with (first | (go_at_call 93; refine HN.mono ?_; rintro e w' ⟨rfl, rfl⟩) | (go_at_call 94; refine (valid_any _ _ _ _ _ hRt hT).mono ?_; rintro e w1 ⟨rfl, hx1⟩; have hRt1 := hRt.carry (Nat.le_refl _) hx1; have hL1 := hL.carry (Nat.le_refl _) hx1))
              go_ret3
              exact .inl ⟨by rw [HE.out]; decide, ret_txt (by rw [HE.out]; rfl), hx1⟩
  · have he' : ((e : Int) != 0) = true := by simp; omega
    rw [if_pos he] at hE0
    subst hE0
    go_enter Tryd.func77, Tryd.ntmps77
    go_wp2_with (first
      | (go_at_call 93; refine HN.mono ?_; rintro e w' ⟨rfl, rfl⟩))
    go_ret3
    exact .inl ⟨he, rfl, Ext.refl _⟩

end Go.Proofs.YtiidjdedeenijaaDoor
