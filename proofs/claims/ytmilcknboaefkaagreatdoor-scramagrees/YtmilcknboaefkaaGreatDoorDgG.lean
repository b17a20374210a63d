/- digest.shaBehind, walked. -/
import Derived.Test.YtmilcknboaefkaaGreatDoorDgF
set_option maxRecDepth 100000
namespace Go.Proofs.YtmilcknboaefkaaGreatDoor
open Go.RowKit

/-- What stands in memory between two steps. -/
structure ShW (w : World) (g1 g2 g3 : Nat) (hs bl : List Int) (wr : World) : Prop where
  k : Kt wr
  s : Ar wr g1 90 .u32 hs
  o : Ar wr g2 27 .u8 (List.replicate 32 0)
  bk : Ar wr g3 123 .u8 bl
  b : Below w.heap.size w wr

def lenV : Value → Nat
  | .slice _ n _ => n
  | _ => 0

theorem hidE {α : Type} (a : α) : ∃ x, Hid (a = x) := ⟨a, rfl⟩
theorem bd_cons {x : Int} {xs : List Int} (h0 : 0 ≤ x) (h1 : x ≤ 255) (h : Bd xs) : Bd (x :: xs) := fun y hy => by
  rcases List.mem_cons.1 hy with g | g
  · subst g; exact ⟨h0, h1⟩
  · exact h y g
theorem bd_zeros (n : Nat) : Bd (List.replicate n 0) := fun y hy => by rw [List.mem_replicate] at hy; omega
theorem lb_bd (base : List Int) (L : Int) (h : Bd base) : ∀ k, Bd (lb base L k)
  | 0 => h
  | k + 1 => by unfold lb; exact (lb_bd base L h k).set _ (by omega) (by omega)

set_option maxRecDepth 100000 in
set_option maxHeartbeats 1600000 in
theorem shaBehind_any (hs : List Int) (ah : Nat) (a : Option Addr) (n c : Nat) (xs : List Int) (w : World) (hh : hs.length = 8) (hah : ah ≤ 64) (hR : Rd w a n c xs) (hn : n ≤ 1000000000) (hK : Kt w) :
    Calls Tryz.prog 53 #[.agg (ic .u32 hs).toArray, .int .i64 ah, .slice a n c] w fun e w' => e = .returned (.agg (ic .u8 (shaB ah hs xs)).toArray) ∧ Below w.heap.size w w' := by
  have hl := hR.len
  have hcp := hR.cap
  have hmx : c ≤ 9223372036854775807 := hR.most
  have HL : Hid (xs.length = n) := hl
  clear hl
  go_enter Tryz.func53, Tryz.ntmps53
  go_wp2_with (first
    | (refine wp_box_ar rfl 90 (.tmp 0) rfl .u32 hs rfl ?_; intro g1 w1 A1 hg1 hb1)
    | (refine wp_alloc_ar rfl 27 rfl .u8 (List.replicate 32 0) 32 Tryz.z23 ?_; intro g2 w2 A2 hg2 hb2)
    | (refine wp_alloc_ar rfl 123 rfl .u8 (List.replicate 64 0) 64 Tryz.z55 ?_; intro g3 w3 A3 hg3 hb3))
  simp only [Act.put, List.setIfInBounds_toArray, List.set_cons_zero, List.set_cons_succ]
  have h12 : g1 ≠ g2 := by have := A1.lt; omega
  have h13 : g1 ≠ g3 := by have := A1.lt; have := hb2.size; omega
  have h23 : g2 ≠ g3 := by have := A2.lt; omega
  have hG1 : w.heap.size ≤ g1 := hg1
  have hG2 : w.heap.size ≤ g2 := by have := hb1.size; omega
  have hG3 : w.heap.size ≤ g3 := by have := hb1.size; have := hb2.size; omega
  have hKl := hK.lt
  have hb := (hb1.trans (hb2.mono hb1.size)).trans (hb3.mono (Nat.le_trans hb1.size hb2.size))
  have HS : ShW w g1 g2 g3 hs (List.replicate 64 0) w3 := ⟨hK.below (Nat.le_refl _) hb, (A1.below hb2 A1.lt).below hb3 (Nat.lt_of_lt_of_le A1.lt hb2.size), A2.below hb3 A2.lt, A3, hb⟩
  obtain ⟨L, HLL⟩ : ∃ L : Int, Hid (8 * ((ah : Int) + (n : Int)) = L) := ⟨_, rfl⟩
  rw [HLL.out]
  have hL0 : 0 ≤ L := by rw [← HLL.out]; omega
  have hL1 : L < 9223372036854775807 := by rw [← HLL.out]; omega
  clear A1 A2 A3 hb1 hb2 hb3 hg1 hg2 hg3 hb hK hcp hmx hah
  go_loopw [2] (fun sl wr => ∃ (k : Nat) (a' : Option Addr) (c' : Nat) (bl : List Int), 64 * k ≤ n ∧ sl = .slice a' (n - 64 * k) c' ∧ Rd w a' (n - 64 * k) c' (xs.drop (64 * k)) ∧ bl.length = 64 ∧ ShW w g1 g2 g3 (runB xs hs k) bl wr) (fun sl _ => lenV sl)
  case atStart => exact ⟨0, a, c, _, by omega, rfl, hR, rfl, HS⟩
  case round =>
    clear HS hR
    obtain ⟨k, a', c', bl, hk, rfl, hRw, hbl, HS⟩ := hrel
    obtain ⟨m, HM⟩ : ∃ m, Hid (n - 64 * k = m) := ⟨_, rfl⟩
    obtain ⟨ys, HY⟩ : ∃ ys, Hid (xs.drop (64 * k) = ys) := ⟨_, rfl⟩
    obtain ⟨h8, H8⟩ : ∃ h, Hid (runB xs hs k = h) := ⟨_, rfl⟩
    rw [HM.out, HY.out] at hRw
    have hR := hRw.carry (Nat.le_refl _) HS.b
    rw [H8.out] at HS
    rw [HM.out]
    have hcp := hR.cap
    have hmx : c' ≤ 9223372036854775807 := hR.most
    have hyl := hR.len
    have hmn : m ≤ 1000000000 := by rw [← HM.out]; omega
    have h8l : h8.length = 8 := by rw [← H8.out]; exact runB_len _ _ hh _
    by_cases h64 : 64 ≤ m
    · obtain ⟨b, off, rfl, _⟩ := hRw.flat (by omega)
      have hcl : (64 : Int) ≤ (m : Int) := by omega
      have hov : ov bl ys = ys.take 64 := by unfold ov; rw [hbl, List.drop_eq_nil_of_le (by omega), List.append_nil]
      have hbt : Bd (ys.take 64) := hR.bytes.take 64
      have htl : (ys.take 64).length = 64 := by rw [List.length_take]; omega
      have hml := mix_len h8 (ys.take 64) h8l
      have hi45 := (size_of Tryz.u45)
      have HYL : Hid (ys.length = m) := hyl
      clear hyl
      by_cases hce : c' = 64
      · subst hce
        obtain rfl : m = 64 := by omega
        go_wp2_with (first
          | (refine wp_copy_ar rfl (.tmp 20) (.tmp 21) rfl g3 64 64 rfl 123 bl HS.bk hbl _ 64 64 ys rfl hR ?_; intro w4 r4 A4 hk4 hs4; rw [hov] at A4)
          | (refine wp_load_ar rfl 90 (.tmp 3) rfl g1 rfl 90 .u32 h8 88 8 (HS.s.keep hk4 h13) Tryz.u45 h8l ?_)
          | (refine wp_load_ar rfl 123 (.tmp 8) rfl g3 rfl 123 .u8 (ys.take 64) 5 64 A4 Tryz.u55 htl ?_)
          | (go_at_call 80; refine (mixed_any h8 (ys.take 64) _ h8l htl hbt (HS.k.keep hk4 (by omega) (by omega))).mono ?_; rintro e w5 ⟨rfl, hb5⟩)
          | (refine wp_store_ar rfl 90 (.tmp 3) (.tmp 25) rfl g1 rfl .u32 (mix h8 (ys.take 64)) rfl 90 _ ((HS.s.keep hk4 h13).below hb5 (by have := HS.s.lt; omega)) (by rw [hml, h8l]) (by rw [hml]; exact hi45.2) ?_; intro w6 A6 hk6 hs6))
        have hs5 := hb5.size
        have hw : ShW w g1 g2 g3 (mix h8 (ys.take 64)) (ys.take 64) w6 := by
          have hl1 := HS.s.lt
          have hl2 := HS.o.lt
          have hl3 := HS.bk.lt
          have hb4 : Below w.heap.size w w4 := HS.b.trans (hk4.below HS.b.size (fun j hj => by omega))
          have hb5' : Below w.heap.size w w5 := hb4.trans (hb5.mono hb4.size)
          have hb6 : Below w.heap.size w w6 := hb5'.trans (hk6.below hb5'.size (fun j hj => by omega))
          exact ⟨((HS.k.keep hk4 (by omega) (by omega)).below (Nat.le_refl _) hb5).keep hk6 (by omega) (by omega), A6, ((HS.o.keep hk4 (by omega)).below hb5 (by omega)).keep hk6 (by omega), (A4.below hb5 (by omega)).keep hk6 (by omega), hb6⟩
        refine ⟨⟨k + 1, some ⟨b, off, none⟩, 0, _, by have := HM.out; omega, congrArg (fun x => Value.slice (some ⟨b, off, none⟩) x 0) (by have := HM.out; omega), ?_, htl, ?_⟩, by simp only [lenV]; omega⟩
        · rw [show n - 64 * (k + 1) = 0 from by have := HM.out; omega, show 64 * (k + 1) = 64 * k + 64 from by omega, ← List.drop_drop, HY.out, List.drop_eq_nil_of_le (by have := HYL.out; omega)]
          exact ⟨rfl, Nat.le_refl _, by unfold maxLen; omega, fun _ => rfl, Bd.nil, fun _ _ j hj => by omega⟩
        · show ShW w g1 g2 g3 (mix (runB xs hs k) ((xs.drop (64 * k)).take 64)) _ _
          rw [H8.out, HY.out]; exact hw
      · go_wp2_with (first
          | (refine wp_copy_ar rfl (.tmp 20) (.tmp 21) rfl g3 64 64 rfl 123 bl HS.bk hbl _ m c' ys rfl hR ?_; intro w4 r4 A4 hk4 hs4; rw [hov] at A4)
          | (refine wp_load_ar rfl 90 (.tmp 3) rfl g1 rfl 90 .u32 h8 88 8 (HS.s.keep hk4 h13) Tryz.u45 h8l ?_)
          | (refine wp_load_ar rfl 123 (.tmp 8) rfl g3 rfl 123 .u8 (ys.take 64) 5 64 A4 Tryz.u55 htl ?_)
          | (go_at_call 80; refine (mixed_any h8 (ys.take 64) _ h8l htl hbt (HS.k.keep hk4 (by omega) (by omega))).mono ?_; rintro e w5 ⟨rfl, hb5⟩)
          | (refine wp_store_ar rfl 90 (.tmp 3) (.tmp 25) rfl g1 rfl .u32 (mix h8 (ys.take 64)) rfl 90 _ ((HS.s.keep hk4 h13).below hb5 (by have := HS.s.lt; omega)) (by rw [hml, h8l]) (by rw [hml]; exact hi45.2) ?_; intro w6 A6 hk6 hs6))
        have hs5 := hb5.size
        have hw : ShW w g1 g2 g3 (mix h8 (ys.take 64)) (ys.take 64) w6 := by
          have hl1 := HS.s.lt
          have hl2 := HS.o.lt
          have hl3 := HS.bk.lt
          have hb4 : Below w.heap.size w w4 := HS.b.trans (hk4.below HS.b.size (fun j hj => by omega))
          have hb5' : Below w.heap.size w w5 := hb4.trans (hb5.mono hb4.size)
          have hb6 : Below w.heap.size w w6 := hb5'.trans (hk6.below hb5'.size (fun j hj => by omega))
          exact ⟨((HS.k.keep hk4 (by omega) (by omega)).below (Nat.le_refl _) hb5).keep hk6 (by omega) (by omega), A6, ((HS.o.keep hk4 (by omega)).below hb5 (by omega)).keep hk6 (by omega), (A4.below hb5 (by omega)).keep hk6 (by omega), hb6⟩
        refine ⟨⟨k + 1, _, _, _, by have := HM.out; omega, congrArg (fun x => Value.slice (some ⟨b, off + 64, none⟩) x (c' - 64)) (by have := HM.out; omega), ?_, htl, ?_⟩, by simp only [lenV]; omega⟩
        · rw [show n - 64 * (k + 1) = m - 64 from by have := HM.out; omega, show 64 * (k + 1) = 64 * k + 64 from by omega, ← List.drop_drop, HY.out]
          exact hRw.drop h64
        · show ShW w g1 g2 g3 (mix (runB xs hs k) ((xs.drop (64 * k)).take 64)) _ _
          rw [H8.out, HY.out]; exact hw
    · have hcl : ¬ (64 : Int) ≤ (m : Int) := by omega
      have hz55 : Tryz.prog.built 123 [] = some (ic .u8 (List.replicate 64 0)).toArray := by kernel_rfl
      have hi55 := (size_of Tryz.u55).2
      have hTE := ov_zero ys m hyl (by omega)
      have hol := ov_len (List.replicate 64 0) ys
      have hTl : (ys ++ (128 :: List.replicate (63 - m) 0)).length = 64 := by rw [List.length_append, hyl]; simp; omega
      have hTb : Bd (ys ++ (128 :: List.replicate (63 - m) 0)) := hR.bytes.append (bd_cons (by omega) (by omega) (bd_zeros _))
      have HYL : Hid (ys.length = m) := hyl
      have HXL : Hid (xs.length = 64 * k + m) := by have := HL.out; have := HM.out; exact (by omega : xs.length = 64 * k + m)
      have HXN : Hid (xs.length = n) := HL
      clear hyl HL
      obtain ⟨T1, HT1⟩ := hidE (ys ++ (128 :: List.replicate (63 - m) 0))
      obtain ⟨Z, HZ⟩ := hidE (List.replicate 64 0 : List Int)
      have hZl : Z.length = 64 := by rw [← HZ.out]; rfl
      rw [HT1.out] at hTl hTb hTE
      rw [HZ.out] at hz55 hTE hol
      have hols : (ov Z ys).length = 64 := by rw [hol]; exact hZl
      clear hol
      by_cases h56 : m < 56
      · have hcm : ¬ (56 : Int) ≤ (m : Int) := by omega
        go_wp2_with (first
          | (refine wp_build_ar rfl 123 rfl .u8 Z hz55 ?_)
          | (refine wp_store_ar rfl 123 (.tmp 8) (.tmp 28) rfl g3 rfl .u8 Z rfl 123 bl HS.bk (by rw [hbl, hZl]) (by rw [hZl]; exact hi55) ?_; intro w4 A4 hk4 hs4)
          | (refine wp_copy_ar rfl (.tmp 29) (.tmp 30) rfl g3 64 64 rfl 123 Z A4 hZl _ m c' ys rfl (hRw.carry (Nat.le_refl _) (HS.b.trans (hk4.below HS.b.size (fun q hq => by omega)))) ?_; intro w5 r5 A5 hk5 hs5; have hc5 := A5.cell (j := m) (by rw [hols]; omega); have hf5 := A5.fz m; generalize hxv : (ov Z ys).getD m 0 = xv at hc5; clear hxv))
        have HW : ShW w g1 g2 g3 h8 (lb T1 L 0) (w5.setCell ⟨g3, m, none⟩ (.int .u8 128)) := by
          have e4 : Below w.heap.size w w4 := HS.b.trans (hk4.below HS.b.size (fun q hq => by omega))
          have e5 : Below w.heap.size w w5 := e4.trans (hk5.below e4.size (fun q hq => by omega))
          refine ⟨((HS.k.keep hk4 (by omega) (by omega)).keep hk5 (by omega) (by omega)).keep (Keep.setCell (S := fun q => q = g3) (Keep.refl _ _) rfl _) (by omega) (by omega), ((HS.s.keep hk4 (by omega)).keep hk5 (by omega)).other (by omega) _, ((HS.o.keep hk4 (by omega)).keep hk5 (by omega)).other (by omega) _, ?_, e5.setCell (show w.heap.size ≤ g3 from hG3) _⟩
          have := A5.set m 128
          rw [hTE] at this; exact this
        clear A4 A5 hk4 hk5 hs4 hs5 hc5 hf5
        go_loopw [42] (fun i wr => ∃ j : Nat, j ≤ 8 ∧ i = .int .i64 j ∧ ShW w g1 g2 g3 h8 (lb T1 L j) wr) (fun i _ => 8 - (intOf i).toNat)
        case atStart => exact ⟨0, by omega, rfl, HW⟩
        case round =>
          clear HW HS
          obtain ⟨j, hj, rfl, HS⟩ := hrel
          by_cases hj8 : j < 8
          · have hcj : (j : Int) < 8 := by omega
            have hbl2 := lb_len T1 L j
            have hc := HS.bk.cell (j := 63 - j) (by rw [hbl2, hTl]; omega)
            have hf := HS.bk.fz (63 - j)
            generalize hxv : (lb T1 L j).getD (63 - j) 0 = xv at hc
            clear hxv hbl2 hTl
            go_wp2
            refine ⟨⟨j + 1, by omega, by go_num, ?_⟩, by simp [intOf]; omega⟩
            have := HS.bk.set (63 - j) (L / 2 ^ (8 * j) % 256)
            exact ⟨HS.k.keep (Keep.setCell (S := fun q => q = g3) (Keep.refl _ _) rfl _) (by omega) (by omega), HS.s.other (by omega) _, HS.o.other (by omega) _, this, HS.b.setCell (show w.heap.size ≤ g3 from hG3) _⟩
          · obtain rfl : j = 8 := by omega
            have hcj : ¬ ((8 : Nat) : Int) < 8 := by omega
            have hbl2 : (lb T1 L 8).length = 64 := by rw [lb_len, hTl]
            have hbd2 : Bd (lb T1 L 8) := lb_bd _ _ hTb 8
            have hml2 := mix_len h8 (lb T1 L 8) h8l
            have hbo := bo_len (mix h8 (lb T1 L 8)) 32
            have hi23 := (size_of Tryz.u23).2
            go_wp2_with (first
              | (refine wp_load_ar rfl 90 (.tmp 3) rfl g1 rfl 90 .u32 h8 88 8 HS.s Tryz.u45 h8l ?_)
              | (refine wp_load_ar rfl 123 (.tmp 8) rfl g3 rfl 123 .u8 (lb T1 L 8) 5 64 HS.bk Tryz.u55 hbl2 ?_)
              | (go_at_call 80; refine (mixed_any h8 (lb T1 L 8) _ h8l hbl2 hbd2 HS.k).mono ?_; rintro e w8 ⟨rfl, hb8⟩)
              | (go_at_call 81; refine (bytesOf_any (mix h8 (lb T1 L 8)) _ hml2).mono ?_; rintro e w9 ⟨rfl, hb9⟩)
              | (refine wp_store_ar rfl 27 (.tmp 6) (.tmp 57) rfl g2 rfl .u8 (bo (mix h8 (lb T1 L 8)) 32) rfl 27 _ ((HS.o.below hb8 HS.o.lt).below hb9 (Nat.lt_of_lt_of_le HS.o.lt hb8.size)) (by rw [hbo]; rfl) (by rw [hbo]; exact hi23) ?_; intro wE AE hkE hsE))
            refine bodyPost_ret (v := .agg (ic .u8 (bo (mix h8 (lb T1 L 8)) 32)).toArray) (ar_results rfl _ _ g2 27 .u8 _ 5 32 rfl AE Tryz.u23 hbo) rfl ⟨?_, ?_⟩
            · rw [end_lo ah k m n L xs ys hs h8 T1 HXN.out HXL.out h56 HY.out H8.out HT1.out HLL.out]
            · have e8 := HS.b.trans (hb8.mono HS.b.size)
              have e9 := e8.trans (hb9.mono e8.size)
              exact e9.trans (hkE.below e9.size (fun q hq => by omega))
      · have hcm : (56 : Int) ≤ (m : Int) := by omega
        have hml := mix_len h8 T1 h8l
        have hi45 := (size_of Tryz.u45).2
        go_wp2_with (first
          | (refine wp_build_ar rfl 123 rfl .u8 Z hz55 ?_)
          | (refine wp_store_ar rfl 123 (.tmp 8) (.tmp 28) rfl g3 rfl .u8 Z rfl 123 bl HS.bk (by rw [hbl, hZl]) (by rw [hZl]; exact hi55) ?_; intro w4 A4 hk4 hs4)
          | (refine wp_copy_ar rfl (.tmp 29) (.tmp 30) rfl g3 64 64 rfl 123 Z A4 hZl _ m c' ys rfl (hRw.carry (Nat.le_refl _) (HS.b.trans (hk4.below HS.b.size (fun q hq => by omega)))) ?_; intro w5 r5 A5 hk5 hs5; have hc5 := A5.cell (j := m) (by rw [hols]; omega); have hf5 := A5.fz m; generalize hxv : (ov Z ys).getD m 0 = xv at hc5; clear hxv)
          | (have AT : Ar (w5.setCell ⟨g3, m, none⟩ (.int .u8 128)) g3 123 .u8 T1 := (by have := A5.set m 128; rw [hTE] at this; exact this); have kT : Kt (w5.setCell ⟨g3, m, none⟩ (.int .u8 128)) := ((HS.k.keep hk4 (by omega) (by omega)).keep hk5 (by omega) (by omega)).keep (Keep.setCell (S := fun q => q = g3) (Keep.refl _ _) (p := ⟨g3, m, none⟩) rfl (.int .u8 128)) (by omega) (by omega); refine wp_load_ar rfl 90 (.tmp 3) rfl g1 rfl 90 .u32 h8 88 8 (((HS.s.keep hk4 (by omega)).keep hk5 (by omega)).other (by omega) _) Tryz.u45 h8l ?_)
          | (refine wp_load_ar rfl 123 (.tmp 8) rfl g3 rfl 123 .u8 T1 5 64 AT Tryz.u55 hTl ?_)
          | (go_at_call 80; refine (mixed_any h8 T1 _ h8l hTl hTb kT).mono ?_; rintro e w6 ⟨rfl, hb6⟩)
          | (refine wp_store_ar rfl 90 (.tmp 3) (.tmp 40) rfl g1 rfl .u32 (mix h8 T1) rfl 90 _ ((((HS.s.keep hk4 (by omega)).keep hk5 (by omega)).other (by omega) _).below hb6 (by have := HS.s.lt; simp [World.setCell]; omega)) (by rw [hml, h8l]) (by rw [hml]; exact hi45) ?_; intro w7 A7 hk7 hs7)
          | (refine wp_store_ar rfl 123 (.tmp 8) (.tmp 41) rfl g3 rfl .u8 Z rfl 123 T1 ((AT.below hb6 (by have := A5.lt; simp [World.setCell]; omega)).keep hk7 (by omega)) (by rw [hTl, hZl]) (by rw [hZl]; exact hi55) ?_; intro w8 A8 hk8 hs8))
        have HW : ShW w g1 g2 g3 (mix h8 T1) (lb Z L 0) w8 := by
          have e4 : Below w.heap.size w w4 := HS.b.trans (hk4.below HS.b.size (fun q hq => by omega))
          have e5 : Below w.heap.size w w5 := e4.trans (hk5.below e4.size (fun q hq => by omega))
          have e5' : Below w.heap.size w (w5.setCell ⟨g3, m, none⟩ (.int .u8 128)) := e5.setCell (show w.heap.size ≤ g3 from hG3) _
          have e6 := e5'.trans (hb6.mono e5'.size)
          have e7 : Below w.heap.size w w7 := e6.trans (hk7.below e6.size (fun q hq => by omega))
          have e8 : Below w.heap.size w w8 := e7.trans (hk8.below e7.size (fun q hq => by omega))
          have l1 := HS.s.lt
          have l2 := HS.o.lt
          have ls := hb6.size
          have lz : (w5.setCell ⟨g3, m, none⟩ (.int .u8 128)).heap.size = w5.heap.size := by simp [World.setCell]
          have kk := ((HS.k.keep hk4 (by omega) (by omega)).keep hk5 (by omega) (by omega)).keep (Keep.setCell (S := fun q => q = g3) (Keep.refl _ _) (p := ⟨g3, m, none⟩) rfl (.int .u8 128)) (by omega) (by omega)
          exact ⟨((kk.below (Nat.le_refl _) hb6).keep hk7 (by omega) (by omega)).keep hk8 (by omega) (by omega), A7.keep hk8 (by omega), (((((HS.o.keep hk4 (by omega)).keep hk5 (by omega)).other (by omega) _).below hb6 (by omega)).keep hk7 (by omega)).keep hk8 (by omega), A8, e8⟩
        clear A4 A5 A7 A8 hk4 hk5 hk7 hk8 hs4 hs5 hs7 hs8 hc5 hf5 hb6 AT kT
        have hTl : Z.length = 64 := hZl
        have hTb : Bd Z := by rw [← HZ.out]; exact bd_zeros 64
        go_loopw [42] (fun i wr => ∃ j : Nat, j ≤ 8 ∧ i = .int .i64 j ∧ ShW w g1 g2 g3 (mix h8 T1) (lb Z L j) wr) (fun i _ => 8 - (intOf i).toNat)
        case atStart => exact ⟨0, by omega, rfl, HW⟩
        case round =>
          clear HW HS
          obtain ⟨j, hj, rfl, HS⟩ := hrel
          by_cases hj8 : j < 8
          · have hcj : (j : Int) < 8 := by omega
            have hbl2 := lb_len Z L j
            have hc := HS.bk.cell (j := 63 - j) (by rw [hbl2, hTl]; omega)
            have hf := HS.bk.fz (63 - j)
            generalize hxv : (lb Z L j).getD (63 - j) 0 = xv at hc
            clear hxv hbl2 hTl
            go_wp2
            refine ⟨⟨j + 1, by omega, by go_num, ?_⟩, by simp [intOf]; omega⟩
            have := HS.bk.set (63 - j) (L / 2 ^ (8 * j) % 256)
            exact ⟨HS.k.keep (Keep.setCell (S := fun q => q = g3) (Keep.refl _ _) rfl _) (by omega) (by omega), HS.s.other (by omega) _, HS.o.other (by omega) _, this, HS.b.setCell (show w.heap.size ≤ g3 from hG3) _⟩
          · obtain rfl : j = 8 := by omega
            have hcj : ¬ ((8 : Nat) : Int) < 8 := by omega
            have hbl2 : (lb Z L 8).length = 64 := by rw [lb_len, hTl]
            have hbd2 : Bd (lb Z L 8) := lb_bd _ _ hTb 8
            have hml2 := mix_len (mix h8 T1) (lb Z L 8) hml
            have hbo := bo_len (mix (mix h8 T1) (lb Z L 8)) 32
            have hi23 := (size_of Tryz.u23).2
            go_wp2_with (first
              | (refine wp_load_ar rfl 90 (.tmp 3) rfl g1 rfl 90 .u32 (mix h8 T1) 88 8 HS.s Tryz.u45 hml ?_)
              | (refine wp_load_ar rfl 123 (.tmp 8) rfl g3 rfl 123 .u8 (lb Z L 8) 5 64 HS.bk Tryz.u55 hbl2 ?_)
              | (go_at_call 80; refine (mixed_any (mix h8 T1) (lb Z L 8) _ hml hbl2 hbd2 HS.k).mono ?_; rintro e w8 ⟨rfl, hb8⟩)
              | (go_at_call 81; refine (bytesOf_any (mix (mix h8 T1) (lb Z L 8)) _ hml2).mono ?_; rintro e w9 ⟨rfl, hb9⟩)
              | (refine wp_store_ar rfl 27 (.tmp 6) (.tmp 57) rfl g2 rfl .u8 (bo (mix (mix h8 T1) (lb Z L 8)) 32) rfl 27 _ ((HS.o.below hb8 HS.o.lt).below hb9 (Nat.lt_of_lt_of_le HS.o.lt hb8.size)) (by rw [hbo]; rfl) (by rw [hbo]; exact hi23) ?_; intro wE AE hkE hsE))
            refine bodyPost_ret (v := .agg (ic .u8 (bo (mix (mix h8 T1) (lb Z L 8)) 32)).toArray) (ar_results rfl _ _ g2 27 .u8 _ 5 32 rfl AE Tryz.u23 hbo) rfl ⟨?_, ?_⟩
            · rw [end_hi ah k m n L xs ys hs h8 T1 Z HXN.out HXL.out (by omega) (by omega) HY.out H8.out HT1.out HZ.out HLL.out]
            · have e8 := HS.b.trans (hb8.mono HS.b.size)
              have e9 := e8.trans (hb9.mono e8.size)
              exact e9.trans (hkE.below e9.size (fun q hq => by omega))

end Go.Proofs.YtmilcknboaefkaaGreatDoor
