/- The reader's walk over a stanza's parts. -/
import Derived.Test.YtomkcmkbehcjnaaDoorStzK
namespace Go.Proofs.YtomkcmkbehcjnaaDoor
open Go.RowKit

set_option maxHeartbeats 12800000 in
set_option maxRecDepth 100000 in
theorem stanza_parts (r : Nat) (a : Option Addr) (n c : Nat) (X : List Int) (w : World) (h : RdA w r a n c X) (hL : Lays w) (hr5 : 5 ≤ r) {N k E I k1 : Nat} {Y : List Int} (hs : scan X 0 0 = (N, k, E)) (hE : kerr N E = 0) (hs1 : scan (X.drop k) 0 0 = (I, k1, 0)) (hY : (X.drop k).drop k1 = Y) (hH : herr N Y = 0) :
    Calls Tryd.prog 38 #[.pointer (some ⟨r, 0, none⟩)] w (StP (rdSt X) r w) := by
  have hz1 := Sz8.new w
  have hb1 : Below w.heap.size w (w.alloc (.cells #[.int .i64 0, .int .u64 0, .string ⟨#[]⟩, .string ⟨#[]⟩, .string ⟨#[]⟩, .slice none 0 0, .int .i64 0, .float .f64 0] 26)) := (Below.refl _ _).alloc (Nat.le_refl _) _
  have hrlt : r < w.heap.size := World.block_lt_of_cell? w _ h.cell
  have h1 := h.keep (Keep.ofBelow (S := fun _ => False) hb1) (fun h => h) (fun _ _ h => h)
  have hL1 := hL.carry hb1
  have HK : Hid (∀ w', Keep (fun k => k = r ∨ k = w.heap.size) (w.alloc (.cells #[.int .i64 0, .int .u64 0, .string ⟨#[]⟩, .string ⟨#[]⟩, .string ⟨#[]⟩, .slice none 0 0, .int .i64 0, .float .f64 0] 26)) w' → Keep (fun k => k = r) w w') := fun w' k => keep_new k
  obtain ⟨x, Hx⟩ : ∃ x, Hid (Y.getD 0 0 = x) := ⟨_, rfl⟩
  have HR : Hid (∀ z Z e, rdFrom x 6 0 sz0 (Y.drop 1) = (z, Z, e) → rdSt X = if e ≠ 0 then (0, 0, sz0, e) else if Z.length ≠ 0 then (0, 0, sz0, 2) else (N, I, z, 0)) := fun z Z e hp => rdSt_parts hs hE hs1 hY hH (by rw [Hx.out]; exact hp)
  have hsf := run_store_float
  have cK := kind_any r a n c X _ h1 hs
  rw [hE] at cK
  replace cK := stp_good cK
  have hN47 := kerr_ok hE
  clear hs hE
  generalize hW1 : w.alloc (.cells #[.int .i64 0, .int .u64 0, .string ⟨#[]⟩, .string ⟨#[]⟩, .string ⟨#[]⟩, .slice none 0 0, .int .i64 0, .float .f64 0] 26) = W1 at hz1 hb1 h1 hL1 HK cK
  have HW1 : Hid (w.alloc (.cells #[.int .i64 0, .int .u64 0, .string ⟨#[]⟩, .string ⟨#[]⟩, .string ⟨#[]⟩, .slice none 0 0, .int .i64 0, .float .f64 0] 26) = W1) := hW1
  clear hW1
  generalize X.drop k = X1 at cK hs1 hY
  have HY : Hid (X1.drop k1 = Y) := hY
  clear hY
  go_enter Tryd.func38, Tryd.ntmps38
  go_upto_region 4 with (first
    | (go_at_call 59; rw [HW1.out]; refine cK.mono ?_; rintro e w2 ⟨rfl, hat2, hk2⟩; have hz2 := hz1.keep hk2 (fun e => by omega); have z0 := hz2.cell 0 (by omega); have z1 := hz2.thaw 0; obtain ⟨p1, ⟨a3, n3, c3, p2⟩, p3⟩ := pt_put hz1 hrlt hat2 hk2 (i := 0) (by omega) (.int .i64 (N : Int)))
    | (go_at_call 60; refine (stp_good (takeU_any r a3 n3 c3 X1 _ p2 hs1)).mono ?_; rw [HY.out]; rintro e w4 ⟨rfl, hat4, hk4⟩; have hz4 := p1.keep hk4 (fun e => by omega); have y0 := hz4.cell 1 (by omega); have y1 := hz4.thaw 1; have y2 := hz4.cell 0 (by omega); obtain ⟨r1, ⟨a5, n5, c5, r2⟩, r3⟩ := pt_put p1 hrlt hat4 hk4 (i := 1) (by omega) (.int .u64 (I : Int)); have hk5 := p3.trans r3; have hL5 := hL1.keepR hr5 (r := r) (fun k e => by omega) hk5)
    | (go_at_call 62; have cH := has_any r a5 n5 c5 Y _ r2 N hN47 hL5; rw [hH, Hx.out] at cH; refine (stp_good cH).mono ?_; rintro e w6 ⟨rfl, hat6, hk6⟩))
  generalize Y.drop 1 = Y1 at HR hat6
  have hk6' : Keep (fun k => k = r ∨ k = w.heap.size) W1 w6 := hk5.trans (hk6.mono (fun j e => Or.inl e))
  have hz6 := r1.keep hk6 (fun e => by omega)
  have hL6 := hL1.keepR hr5 (r := r) (fun k e => by omega) hk6'
  clear cK z0 z1 y0 y1 y2 p1 p2 p3 r1 r2 r3 hk5 hL5 hk6 hat2 hat4 hk2 hk4 hz2 hz4
  have o0 : w6.cell? ⟨0, 0, none⟩ = some (.int .u8 1) := hL6.ord 0 (by omega)
  have o1 : w6.cell? ⟨0, 1, none⟩ = some (.int .u8 2) := hL6.ord 1 (by omega)
  have o2 : w6.cell? ⟨0, 2, none⟩ = some (.int .u8 4) := hL6.ord 2 (by omega)
  have o3 : w6.cell? ⟨0, 3, none⟩ = some (.int .u8 8) := hL6.ord 3 (by omega)
  have o4 : w6.cell? ⟨0, 4, none⟩ = some (.int .u8 16) := hL6.ord 4 (by omega)
  have o5 : w6.cell? ⟨0, 5, none⟩ = some (.int .u8 32) := hL6.ord 5 (by omega)
  go_wp2
  clear o0 o1 o2 o3 o4 o5 hL6
  have hrb : r < w.heap.size := hrlt
  have x0 := ixo_0; have x1 := ixo_1; have x2 := ixo_2; have x3 := ixo_3; have x4 := ixo_4; have x5 := ixo_5
  go_loopw [17] (fun i wr => ∃ (k m : Nat) (A B T : ByteArray) (L : List ByteArray) (la : Option Addr) (ln lc : Nat) (Nn : Int) (F : Nat) (Z : List Int), k + m = 6 ∧ i = .int .i64 k ∧ Hid (rdFrom x 6 0 sz0 Y1 = rdFrom x m k ⟨A, B, T, L, Nn, F⟩ Z) ∧ Sz8 wr w.heap.size [.int .i64 (N : Int), .int .u64 I, .string A, .string B, .string T, .slice la ln lc, .int .i64 Nn, .float .f64 F] ∧ LO wr (w.heap.size + 1) la ln lc L ∧ RdAt wr r Z ∧ Keep (fun k => k = r ∨ k = w.heap.size) W1 wr) (fun i _ => 6 - (intOf i).toNat)
  case atStart => exact ⟨0, 6, _, _, _, _, _, _, _, _, _, _, by omega, rfl, rfl, hz6, ⟨(fun _ h => by cases h), .inl ⟨rfl, rfl, rfl, rfl⟩⟩, hat6, hk6'⟩
  case round =>
    obtain ⟨k, m, A, B, T, L, la, ln, lc, Nn, F, Z, hkm, rfl, HF, hz, hlo, ⟨a2, n2, c2, hR2⟩, hkr⟩ := hrel
    clear hz6 hat6 hk6'
    have hLr := hL1.keepR hr5 (r := r) (fun k e => by omega) hkr
    have hln := hlo.len
    have hcase : k = 0 ∨ k = 1 ∨ k = 2 ∨ k = 3 ∨ k = 4 ∨ k = 5 ∨ k = 6 := by omega
    rcases hcase with rfl | rfl | rfl | rfl | rfl | rfl | rfl
    · obtain rfl : m = 6 - 0 := by omega
      cases hb : hbit x 0 with
      | false =>
        have hb' : (bits .and .u8 x 1 == 0) = true := not_zero (show (bits .and .u8 x 1 != 0) = false from hb)
        have HF' : Hid (rdFrom x 6 0 sz0 Y1 = rdFrom x 5 1 ⟨A, B, T, L, Nn, F⟩ Z) := HF.out.trans (rdFrom_no hb)
        clear HF hb
        go_wp2
        go_roundw
        case rel => exact ⟨1, 5, A, B, T, L, la, ln, lc, Nn, F, Z, by omega, by go_num, HF', hz, hlo, ⟨a2, n2, c2, hR2⟩, hkr⟩
        case measure => simp [intOf]
      | true =>
        have hb' : (bits .and .u8 x 1 == 0) = false := not_zero (show (bits .and .u8 x 1 != 0) = true from hb)
        have cP := part_0 r a2 n2 c2 Z wr w.heap.size _ hR2 hz hrb hLr.tabs
        by_cases hE : terr Z 1024 = 0
        · have cP' := cP.mono (fun e w' g => (g.resolve_left (fun g => g.1 hE)).2 : ∀ e w', _ → PtG _ (Z.drop (tlen Z)) r w.heap.size wr e w')
          clear cP
          cases ht : (tbits (tN Z 1024) B T ln Nn F).getD 0 false with
          | true =>
            have ht' : (Sz.bits ⟨(tN Z 1024), B, T, L, Nn, F⟩).getD 0 false = true := by show (tbits _ _ _ L.length _ _).getD 0 false = true; rw [hln]; exact ht
            have HF' : Hid (rdFrom x 6 0 sz0 Y1 = rdFrom x 5 1 ⟨(tN Z 1024), B, T, L, Nn, F⟩ (Z.drop (tlen Z))) := HF.out.trans (rdFrom_go hb hE ht')
            have htz : (bits .and .u8 ((thr (tN Z 1024) B T ln Nn F : Nat) : Int) 1 == 0) = false := by rw [andb0, ht]; rfl
            clear ht' ht hE HF hb
            generalize Z.drop (tlen Z) = Z' at cP' HF'
            generalize tN Z 1024 = S at cP' HF' htz
            go_wp2_with (first
              | (go_at_call 63; refine cP'.mono ?_; rintro e w2 ⟨rfl, hz2, hat2, hk2⟩; have hz2' : Sz8 w2 w.heap.size [.int .i64 (N : Int), .int .u64 I, .string S, .string B, .string T, .slice la ln lc, .int .i64 Nn, .float .f64 F] := hz2; obtain ⟨q0, q1, q2, q3, q4, q5, q6, q7⟩ := hz2'.sz; have hkk := hkr.trans hk2; have hL2 := hL1.keepR hr5 (r := r) (fun k e => by omega) hkk)
              | (go_at_call 25; refine (there_any _ I S B T la ln lc Nn F _ hL2).mono ?_; rintro e w3 ⟨rfl, hb3⟩))
            have K3 := Keep.ofBelow (S := fun _ => False) hb3
            clear q0 q1 q2 q3 q4 q5 q6 q7
            go_roundw
            case rel => exact ⟨1, 5, S, B, T, L, la, ln, lc, Nn, F, Z', by omega, by go_num, HF', hz2'.keep K3 (fun h => h), (hlo.keep hk2 (fun g hg _ => by omega)).keep K3 (fun _ _ _ h => h), hat2.kp K3 (fun h => h) (fun _ _ h => h), hkk.trans (K3.mono (fun _ h => h.elim))⟩
            case measure => simp [intOf]
          | false =>
            have ht' : (Sz.bits ⟨(tN Z 1024), B, T, L, Nn, F⟩).getD 0 false = false := by show (tbits _ _ _ L.length _ _).getD 0 false = false; rw [hln]; exact ht
            have HF' : Hid (rdFrom x 6 0 sz0 Y1 = (⟨(tN Z 1024), B, T, L, Nn, F⟩, Z.drop (tlen Z), 2)) := HF.out.trans (rdFrom_void hb hE ht')
            have htz : (bits .and .u8 ((thr (tN Z 1024) B T ln Nn F : Nat) : Int) 1 == 0) = true := by rw [andb0, ht]; rfl
            clear ht' ht hE HF hb
            generalize Z.drop (tlen Z) = Z' at cP' HF'
            generalize tN Z 1024 = S at cP' HF' htz
            go_wp2_with (first
              | (go_at_call 63; refine cP'.mono ?_; rintro e w2 ⟨rfl, hz2, hat2, hk2⟩; have hz2' : Sz8 w2 w.heap.size [.int .i64 (N : Int), .int .u64 I, .string S, .string B, .string T, .slice la ln lc, .int .i64 Nn, .float .f64 F] := hz2; obtain ⟨q0, q1, q2, q3, q4, q5, q6, q7⟩ := hz2'.sz; have hkk := hkr.trans hk2; have hL2 := hL1.keepR hr5 (r := r) (fun k e => by omega) hkk)
              | (go_at_call 25; refine (there_any _ I S B T la ln lc Nn F _ hL2).mono ?_; rintro e w3 ⟨rfl, hb3⟩)
              | (go_at_call 64; refine (giveUp_any _ _).mono ?_; rintro e w4 ⟨rfl, rfl⟩))
            refine ⟨rfl, .inl ?_⟩
            rw [HR.out _ _ _ HF'.out, if_pos (by decide)]
            exact ⟨by simp, rfl, HK.out _ (hkk.trans (Keep.ofBelow hb3))⟩
        · have cP' := cP.mono (fun e w' g => (g.resolve_right (fun g => hE g.1)).2 : ∀ e w', _ → PtB (terr Z 1024) r w.heap.size wr e w')
          clear cP
          have HF' : Hid (rdFrom x 6 0 sz0 Y1 = (⟨(tN Z 1024), B, T, L, Nn, F⟩, Z.drop (tlen Z), terr Z 1024)) := HF.out.trans (rdFrom_err hb hE)
          clear HF hb
          go_wp2_with (go_at_call 63; refine cP'.mono ?_; rintro e w2 ⟨rfl, hk2⟩)
          refine ⟨rfl, .inl ?_⟩
          rw [HR.out _ _ _ HF'.out, if_pos hE]
          exact ⟨hE, rfl, HK.out _ (hkr.trans hk2)⟩
    · obtain rfl : m = 6 - 1 := by omega
      cases hb : hbit x 1 with
      | false =>
        have hb' : (bits .and .u8 x 2 == 0) = true := not_zero (show (bits .and .u8 x 2 != 0) = false from hb)
        have HF' : Hid (rdFrom x 6 0 sz0 Y1 = rdFrom x 4 2 ⟨A, B, T, L, Nn, F⟩ Z) := HF.out.trans (rdFrom_no hb)
        clear HF hb
        go_wp2
        go_roundw
        case rel => exact ⟨2, 4, A, B, T, L, la, ln, lc, Nn, F, Z, by omega, by go_num, HF', hz, hlo, ⟨a2, n2, c2, hR2⟩, hkr⟩
        case measure => simp [intOf]
      | true =>
        have hb' : (bits .and .u8 x 2 == 0) = false := not_zero (show (bits .and .u8 x 2 != 0) = true from hb)
        have cP := part_1 r a2 n2 c2 Z wr w.heap.size _ hR2 hz hrb hLr.tabs
        by_cases hE : terr Z 1024 = 0
        · have cP' := cP.mono (fun e w' g => (g.resolve_left (fun g => g.1 hE)).2 : ∀ e w', _ → PtG _ (Z.drop (tlen Z)) r w.heap.size wr e w')
          clear cP
          cases ht : (tbits A (tN Z 1024) T ln Nn F).getD 1 false with
          | true =>
            have ht' : (Sz.bits ⟨A, (tN Z 1024), T, L, Nn, F⟩).getD 1 false = true := by show (tbits _ _ _ L.length _ _).getD 1 false = true; rw [hln]; exact ht
            have HF' : Hid (rdFrom x 6 0 sz0 Y1 = rdFrom x 4 2 ⟨A, (tN Z 1024), T, L, Nn, F⟩ (Z.drop (tlen Z))) := HF.out.trans (rdFrom_go hb hE ht')
            have htz : (bits .and .u8 ((thr A (tN Z 1024) T ln Nn F : Nat) : Int) 2 == 0) = false := by rw [andb1, ht]; rfl
            clear ht' ht hE HF hb
            generalize Z.drop (tlen Z) = Z' at cP' HF'
            generalize tN Z 1024 = S at cP' HF' htz
            go_wp2_with (first
              | (go_at_call 63; refine cP'.mono ?_; rintro e w2 ⟨rfl, hz2, hat2, hk2⟩; have hz2' : Sz8 w2 w.heap.size [.int .i64 (N : Int), .int .u64 I, .string A, .string S, .string T, .slice la ln lc, .int .i64 Nn, .float .f64 F] := hz2; obtain ⟨q0, q1, q2, q3, q4, q5, q6, q7⟩ := hz2'.sz; have hkk := hkr.trans hk2; have hL2 := hL1.keepR hr5 (r := r) (fun k e => by omega) hkk)
              | (go_at_call 25; refine (there_any _ I A S T la ln lc Nn F _ hL2).mono ?_; rintro e w3 ⟨rfl, hb3⟩))
            have K3 := Keep.ofBelow (S := fun _ => False) hb3
            clear q0 q1 q2 q3 q4 q5 q6 q7
            go_roundw
            case rel => exact ⟨2, 4, A, S, T, L, la, ln, lc, Nn, F, Z', by omega, by go_num, HF', hz2'.keep K3 (fun h => h), (hlo.keep hk2 (fun g hg _ => by omega)).keep K3 (fun _ _ _ h => h), hat2.kp K3 (fun h => h) (fun _ _ h => h), hkk.trans (K3.mono (fun _ h => h.elim))⟩
            case measure => simp [intOf]
          | false =>
            have ht' : (Sz.bits ⟨A, (tN Z 1024), T, L, Nn, F⟩).getD 1 false = false := by show (tbits _ _ _ L.length _ _).getD 1 false = false; rw [hln]; exact ht
            have HF' : Hid (rdFrom x 6 0 sz0 Y1 = (⟨A, (tN Z 1024), T, L, Nn, F⟩, Z.drop (tlen Z), 2)) := HF.out.trans (rdFrom_void hb hE ht')
            have htz : (bits .and .u8 ((thr A (tN Z 1024) T ln Nn F : Nat) : Int) 2 == 0) = true := by rw [andb1, ht]; rfl
            clear ht' ht hE HF hb
            generalize Z.drop (tlen Z) = Z' at cP' HF'
            generalize tN Z 1024 = S at cP' HF' htz
            go_wp2_with (first
              | (go_at_call 63; refine cP'.mono ?_; rintro e w2 ⟨rfl, hz2, hat2, hk2⟩; have hz2' : Sz8 w2 w.heap.size [.int .i64 (N : Int), .int .u64 I, .string A, .string S, .string T, .slice la ln lc, .int .i64 Nn, .float .f64 F] := hz2; obtain ⟨q0, q1, q2, q3, q4, q5, q6, q7⟩ := hz2'.sz; have hkk := hkr.trans hk2; have hL2 := hL1.keepR hr5 (r := r) (fun k e => by omega) hkk)
              | (go_at_call 25; refine (there_any _ I A S T la ln lc Nn F _ hL2).mono ?_; rintro e w3 ⟨rfl, hb3⟩)
              | (go_at_call 64; refine (giveUp_any _ _).mono ?_; rintro e w4 ⟨rfl, rfl⟩))
            refine ⟨rfl, .inl ?_⟩
            rw [HR.out _ _ _ HF'.out, if_pos (by decide)]
            exact ⟨by simp, rfl, HK.out _ (hkk.trans (Keep.ofBelow hb3))⟩
        · have cP' := cP.mono (fun e w' g => (g.resolve_right (fun g => hE g.1)).2 : ∀ e w', _ → PtB (terr Z 1024) r w.heap.size wr e w')
          clear cP
          have HF' : Hid (rdFrom x 6 0 sz0 Y1 = (⟨A, (tN Z 1024), T, L, Nn, F⟩, Z.drop (tlen Z), terr Z 1024)) := HF.out.trans (rdFrom_err hb hE)
          clear HF hb
          go_wp2_with (go_at_call 63; refine cP'.mono ?_; rintro e w2 ⟨rfl, hk2⟩)
          refine ⟨rfl, .inl ?_⟩
          rw [HR.out _ _ _ HF'.out, if_pos hE]
          exact ⟨hE, rfl, HK.out _ (hkr.trans hk2)⟩
    · obtain rfl : m = 6 - 2 := by omega
      cases hb : hbit x 2 with
      | false =>
        have hb' : (bits .and .u8 x 4 == 0) = true := not_zero (show (bits .and .u8 x 4 != 0) = false from hb)
        have HF' : Hid (rdFrom x 6 0 sz0 Y1 = rdFrom x 3 3 ⟨A, B, T, L, Nn, F⟩ Z) := HF.out.trans (rdFrom_no hb)
        clear HF hb
        go_wp2
        go_roundw
        case rel => exact ⟨3, 3, A, B, T, L, la, ln, lc, Nn, F, Z, by omega, by go_num, HF', hz, hlo, ⟨a2, n2, c2, hR2⟩, hkr⟩
        case measure => simp [intOf]
      | true =>
        have hb' : (bits .and .u8 x 4 == 0) = false := not_zero (show (bits .and .u8 x 4 != 0) = true from hb)
        have cP := part_2 r a2 n2 c2 Z wr w.heap.size _ hR2 hz hrb hLr.tabs
        by_cases hE : terr Z 1024 = 0
        · have cP' := cP.mono (fun e w' g => (g.resolve_left (fun g => g.1 hE)).2 : ∀ e w', _ → PtG _ (Z.drop (tlen Z)) r w.heap.size wr e w')
          clear cP
          cases ht : (tbits A B (tN Z 1024) ln Nn F).getD 2 false with
          | true =>
            have ht' : (Sz.bits ⟨A, B, (tN Z 1024), L, Nn, F⟩).getD 2 false = true := by show (tbits _ _ _ L.length _ _).getD 2 false = true; rw [hln]; exact ht
            have HF' : Hid (rdFrom x 6 0 sz0 Y1 = rdFrom x 3 3 ⟨A, B, (tN Z 1024), L, Nn, F⟩ (Z.drop (tlen Z))) := HF.out.trans (rdFrom_go hb hE ht')
            have htz : (bits .and .u8 ((thr A B (tN Z 1024) ln Nn F : Nat) : Int) 4 == 0) = false := by rw [andb2, ht]; rfl
            clear ht' ht hE HF hb
            generalize Z.drop (tlen Z) = Z' at cP' HF'
            generalize tN Z 1024 = S at cP' HF' htz
            go_wp2_with (first
              | (go_at_call 63; refine cP'.mono ?_; rintro e w2 ⟨rfl, hz2, hat2, hk2⟩; have hz2' : Sz8 w2 w.heap.size [.int .i64 (N : Int), .int .u64 I, .string A, .string B, .string S, .slice la ln lc, .int .i64 Nn, .float .f64 F] := hz2; obtain ⟨q0, q1, q2, q3, q4, q5, q6, q7⟩ := hz2'.sz; have hkk := hkr.trans hk2; have hL2 := hL1.keepR hr5 (r := r) (fun k e => by omega) hkk)
              | (go_at_call 25; refine (there_any _ I A B S la ln lc Nn F _ hL2).mono ?_; rintro e w3 ⟨rfl, hb3⟩))
            have K3 := Keep.ofBelow (S := fun _ => False) hb3
            clear q0 q1 q2 q3 q4 q5 q6 q7
            go_roundw
            case rel => exact ⟨3, 3, A, B, S, L, la, ln, lc, Nn, F, Z', by omega, by go_num, HF', hz2'.keep K3 (fun h => h), (hlo.keep hk2 (fun g hg _ => by omega)).keep K3 (fun _ _ _ h => h), hat2.kp K3 (fun h => h) (fun _ _ h => h), hkk.trans (K3.mono (fun _ h => h.elim))⟩
            case measure => simp [intOf]
          | false =>
            have ht' : (Sz.bits ⟨A, B, (tN Z 1024), L, Nn, F⟩).getD 2 false = false := by show (tbits _ _ _ L.length _ _).getD 2 false = false; rw [hln]; exact ht
            have HF' : Hid (rdFrom x 6 0 sz0 Y1 = (⟨A, B, (tN Z 1024), L, Nn, F⟩, Z.drop (tlen Z), 2)) := HF.out.trans (rdFrom_void hb hE ht')
            have htz : (bits .and .u8 ((thr A B (tN Z 1024) ln Nn F : Nat) : Int) 4 == 0) = true := by rw [andb2, ht]; rfl
            clear ht' ht hE HF hb
            generalize Z.drop (tlen Z) = Z' at cP' HF'
            generalize tN Z 1024 = S at cP' HF' htz
            go_wp2_with (first
              | (go_at_call 63; refine cP'.mono ?_; rintro e w2 ⟨rfl, hz2, hat2, hk2⟩; have hz2' : Sz8 w2 w.heap.size [.int .i64 (N : Int), .int .u64 I, .string A, .string B, .string S, .slice la ln lc, .int .i64 Nn, .float .f64 F] := hz2; obtain ⟨q0, q1, q2, q3, q4, q5, q6, q7⟩ := hz2'.sz; have hkk := hkr.trans hk2; have hL2 := hL1.keepR hr5 (r := r) (fun k e => by omega) hkk)
              | (go_at_call 25; refine (there_any _ I A B S la ln lc Nn F _ hL2).mono ?_; rintro e w3 ⟨rfl, hb3⟩)
              | (go_at_call 64; refine (giveUp_any _ _).mono ?_; rintro e w4 ⟨rfl, rfl⟩))
            refine ⟨rfl, .inl ?_⟩
            rw [HR.out _ _ _ HF'.out, if_pos (by decide)]
            exact ⟨by simp, rfl, HK.out _ (hkk.trans (Keep.ofBelow hb3))⟩
        · have cP' := cP.mono (fun e w' g => (g.resolve_right (fun g => hE g.1)).2 : ∀ e w', _ → PtB (terr Z 1024) r w.heap.size wr e w')
          clear cP
          have HF' : Hid (rdFrom x 6 0 sz0 Y1 = (⟨A, B, (tN Z 1024), L, Nn, F⟩, Z.drop (tlen Z), terr Z 1024)) := HF.out.trans (rdFrom_err hb hE)
          clear HF hb
          go_wp2_with (go_at_call 63; refine cP'.mono ?_; rintro e w2 ⟨rfl, hk2⟩)
          refine ⟨rfl, .inl ?_⟩
          rw [HR.out _ _ _ HF'.out, if_pos hE]
          exact ⟨hE, rfl, HK.out _ (hkr.trans hk2)⟩
    · obtain rfl : m = 6 - 3 := by omega
      cases hb : hbit x 3 with
      | false =>
        have hb' : (bits .and .u8 x 8 == 0) = true := not_zero (show (bits .and .u8 x 8 != 0) = false from hb)
        have HF' : Hid (rdFrom x 6 0 sz0 Y1 = rdFrom x 2 4 ⟨A, B, T, L, Nn, F⟩ Z) := HF.out.trans (rdFrom_no hb)
        clear HF hb
        go_wp2
        go_roundw
        case rel => exact ⟨4, 2, A, B, T, L, la, ln, lc, Nn, F, Z, by omega, by go_num, HF', hz, hlo, ⟨a2, n2, c2, hR2⟩, hkr⟩
        case measure => simp [intOf]
      | true =>
        have hb' : (bits .and .u8 x 8 == 0) = false := not_zero (show (bits .and .u8 x 8 != 0) = true from hb)
        have cP := part_3 r a2 n2 c2 Z wr w.heap.size _ hR2 hz hrb hLr hr5
        by_cases hE : (rdList Z).2.2 = 0
        · have cP' := cP.mono (fun e w' g => (g.resolve_left (fun g => g.1 hE)).2 : ∀ e w', _ → ∃ g m, wr.heap.size ≤ g ∧ g < w'.heap.size ∧ m ≤ 64 ∧ Ls w' g m (rdList Z).1 ∧ PtG (List.set _ 5 (.slice (some ⟨g, 0, none⟩) m m)) (rdList Z).2.1 r w.heap.size wr e w')
          clear cP
          have hsz := rdList_size Z
          have hzlt := hz.lt
          cases ht : (tbits A B T (rdList Z).1.length Nn F).getD 3 false with
          | true =>
            have HF' : Hid (rdFrom x 6 0 sz0 Y1 = rdFrom x 2 4 ⟨A, B, T, ((rdList Z).1), Nn, F⟩ ((rdList Z).2.1)) := HF.out.trans (rdFrom_go hb hE ht)
            have htz : (bits .and .u8 ((thr A B T (rdList Z).1.length Nn F : Nat) : Int) 8 == 0) = false := by rw [andb3, ht]; rfl
            clear ht hE HF hb
            generalize (rdList Z).2.1 = Z' at cP' HF'
            generalize (rdList Z).1 = S at cP' HF' htz hsz
            go_wp2_with (first
              | (go_at_call 63; refine cP'.mono ?_; rintro e w2 ⟨g, mm, hg1, hg2, hm64, hls, rfl, hz2, hat2, hk2⟩; have hlm := hls.len; subst hlm; have hz2' : Sz8 w2 w.heap.size [.int .i64 (N : Int), .int .u64 I, .string A, .string B, .string T, .slice (some ⟨g, 0, none⟩) S.length S.length, .int .i64 Nn, .float .f64 F] := hz2; obtain ⟨q0, q1, q2, q3, q4, q5, q6, q7⟩ := hz2'.sz; have hkk := hkr.trans hk2; have hL2 := hL1.keepR hr5 (r := r) (fun k e => by omega) hkk)
              | (go_at_call 25; refine (there_any _ I A B T (some ⟨g, 0, none⟩) S.length S.length Nn F _ hL2).mono ?_; rintro e w3 ⟨rfl, hb3⟩))
            have K3 := Keep.ofBelow (S := fun _ => False) hb3
            clear q0 q1 q2 q3 q4 q5 q6 q7
            have hlo2 : LO w2 (w.heap.size + 1) (some ⟨g, 0, none⟩) S.length S.length S := ⟨hsz, .inr ⟨g, rfl, by omega, hg2, rfl, hm64, hls⟩⟩
            go_roundw
            case rel => exact ⟨4, 2, A, B, T, S, _, _, _, Nn, F, Z', by omega, by go_num, HF', hz2'.keep K3 (fun h => h), hlo2.keep K3 (fun _ _ _ h => h), hat2.kp K3 (fun h => h) (fun _ _ h => h), hkk.trans (K3.mono (fun _ h => h.elim))⟩
            case measure => simp [intOf]
          | false =>
            have HF' : Hid (rdFrom x 6 0 sz0 Y1 = (⟨A, B, T, ((rdList Z).1), Nn, F⟩, (rdList Z).2.1, 2)) := HF.out.trans (rdFrom_void hb hE ht)
            have htz : (bits .and .u8 ((thr A B T (rdList Z).1.length Nn F : Nat) : Int) 8 == 0) = true := by rw [andb3, ht]; rfl
            clear ht hE HF hb
            generalize (rdList Z).2.1 = Z' at cP' HF'
            generalize (rdList Z).1 = S at cP' HF' htz hsz
            go_wp2_with (first
              | (go_at_call 63; refine cP'.mono ?_; rintro e w2 ⟨g, mm, hg1, hg2, hm64, hls, rfl, hz2, hat2, hk2⟩; have hlm := hls.len; subst hlm; have hz2' : Sz8 w2 w.heap.size [.int .i64 (N : Int), .int .u64 I, .string A, .string B, .string T, .slice (some ⟨g, 0, none⟩) S.length S.length, .int .i64 Nn, .float .f64 F] := hz2; obtain ⟨q0, q1, q2, q3, q4, q5, q6, q7⟩ := hz2'.sz; have hkk := hkr.trans hk2; have hL2 := hL1.keepR hr5 (r := r) (fun k e => by omega) hkk)
              | (go_at_call 25; refine (there_any _ I A B T (some ⟨g, 0, none⟩) S.length S.length Nn F _ hL2).mono ?_; rintro e w3 ⟨rfl, hb3⟩)
              | (go_at_call 64; refine (giveUp_any _ _).mono ?_; rintro e w4 ⟨rfl, rfl⟩))
            refine ⟨rfl, .inl ?_⟩
            rw [HR.out _ _ _ HF'.out, if_pos (by decide)]
            exact ⟨by simp, rfl, HK.out _ (hkk.trans (Keep.ofBelow hb3))⟩
        · have cP' := cP.mono (fun e w' g => (g.resolve_right (fun g => hE g.1)).2 : ∀ e w', _ → PtB ((rdList Z).2.2) r w.heap.size wr e w')
          clear cP
          have HF' : Hid (rdFrom x 6 0 sz0 Y1 = (⟨A, B, T, ((rdList Z).1), Nn, F⟩, (rdList Z).2.1, (rdList Z).2.2)) := HF.out.trans (rdFrom_err hb hE)
          clear HF hb
          go_wp2_with (go_at_call 63; refine cP'.mono ?_; rintro e w2 ⟨rfl, hk2⟩)
          refine ⟨rfl, .inl ?_⟩
          rw [HR.out _ _ _ HF'.out, if_pos hE]
          exact ⟨hE, rfl, HK.out _ (hkr.trans hk2)⟩
    · obtain rfl : m = 6 - 4 := by omega
      cases hb : hbit x 4 with
      | false =>
        have hb' : (bits .and .u8 x 16 == 0) = true := not_zero (show (bits .and .u8 x 16 != 0) = false from hb)
        have HF' : Hid (rdFrom x 6 0 sz0 Y1 = rdFrom x 1 5 ⟨A, B, T, L, Nn, F⟩ Z) := HF.out.trans (rdFrom_no hb)
        clear HF hb
        go_wp2
        go_roundw
        case rel => exact ⟨5, 1, A, B, T, L, la, ln, lc, Nn, F, Z, by omega, by go_num, HF', hz, hlo, ⟨a2, n2, c2, hR2⟩, hkr⟩
        case measure => simp [intOf]
      | true =>
        have hb' : (bits .and .u8 x 16 == 0) = false := not_zero (show (bits .and .u8 x 16 != 0) = true from hb)
        have cP := part_4 r a2 n2 c2 Z wr w.heap.size _ hR2 hz hrb 
        by_cases hE : (scan Z 0 0).2.2 = 0
        · have cP' := cP.mono (fun e w' g => (g.resolve_left (fun g => g.1 hE)).2 : ∀ e w', _ → PtG _ (Z.drop (scan Z 0 0).2.1) r w.heap.size wr e w')
          clear cP
          cases ht : (tbits A B T ln (unfv (scan Z 0 0).1) F).getD 4 false with
          | true =>
            have ht' : (Sz.bits ⟨A, B, T, L, (unfv (scan Z 0 0).1), F⟩).getD 4 false = true := by show (tbits _ _ _ L.length _ _).getD 4 false = true; rw [hln]; exact ht
            have HF' : Hid (rdFrom x 6 0 sz0 Y1 = rdFrom x 1 5 ⟨A, B, T, L, (unfv (scan Z 0 0).1), F⟩ (Z.drop (scan Z 0 0).2.1)) := HF.out.trans (rdFrom_go hb hE ht')
            have htz : (bits .and .u8 ((thr A B T ln (unfv (scan Z 0 0).1) F : Nat) : Int) 16 == 0) = false := by rw [andb4, ht]; rfl
            clear ht' ht hE HF hb
            generalize Z.drop (scan Z 0 0).2.1 = Z' at cP' HF'
            generalize unfv (scan Z 0 0).1 = S at cP' HF' htz
            go_wp2_with (first
              | (go_at_call 63; refine cP'.mono ?_; rintro e w2 ⟨rfl, hz2, hat2, hk2⟩; have hz2' : Sz8 w2 w.heap.size [.int .i64 (N : Int), .int .u64 I, .string A, .string B, .string T, .slice la ln lc, .int .i64 S, .float .f64 F] := hz2; obtain ⟨q0, q1, q2, q3, q4, q5, q6, q7⟩ := hz2'.sz; have hkk := hkr.trans hk2; have hL2 := hL1.keepR hr5 (r := r) (fun k e => by omega) hkk)
              | (go_at_call 25; refine (there_any _ I A B T la ln lc S F _ hL2).mono ?_; rintro e w3 ⟨rfl, hb3⟩))
            have K3 := Keep.ofBelow (S := fun _ => False) hb3
            clear q0 q1 q2 q3 q4 q5 q6 q7
            go_roundw
            case rel => exact ⟨5, 1, A, B, T, L, la, ln, lc, S, F, Z', by omega, by go_num, HF', hz2'.keep K3 (fun h => h), (hlo.keep hk2 (fun g hg _ => by omega)).keep K3 (fun _ _ _ h => h), hat2.kp K3 (fun h => h) (fun _ _ h => h), hkk.trans (K3.mono (fun _ h => h.elim))⟩
            case measure => simp [intOf]
          | false =>
            have ht' : (Sz.bits ⟨A, B, T, L, (unfv (scan Z 0 0).1), F⟩).getD 4 false = false := by show (tbits _ _ _ L.length _ _).getD 4 false = false; rw [hln]; exact ht
            have HF' : Hid (rdFrom x 6 0 sz0 Y1 = (⟨A, B, T, L, (unfv (scan Z 0 0).1), F⟩, Z.drop (scan Z 0 0).2.1, 2)) := HF.out.trans (rdFrom_void hb hE ht')
            have htz : (bits .and .u8 ((thr A B T ln (unfv (scan Z 0 0).1) F : Nat) : Int) 16 == 0) = true := by rw [andb4, ht]; rfl
            clear ht' ht hE HF hb
            generalize Z.drop (scan Z 0 0).2.1 = Z' at cP' HF'
            generalize unfv (scan Z 0 0).1 = S at cP' HF' htz
            go_wp2_with (first
              | (go_at_call 63; refine cP'.mono ?_; rintro e w2 ⟨rfl, hz2, hat2, hk2⟩; have hz2' : Sz8 w2 w.heap.size [.int .i64 (N : Int), .int .u64 I, .string A, .string B, .string T, .slice la ln lc, .int .i64 S, .float .f64 F] := hz2; obtain ⟨q0, q1, q2, q3, q4, q5, q6, q7⟩ := hz2'.sz; have hkk := hkr.trans hk2; have hL2 := hL1.keepR hr5 (r := r) (fun k e => by omega) hkk)
              | (go_at_call 25; refine (there_any _ I A B T la ln lc S F _ hL2).mono ?_; rintro e w3 ⟨rfl, hb3⟩)
              | (go_at_call 64; refine (giveUp_any _ _).mono ?_; rintro e w4 ⟨rfl, rfl⟩))
            refine ⟨rfl, .inl ?_⟩
            rw [HR.out _ _ _ HF'.out, if_pos (by decide)]
            exact ⟨by simp, rfl, HK.out _ (hkk.trans (Keep.ofBelow hb3))⟩
        · have cP' := cP.mono (fun e w' g => (g.resolve_right (fun g => hE g.1)).2 : ∀ e w', _ → PtB ((scan Z 0 0).2.2) r w.heap.size wr e w')
          clear cP
          have HF' : Hid (rdFrom x 6 0 sz0 Y1 = (⟨A, B, T, L, (unfv (scan Z 0 0).1), F⟩, Z.drop (scan Z 0 0).2.1, (scan Z 0 0).2.2)) := HF.out.trans (rdFrom_err hb hE)
          clear HF hb
          go_wp2_with (go_at_call 63; refine cP'.mono ?_; rintro e w2 ⟨rfl, hk2⟩)
          refine ⟨rfl, .inl ?_⟩
          rw [HR.out _ _ _ HF'.out, if_pos hE]
          exact ⟨hE, rfl, HK.out _ (hkr.trans hk2)⟩
    · obtain rfl : m = 6 - 5 := by omega
      cases hb : hbit x 5 with
      | false =>
        have hb' : (bits .and .u8 x 32 == 0) = true := not_zero (show (bits .and .u8 x 32 != 0) = false from hb)
        have HF' : Hid (rdFrom x 6 0 sz0 Y1 = rdFrom x 0 6 ⟨A, B, T, L, Nn, F⟩ Z) := HF.out.trans (rdFrom_no hb)
        clear HF hb
        go_wp2
        go_roundw
        case rel => exact ⟨6, 0, A, B, T, L, la, ln, lc, Nn, F, Z, by omega, by go_num, HF', hz, hlo, ⟨a2, n2, c2, hR2⟩, hkr⟩
        case measure => simp [intOf]
      | true =>
        have hb' : (bits .and .u8 x 32 == 0) = false := not_zero (show (bits .and .u8 x 32 != 0) = true from hb)
        have cP := part_5 r a2 n2 c2 Z wr w.heap.size _ hR2 hz hrb 
        by_cases hE : fE Z = 0
        · have cP' := cP.mono (fun e w' g => (g.resolve_left (fun g => g.1 hE)).2 : ∀ e w', _ → PtG _ (Z.drop 8) r w.heap.size wr e w')
          clear cP
          cases ht : (tbits A B T ln Nn (fN Z)).getD 5 false with
          | true =>
            have ht' : (Sz.bits ⟨A, B, T, L, Nn, (fN Z)⟩).getD 5 false = true := by show (tbits _ _ _ L.length _ _).getD 5 false = true; rw [hln]; exact ht
            have HF' : Hid (rdFrom x 6 0 sz0 Y1 = rdFrom x 0 6 ⟨A, B, T, L, Nn, (fN Z)⟩ (Z.drop 8)) := HF.out.trans (rdFrom_go hb hE ht')
            have htz : (bits .and .u8 ((thr A B T ln Nn (fN Z) : Nat) : Int) 32 == 0) = false := by rw [andb5, ht]; rfl
            clear ht' ht hE HF hb
            generalize Z.drop 8 = Z' at cP' HF'
            generalize fN Z = S at cP' HF' htz
            go_wp2_with (first
              | (go_at_call 63; refine cP'.mono ?_; rintro e w2 ⟨rfl, hz2, hat2, hk2⟩; have hz2' : Sz8 w2 w.heap.size [.int .i64 (N : Int), .int .u64 I, .string A, .string B, .string T, .slice la ln lc, .int .i64 Nn, .float .f64 S] := hz2; obtain ⟨q0, q1, q2, q3, q4, q5, q6, q7⟩ := hz2'.sz; have hkk := hkr.trans hk2; have hL2 := hL1.keepR hr5 (r := r) (fun k e => by omega) hkk)
              | (go_at_call 25; refine (there_any _ I A B T la ln lc Nn S _ hL2).mono ?_; rintro e w3 ⟨rfl, hb3⟩))
            have K3 := Keep.ofBelow (S := fun _ => False) hb3
            clear q0 q1 q2 q3 q4 q5 q6 q7
            go_roundw
            case rel => exact ⟨6, 0, A, B, T, L, la, ln, lc, Nn, S, Z', by omega, by go_num, HF', hz2'.keep K3 (fun h => h), (hlo.keep hk2 (fun g hg _ => by omega)).keep K3 (fun _ _ _ h => h), hat2.kp K3 (fun h => h) (fun _ _ h => h), hkk.trans (K3.mono (fun _ h => h.elim))⟩
            case measure => simp [intOf]
          | false =>
            have ht' : (Sz.bits ⟨A, B, T, L, Nn, (fN Z)⟩).getD 5 false = false := by show (tbits _ _ _ L.length _ _).getD 5 false = false; rw [hln]; exact ht
            have HF' : Hid (rdFrom x 6 0 sz0 Y1 = (⟨A, B, T, L, Nn, (fN Z)⟩, Z.drop 8, 2)) := HF.out.trans (rdFrom_void hb hE ht')
            have htz : (bits .and .u8 ((thr A B T ln Nn (fN Z) : Nat) : Int) 32 == 0) = true := by rw [andb5, ht]; rfl
            clear ht' ht hE HF hb
            generalize Z.drop 8 = Z' at cP' HF'
            generalize fN Z = S at cP' HF' htz
            go_wp2_with (first
              | (go_at_call 63; refine cP'.mono ?_; rintro e w2 ⟨rfl, hz2, hat2, hk2⟩; have hz2' : Sz8 w2 w.heap.size [.int .i64 (N : Int), .int .u64 I, .string A, .string B, .string T, .slice la ln lc, .int .i64 Nn, .float .f64 S] := hz2; obtain ⟨q0, q1, q2, q3, q4, q5, q6, q7⟩ := hz2'.sz; have hkk := hkr.trans hk2; have hL2 := hL1.keepR hr5 (r := r) (fun k e => by omega) hkk)
              | (go_at_call 25; refine (there_any _ I A B T la ln lc Nn S _ hL2).mono ?_; rintro e w3 ⟨rfl, hb3⟩)
              | (go_at_call 64; refine (giveUp_any _ _).mono ?_; rintro e w4 ⟨rfl, rfl⟩))
            refine ⟨rfl, .inl ?_⟩
            rw [HR.out _ _ _ HF'.out, if_pos (by decide)]
            exact ⟨by simp, rfl, HK.out _ (hkk.trans (Keep.ofBelow hb3))⟩
        · have cP' := cP.mono (fun e w' g => (g.resolve_right (fun g => hE g.1)).2 : ∀ e w', _ → PtB (fE Z) r w.heap.size wr e w')
          clear cP
          have HF' : Hid (rdFrom x 6 0 sz0 Y1 = (⟨A, B, T, L, Nn, (fN Z)⟩, Z.drop 8, fE Z)) := HF.out.trans (rdFrom_err hb hE)
          clear HF hb
          go_wp2_with (go_at_call 63; refine cP'.mono ?_; rintro e w2 ⟨rfl, hk2⟩)
          refine ⟨rfl, .inl ?_⟩
          rw [HR.out _ _ _ HF'.out, if_pos hE]
          exact ⟨hE, rfl, HK.out _ (hkr.trans hk2)⟩
    · obtain rfl : m = 0 := by omega
      have HF' : Hid (rdFrom x 6 0 sz0 Y1 = (⟨A, B, T, L, Nn, F⟩, Z, 0)) := HF.out
      clear HF
      have hnl := hR2.rd.len
      have hc2 := hR2.cell
      by_cases hn0 : n2 = 0
      · subst hn0
        have HR' : Hid (rdSt X = (N, I, ⟨A, B, T, L, Nn, F⟩, 0)) := by rw [HR.out _ _ _ HF'.out, if_neg (by simp), if_neg (by omega)]; rfl
        obtain ⟨q0, q1, q2, q3, q4, q5, q6, q7⟩ := hz.sz
        have t0 := hz.thaw 0; have t1 := hz.thaw 1; have t2 := hz.thaw 2; have t3 := hz.thaw 3; have t4 := hz.thaw 4; have t5 := hz.thaw 5; have t6 := hz.thaw 6; have t7 := hz.thaw 7
        go_wp2
        obtain ⟨hz8, hk8⟩ := store8 (K := (N : Int)) (I := I) (A := A) (B := B) (T := T) (la := la) (ln := ln) (lc := lc) (N := Nn) (F := F) hz
        generalize World.setCell _ _ (.float .f64 F) = w8 at hz8 hk8 ⊢
        clear q0 q1 q2 q3 q4 q5 q6 q7 t0 t1 t2 t3 t4 t5 t6 t7
        obtain ⟨q0, q1, q2, q3, q4, q5, q6, q7⟩ := hz8.sz
        refine bodyPost_ret (v := .agg #[.int .i64 (N : Int), .int .u64 I, .string A, .string B, .string T, .slice la ln lc, .int .i64 Nn, .float .f64 F]) (by simp [results, Tryd.results38, go_sem, q0, q1, q2, q3, q4, q5, q6, q7]) rfl (.inr ?_)
        rw [HR'.out]
        exact ⟨rfl, la, ln, lc, rfl, hlo.keep hk8 (fun g hg _ => by omega), HK.out _ (hkr.trans (hk8.mono (fun j e => Or.inr e)))⟩
      · have HR' : Hid (rdSt X = (0, 0, sz0, 2)) := by rw [HR.out _ _ _ HF'.out, if_neg (by simp), if_pos (by omega)]; rfl
        have hnp : (0 : Int) < (n2 : Int) := by omega
        go_wp2_with (go_at_call 64; refine (giveUp_any _ _).mono ?_; rintro e w4 ⟨rfl, rfl⟩)
        refine ⟨rfl, .inl ?_⟩
        rw [HR'.out]
        exact ⟨by simp, rfl, HK.out _ hkr⟩

end Go.Proofs.YtomkcmkbehcjnaaDoor
